/- ValidStars, the program's. -/
import Derived.Test.YtlbphdbcjhggjaaDoorS4
import Derived.Test.YtlbphdbcjhggjaaDoorQR
import Derived.Deep.RegionHeld3
import Derived.WalkLawsBesides
namespace Go.Proofs.YtlbphdbcjhggjaaDoor
open Go.ChangeShapes Go.WideShapes Go.ChangeAt Go.RowKit Go.Deep

def okAt (xs : List St) (k : Nat) : Bool := starB (xs[k]?.getD st0) && (decide (k = 0) || Op.bytesLess (xs[k - 1]?.getD st0).1.toList (xs[k]?.getD st0).1.toList)
def okS (xs : List St) : Bool := decide (xs.length ≤ 60) && (List.range xs.length).all (okAt xs)
theorem okS_long {xs : List St} {n : Nat} (hn : xs.length = n) (h : ¬ n ≤ 60) : okS xs = false := by simp [okS, hn, h]
theorem okS_bad {xs : List St} {n k : Nat} (hn : xs.length = n) (hk : k < n) (h : okAt xs k = false) : okS xs = false := by
  rw [okS, not_all_range (k := k) (by omega) h]; simp
theorem okS_yes {xs : List St} {n : Nat} (hn : xs.length = n) (h1 : n ≤ 60) (h : ∀ k, k < n → okAt xs k = true) : okS xs = true := by
  rw [okS, all_range (fun k hk => h k (by omega))]; simp; omega
theorem okAt_no {xs : List St} {k : Nat} {x : St} (hx : xs[k]?.getD st0 = x) (h : starB x = false) : okAt xs k = false := by simp [okAt, hx, h]
theorem okAt_zero {xs : List St} {k : Nat} {x : St} (hx : xs[k]?.getD st0 = x) (h : starB x = true) (hk : k = 0) : okAt xs k = true := by subst hk; simp [okAt, hx, h]
theorem okAt_succ {xs : List St} {k : Nat} {x y : St} {b : Bool} (hx : xs[k + 1]?.getD st0 = x) (hy : xs[k]?.getD st0 = y) (h : starB x = true) (hb : (!Op.bytesLess y.1.toList x.1.toList) = !b) : okAt xs (k + 1) = b := by
  simp only [okAt, hx, h, Nat.add_sub_cancel, hy]
  cases hh : Op.bytesLess y.1.toList x.1.toList <;> rw [hh] at hb <;> cases b <;> simp_all
theorem ok_next {xs : List St} {k : Nat} (h : ∀ j, j < k → okAt xs j = true) (hk : okAt xs k = true) : ∀ j, j < k + 1 → okAt xs j = true := fun j hj => by
  by_cases e : j = k
  · subst e; exact hk
  · exact h j (by omega)
set_option maxRecDepth 100000 in
set_option maxHeartbeats 2000000 in
theorem iValidStars_any (a : Option Addr) (n c : Nat) (xs : List St) (w : World) (h : StL w a n xs) (hn : n ≤ 1048576) :
    Calls Tryd.prog 10 #[.slice a n c] w fun e w' => e = .returned (.bool (okS xs)) ∧ Below w.heap.size w w' := by
  have hl : (n : Int) ≤ 1048576 := by omega
  have HL := Lib.hid h.1
  by_cases h60 : n ≤ 60
  · have hd : decide ((60 : Int) < (n : Int)) = false := by simp; omega
    go_enter Tryd.func10, Tryd.ntmps10
    go_wp2
    go_loopw [10] (fun i wr => ∃ k : Nat, k ≤ n ∧ i = .int .i64 k ∧ (∀ j, j < k → okAt xs j = true) ∧ Below w.heap.size w wr) (fun i _ => n - (intOf i).toNat)
    case atStart => exact ⟨0, Nat.zero_le _, rfl, fun j hj => absurd hj (by omega), Below.refl _ _⟩
    case round =>
      obtain ⟨k, hk, rfl, hall, hB⟩ := hrel
      have HALL := Lib.hid hall
      clear hall
      by_cases hlt : k < n
      · obtain ⟨b1, o1, rfl, hc⟩ := h.2 k hlt
        obtain ⟨⟨nm, x1, x2, x3, x4⟩, hx⟩ : ∃ x, xs[k]?.getD st0 = x := ⟨_, rfl⟩
        rw [hx] at hc
        obtain ⟨p, p0, p1, p2, p3, p4⟩ := (hc.mono hB).parts
        have HX := Lib.hid hx
        clear hx
        have hsz := hB.size
        have hkk : (k : Int) < (n : Int) := by omega
        cases hv : starB (nm, x1, x2, x3, x4)
        · have HD := Lib.hid (okS_bad HL.out hlt (okAt_no HX.out hv))
          go_wp2
          (refine wp_region_any (by kernel_rfl) ?_; change wpAny _ _ _ _ _ _ _ (World.drew _); refine wpAny_ready (rs := [0]) (by kernel_rfl) (by simp) ?_; refine AllReady.cons rfl (fun K hK => ?_) AllReady.nil; go_simp; refine hK _ _ ?_; clear hK K; refine wpAny_ready (rs := [1]) (by kernel_rfl) (by simp) ?_; refine AllReady.cons rfl (fun K hK => ?_) AllReady.nil)
          go_wp2_with fail
          refine (valid_any _ _ _ _ _ _).mono ?_
          rintro e w2 ⟨rfl, b2⟩
          rw [hv]
          have hB2 : Below w.heap.size w w2 := belowCall (by (repeat (first | assumption | exact Below.refl _ _ | refine belowDN ?_ _ | refine Below.drew ?_ | refine Below.setCell ?_ (by first | omega | (simp <;> omega)) _ | refine Below.alloc ?_ (by first | omega | (simp <;> omega)) _ | refine belowCall ?_ (by assumption)))) b2
          go_wp2_with fail
          (refine wpAny_rest2 rfl (by kernel_rfl) (by kernel_rfl) ?_; (repeat (go_big_quiet_step (fail))); refine wpQuiet_nil ?_; intro _ hw'; obtain ⟨nq, hw''⟩ := hw'; subst hw'')
          go_wp2
          go_ret
          exact ⟨by rw [HD.out]; rfl, belowDN hB2 _⟩
        · by_cases hk0 : 0 < k
          · obtain ⟨k', rfl⟩ : ∃ k', k = k' + 1 := ⟨k - 1, by omega⟩
            obtain ⟨b1', o1', he, hc'⟩ := h.2 k' (by omega)
            cases he
            obtain ⟨⟨nm', y1, y2, y3, y4⟩, hx'⟩ : ∃ x, xs[k']?.getD st0 = x := ⟨_, rfl⟩
            rw [hx'] at hc'
            have q0 := (hc'.mono hB).parts.2.1
            have hbs := (hc'.mono hB).1
            have HX' := Lib.hid hx'
            clear hx'
            go_wp2
            (refine wp_region_any (by kernel_rfl) ?_; change wpAny _ _ _ _ _ _ _ (World.drew _); refine wpAny_ready (rs := [0]) (by kernel_rfl) (by simp) ?_; refine AllReady.cons rfl (fun K hK => ?_) AllReady.nil; go_simp; refine hK _ _ ?_; clear hK K; refine wpAny_ready (rs := [1]) (by kernel_rfl) (by simp) ?_; refine AllReady.cons rfl (fun K hK => ?_) AllReady.nil)
            go_wp2_with fail
            refine (valid_any _ _ _ _ _ _).mono ?_
            rintro e w2 ⟨rfl, b2⟩
            rw [hv]
            have r0 : w2.cell? ⟨b1, o1 + k' * 5, none⟩ = some (.string nm') := by rw [b2.cell (p := ⟨b1, o1 + k' * 5, none⟩) (by simp; omega)]; go_keep
            have r1 : w2.cell? ⟨wr.heap.size, 0, none⟩ = some (.string nm) := by rw [b2.cell (p := ⟨wr.heap.size, 0, none⟩) (by simp)]; go_keep
            have hB2 : Below w.heap.size w w2 := belowCall (by (repeat (first | assumption | exact Below.refl _ _ | refine belowDN ?_ _ | refine Below.drew ?_ | refine Below.setCell ?_ (by first | omega | (simp <;> omega)) _ | refine Below.alloc ?_ (by first | omega | (simp <;> omega)) _ | refine belowCall ?_ (by assumption)))) b2
            cases hless : (!Op.bytesLess nm'.toList nm.toList)
            · have HK := Lib.hid (okAt_succ (b := true) HX.out HX'.out hv hless)
              go_wp2_with fail
              (refine wpAny_rest2 rfl (by kernel_rfl) (by kernel_rfl) ?_; (repeat (go_big_quiet_step (fail))); refine wpQuiet_nil ?_; intro _ hw'; obtain ⟨nq, hw''⟩ := hw'; subst hw'')
              go_wp2
              go_roundw
              case rel => exact ⟨k' + 1 + 1, by omega, by go_num, ok_next HALL.out HK.out, belowDN hB2 _⟩
              case measure => simp [intOf]; omega
            · have HD := Lib.hid (okS_bad HL.out hlt (okAt_succ (b := false) HX.out HX'.out hv hless))
              go_wp2_with fail
              (refine wpAny_rest2 rfl (by kernel_rfl) (by kernel_rfl) ?_; (repeat (go_big_quiet_step (fail))); refine wpQuiet_nil ?_; intro _ hw'; obtain ⟨nq, hw''⟩ := hw'; subst hw'')
              go_wp2
              go_ret
              exact ⟨by rw [HD.out]; rfl, belowDN hB2 _⟩
          · obtain rfl : k = 0 := by omega
            have HK := Lib.hid (okAt_zero HX.out hv rfl)
            simp only [Nat.zero_mul, Nat.add_zero] at p0 p1 p2 p3 p4
            go_wp2
            (refine wp_region_any (by kernel_rfl) ?_; change wpAny _ _ _ _ _ _ _ (World.drew _); refine wpAny_ready (rs := [0]) (by kernel_rfl) (by simp) ?_; refine AllReady.cons rfl (fun K hK => ?_) AllReady.nil; go_simp; refine hK _ _ ?_; clear hK K; refine wpAny_ready (rs := [1]) (by kernel_rfl) (by simp) ?_; refine AllReady.cons rfl (fun K hK => ?_) AllReady.nil)
            go_wp2_with fail
            refine (valid_any _ _ _ _ _ _).mono ?_
            rintro e w2 ⟨rfl, b2⟩
            rw [hv]
            have hB2 : Below w.heap.size w w2 := belowCall (by (repeat (first | assumption | exact Below.refl _ _ | refine belowDN ?_ _ | refine Below.drew ?_ | refine Below.setCell ?_ (by first | omega | (simp <;> omega)) _ | refine Below.alloc ?_ (by first | omega | (simp <;> omega)) _ | refine belowCall ?_ (by assumption)))) b2
            go_wp2_with fail
            (refine wpAny_rest2 rfl (by kernel_rfl) (by kernel_rfl) ?_; (repeat (go_big_quiet_step (fail))); refine wpQuiet_nil ?_; intro _ hw'; obtain ⟨nq, hw''⟩ := hw'; subst hw'')
            go_wp2
            go_roundw
            case rel => exact ⟨0 + 1, by omega, by go_num, ok_next HALL.out HK.out, belowDN hB2 _⟩
            case measure => simp [intOf]; omega
      · obtain rfl : k = n := by omega
        have HD := Lib.hid (okS_yes HL.out h60 HALL.out)
        go_wp2
        go_ret
        exact ⟨by rw [HD.out]; rfl, hB⟩
  · have hd : decide ((60 : Int) < (n : Int)) = true := by simp; omega
    have HD := Lib.hid (okS_long HL.out h60)
    go_enter Tryd.func10, Tryd.ntmps10
    go_wp2
    go_ret
    exact ⟨by rw [HD.out]; rfl, by (repeat (first | assumption | exact Below.refl _ _ | refine belowDN ?_ _ | refine Below.drew ?_ | refine Below.setCell ?_ (by first | omega | (simp <;> omega)) _ | refine Below.alloc ?_ (by first | omega | (simp <;> omega)) _ | refine belowCall ?_ (by assumption)))⟩
end Go.Proofs.YtlbphdbcjhggjaaDoor
