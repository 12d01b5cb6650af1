/- ValidMinima, the program's: areOrdered at minima. -/
import Derived.Test.YtbjflgohahmjgaaDoorPA
namespace Go.Proofs.YtbjflgohahmjgaaDoor
open Go.ChangeShapes Go.WideShapes Go.ChangeAt Go.RowKit Go.Deep

theorem wpAny_rest3M {P : Program} {md : Region.Mode} {o0 o1 o2 : Oper} {l : List Oper} {Q' : Exit → Act → World → Prop} {fuel : Nat} {listed : Array Bool} {a : Act} {w : World}
    (hf : fuel = l.length) (hs : Region.noSelect (o0 :: o1 :: o2 :: l).toArray = true) (hB : Region.lexFrom md (o0 :: o1 :: o2 :: l).toArray l.length 3 listed = true)
    (h : wpQuiet P (o0 :: o1 :: o2 :: l).toArray (fun w' => ∃ n, w' = w.drewN n) (fun a' => ∀ w', (∃ n, w' = w.drewN n) → Q' .normal a' w') l a) :
    wpAny P md (o0 :: o1 :: o2 :: l).toArray Q' fuel listed a w := by
  subst hf
  refine wpAny_of_quiet (C := fun w' => ∃ n, w' = w.drewN n) (Q := fun a' => ∀ w', (∃ n, w' = w.drewN n) → Q' .normal a' w') (fun _ w' hw' h => h w' hw') _ _ _ _ ⟨0, rfl⟩ ?_
  refine wpAnyQ_lex hs l 3 listed a (fun j => ?_) hB h
  simp [Nat.add_comm 3 j]
set_option maxRecDepth 100000 in
set_option maxHeartbeats 4000000 in
theorem areM_any (a : Option Addr) (n c : Nat) (xs : List Mi) (w : World) (h : MiL w a n xs) (hn : n ≤ 1048576) :
    Calls Tryd.prog 54 #[.slice a n c, .int .i64 50, .func (.func 55) #[] #[]] w fun e w' => e = .returned (.bool (okM xs)) ∧ Below w.heap.size w w' := by
  have hl : (n : Int) ≤ 1048576 := by omega
  have HL := Lib.hid h.1
  by_cases h50 : n ≤ 50
  · have hd : decide ((50 : Int) < (n : Int)) = false := by simp; omega
    go_enter Tryd.func54, Tryd.ntmps54
    go_wp2
    go_loopw [15] (fun i wr => ∃ k : Nat, k ≤ n ∧ i = .int .i64 k ∧ (∀ j, j < k → okAtM xs j = true) ∧ Below w.heap.size w wr) (fun i _ => n - (Go.RowKit.intOf i).toNat)
    case atStart => exact ⟨0, Nat.zero_le _, rfl, fun j hj => absurd hj (by omega), Below.refl _ _⟩
    case round =>
      obtain ⟨k, hk, rfl, hall, hB⟩ := hrel
      have HALL := Lib.hid hall
      clear hall
      by_cases hlt : k < n
      · obtain ⟨b1, o1, rfl, hc⟩ := h.2 k hlt
        obtain ⟨⟨x0, x1⟩, hx⟩ : ∃ x, xs[k]?.getD mi0 = x := ⟨_, rfl⟩
        rw [hx] at hc
        obtain ⟨p, p0, p1⟩ := (hc.mono hB).parts
        have HX := Lib.hid hx
        clear hx
        have hsz := hB.size
        have hkk : (k : Int) < (n : Int) := by omega
        cases hv : miB (x0, x1)
        · have HD := Lib.hid (okM_bad HL.out hlt (okAtM_no HX.out hv))
          go_wp2_with fail
          (refine wp_region_any (by kernel_rfl) ?_; change wpAny _ _ _ _ _ _ _ (World.drew _); refine wpAny_ready (rs := [0]) (by kernel_rfl) (by simp) ?_; refine AllReady.cons rfl (fun K hK => ?_) AllReady.nil; go_simp; refine hK _ _ ?_; clear hK K; refine wpAny_ready (rs := [1]) (by kernel_rfl) (by simp) ?_; refine AllReady.cons rfl (fun K hK => ?_) AllReady.nil; go_simp; refine hK _ _ ?_; clear hK K; refine wpAny_ready (rs := [2]) (by kernel_rfl) (by simp) ?_; refine AllReady.cons rfl (fun K hK => ?_) AllReady.nil)
          go_wp2_with fail
          refine (miValid_any _ _ _).mono ?_
          rintro e w2 ⟨rfl, b2⟩
          rw [hv]
          have hB2 : Below w.heap.size w w2 := belowCall (by (repeat (first | assumption | exact Below.refl _ _ | refine belowDN ?_ _ | refine Below.drew ?_ | refine Below.setCell ?_ (by first | omega | (simp <;> omega)) _ | refine Below.alloc ?_ (by first | omega | (simp <;> omega)) _ | refine belowCall ?_ (by assumption)))) b2
          go_wp2_with fail
          (refine wpAny_rest3M rfl (by kernel_rfl) (by kernel_rfl) ?_; (repeat (go_big_quiet_step (fail))); refine wpQuiet_nil ?_; intro _ hw'; obtain ⟨nq, hw''⟩ := hw'; subst hw'')
          go_wp2
          go_ret
          exact ⟨by rw [HD.out]; rfl, belowDN hB2 _⟩
        · by_cases hk0 : 0 < k
          · obtain ⟨k', rfl⟩ : ∃ k', k = k' + 1 := ⟨k - 1, by omega⟩
            obtain ⟨b1', o1', he, hc'⟩ := h.2 k' (by omega)
            cases he
            obtain ⟨⟨y0, y1⟩, hx'⟩ : ∃ x, xs[k']?.getD mi0 = x := ⟨_, rfl⟩
            rw [hx'] at hc'
            obtain ⟨hbs, q0, q1⟩ := (hc'.mono hB).parts
            have HX' := Lib.hid hx'
            clear hx' hc hc'
            obtain ⟨r, hr⟩ : ∃ r, sgM (y0, y1) (x0, x1) = r := ⟨_, rfl⟩
            have hlr := sgM_neg (x := (y0, y1)) (y := (x0, x1))
            rw [hr] at hlr
            have HLR := Lib.hid hlr
            have HR := Lib.hid hr
            clear hr hlr
            have r0 : (wr.alloc (.cells #[.int .i64 x0, .int .i64 x1] 34)).cell? ⟨b1, o1 + k' * 2, none⟩ = some (.int .i64 y0) := by go_keep
            have r1 : (wr.alloc (.cells #[.int .i64 x0, .int .i64 x1] 34)).cell? ⟨b1, o1 + k' * 2 + 1, none⟩ = some (.int .i64 y1) := by go_keep
            have t0 : (wr.alloc (.cells #[.int .i64 x0, .int .i64 x1] 34)).cell? ⟨wr.heap.size, 0, none⟩ = some (.int .i64 x0) := by go_keep
            have t1 : (wr.alloc (.cells #[.int .i64 x0, .int .i64 x1] 34)).cell? ⟨wr.heap.size, 1, none⟩ = some (.int .i64 x1) := by go_keep
            have hz : (wr.alloc (.cells #[.int .i64 x0, .int .i64 x1] 34)).heap.size = wr.heap.size + 1 := by simp
            have hA : Below w.heap.size w (wr.alloc (.cells #[.int .i64 x0, .int .i64 x1] 34)) := by (repeat (first | assumption | exact Below.refl _ _ | refine belowDN ?_ _ | refine Below.drew ?_ | refine Below.setCell ?_ (by first | omega | (simp <;> omega)) _ | refine Below.alloc ?_ (by first | omega | (simp <;> omega)) _ | refine belowCall ?_ (by assumption)))
            clear q0 q1
            by_cases hneg : r < 0
            · have hless := HLR.out.1 hneg
              have HK := Lib.hid (okAtM_succ (b := true) HX.out HX'.out hv hless)
              have hge : ¬ (0 : Int) ≤ r := by omega
              have hgd : decide ((0 : Int) ≤ r) = false := by simpa using hneg
              clear hless
              go_wp2_with fail
              generalize wr.alloc (.cells #[.int .i64 x0, .int .i64 x1] 34) = w1 at r0 r1 t0 t1 hz hA ⊢
              have hb1 : b1 < w1.heap.size := by omega
              have hi0 : (0 : Int) ≤ (k' : Int) := by omega
              have hi1 : (k' : Int) < (n : Int) := by omega
              have hw2 : IntKind.i64.wrap (k' : Int) = (k' : Int) := IntWalk.i64_in _ (by omega)
              have hw1 : IntKind.i64.wrap ((k' : Int) + 1 - 1) = (k' : Int) := by rw [IntWalk.i64_in _ (by omega)]; omega
              have hb2 : wr.heap.size < w1.heap.size := by omega
              go_region_held3 (fun W' => W'.cell? ⟨b1, o1 + k' * 2, none⟩ = some (.int .i64 y0) ∧ W'.cell? ⟨b1, o1 + k' * 2 + 1, none⟩ = some (.int .i64 y1) ∧ W'.cell? ⟨wr.heap.size, 0, none⟩ = some (.int .i64 x0) ∧ W'.cell? ⟨wr.heap.size, 1, none⟩ = some (.int .i64 x1)) (refine ⟨?_, ?_, ?_, ?_⟩ <;> first | assumption | exact ((show Below w1.heap.size w1 _ by (repeat (first | assumption | exact Below.refl _ _ | refine belowDN ?_ _ | refine Below.drew ?_ | refine Below.setCell ?_ (by first | omega | (simp <;> omega)) _ | refine Below.alloc ?_ (by first | omega | (simp <;> omega)) _ | refine belowCall ?_ (by assumption)))).cell (p := ⟨b1, o1 + k' * 2, none⟩) hb1).trans r0 | exact ((show Below w1.heap.size w1 _ by (repeat (first | assumption | exact Below.refl _ _ | refine belowDN ?_ _ | refine Below.drew ?_ | refine Below.setCell ?_ (by first | omega | (simp <;> omega)) _ | refine Below.alloc ?_ (by first | omega | (simp <;> omega)) _ | refine belowCall ?_ (by assumption)))).cell (p := ⟨b1, o1 + k' * 2 + 1, none⟩) hb1).trans r1 | exact ((show Below w1.heap.size w1 _ by (repeat (first | assumption | exact Below.refl _ _ | refine belowDN ?_ _ | refine Below.drew ?_ | refine Below.setCell ?_ (by first | omega | (simp <;> omega)) _ | refine Below.alloc ?_ (by first | omega | (simp <;> omega)) _ | refine belowCall ?_ (by assumption)))).cell (p := ⟨wr.heap.size, 0, none⟩) hb2).trans t0 | exact ((show Below w1.heap.size w1 _ by (repeat (first | assumption | exact Below.refl _ _ | refine belowDN ?_ _ | refine Below.drew ?_ | refine Below.setCell ?_ (by first | omega | (simp <;> omega)) _ | refine Below.alloc ?_ (by first | omega | (simp <;> omega)) _ | refine belowCall ?_ (by assumption)))).cell (p := ⟨wr.heap.size, 1, none⟩) hb2).trans t1) (first | (go_at_call 120; refine (miValid_any _ _ _).mono ?_; rintro e w' ⟨rfl, hbel⟩; rw [hv]) | (go_at_call 55; refine (miCmp_val _ _ _ _ r _ HR.out).mono ?_; rintro e w' ⟨rfl, hbel2⟩))
              all_goals
                go_wp2
                go_roundw
                case rel => exact ⟨k' + 1 + 1, by omega, by go_num, okM_next HALL.out HK.out, belowCall hA (by (repeat (first | assumption | exact Below.refl _ _ | refine belowDN ?_ _ | refine Below.drew ?_ | refine Below.setCell ?_ (by first | omega | (simp <;> omega)) _ | refine Below.alloc ?_ (by first | omega | (simp <;> omega)) _ | refine belowCall ?_ (by assumption))))⟩
                case measure => simp [Go.RowKit.intOf]; omega
            · have hless : miLt (y0, y1) (x0, x1) = false := by
                cases hq : miLt (y0, y1) (x0, x1)
                · rfl
                · exact absurd (HLR.out.2 hq) hneg
              have HD := Lib.hid (okM_bad HL.out hlt (okAtM_succ (b := false) HX.out HX'.out hv hless))
              have hge : (0 : Int) ≤ r := by omega
              have hgd : decide ((0 : Int) ≤ r) = true := by simpa using hneg
              clear hless
              go_wp2_with fail
              generalize wr.alloc (.cells #[.int .i64 x0, .int .i64 x1] 34) = w1 at r0 r1 t0 t1 hz hA ⊢
              have hb1 : b1 < w1.heap.size := by omega
              have hi0 : (0 : Int) ≤ (k' : Int) := by omega
              have hi1 : (k' : Int) < (n : Int) := by omega
              have hw2 : IntKind.i64.wrap (k' : Int) = (k' : Int) := IntWalk.i64_in _ (by omega)
              have hw1 : IntKind.i64.wrap ((k' : Int) + 1 - 1) = (k' : Int) := by rw [IntWalk.i64_in _ (by omega)]; omega
              have hb2 : wr.heap.size < w1.heap.size := by omega
              go_region_held3 (fun W' => W'.cell? ⟨b1, o1 + k' * 2, none⟩ = some (.int .i64 y0) ∧ W'.cell? ⟨b1, o1 + k' * 2 + 1, none⟩ = some (.int .i64 y1) ∧ W'.cell? ⟨wr.heap.size, 0, none⟩ = some (.int .i64 x0) ∧ W'.cell? ⟨wr.heap.size, 1, none⟩ = some (.int .i64 x1)) (refine ⟨?_, ?_, ?_, ?_⟩ <;> first | assumption | exact ((show Below w1.heap.size w1 _ by (repeat (first | assumption | exact Below.refl _ _ | refine belowDN ?_ _ | refine Below.drew ?_ | refine Below.setCell ?_ (by first | omega | (simp <;> omega)) _ | refine Below.alloc ?_ (by first | omega | (simp <;> omega)) _ | refine belowCall ?_ (by assumption)))).cell (p := ⟨b1, o1 + k' * 2, none⟩) hb1).trans r0 | exact ((show Below w1.heap.size w1 _ by (repeat (first | assumption | exact Below.refl _ _ | refine belowDN ?_ _ | refine Below.drew ?_ | refine Below.setCell ?_ (by first | omega | (simp <;> omega)) _ | refine Below.alloc ?_ (by first | omega | (simp <;> omega)) _ | refine belowCall ?_ (by assumption)))).cell (p := ⟨b1, o1 + k' * 2 + 1, none⟩) hb1).trans r1 | exact ((show Below w1.heap.size w1 _ by (repeat (first | assumption | exact Below.refl _ _ | refine belowDN ?_ _ | refine Below.drew ?_ | refine Below.setCell ?_ (by first | omega | (simp <;> omega)) _ | refine Below.alloc ?_ (by first | omega | (simp <;> omega)) _ | refine belowCall ?_ (by assumption)))).cell (p := ⟨wr.heap.size, 0, none⟩) hb2).trans t0 | exact ((show Below w1.heap.size w1 _ by (repeat (first | assumption | exact Below.refl _ _ | refine belowDN ?_ _ | refine Below.drew ?_ | refine Below.setCell ?_ (by first | omega | (simp <;> omega)) _ | refine Below.alloc ?_ (by first | omega | (simp <;> omega)) _ | refine belowCall ?_ (by assumption)))).cell (p := ⟨wr.heap.size, 1, none⟩) hb2).trans t1) (first | (go_at_call 120; refine (miValid_any _ _ _).mono ?_; rintro e w' ⟨rfl, hbel⟩; rw [hv]) | (go_at_call 55; refine (miCmp_val _ _ _ _ r _ HR.out).mono ?_; rintro e w' ⟨rfl, hbel2⟩))
              all_goals
                go_wp2
                go_ret
                exact ⟨by rw [HD.out]; rfl, belowCall hA (by (repeat (first | assumption | exact Below.refl _ _ | refine belowDN ?_ _ | refine Below.drew ?_ | refine Below.setCell ?_ (by first | omega | (simp <;> omega)) _ | refine Below.alloc ?_ (by first | omega | (simp <;> omega)) _ | refine belowCall ?_ (by assumption))))⟩
          · obtain rfl : k = 0 := by omega
            have HK := Lib.hid (okAtM_zero HX.out hv rfl)
            simp only [Nat.zero_mul, Nat.add_zero] at p0 p1
            go_wp2_with fail
            (refine wp_region_any (by kernel_rfl) ?_; change wpAny _ _ _ _ _ _ _ (World.drew _); refine wpAny_ready (rs := [0]) (by kernel_rfl) (by simp) ?_; refine AllReady.cons rfl (fun K hK => ?_) AllReady.nil; go_simp; refine hK _ _ ?_; clear hK K; refine wpAny_ready (rs := [1]) (by kernel_rfl) (by simp) ?_; refine AllReady.cons rfl (fun K hK => ?_) AllReady.nil; go_simp; refine hK _ _ ?_; clear hK K; refine wpAny_ready (rs := [2]) (by kernel_rfl) (by simp) ?_; refine AllReady.cons rfl (fun K hK => ?_) AllReady.nil)
            go_wp2_with fail
            refine (miValid_any _ _ _).mono ?_
            rintro e w2 ⟨rfl, b2⟩
            rw [hv]
            have hB2 : Below w.heap.size w w2 := belowCall (by (repeat (first | assumption | exact Below.refl _ _ | refine belowDN ?_ _ | refine Below.drew ?_ | refine Below.setCell ?_ (by first | omega | (simp <;> omega)) _ | refine Below.alloc ?_ (by first | omega | (simp <;> omega)) _ | refine belowCall ?_ (by assumption)))) b2
            go_wp2_with fail
            (refine wpAny_rest3M rfl (by kernel_rfl) (by kernel_rfl) ?_; (repeat (go_big_quiet_step (fail))); refine wpQuiet_nil ?_; intro _ hw'; obtain ⟨nq, hw''⟩ := hw'; subst hw'')
            go_wp2
            go_roundw
            case rel => exact ⟨0 + 1, by omega, by go_num, okM_next HALL.out HK.out, belowDN hB2 _⟩
            case measure => simp [Go.RowKit.intOf]; omega
      · obtain rfl : k = n := by omega
        have HD := Lib.hid (okM_yes HL.out h50 HALL.out)
        go_wp2
        go_ret
        exact ⟨by rw [HD.out]; rfl, hB⟩
  · have hd : decide ((50 : Int) < (n : Int)) = true := by simp; omega
    have HD := Lib.hid (okM_long HL.out h50)
    go_enter Tryd.func54, Tryd.ntmps54
    go_wp2
    go_ret
    exact ⟨by rw [HD.out]; rfl, by (repeat (first | assumption | exact Below.refl _ _ | refine belowDN ?_ _ | refine Below.drew ?_ | refine Below.setCell ?_ (by first | omega | (simp <;> omega)) _ | refine Below.alloc ?_ (by first | omega | (simp <;> omega)) _ | refine belowCall ?_ (by assumption)))⟩
theorem iValidMi_any (a : Option Addr) (n c : Nat) (xs : List Mi) (w : World) (h : MiL w a n xs) (hn : n ≤ 1048576) :
    Calls Tryd.prog 20 #[.slice a n c] w fun e w' => e = .returned (.bool (okM xs)) ∧ Below w.heap.size w w' := by
  go_enter Tryd.func20, Tryd.ntmps20
  go_wp2_with fail
  refine (areM_any a n c xs w h hn).mono ?_
  rintro e w2 ⟨rfl, b2⟩
  go_wp2
  go_ret
  exact ⟨rfl, b2⟩
end Go.Proofs.YtbjflgohahmjgaaDoor
