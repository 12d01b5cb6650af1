/- ValidChart, the program's. -/
import Derived.Test.YtiogffjhhhpolabH1
namespace Go.Proofs.Ytiogffjhhhpolab
open Go.ChangeShapes Go.WideShapes Go.ChangeAt Go.RowKit Go.Deep

set_option maxRecDepth 100000 in
set_option maxHeartbeats 4000000 in
theorem iValidC_any (a : Option Addr) (n c : Nat) (xs : List Mk) (w : World) (h : MkL w a n xs) (hn : n ≤ 1048576) (hcap : n ≤ c) :
    Calls Try.prog 75 #[.slice a n c] w fun e w' => e = .returned (.bool (okC xs)) ∧ Below w.heap.size w w' := by
  have hl : (n : Int) ≤ 1048576 := by omega
  have HL := Lib.hid h.1
  by_cases h30 : n ≤ 30
  · have hd : decide ((30 : Int) < (n : Int)) = false := by simp; omega
    go_enter Try.func75, Try.ntmps75
    go_wp2
    go_loopw [10] (fun i wr => ∃ k : Nat, k ≤ n ∧ i = .int .i64 k ∧ (∀ j, j < k → chF xs j = true) ∧ Below w.heap.size w wr) (fun i _ => n - (Go.RowKit.intOf i).toNat)
    case atStart => exact ⟨0, Nat.zero_le _, rfl, fun j hj => absurd hj (by omega), Below.refl _ _⟩
    case round =>
      obtain ⟨i, hin, rfl, hall, hB⟩ := hrel
      have HALL := Lib.hid hall
      clear hall
      by_cases hlt : i < n
      · obtain ⟨b1, o1, rfl, hc⟩ := h.2 i hlt
        obtain ⟨⟨x0, x1, x2⟩, hx⟩ : ∃ x, xs[i]?.getD mk0 = x := ⟨_, rfl⟩
        rw [hx] at hc
        obtain ⟨p, p0, p1, p2⟩ := (hc.mono hB).parts
        have HX := Lib.hid hx
        clear hx
        have hsz := hB.size
        have hii : (i : Int) < (n : Int) := by omega
        cases hv : mrkB (x0, x1, x2)
        · have HD := Lib.hid (okC_bad HL.out hlt (chF_no HX.out hv))
          go_wp2_with fail
          (refine wp_region_any (by kernel_rfl) ?_; change wpAny _ _ _ _ _ _ _ (World.drew _); refine wpAny_ready (rs := [0]) (by kernel_rfl) (by simp) ?_; refine AllReady.cons rfl (fun K hK => ?_) AllReady.nil; go_simp; refine hK _ _ ?_; clear hK K; refine wpAny_ready (rs := [1]) (by kernel_rfl) (by simp) ?_; refine AllReady.cons rfl (fun K hK => ?_) AllReady.nil)
          go_wp2_with fail
          refine (mkValid_any _ _ _ _).mono ?_
          rintro e w2 ⟨rfl, b2⟩
          rw [hv]
          have hB2 : Below w.heap.size w w2 := belowCall (by (repeat (first | assumption | exact Below.refl _ _ | refine belowDN ?_ _ | refine Below.drew ?_ | refine Below.setCell ?_ (by first | omega | (simp <;> omega)) _ | refine Below.alloc ?_ (by first | omega | (simp <;> omega)) _ | refine belowCall ?_ (by assumption)))) b2
          go_wp2_with fail
          (refine wpAny_rest2 rfl (by kernel_rfl) (by kernel_rfl) ?_; (repeat (go_big_quiet_step (fail))); refine wpQuiet_nil ?_; intro _ hw'; obtain ⟨nq, hw''⟩ := hw'; subst hw'')
          go_wp2
          go_ret
          exact ⟨by rw [HD.out]; rfl, belowDN hB2 _⟩
        · have t0 : (wr.alloc (.cells #[.int .i64 x0, .int .i64 x1, .int .i64 x2] 98)).cell? ⟨wr.heap.size, 0, none⟩ = some (.int .i64 x0) := by go_keep
          have t1 : (wr.alloc (.cells #[.int .i64 x0, .int .i64 x1, .int .i64 x2] 98)).cell? ⟨wr.heap.size, 1, none⟩ = some (.int .i64 x1) := by go_keep
          have t2 : (wr.alloc (.cells #[.int .i64 x0, .int .i64 x1, .int .i64 x2] 98)).cell? ⟨wr.heap.size, 2, none⟩ = some (.int .i64 x2) := by go_keep
          have hz : (wr.alloc (.cells #[.int .i64 x0, .int .i64 x1, .int .i64 x2] 98)).heap.size = wr.heap.size + 1 := by simp
          have hA : Below w.heap.size w (wr.alloc (.cells #[.int .i64 x0, .int .i64 x1, .int .i64 x2] 98)) := by (repeat (first | assumption | exact Below.refl _ _ | refine belowDN ?_ _ | refine Below.drew ?_ | refine Below.setCell ?_ (by first | omega | (simp <;> omega)) _ | refine Below.alloc ?_ (by first | omega | (simp <;> omega)) _ | refine belowCall ?_ (by assumption)))
          have ht := (h.mono hA).take (Nat.le_of_lt hlt)
          have hin2 : i ≤ 1048576 := by omega
          have hi0 : (0 : Int) ≤ (i : Int) := by omega
          have hic : (i : Int) ≤ (c : Int) := by omega
          obtain ⟨r, hr⟩ : ∃ r, anyW (x0, x1, x2) (xs.take i) = r := ⟨_, rfl⟩
          have HK := Lib.hid (chF_val HX.out hv hr)
          have HR := Lib.hid hr
          clear hr hc
          cases r
          · go_wp2_with fail
            generalize wr.alloc (.cells #[.int .i64 x0, .int .i64 x1, .int .i64 x2] 98) = w1 at t0 t1 t2 hz hA ht ⊢
            have hb2 : wr.heap.size < w1.heap.size := by omega
            go_region_held3 (fun W' => W'.cell? ⟨wr.heap.size, 0, none⟩ = some (.int .i64 x0) ∧ W'.cell? ⟨wr.heap.size, 1, none⟩ = some (.int .i64 x1) ∧ W'.cell? ⟨wr.heap.size, 2, none⟩ = some (.int .i64 x2)) (refine ⟨?_, ?_, ?_⟩ <;> first | assumption | exact ((show Below w1.heap.size w1 _ by (repeat (first | assumption | exact Below.refl _ _ | refine belowDN ?_ _ | refine Below.drew ?_ | refine Below.setCell ?_ (by first | omega | (simp <;> omega)) _ | refine Below.alloc ?_ (by first | omega | (simp <;> omega)) _ | refine belowCall ?_ (by assumption)))).cell (p := ⟨wr.heap.size, 0, none⟩) hb2).trans t0 | exact ((show Below w1.heap.size w1 _ by (repeat (first | assumption | exact Below.refl _ _ | refine belowDN ?_ _ | refine Below.drew ?_ | refine Below.setCell ?_ (by first | omega | (simp <;> omega)) _ | refine Below.alloc ?_ (by first | omega | (simp <;> omega)) _ | refine belowCall ?_ (by assumption)))).cell (p := ⟨wr.heap.size, 1, none⟩) hb2).trans t1 | exact ((show Below w1.heap.size w1 _ by (repeat (first | assumption | exact Below.refl _ _ | refine belowDN ?_ _ | refine Below.drew ?_ | refine Below.setCell ?_ (by first | omega | (simp <;> omega)) _ | refine Below.alloc ?_ (by first | omega | (simp <;> omega)) _ | refine belowCall ?_ (by assumption)))).cell (p := ⟨wr.heap.size, 2, none⟩) hb2).trans t2) (first | (go_at_call 121; refine (mkValid_any _ _ _ _).mono ?_; rintro e w' ⟨rfl, hbel⟩; rw [hv]) | (go_at_call 122; refine (conMk_any _ _ _ x0 x1 x2 (xs.take i) _ (ht.mono (by (repeat (first | assumption | exact Below.refl _ _ | refine belowDN ?_ _ | refine Below.drew ?_ | refine Below.setCell ?_ (by first | omega | (simp <;> omega)) _ | refine Below.alloc ?_ (by first | omega | (simp <;> omega)) _ | refine belowCall ?_ (by assumption))))) hin2).mono ?_; rintro e w' ⟨rfl, hbel2⟩; rw [HR.out]))
            all_goals
              go_wp2
              go_roundw
              case rel => exact ⟨i + 1, by omega, by go_num, chF_next HALL.out HK.out, belowCall hA (by (repeat (first | assumption | exact Below.refl _ _ | refine belowDN ?_ _ | refine Below.drew ?_ | refine Below.setCell ?_ (by first | omega | (simp <;> omega)) _ | refine Below.alloc ?_ (by first | omega | (simp <;> omega)) _ | refine belowCall ?_ (by assumption))))⟩
              case measure => simp [Go.RowKit.intOf]; omega
          · have HD := Lib.hid (okC_bad HL.out hlt HK.out)
            go_wp2_with fail
            generalize wr.alloc (.cells #[.int .i64 x0, .int .i64 x1, .int .i64 x2] 98) = w1 at t0 t1 t2 hz hA ht ⊢
            have hb2 : wr.heap.size < w1.heap.size := by omega
            go_region_held3 (fun W' => W'.cell? ⟨wr.heap.size, 0, none⟩ = some (.int .i64 x0) ∧ W'.cell? ⟨wr.heap.size, 1, none⟩ = some (.int .i64 x1) ∧ W'.cell? ⟨wr.heap.size, 2, none⟩ = some (.int .i64 x2)) (refine ⟨?_, ?_, ?_⟩ <;> first | assumption | exact ((show Below w1.heap.size w1 _ by (repeat (first | assumption | exact Below.refl _ _ | refine belowDN ?_ _ | refine Below.drew ?_ | refine Below.setCell ?_ (by first | omega | (simp <;> omega)) _ | refine Below.alloc ?_ (by first | omega | (simp <;> omega)) _ | refine belowCall ?_ (by assumption)))).cell (p := ⟨wr.heap.size, 0, none⟩) hb2).trans t0 | exact ((show Below w1.heap.size w1 _ by (repeat (first | assumption | exact Below.refl _ _ | refine belowDN ?_ _ | refine Below.drew ?_ | refine Below.setCell ?_ (by first | omega | (simp <;> omega)) _ | refine Below.alloc ?_ (by first | omega | (simp <;> omega)) _ | refine belowCall ?_ (by assumption)))).cell (p := ⟨wr.heap.size, 1, none⟩) hb2).trans t1 | exact ((show Below w1.heap.size w1 _ by (repeat (first | assumption | exact Below.refl _ _ | refine belowDN ?_ _ | refine Below.drew ?_ | refine Below.setCell ?_ (by first | omega | (simp <;> omega)) _ | refine Below.alloc ?_ (by first | omega | (simp <;> omega)) _ | refine belowCall ?_ (by assumption)))).cell (p := ⟨wr.heap.size, 2, none⟩) hb2).trans t2) (first | (go_at_call 121; refine (mkValid_any _ _ _ _).mono ?_; rintro e w' ⟨rfl, hbel⟩; rw [hv]) | (go_at_call 122; refine (conMk_any _ _ _ x0 x1 x2 (xs.take i) _ (ht.mono (by (repeat (first | assumption | exact Below.refl _ _ | refine belowDN ?_ _ | refine Below.drew ?_ | refine Below.setCell ?_ (by first | omega | (simp <;> omega)) _ | refine Below.alloc ?_ (by first | omega | (simp <;> omega)) _ | refine belowCall ?_ (by assumption))))) hin2).mono ?_; rintro e w' ⟨rfl, hbel2⟩; rw [HR.out]))
            all_goals
              go_wp2
              go_ret
              exact ⟨by rw [HD.out]; rfl, belowCall hA (by (repeat (first | assumption | exact Below.refl _ _ | refine belowDN ?_ _ | refine Below.drew ?_ | refine Below.setCell ?_ (by first | omega | (simp <;> omega)) _ | refine Below.alloc ?_ (by first | omega | (simp <;> omega)) _ | refine belowCall ?_ (by assumption))))⟩
      · obtain rfl : i = n := by omega
        have HD := Lib.hid (okC_yes HL.out h30 HALL.out)
        go_wp2
        go_ret
        exact ⟨by rw [HD.out]; rfl, hB⟩
  · have hd : decide ((30 : Int) < (n : Int)) = true := by simp; omega
    have HD := Lib.hid (okC_long HL.out h30)
    go_enter Try.func75, Try.ntmps75
    go_wp2
    go_ret
    exact ⟨by rw [HD.out]; rfl, by (repeat (first | assumption | exact Below.refl _ _ | refine belowDN ?_ _ | refine Below.drew ?_ | refine Below.setCell ?_ (by first | omega | (simp <;> omega)) _ | refine Below.alloc ?_ (by first | omega | (simp <;> omega)) _ | refine belowCall ?_ (by assumption)))⟩
end Go.Proofs.Ytiogffjhhhpolab
