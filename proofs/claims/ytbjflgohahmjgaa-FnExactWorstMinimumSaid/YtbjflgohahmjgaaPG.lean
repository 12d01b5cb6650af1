/- ResidualsOf, the model's. -/
import Derived.Test.YtbjflgohahmjgaaPD
import Derived.Test.YtbjflgohahmjgaaPF
namespace Go.Proofs.Ytbjflgohahmjgaa
open Go.ChangeShapes Go.WideShapes Go.ChangeAt Go.RowKit Go.Deep

set_option maxRecDepth 100000 in
set_option maxHeartbeats 4000000 in
theorem sRes_any (a : Option Addr) (n c : Nat) (xs : List Mi) (e p : Int) (w : World) (h : MiL w a n xs) (hn : n ≤ 1048576) :
    Calls Try.prog 21 #[.slice a n c, .agg #[.int .i64 e, .int .i64 p]] w fun x w' => IntRes w.heap.size (rsA xs e p) (.int .i64 (rsC xs e p)) w' x ∧ Below w.heap.size w w' := by
  obtain ⟨i0, hi, hz0, hz1, hz2⟩ := info_parts A_info
  have hbx := PtC.fresh w 45 e p
  have B1 : Below w.heap.size w (w.alloc (.cells #[.int .i64 e, .int .i64 p] 45)) := (Below.refl _ w).alloc (Nat.le_refl _) _
  cases hok : okM xs
  · have HD := Lib.hid (rs_no (xs := xs) (e := e) (p := p) (by rw [hok]; rfl))
    go_enter Try.func21, Try.ntmps21
    go_upto_region 1 with fail
    generalize w.alloc (.cells #[.int .i64 e, .int .i64 p] 45) = v at hbx B1 ⊢
    go_wp2_with fail
    refine (l13Ok_any a n c xs _ (h.mono (by (repeat (first | assumption | exact Below.refl _ _ | refine belowDN ?_ _ | refine Below.drew ?_ | refine Below.setCell ?_ (by first | omega | (simp <;> omega)) _ | refine Below.alloc ?_ (by first | omega | (simp <;> omega)) _ | refine belowCall ?_ (by assumption))))) hn).mono ?_
    rintro x w2 ⟨rfl, b2⟩
    rw [hok]
    go_wp2
    go_ret2
    exact ⟨by rw [HD.out.1, HD.out.2]; exact IntRes.nil _ _ _, belowCall B1 b2⟩
  cases he : ephB e p
  · have HD := Lib.hid (rs_no (xs := xs) (e := e) (p := p) (by rw [hok, he]; rfl))
    go_enter Try.func21, Try.ntmps21
    go_upto_region 1 with fail
    generalize w.alloc (.cells #[.int .i64 e, .int .i64 p] 45) = v at hbx B1 ⊢
    go_wp2_with fail
    refine (l13Ok_any a n c xs _ (h.mono (by (repeat (first | assumption | exact Below.refl _ _ | refine belowDN ?_ _ | refine Below.drew ?_ | refine Below.setCell ?_ (by first | omega | (simp <;> omega)) _ | refine Below.alloc ?_ (by first | omega | (simp <;> omega)) _ | refine belowCall ?_ (by assumption))))) hn).mono ?_
    rintro x w2 ⟨rfl, b2⟩
    rw [hok]
    obtain ⟨-, k0, k1⟩ := (hbx.mono b2).parts
    rw [Nat.zero_add] at k1
    go_wp2_with fail
    refine (l09Ok_any e p _).mono ?_
    rintro x w3 ⟨rfl, b3⟩
    rw [he]
    go_wp2
    go_ret2
    exact ⟨by rw [HD.out.1, HD.out.2]; exact IntRes.nil _ _ _, belowCall (belowCall B1 b2) b3⟩
  · have HD := Lib.hid (rs_yes (xs := xs) (e := e) (p := p) (by rw [hok, he]; rfl))
    have HRL : Hid ((rsL e p xs).length = n) := Lib.hid ((rsL_len e p xs).trans h.1)
    obtain ⟨hn50, hbd, -⟩ := okM_num h.1 hok
    obtain ⟨⟨e1, e2⟩, p1, p2⟩ := ephB_iff.1 he
    have HBD := Lib.hid hbd
    have HL := Lib.hid h.1
    have hl : (n : Int) ≤ 50 := by omega
    clear hbd
    go_enter Try.func21, Try.ntmps21
    go_upto_region 1 with fail
    generalize w.alloc (.cells #[.int .i64 e, .int .i64 p] 45) = v at hbx B1 ⊢
    go_wp2_with fail
    refine (l13Ok_any a n c xs _ (h.mono (by (repeat (first | assumption | exact Below.refl _ _ | refine belowDN ?_ _ | refine Below.drew ?_ | refine Below.setCell ?_ (by first | omega | (simp <;> omega)) _ | refine Below.alloc ?_ (by first | omega | (simp <;> omega)) _ | refine belowCall ?_ (by assumption))))) hn).mono ?_
    rintro x w2 ⟨rfl, b2⟩
    rw [hok]
    have hbx2 := hbx.mono b2
    have B2 := belowCall B1 b2
    obtain ⟨-, k0, k1⟩ := hbx2.parts
    rw [Nat.zero_add] at k1
    go_wp2_with fail
    refine (l09Ok_any e p _).mono ?_
    rintro x w3 ⟨rfl, b3⟩
    rw [he]
    have B3 := belowCall B2 b3
    have hbx3 := hbx2.mono b3
    have h3 := h.mono B3
    have hsw := B3.size
    clear k0 k1 hbx hbx2 hok he
    go_wp2
    go_loopw [6, 7] (fun o i wr => ∃ k g cg : Nat, k ≤ n ∧ i = .int .i64 k ∧ o = .slice (some ⟨g, 0, none⟩) k cg ∧ wr.ownsRow w3.heap.size 2 1 (.slice (some ⟨g, 0, none⟩) k cg) k ((rsL e p (xs.take k)).map (Value.int .i64)) ∧ Below w3.heap.size w3 wr) (fun _ i _ => n - (Go.RowKit.intOf i).toNat)
    case atStart => exact ⟨0, w3.heap.size, 0, Nat.zero_le _, rfl, rfl, World.ownsRow_lit w3 #[] 0 (Nat.le_refl _) (by unfold maxLen; omega) rfl, by (repeat (first | assumption | exact Below.refl _ _ | refine belowDN ?_ _ | refine Below.drew ?_ | refine Below.setCell ?_ (by first | omega | (simp <;> omega)) _ | refine Below.alloc ?_ (by first | omega | (simp <;> omega)) _ | refine belowCall ?_ (by assumption)))⟩
    case round =>
      obtain ⟨k, g, cg, hk, rfl, rfl, hown, hB⟩ := hrel
      have hsz := hB.size
      by_cases hlt : k < n
      · obtain ⟨b1, o1, rfl, hc⟩ := h3.2 k hlt
        obtain ⟨⟨x0, x1⟩, hx⟩ : ∃ x, xs[k]?.getD mi0 = x := ⟨_, rfl⟩
        have HST := Lib.hid (rsL_step (e := e) (p := p) HL.out hlt hx)
        have hbx := HBD.out k hlt
        rw [hx] at hc hbx
        simp only at hbx
        obtain ⟨⟨v1, v2⟩, v3, v4⟩ := hbx
        have hcp := cyP_bd v1 v2 p1 p2
        obtain ⟨-, q0, q1⟩ := (hc.mono hB).parts
        obtain ⟨-, k0, k1⟩ := (hbx3.mono hB).parts
        rw [Nat.zero_add] at k1
        have hkk : (k : Int) < (n : Int) := by omega
        have hb1 : b1 < wr.heap.size := Nat.lt_of_lt_of_le hc.1 hsz
        have hb3 := hc.1
        have hew3 := hbx3.1
        have hew : w.heap.size < wr.heap.size := by omega
        have hgl := hown.lt g rfl
        obtain ⟨R, hR⟩ : ∃ R, rsd e p (x0, x1) = R := ⟨_, rfl⟩
        have HRS : ∀ W, Calls Try.prog 48 #[.agg #[.int .i64 x0, .int .i64 x1], .agg #[.int .i64 e, .int .i64 p]] W fun r w' => r = .returned (.int .i64 R) ∧ Below W.heap.size W w' := fun W => by rw [← hR]; exact sRsd_any e p x0 x1 W e1 e2 (by omega) (by omega) v3 v4
        rw [hR] at HST
        generalize (rsL e p (xs.take k)).map (Value.int .i64) = RL at hown HST
        clear hx hc hR
        go_wp2_with fail
        go_region_held3 (fun W' => W'.cell? ⟨b1, o1 + k * 2, none⟩ = some (.int .i64 x0) ∧ W'.cell? ⟨b1, o1 + k * 2 + 1, none⟩ = some (.int .i64 x1) ∧ W'.cell? ⟨w.heap.size, 0, none⟩ = some (.int .i64 e) ∧ W'.cell? ⟨w.heap.size, 1, none⟩ = some (.int .i64 p)) (refine ⟨?_, ?_, ?_, ?_⟩ <;> first | assumption | exact ((show Below wr.heap.size wr _ by (repeat (first | assumption | exact Below.refl _ _ | refine belowDN ?_ _ | refine Below.drew ?_ | refine Below.setCell ?_ (by first | omega | (simp <;> omega)) _ | refine Below.alloc ?_ (by first | omega | (simp <;> omega)) _ | refine belowCall ?_ (by assumption)))).cell (p := ⟨b1, o1 + k * 2, none⟩) hb1).trans q0 | exact ((show Below wr.heap.size wr _ by (repeat (first | assumption | exact Below.refl _ _ | refine belowDN ?_ _ | refine Below.drew ?_ | refine Below.setCell ?_ (by first | omega | (simp <;> omega)) _ | refine Below.alloc ?_ (by first | omega | (simp <;> omega)) _ | refine belowCall ?_ (by assumption)))).cell (p := ⟨b1, o1 + k * 2 + 1, none⟩) hb1).trans q1 | exact ((show Below wr.heap.size wr _ by (repeat (first | assumption | exact Below.refl _ _ | refine belowDN ?_ _ | refine Below.drew ?_ | refine Below.setCell ?_ (by first | omega | (simp <;> omega)) _ | refine Below.alloc ?_ (by first | omega | (simp <;> omega)) _ | refine belowCall ?_ (by assumption)))).cell (p := ⟨w.heap.size, 0, none⟩) hew).trans k0 | exact ((show Below wr.heap.size wr _ by (repeat (first | assumption | exact Below.refl _ _ | refine belowDN ?_ _ | refine Below.drew ?_ | refine Below.setCell ?_ (by first | omega | (simp <;> omega)) _ | refine Below.alloc ?_ (by first | omega | (simp <;> omega)) _ | refine belowCall ?_ (by assumption)))).cell (p := ⟨w.heap.size, 1, none⟩) hew).trans k1) (first | (go_at_call 48; refine (HRS _).mono ?_; rintro r w5 ⟨rfl, b5⟩; have D5 : Below wr.heap.size wr w5 := belowCall (by (repeat (first | assumption | exact Below.refl _ _ | refine belowDN ?_ _ | refine Below.drew ?_ | refine Below.setCell ?_ (by first | omega | (simp <;> omega)) _ | refine Below.alloc ?_ (by first | omega | (simp <;> omega)) _ | refine belowCall ?_ (by assumption)))) b5; clear b5; have hown5 := ownKeepF hown D5; have hB5 := hB.trans (D5.mono hsz); have hs5 := D5.size; have u0 := (D5.cell (p := ⟨b1, o1 + k * 2, none⟩) hb1).trans q0; have u1 := (D5.cell (p := ⟨b1, o1 + k * 2 + 1, none⟩) hb1).trans q1; have u2 := (D5.cell (p := ⟨w.heap.size, 0, none⟩) hew).trans k0; have u3 := (D5.cell (p := ⟨w.heap.size, 1, none⟩) hew).trans k1) | (refine Go.step_append_lies _ rfl _ _ 25 rfl w3.heap.size 2 i0 (.int .i64 0) 1 8 Try.underlying25 hi hz0 hz1 hz2 rfl (by decide) (.slice (some ⟨g, 0, none⟩) k cg) k _ rfl (hown5.alloc _) ⟨w5.heap.size, 0, none⟩ 1 1 [.int .i64 R] rfl rfl (cell_one_new _ _ _) (by intro u hu; simp at hu; subst hu; rfl) (by decide) (by unfold maxLen; omega) (by omega) (by simp; omega) _ rfl ?_; intro g7 c7 w7 hown7 hg7 hat7 hlt7; have hB7 : Below w3.heap.size w3 w7 := (show Below w3.heap.size w3 (w5.alloc (.cells #[.int .i64 R] 2)) from hB5.alloc (by omega) _).grown hg7 (by simp; omega) (fun j e => (hown5.lt j e).1); have t1 := hg7.cell (a := ⟨b1, o1 + k * 2, none⟩) (v := .int .i64 x0) (by go_keep) (fun e => by have hh : b1 = g := Option.some.inj e; omega); have t2 := hg7.cell (a := ⟨b1, o1 + k * 2 + 1, none⟩) (v := .int .i64 x1) (by go_keep) (fun e => by have hh : b1 = g := Option.some.inj e; omega); have t3 := hg7.cell (a := ⟨w.heap.size, 0, none⟩) (v := .int .i64 e) (by go_keep) (fun e => by have hh : w.heap.size = g := Option.some.inj e; omega); have t4 := hg7.cell (a := ⟨w.heap.size, 1, none⟩) (v := .int .i64 p) (by go_keep) (fun e => by have hh : w.heap.size = g := Option.some.inj e; omega); have HOWN7 := Lib.hid hown7; clear hg7 hat7 hown7) | fail)
        go_wp2
        go_roundw
        case rel => exact ⟨k + 1, g7, c7, by omega, by go_num, rfl, by rw [HST.out]; exact HOWN7.out, hB7⟩
        case measure => simp [Go.RowKit.intOf]; omega
      · obtain rfl : k = n := by omega
        have HO := Lib.hid hown
        have HT : Hid (xs.take k = xs) := Lib.hid (List.take_of_length_le (by rw [HL.out]; exact Nat.le_refl _))
        clear hown
        go_wp2
        go_ret2
        exact ⟨by rw [HD.out.1, HD.out.2]; exact IntRes.own (ownLow (by have h := HO.out; rw [HT.out] at h; exact h) (by omega)) HRL.out, belowCall B3 hB⟩
end Go.Proofs.Ytbjflgohahmjgaa
