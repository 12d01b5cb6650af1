/- ResidualsOf: residuals, mapped at minima and whole numbers, both sides. -/
import Derived.Test.YtbjflgohahmjgaaDoorPB
import Derived.Test.YtbjflgohahmjgaaDoorPE
import Derived.Test.YtbjflgohahmjgaaDoorH7R
import Derived.Test.YtbjflgohahmjgaaDoorFK
import Derived.Deep.AppendLies
namespace Go.Proofs.YtbjflgohahmjgaaDoor
open Go.ChangeShapes Go.WideShapes Go.ChangeAt Go.RowKit Go.Deep

def rsd (e p : Int) (x : Mi) : Int := x.2 - (e + x.1 * p)
def rsL (e p : Int) (xs : List Mi) : List Int := xs.map (rsd e p)
theorem rsL_len (e p : Int) (xs : List Mi) : (rsL e p xs).length = xs.length := by simp [rsL]
theorem rsL_at {e p : Int} {xs : List Mi} {n k : Nat} {x : Mi} (hn : xs.length = n) (hk : k < n) (hx : xs[k]?.getD mi0 = x) : (rsL e p xs)[k]?.getD 0 = rsd e p x := by
  have h : k < xs.length := by omega
  rw [List.getElem?_eq_getElem h, Option.getD_some] at hx
  simp [rsL, h, hx]
theorem rsL_step {e p : Int} {xs : List Mi} {n k : Nat} {x : Mi} (hn : xs.length = n) (hk : k < n) (hx : xs[k]?.getD mi0 = x) : ((rsL e p (xs.take (k + 1))).map (Value.int .i64)) = ((rsL e p (xs.take k)).map (Value.int .i64)) ++ [.int .i64 (rsd e p x)] := by
  have h : k < xs.length := by omega
  rw [List.getElem?_eq_getElem h, Option.getD_some] at hx
  rw [List.take_succ_eq_append_getElem h, rsL, rsL, List.map_append, List.map_append, hx]
  rfl
/-- the bounds of a residual of a valid minimum -/
theorem cyP_bd {x0 p : Int} (h1 : -10000 ≤ x0) (h2 : x0 ≤ 10000) (h3 : 1 ≤ p) (h4 : p ≤ 1000000) : -10000000000 ≤ x0 * p ∧ x0 * p ≤ 10000000000 := by
  have := mul_bd x0 p (-10000) 10000 1000000 h1 h2 (by omega) h4 (by omega) (by omega)
  omega
def rsA (xs : List Mi) (e p : Int) : List Int := if okM xs && ephB e p then rsL e p xs else []
def rsC (xs : List Mi) (e p : Int) : Int := if okM xs && ephB e p then 0 else 1
theorem rsA_len {xs : List Mi} {n : Nat} (e p : Int) (h : xs.length ≤ n) : (rsA xs e p).length ≤ n := by
  unfold rsA
  split
  · rw [rsL_len]; exact h
  · simp
theorem rs_no {xs : List Mi} {e p : Int} (h : (okM xs && ephB e p) = false) : rsA xs e p = [] ∧ rsC xs e p = 1 := by simp [rsA, rsC, h]
theorem rs_yes {xs : List Mi} {e p : Int} (h : (okM xs && ephB e p) = true) : rsA xs e p = rsL e p xs ∧ rsC xs e p = 0 := by simp [rsA, rsC, h]
set_option maxRecDepth 100000 in
set_option maxHeartbeats 2000000 in
theorem mapR_any (a : Option Addr) (n c : Nat) (xs : List Mi) (e p : Int) (w : World) (h : MiL w a n xs) (hok : okM xs = true) (he : ephB e p = true) :
    Calls Tryd.prog 42 #[.slice a n c, .func (.func 43) #[.agg #[.int .i64 e, .int .i64 p]] #[]] w fun x w' => ∃ g, x = .returned (.slice (some ⟨g, 0, none⟩) n n) ∧ w'.ownsRow w.heap.size 2 1 (.slice (some ⟨g, 0, none⟩) n n) n ((rsL e p xs).map (Value.int .i64)) ∧ Below w.heap.size w w' := by
  obtain ⟨i0, hi, hz0, hz1, hz2⟩ := info_parts A_info
  obtain ⟨hn, hbd, -⟩ := okM_num h.1 hok
  obtain ⟨⟨e1, e2⟩, p1, p2⟩ := ephB_iff.1 he
  have HBD := Lib.hid hbd
  have HL := Lib.hid h.1
  have HRL : Hid ((rsL e p xs).length = n) := Lib.hid ((rsL_len e p xs).trans h.1)
  have hl : (n : Int) ≤ 50 := by omega
  have hb : n ≤ maxLen := by unfold maxLen; omega
  clear hok he hbd
  go_enter Tryd.func42, Tryd.ntmps42
  go_wp2_with (at_make; refine wpList_make_full _ rfl _ _ 35 rfl w.heap.size 2 i0 (.int .i64 0) 1 Tryd.underlying35 hi hz0 hz1 .i64 .i64 n n n rfl rfl rfl rfl (by rw [hz2]; omega) hb (Nat.le_refl _) ?_; intro w1 hown hgrow)
  go_loopw [13] (fun i wr => ∃ k : Nat, k ≤ n ∧ i = .int .i64 k ∧ wr.ownsRow w.heap.size 2 1 (.slice (some ⟨w.heap.size, 0, none⟩) n n) n (cop (rsL e p xs) k n) ∧ Below w.heap.size w wr) (fun i _ => n - (Go.RowKit.intOf i).toNat)
  case atStart => exact ⟨0, Nat.zero_le _, rfl, by rw [← cop_zero]; exact hown, (Below.refl _ _).grown hgrow (Nat.le_refl _) (fun k hk => by cases hk)⟩
  case round =>
    obtain ⟨k, hk, rfl, hownr, hB⟩ := hrel
    clear hown hgrow
    by_cases hlt : k < n
    · obtain ⟨b1, o1, rfl, hc⟩ := h.2 k hlt
      obtain ⟨⟨x0, x1⟩, hx⟩ : ∃ x, xs[k]?.getD mi0 = x := ⟨_, rfl⟩
      have HAT := Lib.hid (rsL_at (e := e) (p := p) HL.out hlt hx)
      have hbx := HBD.out k hlt
      rw [hx] at hc hbx
      simp only at hbx
      obtain ⟨⟨v1, v2⟩, v3, v4⟩ := hbx
      have hcp := cyP_bd v1 v2 p1 p2
      obtain ⟨-, q0, q1⟩ := (hc.mono hB).parts
      have hkk : (k : Int) < (n : Int) := by omega
      have hsz := hB.size
      have hgl := hownr.lt w.heap.size rfl
      obtain ⟨R, hR⟩ : ∃ R, rsd e p (x0, x1) = R := ⟨_, rfl⟩
      have HRS : ∀ W, Calls Tryd.prog 43 #[.agg #[.int .i64 e, .int .i64 p], .agg #[.int .i64 x0, .int .i64 x1]] W fun r w' => r = .returned (.int .i64 R) ∧ Below W.heap.size W w' := fun W => by rw [← hR]; exact res_any e p x0 x1 W e1 e2 (by omega) (by omega) v3 v4
      have b1w : Below wr.heap.size wr (wr.alloc (.cells #[.int .i64 x0, .int .i64 x1] 34)) := (Below.refl _ _).alloc (Nat.le_refl _) _
      rw [hR] at HAT
      clear hx hc hR
      go_wp2_with fail
      refine (HRS _).mono ?_
      rintro r w5 ⟨rfl, b5⟩
      have D5 : Below wr.heap.size wr w5 := belowCall b1w b5
      have hown5 := ownKeepF hownr D5
      have hB5 := hB.trans (D5.mono hsz)
      have hs5 := hB5.size
      have hfz := hown5.frozenAt k
      have hco : w5.cell? ⟨w.heap.size, k, none⟩ = some (.int .i64 0) := by rw [hown5.cellAt k (by omega)]; exact cop_at (rsL e p xs) k n hlt HRL.out
      obtain ⟨hs1, hs2⟩ := hown5.stored k (.int .i64 R)
      have HS1 : Hid ((w5.setCell ⟨w.heap.size, k, none⟩ (.int .i64 R)).ownsRow w.heap.size 2 1 (.slice (some ⟨w.heap.size, 0, none⟩) n n) n (cop (rsL e p xs) (k + 1) n)) := Lib.hid (by rw [← cop_set (rsL e p xs) k n hlt HRL.out, HAT.out]; exact hs1)
      clear hs1 hown5 hownr
      go_wp2
      go_roundw
      case rel => exact ⟨k + 1, by omega, by go_num, HS1.out, hB5.grown hs2 hs5 (fun j hj => by cases hj; exact Nat.le_refl _)⟩
      case measure => simp [Go.RowKit.intOf]; omega
    · obtain rfl : k = n := by omega
      go_wp2
      go_ret
      rw [cop_full _ k HRL.out] at hownr
      exact ⟨_, rfl, hownr, hB⟩
set_option maxRecDepth 100000 in
set_option maxHeartbeats 2000000 in
theorem iRes_any (a : Option Addr) (n c : Nat) (xs : List Mi) (e p : Int) (w : World) (h : MiL w a n xs) (hn : n ≤ 1048576) :
    Calls Tryd.prog 13 #[.slice a n c, .agg #[.int .i64 e, .int .i64 p]] w fun x w' => IntRes w.heap.size (rsA xs e p) (.int .i64 (rsC xs e p)) w' x ∧ Below w.heap.size w w' := by
  have hbx := PtC.fresh w 27 e p
  have B1 : Below w.heap.size w (w.alloc (.cells #[.int .i64 e, .int .i64 p] 27)) := (Below.refl _ w).alloc (Nat.le_refl _) _
  cases hok : okM xs
  · have HD := Lib.hid (rs_no (xs := xs) (e := e) (p := p) (by rw [hok]; rfl))
    go_enter Tryd.func13, Tryd.ntmps13
    go_upto_region 1 with fail
    generalize w.alloc (.cells #[.int .i64 e, .int .i64 p] 27) = v at hbx B1 ⊢
    obtain ⟨-, k0, k1⟩ := hbx.parts
    rw [Nat.zero_add] at k1
    go_wp2_with fail
    refine (iValidMi_any a n c xs _ (h.mono (by (repeat (first | assumption | exact Below.refl _ _ | refine belowDN ?_ _ | refine Below.drew ?_ | refine Below.setCell ?_ (by first | omega | (simp <;> omega)) _ | refine Below.alloc ?_ (by first | omega | (simp <;> omega)) _ | refine belowCall ?_ (by assumption))))) hn).mono ?_
    rintro x w2 ⟨rfl, b2⟩
    rw [hok]
    go_wp2
    go_ret2
    exact ⟨by rw [HD.out.1, HD.out.2]; exact IntRes.nil _ _ _, belowCall B1 b2⟩
  cases he : ephB e p
  · have HD := Lib.hid (rs_no (xs := xs) (e := e) (p := p) (by rw [hok, he]; rfl))
    go_enter Tryd.func13, Tryd.ntmps13
    go_upto_region 1 with fail
    generalize w.alloc (.cells #[.int .i64 e, .int .i64 p] 27) = v at hbx B1 ⊢
    go_wp2_with fail
    refine (iValidMi_any a n c xs _ (h.mono (by (repeat (first | assumption | exact Below.refl _ _ | refine belowDN ?_ _ | refine Below.drew ?_ | refine Below.setCell ?_ (by first | omega | (simp <;> omega)) _ | refine Below.alloc ?_ (by first | omega | (simp <;> omega)) _ | refine belowCall ?_ (by assumption))))) hn).mono ?_
    rintro x w2 ⟨rfl, b2⟩
    rw [hok]
    obtain ⟨-, k0, k1⟩ := (hbx.mono b2).parts
    rw [Nat.zero_add] at k1
    go_wp2_with fail
    refine (iValidEp_any e p _).mono ?_
    rintro x w3 ⟨rfl, b3⟩
    rw [he]
    go_wp2
    go_ret2
    exact ⟨by rw [HD.out.1, HD.out.2]; exact IntRes.nil _ _ _, belowCall (belowCall B1 b2) b3⟩
  · have HD := Lib.hid (rs_yes (xs := xs) (e := e) (p := p) (by rw [hok, he]; rfl))
    have HRL : Hid ((rsL e p xs).length = n) := Lib.hid ((rsL_len e p xs).trans h.1)
    go_enter Tryd.func13, Tryd.ntmps13
    go_upto_region 1 with fail
    generalize w.alloc (.cells #[.int .i64 e, .int .i64 p] 27) = v at hbx B1 ⊢
    go_wp2_with fail
    refine (iValidMi_any a n c xs _ (h.mono (by (repeat (first | assumption | exact Below.refl _ _ | refine belowDN ?_ _ | refine Below.drew ?_ | refine Below.setCell ?_ (by first | omega | (simp <;> omega)) _ | refine Below.alloc ?_ (by first | omega | (simp <;> omega)) _ | refine belowCall ?_ (by assumption))))) hn).mono ?_
    rintro x w2 ⟨rfl, b2⟩
    rw [hok]
    have hbx2 := hbx.mono b2
    have B2 := belowCall B1 b2
    obtain ⟨-, k0, k1⟩ := hbx2.parts
    rw [Nat.zero_add] at k1
    go_wp2_with fail
    refine (iValidEp_any e p _).mono ?_
    rintro x w3 ⟨rfl, b3⟩
    rw [he]
    have B3 := belowCall B2 b3
    obtain ⟨-, l0, l1⟩ := (hbx2.mono b3).parts
    rw [Nat.zero_add] at l1
    clear k0 k1
    go_wp2_with fail
    refine (mapR_any a n c xs e p _ (h.mono (by (repeat (first | assumption | exact Below.refl _ _ | refine belowDN ?_ _ | refine Below.drew ?_ | refine Below.setCell ?_ (by first | omega | (simp <;> omega)) _ | refine Below.alloc ?_ (by first | omega | (simp <;> omega)) _ | refine belowCall ?_ (by assumption))))) hok he).mono ?_
    rintro x w4 ⟨g, rfl, hown, b4⟩
    have B4 := belowCall B3 b4
    have HO := Lib.hid hown
    clear hown
    go_wp2
    go_ret2
    exact ⟨by rw [HD.out.1, HD.out.2]; exact IntRes.own (ownLow HO.out B3.size) HRL.out, B4⟩
end Go.Proofs.YtbjflgohahmjgaaDoor
