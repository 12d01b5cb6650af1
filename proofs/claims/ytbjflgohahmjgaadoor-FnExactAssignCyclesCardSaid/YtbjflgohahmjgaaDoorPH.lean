/- SquaresOf, the program's: areNear (a closure), sumOf with two method values. -/
import Derived.Test.YtbjflgohahmjgaaDoorPD
import Derived.Test.YtbjflgohahmjgaaDoorJN
namespace Go.Proofs.YtbjflgohahmjgaaDoor
open Go.ChangeShapes Go.WideShapes Go.ChangeAt Go.RowKit Go.Deep

/-- a residual is at most m away from 0 -/
def nearB (e p m : Int) (x : Mi) : Bool := decide (((rsd e p x).natAbs : Int) ≤ m)
def allNear (e p m : Int) (xs : List Mi) : Bool := xs.all (nearB e p m)
theorem allNear_no {e p m : Int} {xs : List Mi} {n k : Nat} {x : Mi} (hn : xs.length = n) (hk : k < n) (hx : xs[k]?.getD mi0 = x) (h : nearB e p m x = false) : allNear e p m xs = false := by
  rw [allNear, List.all_eq_false]
  rw [List.getElem?_eq_getElem (by omega), Option.getD_some] at hx
  exact ⟨x, by rw [← hx]; exact List.getElem_mem _, by rw [h]; simp⟩
theorem allNear_yes {e p m : Int} {xs : List Mi} {n : Nat} (hn : xs.length = n) (h : ∀ j, j < n → nearB e p m (xs[j]?.getD mi0) = true) : allNear e p m xs = true := by
  rw [allNear, List.all_eq_true]
  intro x hx
  obtain ⟨j, hj, rfl⟩ := List.getElem_of_mem hx
  have := h j (by omega)
  simpa [hj] using this
theorem allNear_at {e p m : Int} {xs : List Mi} {n k : Nat} {x : Mi} (hn : xs.length = n) (h : allNear e p m xs = true) (hk : k < n) (hx : xs[k]?.getD mi0 = x) : -m ≤ rsd e p x ∧ rsd e p x ≤ m := by
  rw [allNear, List.all_eq_true] at h
  rw [List.getElem?_eq_getElem (by omega), Option.getD_some] at hx
  have := h x (by rw [← hx]; exact List.getElem_mem _)
  simp only [nearB, decide_eq_true_eq] at this
  omega
def sqS (e p : Int) (xs : List Mi) : Nat → Int := sumF fun j => rsd e p (xs[j]?.getD mi0) * rsd e p (xs[j]?.getD mi0)
theorem sqS_bd {e p : Int} {xs : List Mi} {n : Nat} (hn : xs.length = n) (h : allNear e p 1000000 xs = true) (k : Nat) (hk : k ≤ n) : -(1000000000000 * (k : Int)) ≤ sqS e p xs k ∧ sqS e p xs k ≤ 1000000000000 * (k : Int) :=
  sumF_bd fun j hj => by
    have h1 := allNear_at hn h (k := j) (by omega) rfl
    have h2 := mul_bd (rsd e p (xs[j]?.getD mi0)) (rsd e p (xs[j]?.getD mi0)).natAbs (-1000000) 1000000 1000000 (by omega) (by omega) (by omega) (by omega) (by omega) (by omega)
    rcases Int.natAbs_eq (rsd e p (xs[j]?.getD mi0)) with h3 | h3
    · rw [← h3] at h2; omega
    · have h4 : ((rsd e p (xs[j]?.getD mi0)).natAbs : Int) = - rsd e p (xs[j]?.getD mi0) := by omega
      rw [h4, Int.mul_neg] at h2; omega
/-- SquaresOf's answer -/
def sqA (xs : List Mi) (e p : Int) : Int := if okM xs && ephB e p then (if allNear e p 1000000 xs then sqS e p xs xs.length else 0) else 0
def sqC (xs : List Mi) (e p : Int) : Int := if okM xs && ephB e p then (if allNear e p 1000000 xs then 0 else 5) else 1
theorem sq_1 {xs : List Mi} {e p : Int} (h : (okM xs && ephB e p) = false) : sqA xs e p = 0 ∧ sqC xs e p = 1 := by simp [sqA, sqC, h]
theorem sq_5 {xs : List Mi} {e p : Int} (h : (okM xs && ephB e p) = true) (h2 : allNear e p 1000000 xs = false) : sqA xs e p = 0 ∧ sqC xs e p = 5 := by simp [sqA, sqC, h, h2]
theorem sq_0 {xs : List Mi} {e p : Int} {n : Nat} (hn : xs.length = n) (h : (okM xs && ephB e p) = true) (h2 : allNear e p 1000000 xs = true) : sqA xs e p = sqS e p xs n ∧ sqC xs e p = 0 := by simp [sqA, sqC, h, h2, hn]
theorem dstM_any (a : Int) (w : World) (h1 : -1000000000000 ≤ a) (h2 : a ≤ 1000000000000) :
    Calls Tryd.prog 46 #[.int .i64 a, .int .i64 0] w fun e w' => e = .returned (.int .i64 (a.natAbs : Nat)) ∧ w = w' := by
  by_cases h : a < 0
  all_goals
    go_enter Tryd.func46, Tryd.ntmps46
    go_wp2
    go_ret
    exact ⟨ret_int (by omega), rfl⟩
set_option maxHeartbeats 2000000 in
theorem farCl_any (e p m x0 x1 : Int) (eb mb : Nat) (w : World) (h1 : 0 ≤ e) (h2 : e ≤ 10000000) (h5 : -100000000000 ≤ x0 * p) (h6 : x0 * p ≤ 100000000000) (h7 : 0 ≤ x1) (h8 : x1 ≤ 10000000)
    (q0 : eb < w.heap.size) (q1 : mb < w.heap.size) (k0 : w.cell? ⟨eb, 0, none⟩ = some (.int .i64 e)) (k1 : w.cell? ⟨eb, 1, none⟩ = some (.int .i64 p)) (k2 : w.cell? ⟨mb, 0, none⟩ = some (.int .i64 m)) :
    Calls Tryd.prog 78 #[.agg #[.int .i64 x0, .int .i64 x1], .pointer (some ⟨eb, 0, none⟩), .pointer (some ⟨mb, 0, none⟩)] w fun r w' => r = .returned (.bool (!nearB e p m (x0, x1))) ∧ Below w.heap.size w w' := by
  obtain ⟨R, hR⟩ : ∃ R, rsd e p (x0, x1) = R := ⟨_, rfl⟩
  have HRS : ∀ W, Calls Tryd.prog 43 #[.agg #[.int .i64 e, .int .i64 p], .agg #[.int .i64 x0, .int .i64 x1]] W fun r w' => r = .returned (.int .i64 R) ∧ Below W.heap.size W w' := fun W => by rw [← hR]; exact res_any e p x0 x1 W h1 h2 h5 h6 h7 h8
  have hRb : -1000000000000 ≤ R ∧ R ≤ 1000000000000 := by rw [← hR]; unfold rsd; simp only; omega
  have HV : Hid ((!nearB e p m (x0, x1)) = decide (m < ((R.natAbs : Nat) : Int))) := Lib.hid (by rw [nearB, hR, Bool.eq_iff_iff]; simp)
  have HDS : ∀ W, Calls Tryd.prog 46 #[.int .i64 R, .int .i64 0] W fun e w' => e = .returned (.int .i64 ((R.natAbs : Nat) : Int)) ∧ W = w' := fun W => dstM_any R W hRb.1 hRb.2
  generalize ((R.natAbs : Nat) : Int) = D at HV HDS
  obtain ⟨-, l0, l1⟩ := (MiC.fresh w 34 x0 x1).parts
  rw [Nat.zero_add] at l1
  have B1 : Below w.heap.size w (w.alloc (.cells #[.int .i64 x0, .int .i64 x1] 34)) := (Below.refl _ w).alloc (Nat.le_refl _) _
  have z1 : (w.alloc (.cells #[.int .i64 x0, .int .i64 x1] 34)).heap.size = w.heap.size + 1 := by simp
  replace k0 := (B1.cell (p := ⟨eb, 0, none⟩) q0).trans k0
  replace k1 := (B1.cell (p := ⟨eb, 1, none⟩) q0).trans k1
  replace k2 := (B1.cell (p := ⟨mb, 0, none⟩) q1).trans k2
  clear hR h5 h6
  go_enter Tryd.func78, Tryd.ntmps78
  go_upto_region 1 with fail
  generalize w.alloc (.cells #[.int .i64 x0, .int .i64 x1] 34) = v at l0 l1 B1 z1 k0 k1 k2 ⊢
  have r0 : eb < v.heap.size := by omega
  have r1 : mb < v.heap.size := by omega
  have r2 : w.heap.size < v.heap.size := by omega
  go_region_held3 (fun W' => W'.cell? ⟨eb, 0, none⟩ = some (.int .i64 e) ∧ W'.cell? ⟨eb, 1, none⟩ = some (.int .i64 p) ∧ W'.cell? ⟨mb, 0, none⟩ = some (.int .i64 m) ∧ W'.cell? ⟨w.heap.size, 0, none⟩ = some (.int .i64 x0) ∧ W'.cell? ⟨w.heap.size, 1, none⟩ = some (.int .i64 x1)) (refine ⟨?_, ?_, ?_, ?_, ?_⟩ <;> first | assumption | exact ((show Below v.heap.size v _ by (repeat (first | assumption | exact Below.refl _ _ | refine belowDN ?_ _ | refine Below.drew ?_ | refine Below.setCell ?_ (by first | omega | (simp <;> omega)) _ | refine Below.alloc ?_ (by first | omega | (simp <;> omega)) _ | refine belowCall ?_ (by assumption)))).cell (p := ⟨eb, 0, none⟩) r0).trans k0 | exact ((show Below v.heap.size v _ by (repeat (first | assumption | exact Below.refl _ _ | refine belowDN ?_ _ | refine Below.drew ?_ | refine Below.setCell ?_ (by first | omega | (simp <;> omega)) _ | refine Below.alloc ?_ (by first | omega | (simp <;> omega)) _ | refine belowCall ?_ (by assumption)))).cell (p := ⟨eb, 1, none⟩) r0).trans k1 | exact ((show Below v.heap.size v _ by (repeat (first | assumption | exact Below.refl _ _ | refine belowDN ?_ _ | refine Below.drew ?_ | refine Below.setCell ?_ (by first | omega | (simp <;> omega)) _ | refine Below.alloc ?_ (by first | omega | (simp <;> omega)) _ | refine belowCall ?_ (by assumption)))).cell (p := ⟨mb, 0, none⟩) r1).trans k2 | exact ((show Below v.heap.size v _ by (repeat (first | assumption | exact Below.refl _ _ | refine belowDN ?_ _ | refine Below.drew ?_ | refine Below.setCell ?_ (by first | omega | (simp <;> omega)) _ | refine Below.alloc ?_ (by first | omega | (simp <;> omega)) _ | refine belowCall ?_ (by assumption)))).cell (p := ⟨w.heap.size, 0, none⟩) r2).trans l0 | exact ((show Below v.heap.size v _ by (repeat (first | assumption | exact Below.refl _ _ | refine belowDN ?_ _ | refine Below.drew ?_ | refine Below.setCell ?_ (by first | omega | (simp <;> omega)) _ | refine Below.alloc ?_ (by first | omega | (simp <;> omega)) _ | refine belowCall ?_ (by assumption)))).cell (p := ⟨w.heap.size, 1, none⟩) r2).trans l1) (first | (go_at_call 43; refine (HRS _).mono ?_; rintro x wA ⟨rfl, bA⟩) | (go_at_call 46; refine (HDS _).mono ?_; rintro x wB ⟨rfl, rfl⟩) | fail)
  all_goals
    go_wp2
    go_ret
    exact ⟨by rw [HV.out]; rfl, belowCall B1 (by (repeat (first | assumption | exact Below.refl _ _ | refine belowDN ?_ _ | refine Below.drew ?_ | refine Below.setCell ?_ (by first | omega | (simp <;> omega)) _ | refine Below.alloc ?_ (by first | omega | (simp <;> omega)) _ | refine belowCall ?_ (by assumption))))⟩
/-- what areNear wants of its minima -/
def nrOk (p : Int) (n : Nat) (ys : List Mi) : Prop := n ≤ 50 ∧ ∀ k, k < n → (-100000000000 ≤ (ys[k]?.getD mi0).1 * p ∧ (ys[k]?.getD mi0).1 * p ≤ 100000000000) ∧ 0 ≤ (ys[k]?.getD mi0).2 ∧ (ys[k]?.getD mi0).2 ≤ 10000000
theorem nrOk_of {e p : Int} {n : Nat} {ys : List Mi} (hn : ys.length = n) (hok : okM ys = true) (he : ephB e p = true) : nrOk p n ys := by
  obtain ⟨h50, hbd, -⟩ := okM_num hn hok
  obtain ⟨-, p1, p2⟩ := ephB_iff.1 he
  refine ⟨h50, fun k hk => ?_⟩
  obtain ⟨⟨v1, v2⟩, v3, v4⟩ := hbd k hk
  have := cyP_bd v1 v2 p1 p2
  omega
def IdxN (e p m : Int) (ys : List Mi) (w : World) (r : Ending) (w' : World) : Prop := ∃ q : Int, r = .returned (.int .i64 q) ∧ decide (0 ≤ q) = (!allNear e p m ys) ∧ Below w.heap.size w w'
set_option maxRecDepth 100000 in
set_option maxHeartbeats 1000000 in
theorem idxMi_any (a : Option Addr) (n cap : Nat) (e p m : Int) (eb mb : Nat) (ys : List Mi) (w : World) (h : MiL w a n ys) (hok : nrOk p n ys) (h1 : 0 ≤ e) (h2 : e ≤ 10000000)
    (q0 : eb < w.heap.size) (q1 : mb < w.heap.size) (k0 : w.cell? ⟨eb, 0, none⟩ = some (.int .i64 e)) (k1 : w.cell? ⟨eb, 1, none⟩ = some (.int .i64 p)) (k2 : w.cell? ⟨mb, 0, none⟩ = some (.int .i64 m)) :
    Calls Tryd.prog 96 #[.slice a n cap, .func (.func 78) #[] #[.pointer (some ⟨eb, 0, none⟩), .pointer (some ⟨mb, 0, none⟩)]] w (IdxN e p m ys w) := by
  obtain ⟨hn, hbd⟩ := hok
  have HBD := Lib.hid hbd
  have hl : (n : Int) ≤ 50 := by omega
  have HL := Lib.hid h.1
  clear hbd
  go_enter Tryd.func96, Tryd.ntmps96
  go_wp2
  go_loopw [8] (fun i wr => ∃ k : Nat, k ≤ n ∧ i = .int .i64 k ∧ (∀ j, j < k → nearB e p m (ys[j]?.getD mi0) = true) ∧ Below w.heap.size w wr) (fun i _ => n - (Go.RowKit.intOf i).toNat)
  case atStart => exact ⟨0, Nat.zero_le _, rfl, fun j hj => absurd hj (by omega), Below.refl _ _⟩
  case round =>
    obtain ⟨k, hk, rfl, hall, hB⟩ := hrel
    have HALL := Lib.hid hall
    clear hall
    by_cases hlt : k < n
    · obtain ⟨b1, o1, rfl, hc⟩ := h.2 k hlt
      obtain ⟨⟨y0, y1⟩, hy⟩ : ∃ x, ys[k]?.getD mi0 = x := ⟨_, rfl⟩
      have hbx := HBD.out k hlt
      rw [hy] at hc hbx
      simp only at hbx
      obtain ⟨⟨v1, v2⟩, v3, v4⟩ := hbx
      obtain ⟨-, p0, p1'⟩ := (hc.mono hB).parts
      have HY := Lib.hid hy
      have hsz := hB.size
      have t0 := (hB.cell (p := ⟨eb, 0, none⟩) q0).trans k0
      have t1 := (hB.cell (p := ⟨eb, 1, none⟩) q0).trans k1
      have t2 := (hB.cell (p := ⟨mb, 0, none⟩) q1).trans k2
      clear hy hc
      have hkk : (k : Int) < (n : Int) := by omega
      have HFR := farCl_any e p m y0 y1 eb mb wr h1 h2 v1 v2 v3 v4 (by omega) (by omega) t0 t1 t2
      cases hv : nearB e p m (y0, y1)
      · have HD := Lib.hid (allNear_no HL.out hlt HY.out hv)
        go_wp2_with fail
        refine HFR.mono ?_
        rintro e w2 ⟨rfl, b2⟩
        rw [hv]
        have hB2 := belowCall hB b2
        go_wp2
        go_ret
        exact ⟨k, rfl, by rw [HD.out]; simp, hB2⟩
      · have HK := Lib.hid (show ∀ j, j < k + 1 → nearB e p m (ys[j]?.getD mi0) = true from fun j hj => by
          by_cases e : j = k
          · subst e; rw [HY.out]; exact hv
          · exact HALL.out j (by omega))
        go_wp2_with fail
        refine HFR.mono ?_
        rintro e w2 ⟨rfl, b2⟩
        rw [hv]
        have hB2 := belowCall hB b2
        go_wp2
        go_roundw
        case rel => exact ⟨k + 1, by omega, by go_num, HK.out, hB2⟩
        case measure => simp [Go.RowKit.intOf]; omega
    · obtain rfl : k = n := by omega
      have HD := Lib.hid (allNear_yes HL.out HALL.out)
      go_wp2
      go_ret
      exact ⟨-1, rfl, by rw [HD.out]; simp, hB⟩
theorem conMi_any (a : Option Addr) (n cap : Nat) (e p m : Int) (eb mb : Nat) (ys : List Mi) (w : World) (h : MiL w a n ys) (hok : nrOk p n ys) (h1 : 0 ≤ e) (h2 : e ≤ 10000000)
    (q0 : eb < w.heap.size) (q1 : mb < w.heap.size) (k0 : w.cell? ⟨eb, 0, none⟩ = some (.int .i64 e)) (k1 : w.cell? ⟨eb, 1, none⟩ = some (.int .i64 p)) (k2 : w.cell? ⟨mb, 0, none⟩ = some (.int .i64 m)) :
    Calls Tryd.prog 79 #[.slice a n cap, .func (.func 78) #[] #[.pointer (some ⟨eb, 0, none⟩), .pointer (some ⟨mb, 0, none⟩)]] w fun r w' => r = .returned (.bool (!allNear e p m ys)) ∧ Below w.heap.size w w' := by
  have HI := idxMi_any a n cap e p m eb mb ys w h hok h1 h2 q0 q1 k0 k1 k2
  go_enter Tryd.func79, Tryd.ntmps79
  go_wp2_with fail
  refine HI.mono ?_
  rintro e w2 ⟨r, rfl, hr, b2⟩
  have HR := Lib.hid hr
  clear hr
  go_wp2
  go_ret
  exact ⟨by rw [← HR.out]; rfl, b2⟩
set_option maxHeartbeats 1000000 in
theorem areNear_any (a : Option Addr) (n cap : Nat) (e p m : Int) (ys : List Mi) (w : World) (h : MiL w a n ys) (hok : nrOk p n ys) (h1 : 0 ≤ e) (h2 : e ≤ 10000000) :
    Calls Tryd.prog 44 #[.agg #[.int .i64 e, .int .i64 p], .slice a n cap, .int .i64 m] w fun r w' => r = .returned (.bool (allNear e p m ys)) ∧ Below w.heap.size w w' := by
  have e1 : (w.alloc (.cells #[.int .i64 e, .int .i64 p] 27)).heap.size = w.heap.size + 1 := by simp
  have hE := (PtC.fresh w 27 e p).mono ((Below.refl _ _).alloc (Nat.le_refl _) (.cells #[.int .i64 m] 2))
  have hM : (((w.alloc (.cells #[.int .i64 e, .int .i64 p] 27)).alloc (.cells #[.int .i64 m] 2))).cell? ⟨w.heap.size + 1, 0, none⟩ = some (.int .i64 m) := by rw [← e1]; go_keep
  have hz : (((w.alloc (.cells #[.int .i64 e, .int .i64 p] 27)).alloc (.cells #[.int .i64 m] 2))).heap.size = w.heap.size + 1 + 1 := by simp
  have hB : Below w.heap.size w ((w.alloc (.cells #[.int .i64 e, .int .i64 p] 27)).alloc (.cells #[.int .i64 m] 2)) := ((Below.refl w.heap.size w).alloc (Nat.le_refl _) _).alloc (by rw [e1]; omega) _
  have hv := h.mono hB
  obtain ⟨-, k0, k1⟩ := hE.parts
  rw [Nat.zero_add] at k1
  have HCN := conMi_any a n cap e p m w.heap.size (w.heap.size + 1) ys _ hv hok h1 h2 (by omega) (by omega) k0 k1 hM
  go_enter Tryd.func44, Tryd.ntmps44
  go_wp2_with fail
  refine HCN.mono ?_
  rintro e w2 ⟨rfl, b2⟩
  go_wp2
  go_ret
  exact ⟨by simp, belowCall hB b2⟩
end Go.Proofs.YtbjflgohahmjgaaDoor
