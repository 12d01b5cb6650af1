/- Contradictions in plain lists; the small functions of both sides. -/
import Derived.Test.YtfabpcdeppfmdabE3
import Derived.Test.YtfabpcdeppfmdabGQ
namespace Go.Proofs.Ytfabpcdeppfmdab
open Go.ChangeShapes Go.WideShapes Go.ChangeAt Go.RowKit Go.Deep

def absI (n : Int) : Int := (n.natAbs : Nat)
/-- two estimates contradict each other -/
def agnB (b : Int) (x y : Es) : Bool := if x.2.2.2.2 && y.2.2.2.2 then false else if x.2.2.2.2 then decide (y.2.2.2.1 + b < x.2.2.2.1) else if y.2.2.2.2 then decide (x.2.2.2.1 + b < y.2.2.2.1) else decide (b < absI (x.2.2.2.1 - y.2.2.2.1))
def brB (b : Int) (x y : Es) : Bool := !x.2.2.2.2 && decide (x.2.2.2.1 + b < y.2.2.2.1)
theorem agn_br {b : Int} (hb : 0 ≤ b) (x y : Es) : (brB b y x || brB b x y) = agnB b x y := by
  obtain ⟨x0, x1, x2, x3, x4⟩ := x
  obtain ⟨y0, y1, y2, y3, y4⟩ := y
  cases x4 <;> cases y4 <;> simp only [agnB, brB, Bool.not_false, Bool.not_true, Bool.true_and, Bool.false_and, Bool.and_true, Bool.and_false, Bool.or_false, Bool.false_or, Bool.false_eq_true, if_false, if_true]
  rw [← Bool.decide_or]
  apply decide_eq_decide.2
  unfold absI
  omega
/-- the estimate y, later in the list, contradicts x -/
def conB (ap b : Int) (x y : Es) : Bool := (x.2.1.toList == y.2.1.toList) && (decide (y.1 - x.1 ≤ ap) && agnB b x y)
def cnR (xs : List Es) (ap b : Int) (i k : Nat) : List (Int × Int) := ((List.range k).filter fun j => decide (i < j) && conB ap b (xs[i]?.getD es0) (xs[j]?.getD es0)).map fun j : Nat => ((i : Int), (j : Int))
def cnP (xs : List Es) (ap b : Int) (n i : Nat) : List (Int × Int) := (List.range i).flatMap fun i' => cnR xs ap b i' n
theorem cnR_none {xs : List Es} {ap b : Int} {i k : Nat} (hk : k ≤ i + 1) : cnR xs ap b i k = [] := by
  rw [cnR, List.filter_eq_nil_iff.2 (fun j hj => by have := List.mem_range.1 hj; simp; omega)]
  rfl
theorem cnR_yes {xs : List Es} {ap b : Int} {i k : Nat} {x y : Es} (hik : i < k) (hx : xs[i]?.getD es0 = x) (hy : xs[k]?.getD es0 = y) (h : conB ap b x y = true) : cnR xs ap b i (k + 1) = cnR xs ap b i k ++ [((i : Int), (k : Int))] := by
  unfold cnR
  rw [List.range_succ, List.filter_append, List.map_append]
  simp [hik, hx, hy, h]
theorem cnR_no {xs : List Es} {ap b : Int} {i k : Nat} {x y : Es} (hx : xs[i]?.getD es0 = x) (hy : xs[k]?.getD es0 = y) (h : conB ap b x y = false) : cnR xs ap b i (k + 1) = cnR xs ap b i k := by
  unfold cnR
  rw [List.range_succ, List.filter_append, List.map_append]
  simp [hx, hy, h]
theorem cnP_step (xs : List Es) (ap b : Int) (n i : Nat) : cnP xs ap b n (i + 1) = cnP xs ap b n i ++ cnR xs ap b i n := by
  unfold cnP
  rw [List.range_succ, List.flatMap_append]
  simp
theorem cnR_len (xs : List Es) (ap b : Int) (i k : Nat) : (cnR xs ap b i k).length ≤ k := by
  unfold cnR
  rw [List.length_map]
  have := List.length_filter_le (fun j => decide (i < j) && conB ap b (xs[i]?.getD es0) (xs[j]?.getD es0)) (List.range k)
  simpa using this
theorem cnP_len (xs : List Es) (ap b : Int) (n : Nat) : ∀ i, (cnP xs ap b n i).length ≤ i * n
  | 0 => by simp [cnP]
  | i + 1 => by
    have ih := cnP_len xs ap b n i
    have h := cnR_len xs ap b i n
    rw [cnP_step, List.length_append, Nat.add_mul, Nat.one_mul]
    omega
def cnC (xs : List Es) (ap b : Int) : Int := if okE xs then (if inB ap 0 100000 && inB b 1 20000 then 0 else 2) else 1
def cnL (xs : List Es) (ap b : Int) : List (Int × Int) := if cnC xs ap b = 0 then cnP xs ap b xs.length xs.length else []
theorem cn_1 {xs : List Es} {ap b : Int} (h : okE xs = false) : cnC xs ap b = 1 ∧ cnL xs ap b = [] := by simp [cnL, cnC, h]
theorem cn_2 {xs : List Es} {ap b : Int} (h : okE xs = true) (h2 : (inB ap 0 100000 && inB b 1 20000) = false) : cnC xs ap b = 2 ∧ cnL xs ap b = [] := by simp [cnL, cnC, h, h2]
theorem cn_0 {xs : List Es} {ap b : Int} (h : okE xs = true) (h2 : (inB ap 0 100000 && inB b 1 20000) = true) : cnC xs ap b = 0 ∧ cnL xs ap b = cnP xs ap b xs.length xs.length := by simp [cnL, cnC, h, h2]
theorem cnL_len (xs : List Es) (ap b : Int) : (cnL xs ap b).length ≤ 1048576 := by
  unfold cnL
  split
  · rename_i h
    have hok : okE xs = true := by
      cases hh : okE xs
      · rw [(cn_1 hh).1] at h; omega
      · rfl
    have h1 := (okE_at rfl hok).1
    have h2 := cnP_len xs ap b xs.length xs.length
    have h3 : xs.length * xs.length ≤ 100 * 100 := Nat.mul_le_mul h1 h1
    omega
  · simp
/-- the bounds of a valid list's elements -/
theorem okE_bd {xs : List Es} {n k : Nat} {x0 : Int} {x1 x2 : ByteArray} {x3 : Int} {x4 : Bool} (hn : xs.length = n) (h : okE xs = true) (hk : k < n) (hx : xs[k]?.getD es0 = (x0, x1, x2, x3, x4)) : (0 ≤ x0 ∧ x0 ≤ 10000000) ∧ -2000 ≤ x3 ∧ x3 ≤ 20000 := by
  have h1 := (okE_at hn h).2 k hk
  simp only [okAtE, hx, Bool.and_eq_true] at h1
  have h2 := h1.1
  simp only [esB, tmB, Bool.and_eq_true] at h2
  exact ⟨inB_iff.1 h2.1, magB_iff.1 h2.2.2.2⟩
set_option maxHeartbeats 1000000 in
theorem l06Against_any (b o b' o' : Nat) (x0 : Int) (x1 x2 : ByteArray) (x3 : Int) (x4 : Bool) (y0 : Int) (y1 y2 : ByteArray) (y3 : Int) (y4 : Bool) (by' : Int) (w : World) (hS : EsC w b o (x0, x1, x2, x3, x4)) (hT : EsC w b' o' (y0, y1, y2, y3, y4)) (hx1 : -2000 ≤ x3) (hx2 : x3 ≤ 20000) (hy1 : -2000 ≤ y3) (hy2 : y3 ≤ 20000) (hb1 : 1 ≤ by') (hb2 : by' ≤ 20000) :
    Calls Try.prog 51 #[.pointer (some ⟨b, o, none⟩), .pointer (some ⟨b', o', none⟩), .int .i64 by'] w fun e w' => e = .returned (.bool (agnB by' (x0, x1, x2, x3, x4) (y0, y1, y2, y3, y4))) ∧ ∃ m, w' = w.drewN m := by
  obtain ⟨hlt, c0, c1, c2, c3, c4⟩ := hS.parts
  obtain ⟨hlt', d0, d1, d2, d3, d4⟩ := hT.parts
  clear hS hT
  cases x4 <;> cases y4
  · have HV : Hid (agnB by' (x0, x1, x2, x3, false) (y0, y1, y2, y3, false) = decide (by' < absI (x3 - y3))) := Lib.hid rfl
    have hSz : ∀ W, Calls Try.prog 90 #[.int .i64 (x3 - y3)] W fun e w' => e = .returned (.int .i64 (absI (x3 - y3))) ∧ w' = W := fun W => (l02Size_any (x3 - y3) W (by omega) (by omega)).mono fun _ _ h => ⟨h.1, h.2.symm⟩
    generalize absI (x3 - y3) = r at HV hSz
    go_enter Try.func51, Try.ntmps51
    go_wp2
    go_big_quiet ((go_at_call 90; refine Calls.quiet_of_same (hSz _)))
    go_wp2
    go_ret
    exact ⟨by rw [HV.out]; rfl, _, rfl⟩
  · have HV : Hid (agnB by' (x0, x1, x2, x3, false) (y0, y1, y2, y3, true) = decide (x3 + by' < y3)) := Lib.hid rfl
    go_enter Try.func51, Try.ntmps51
    go_wp2
    go_big_quiet (fail)
    go_wp2
    go_ret
    exact ⟨by rw [HV.out]; rfl, _, rfl⟩
  · have HV : Hid (agnB by' (x0, x1, x2, x3, true) (y0, y1, y2, y3, false) = decide (y3 + by' < x3)) := Lib.hid rfl
    go_enter Try.func51, Try.ntmps51
    go_wp2
    go_big_quiet (fail)
    go_wp2
    go_ret
    exact ⟨by rw [HV.out]; rfl, _, rfl⟩
  · have HV : Hid (agnB by' (x0, x1, x2, x3, true) (y0, y1, y2, y3, true) = false) := Lib.hid rfl
    go_enter Try.func51, Try.ntmps51
    go_wp2
    go_ret
    exact ⟨by rw [HV.out]; rfl, 0, rfl⟩
theorem l06Against_q (b o b' o' : Nat) (x0 : Int) (x1 x2 : ByteArray) (x3 : Int) (x4 : Bool) (y0 : Int) (y1 y2 : ByteArray) (y3 : Int) (y4 : Bool) (by' : Int) (w : World) (t : Bool) (q n : Nat) (hS : EsC w b o (x0, x1, x2, x3, x4)) (hT : EsC w b' o' (y0, y1, y2, y3, y4)) (hx1 : -2000 ≤ x3) (hx2 : x3 ≤ 20000) (hy1 : -2000 ≤ y3) (hy2 : y3 ≤ 20000) (hb1 : 1 ≤ by') (hb2 : by' ≤ 20000) (hv : agnB by' (x0, x1, x2, x3, x4) (y0, y1, y2, y3, y4) = t) :
    Calls Try.prog 51 #[.pointer (some ⟨b, o, none⟩), .pointer (some ⟨b', o', none⟩), .int .i64 by'] (w.drewN (q + n)) fun e w' => e = .returned (.bool t) ∧ ∃ m, w' = w.drewN (q + m) :=
  (l06Against_any b o b' o' x0 x1 x2 x3 x4 y0 y1 y2 y3 y4 by' (w.drewN (q + n)) (hS.mono (belowDN (Below.refl _ _) _)) (hT.mono (belowDN (Below.refl _ _) _)) hx1 hx2 hy1 hy2 hb1 hb2).mono fun _ _ ⟨h1, m, h2⟩ => ⟨by rw [h1, hv], n + m, by rw [h2, World.drewN_drewN, Nat.add_assoc]⟩
set_option maxHeartbeats 1000000 in
theorem seenB_any (x0 : Int) (x1 x2 : ByteArray) (x3 : Int) (x4 : Bool) (y0 : Int) (y1 y2 : ByteArray) (y3 : Int) (y4 : Bool) (by' : Int) (t : Bool) (w : World) (hx1 : -2000 ≤ x3) (hx2 : x3 ≤ 20000) (hb1 : 1 ≤ by') (hb2 : by' ≤ 20000) (ht : brB by' (x0, x1, x2, x3, x4) (y0, y1, y2, y3, y4) = t) :
    Calls Try.prog 96 #[.agg #[.int .i64 x0, .string x1, .string x2, .int .i64 x3, .bool x4], .agg #[.int .i64 y0, .string y1, .string y2, .int .i64 y3, .bool y4], .int .i64 by'] w fun e w' => e = .returned (.bool t) ∧ Below w.heap.size w w' := by
  subst ht
  cases x4
  · have HV : Hid (brB by' (x0, x1, x2, x3, false) (y0, y1, y2, y3, y4) = decide (x3 + by' < y3)) := Lib.hid (by simp [brB])
    go_enter Try.func96, Try.ntmps96
    go_wp2
    go_ret
    exact ⟨by rw [HV.out]; rfl, by (repeat (first | assumption | exact Below.refl _ _ | refine belowDN ?_ _ | refine Below.drew ?_ | refine Below.setCell ?_ (by first | omega | (simp <;> omega)) _ | refine Below.alloc ?_ (by first | omega | (simp <;> omega)) _ | refine belowCall ?_ (by assumption)))⟩
  · have HV : Hid (brB by' (x0, x1, x2, x3, true) (y0, y1, y2, y3, y4) = false) := Lib.hid (by simp [brB])
    go_enter Try.func96, Try.ntmps96
    go_wp2
    go_ret
    exact ⟨by rw [HV.out]; rfl, by (repeat (first | assumption | exact Below.refl _ _ | refine belowDN ?_ _ | refine Below.drew ?_ | refine Below.setCell ?_ (by first | omega | (simp <;> omega)) _ | refine Below.alloc ?_ (by first | omega | (simp <;> omega)) _ | refine belowCall ?_ (by assumption)))⟩
set_option maxHeartbeats 1000000 in
theorem contra_any (x0 : Int) (x1 x2 : ByteArray) (x3 : Int) (x4 : Bool) (y0 : Int) (y1 y2 : ByteArray) (y3 : Int) (y4 : Bool) (by' : Int) (w : World) (hx1 : -2000 ≤ x3) (hx2 : x3 ≤ 20000) (hy1 : -2000 ≤ y3) (hy2 : y3 ≤ 20000) (hb1 : 1 ≤ by') (hb2 : by' ≤ 20000) :
    Calls Try.prog 55 #[.agg #[.int .i64 y0, .string y1, .string y2, .int .i64 y3, .bool y4], .agg #[.int .i64 x0, .string x1, .string x2, .int .i64 x3, .bool x4], .int .i64 by'] w fun e w' => e = .returned (.bool (agnB by' (x0, x1, x2, x3, x4) (y0, y1, y2, y3, y4))) ∧ Below w.heap.size w w' := by
  have HA := Lib.hid (agn_br (b := by') (by omega) (x0, x1, x2, x3, x4) (y0, y1, y2, y3, y4))
  have k1 : EsC ((w.alloc (.cells #[.int .i64 y0, .string y1, .string y2, .int .i64 y3, .bool y4] 41)).alloc (.cells #[.int .i64 x0, .string x1, .string x2, .int .i64 x3, .bool x4] 41)) w.heap.size 0 (y0, y1, y2, y3, y4) := EsC.fresh2 _ _ _ _ _ _ _ _
  have k2 : EsC ((w.alloc (.cells #[.int .i64 y0, .string y1, .string y2, .int .i64 y3, .bool y4] 41)).alloc (.cells #[.int .i64 x0, .string x1, .string x2, .int .i64 x3, .bool x4] 41)) (w.heap.size + 1) 0 (x0, x1, x2, x3, x4) := by
    have h := EsC.fresh (w.alloc (.cells #[.int .i64 y0, .string y1, .string y2, .int .i64 y3, .bool y4] 41)) 41 x0 x1 x2 x3 x4
    rw [World.size_alloc] at h
    exact h
  have B1 : Below w.heap.size w ((w.alloc (.cells #[.int .i64 y0, .string y1, .string y2, .int .i64 y3, .bool y4] 41)).alloc (.cells #[.int .i64 x0, .string x1, .string x2, .int .i64 x3, .bool x4] 41)) := by (repeat (first | assumption | exact Below.refl _ _ | refine belowDN ?_ _ | refine Below.drew ?_ | refine Below.setCell ?_ (by first | omega | (simp <;> omega)) _ | refine Below.alloc ?_ (by first | omega | (simp <;> omega)) _ | refine belowCall ?_ (by assumption)))
  cases h1 : brB by' (y0, y1, y2, y3, y4) (x0, x1, x2, x3, x4) <;> cases h2 : brB by' (x0, x1, x2, x3, x4) (y0, y1, y2, y3, y4)
  all_goals
    have HV : Hid (agnB by' (x0, x1, x2, x3, x4) (y0, y1, y2, y3, y4) = _) := Lib.hid (by rw [← HA.out, h1, h2])
    go_enter Try.func55, Try.ntmps55
    go_wp2_with fail
    generalize ((w.alloc (.cells #[.int .i64 y0, .string y1, .string y2, .int .i64 y3, .bool y4] 41)).alloc (.cells #[.int .i64 x0, .string x1, .string x2, .int .i64 x3, .bool x4] 41)) = w1 at k1 k2 B1 ⊢
    refine (seenB_any y0 y1 y2 y3 y4 x0 x1 x2 x3 x4 by' _ w1 hy1 hy2 hb1 hb2 h1).mono ?_
    rintro e w2 ⟨rfl, b2⟩
    obtain ⟨-, p0, p1, p2, p3, p4⟩ := (k1.mono b2).parts
    obtain ⟨-, q0, q1, q2, q3, q4⟩ := (k2.mono b2).parts
    rw [Nat.zero_add] at p1 p2 p3 p4 q1 q2 q3 q4
    go_wp2_with (go_at_call 96; refine (seenB_any x0 x1 x2 x3 x4 y0 y1 y2 y3 y4 by' _ w2 hx1 hx2 hb1 hb2 h2).mono ?_; rintro e w3 ⟨rfl, b3⟩)
    go_ret
    first
      | exact ⟨by rw [HV.out]; rfl, belowCall B1 b2⟩
      | exact ⟨by rw [HV.out]; rfl, belowCall (belowCall B1 b2) b3⟩
theorem QI_info : (Try.prog.info? 39).map (fun i => (i.zero, i.size, i.bytes)) = some (some (.slice none 0 0), 1, 24) := by kernel_rfl
theorem two_news (W : World) (a b : Int) (T1 T2 : TypeId) {w1 : World} (hw : w1 = (W.alloc (.cells #[.int .i64 a, .int .i64 b] T1)).alloc (.cells #[.slice (some ⟨W.heap.size, 0, none⟩) 2 2] T2)) :
    w1.heap[W.heap.size]? = some (.cells #[.int .i64 a, .int .i64 b] T1) ∧ (∀ j u, [Value.slice (some ⟨W.heap.size, 0, none⟩) 2 2][j]? = some u → w1.cell? ((⟨W.heap.size + 1, 0, none⟩ : Addr).add j) = some u) ∧ Below W.heap.size W w1 ∧ w1.heap.size = W.heap.size + 1 + 1 := by
  subst hw
  have hB : Below W.heap.size W ((W.alloc (.cells #[.int .i64 a, .int .i64 b] T1)).alloc (.cells #[.slice (some ⟨W.heap.size, 0, none⟩) 2 2] T2)) := by (repeat (first | assumption | exact Below.refl _ _ | refine belowDN ?_ _ | refine Below.drew ?_ | refine Below.setCell ?_ (by first | omega | (simp <;> omega)) _ | refine Below.alloc ?_ (by first | omega | (simp <;> omega)) _ | refine belowCall ?_ (by assumption)))
  refine ⟨?_, fun j u hj => ?_, hB, by simp⟩
  · rw [(Below.alloc (Below.refl (W.alloc (.cells #[.int .i64 a, .int .i64 b] T1)).heap.size _) (Nat.le_refl _) _).block _ (by simp)]
    exact World.alloc_heap_new W _
  · match j, hj with
    | 0, hj =>
      cases hj
      rw [Go.WideShapes.add_plain]
      have h := World.cell?_alloc_new (W.alloc (.cells #[.int .i64 a, .int .i64 b] T1)) #[.slice (some ⟨W.heap.size, 0, none⟩) 2 2] T2 0
      rw [World.size_alloc] at h
      exact h
    | j + 1, hj => simp at hj
end Go.Proofs.Ytfabpcdeppfmdab
