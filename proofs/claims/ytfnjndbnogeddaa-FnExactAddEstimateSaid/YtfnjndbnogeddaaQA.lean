/- AddEstimate, both sides. -/
import Derived.Test.YtfnjndbnogeddaaQB
import Derived.Test.YtfnjndbnogeddaaQI
import Derived.Test.YtfnjndbnogeddaaP5
namespace Go.Proofs.Ytfnjndbnogeddaa
open Go.ChangeShapes Go.WideShapes Go.ChangeAt Go.RowKit Go.Deep

def aeC (xs : List Es) (x : Es) : Int := if okE xs then (if esB x then (if fndE xs x < xs.length then 4 else if xs.length < 100 then 0 else 5) else 2) else 1
def aeL (xs : List Es) (x : Es) : List Es := if aeC xs x = 0 then putE xs x else []
theorem ae_1 {xs : List Es} {x : Es} (h : okE xs = false) : aeC xs x = 1 ∧ aeL xs x = [] := by simp [aeL, aeC, h]
theorem ae_2 {xs : List Es} {x : Es} (h : okE xs = true) (h2 : esB x = false) : aeC xs x = 2 ∧ aeL xs x = [] := by simp [aeL, aeC, h, h2]
theorem ae_4 {xs : List Es} {x : Es} {n : Nat} (hn : xs.length = n) (h : okE xs = true) (h2 : esB x = true) (h3 : fndE xs x < n) : aeC xs x = 4 ∧ aeL xs x = [] := by simp [aeL, aeC, h, h2, hn, h3]
theorem ae_5 {xs : List Es} {x : Es} {n : Nat} (hn : xs.length = n) (h : okE xs = true) (h2 : esB x = true) (h3 : ¬ fndE xs x < n) (h4 : ¬ n < 100) : aeC xs x = 5 ∧ aeL xs x = [] := by
  simp only [aeL, aeC, h, h2, hn, h3, h4, if_true, if_false]; simp
theorem ae_0 {xs : List Es} {x : Es} {n : Nat} (hn : xs.length = n) (h : okE xs = true) (h2 : esB x = true) (h3 : ¬ fndE xs x < n) (h4 : n < 100) : aeC xs x = 0 ∧ aeL xs x = putE xs x := by
  simp only [aeL, aeC, h, h2, hn, h3, h4, if_true, if_false]; simp
theorem ae_len {xs : List Es} {x : Es} : (aeL xs x).length ≤ 1048576 := by
  unfold aeL
  split
  · rename_i h
    by_cases h1 : okE xs = true
    · have h100 := (okE_at rfl h1).1
      by_cases h2 : esB x = true
      · by_cases h3 : fndE xs x < xs.length
        · rw [(ae_4 rfl h1 h2 h3).1] at h; omega
        · rw [putE_len (fndE_none h3)]; omega
      · rw [(ae_2 h1 (by simpa using h2)).1] at h; omega
    · rw [(ae_1 (by simpa using h1)).1] at h; omega
  · simp
/-- what the search tells -/
theorem plc_has {xs : List Es} {n k : Nat} {x : Es} (hn : xs.length = n) (h : PlcE xs n x k true) : fndE xs x < n := by
  obtain ⟨-, -, -, h4⟩ := h
  obtain ⟨h5, h6⟩ := h4.1 rfl
  rw [← hn]
  refine fndE_yes (y := xs[k]?.getD es0) ?_ h6
  rw [List.getElem?_eq_getElem (by omega), Option.getD_some]
  exact List.getElem_mem _
theorem plc_none {xs : List Es} {n k : Nat} {x : Es} (hn : xs.length = n) (hr : RiseE xs) (h : PlcE xs n x k false) : ¬ fndE xs x < n := fun hf => by
  obtain ⟨h1, h2, h3, h4⟩ := h
  have he := fndE_has (l := xs) (x := x) (by omega)
  generalize fndE xs x = f at he hf
  by_cases e1 : f < k
  · have := h2 f e1
    rw [esEq_not he] at this; cases this
  · by_cases e2 : f = k
    · subst e2
      have := h4.2 ⟨hf, he⟩
      cases this
    · have h5 := rise_ltE hn hr (i := k) (j := f) (by omega) hf
      rw [esEq_lt' he, h3 k (Nat.le_refl _) (by omega)] at h5; cases h5
theorem plc_put {xs : List Es} {n k : Nat} {x : Es} (hn : xs.length = n) (hr : RiseE xs) (h : PlcE xs n x k false) : putE xs x = xs.take k ++ x :: xs.drop k := by
  have hno := fndE_none (l := xs) (x := x) (by rw [hn]; exact plc_none hn hr h)
  obtain ⟨h1, h2, h3, -⟩ := h
  refine putE_at hn h1 (fun j hj hjn => ?_) h2
  rcases esLt_or x (xs[j]?.getD es0) with h5 | h5 | h5
  · exact h5
  · refine absurd h5.symm (hno _ ?_)
    rw [List.getElem?_eq_getElem (by omega), Option.getD_some]
    exact List.getElem_mem _
  · rw [h3 j hj hjn] at h5; cases h5
theorem heap_new9 (w : World) (o : Obj) : (w.alloc o).heap[w.heap.size]? = some o := by
  show (w.heap.push _)[w.heap.size]? = _
  rw [Array.getElem?_push_size]
theorem own_ne9 {w : World} {B e size n : Nat} {v : Value} {xs : List Value} (h : w.ownsRow B e size v n xs) : v.ownBlock ≠ some w.heap.size := fun e => by
  have := (h.lt _ e).2; omega
theorem own_ne8 {w : World} {B g e size n : Nat} {v : Value} {xs : List Value} (h : w.ownsRow B e size v n xs) (hg : g < B) : v.ownBlock ≠ some g := fun e => by
  have := (h.lt _ e).1; omega
set_option maxRecDepth 100000 in
set_option maxHeartbeats 4000000 in
theorem iAddE_any (yb yo : Nat) (n c : Nat) (xs : List Es) (x0 : Int) (x1 x2 : ByteArray) (x3 : Int) (x4 : Bool) (w : World) (h : EsL w (some ⟨yb, yo, none⟩) n xs) (hn : n ≤ 1048576) :
    Calls Try.prog 11 #[.slice (some ⟨yb, yo, none⟩) n c, .agg #[.int .i64 x0, .string x1, .string x2, .int .i64 x3, .bool x4]] w fun e w' => EsRes w.heap.size (aeL xs (x0, x1, x2, x3, x4)) (.int .i64 (aeC xs (x0, x1, x2, x3, x4))) w' e ∧ Below w.heap.size w w' := by
  have B1 : Below w.heap.size w (w.alloc (.cells #[.int .i64 x0, .string x1, .string x2, .int .i64 x3, .bool x4] 31)) := (Below.refl _ w).alloc (Nat.le_refl _) _
  have hbx := EsC.fresh w 31 x0 x1 x2 x3 x4
  have HL := Lib.hid h.1
  cases hok : okE xs
  · have HD := Lib.hid (ae_1 (x := (x0, x1, x2, x3, x4)) hok)
    go_enter Try.func11, Try.ntmps11
    go_wp2_with fail
    refine (iValidEs_any (some ⟨yb, yo, none⟩) n c xs _ (h.mono B1) hn).mono ?_
    rintro e w2 ⟨rfl, b2⟩
    rw [hok]
    go_wp2
    go_ret2
    exact ⟨by rw [HD.out.1, HD.out.2]; exact EsRes.nil _ _ _, belowCall B1 b2⟩
  have h100 : n ≤ 100 := (okE_at HL.out hok).1
  cases hst : esB (x0, x1, x2, x3, x4)
  · have HD := Lib.hid (ae_2 hok hst)
    go_enter Try.func11, Try.ntmps11
    go_wp2_with fail
    generalize w.alloc (.cells #[.int .i64 x0, .string x1, .string x2, .int .i64 x3, .bool x4] 31) = w1 at hbx B1 ⊢
    refine (iValidEs_any (some ⟨yb, yo, none⟩) n c xs _ (h.mono B1) hn).mono ?_
    rintro e w2 ⟨rfl, b2⟩
    rw [hok]
    obtain ⟨-, k0, k1, k2, k3, k4⟩ := (hbx.mono b2).parts
    rw [Nat.zero_add] at k1 k2 k3 k4
    go_wp2_with fail
    refine (esValid_any _ _ _ _ _ _).mono ?_
    rintro e w3 ⟨rfl, b3⟩
    rw [hst]
    go_wp2
    go_ret2
    exact ⟨by rw [HD.out.1, HD.out.2]; exact EsRes.nil _ _ _, belowCall (belowCall B1 b2) b3⟩
  have HR := Lib.hid (okE_rise hok)
  have HH := Lib.hid (fun k hp => plc_has (k := k) (x := (x0, x1, x2, x3, x4)) HL.out hp)
  have HN := Lib.hid (fun k hp => plc_none (k := k) (x := (x0, x1, x2, x3, x4)) HL.out HR.out hp)
  have HP := Lib.hid (fun k hp => plc_put (k := k) (x := (x0, x1, x2, x3, x4)) HL.out HR.out hp)
  have H4 := Lib.hid (fun hf => ae_4 (x := (x0, x1, x2, x3, x4)) HL.out hok hst hf)
  have H5 := Lib.hid (fun hf hg => ae_5 (x := (x0, x1, x2, x3, x4)) HL.out hok hst hf hg)
  have H0 := Lib.hid (fun hf hg => ae_0 (x := (x0, x1, x2, x3, x4)) HL.out hok hst hf hg)
  go_enter Try.func11, Try.ntmps11
  go_wp2_with fail
  generalize w.alloc (.cells #[.int .i64 x0, .string x1, .string x2, .int .i64 x3, .bool x4] 31) = w1 at hbx B1 ⊢
  refine (iValidEs_any (some ⟨yb, yo, none⟩) n c xs _ (h.mono B1) hn).mono ?_
  rintro e w2 ⟨rfl, b2⟩
  rw [hok]
  have B2 := belowCall B1 b2
  have hbx2 := hbx.mono b2
  obtain ⟨-, k0, k1, k2, k3, k4⟩ := hbx2.parts
  rw [Nat.zero_add] at k1 k2 k3 k4
  go_wp2_with fail
  refine (esValid_any _ _ _ _ _ _).mono ?_
  rintro e w3 ⟨rfl, b3⟩
  rw [hst]
  have B3 := belowCall B2 b3
  have hbx3 := hbx2.mono b3
  clear k0 k1 k2 k3 k4
  obtain ⟨-, k0, k1, k2, k3, k4⟩ := hbx3.parts
  rw [Nat.zero_add] at k1 k2 k3 k4
  go_wp2_with fail
  refine (bsE_any (some ⟨yb, yo, none⟩) n c xs x0 x1 x2 x3 x4 w3 (h.mono B3) h100 HR.out).mono ?_
  rintro e w4 ⟨kp, b, rfl, hplc, b4⟩
  have B4 := belowCall B3 b4
  have hbx4 := hbx3.mono b4
  clear k0 k1 k2 k3 k4
  obtain ⟨hlt4, k0, k1, k2, k3, k4⟩ := hbx4.parts
  rw [Nat.zero_add] at k1 k2 k3 k4
  have hL5 := h.mono B4
  cases b
  case true =>
    have HD := Lib.hid (H4.out (HH.out kp hplc))
    go_wp2
    go_ret2
    exact ⟨by rw [HD.out.1, HD.out.2]; exact EsRes.nil _ _ _, B4⟩
  have hkn : kp ≤ n := hplc.1
  have HNO := Lib.hid (HN.out kp hplc)
  have HPU := Lib.hid (HP.out kp hplc)
  clear hplc hok hst hbx hbx2 hbx3
  by_cases hfull : n < 100
  · have HD := Lib.hid (H0.out HNO.out hfull)
    have hf1 : ((n : Int) == 100) = false := by simp; omega
    have hf2 : ¬ (n : Int) = 100 := by omega
    have mixed : Try.prog.follows .mixedOrders = true := by kernel_rfl
    have hxl := HL.out
    go_wp2_with fail
    go_region_held3 (fun W' => W'.cell? ⟨w.heap.size, 0, none⟩ = some (.int .i64 x0) ∧ W'.cell? ⟨w.heap.size, 1, none⟩ = some (.string x1) ∧ W'.cell? ⟨w.heap.size, 2, none⟩ = some (.string x2) ∧ W'.cell? ⟨w.heap.size, 3, none⟩ = some (.int .i64 x3) ∧ W'.cell? ⟨w.heap.size, 4, none⟩ = some (.bool x4)) (refine ⟨?_, ?_, ?_, ?_, ?_⟩ <;> first | assumption | exact ((show Below w4.heap.size w4 _ by (repeat (first | assumption | exact Below.refl _ _ | refine belowDN ?_ _ | refine Below.drew ?_ | refine Below.setCell ?_ (by first | omega | (simp <;> omega)) _ | refine Below.alloc ?_ (by first | omega | (simp <;> omega)) _ | refine belowCall ?_ (by assumption)))).cell (p := ⟨w.heap.size, 0, none⟩) hlt4).trans k0 | exact ((show Below w4.heap.size w4 _ by (repeat (first | assumption | exact Below.refl _ _ | refine belowDN ?_ _ | refine Below.drew ?_ | refine Below.setCell ?_ (by first | omega | (simp <;> omega)) _ | refine Below.alloc ?_ (by first | omega | (simp <;> omega)) _ | refine belowCall ?_ (by assumption)))).cell (p := ⟨w.heap.size, 1, none⟩) hlt4).trans k1 | exact ((show Below w4.heap.size w4 _ by (repeat (first | assumption | exact Below.refl _ _ | refine belowDN ?_ _ | refine Below.drew ?_ | refine Below.setCell ?_ (by first | omega | (simp <;> omega)) _ | refine Below.alloc ?_ (by first | omega | (simp <;> omega)) _ | refine belowCall ?_ (by assumption)))).cell (p := ⟨w.heap.size, 2, none⟩) hlt4).trans k2 | exact ((show Below w4.heap.size w4 _ by (repeat (first | assumption | exact Below.refl _ _ | refine belowDN ?_ _ | refine Below.drew ?_ | refine Below.setCell ?_ (by first | omega | (simp <;> omega)) _ | refine Below.alloc ?_ (by first | omega | (simp <;> omega)) _ | refine belowCall ?_ (by assumption)))).cell (p := ⟨w.heap.size, 3, none⟩) hlt4).trans k3 | exact ((show Below w4.heap.size w4 _ by (repeat (first | assumption | exact Below.refl _ _ | refine belowDN ?_ _ | refine Below.drew ?_ | refine Below.setCell ?_ (by first | omega | (simp <;> omega)) _ | refine Below.alloc ?_ (by first | omega | (simp <;> omega)) _ | refine belowCall ?_ (by assumption)))).cell (p := ⟨w.heap.size, 4, none⟩) hlt4).trans k4) (first | (go_at_call 35; refine (cloneE_any (some ⟨yb, yo, none⟩) n c xs _ (hL5.mono (by (repeat (first | assumption | exact Below.refl _ _ | refine belowDN ?_ _ | refine Below.drew ?_ | refine Below.setCell ?_ (by first | omega | (simp <;> omega)) _ | refine Below.alloc ?_ (by first | omega | (simp <;> omega)) _ | refine belowCall ?_ (by assumption))))) (by omega)).mono ?_; rintro e wA ⟨vA, rfl, hownA, bA⟩; have bA' : Below w4.heap.size w4 wA := belowCall (by (repeat (first | assumption | exact Below.refl _ _ | refine belowDN ?_ _ | refine Below.drew ?_ | refine Below.setCell ?_ (by first | omega | (simp <;> omega)) _ | refine Below.alloc ?_ (by first | omega | (simp <;> omega)) _ | refine belowCall ?_ (by assumption)))) bA; have zA := bA'.size) | (go_at_call 34; refine (insE_any w4.heap.size n kp vA _ xs x0 x1 x2 x3 x4 _ (by first | exact (ownLow hownA (by first | exact Nat.le_refl _ | (simp; done) | (simp; omega))).alloc _ | exact ownLow hownA (by first | exact Nat.le_refl _ | (simp; done) | (simp; omega))) hxl (by have := bA.size; first | omega | (simp at this ⊢; omega)) h100 hkn (by first | exact heap_new9 _ _ | exact (bA.block _ (by first | (simp; done) | (simp; omega))).trans (heap_new9 _ _)) (by first | exact own_ne9 hownA | exact own_ne8 hownA (by first | (simp; done) | (simp; omega)))).mono ?_; rintro e wB ⟨vB, rfl, hownB, bB⟩; have bB' : Below w4.heap.size w4 wB := (show Below w4.heap.size w4 _ by (repeat (first | assumption | exact Below.refl _ _ | refine belowDN ?_ _ | refine Below.drew ?_ | refine Below.setCell ?_ (by first | omega | (simp <;> omega)) _ | refine Below.alloc ?_ (by first | omega | (simp <;> omega)) _ | refine belowCall ?_ (by assumption)))).trans bB))
    all_goals
      have HO := Lib.hid hownB
      have HB5 := Lib.hid (B4.trans (bB'.mono B4.size))
      clear hownB
      go_wp2
      go_ret2
      exact ⟨by rw [HD.out.1, HD.out.2, HPU.out]; exact EsRes.own (ownLow HO.out B4.size) (by simp; omega), HB5.out⟩
  · have HD := Lib.hid (H5.out HNO.out hfull)
    have hf2 : (n : Int) = 100 := by omega
    go_wp2
    go_ret2
    exact ⟨by rw [HD.out.1, HD.out.2]; exact EsRes.nil _ _ _, B4⟩
set_option maxRecDepth 100000 in
set_option maxHeartbeats 4000000 in
theorem sAddE_any (yb yo : Nat) (n c : Nat) (xs : List Es) (x0 : Int) (x1 x2 : ByteArray) (x3 : Int) (x4 : Bool) (w : World) (h : EsL w (some ⟨yb, yo, none⟩) n xs) (hn : n ≤ 1048576) (hnc : n ≤ c) :
    Calls Try.prog 8 #[.slice (some ⟨yb, yo, none⟩) n c, .agg #[.int .i64 x0, .string x1, .string x2, .int .i64 x3, .bool x4]] w fun e w' => EsRes w.heap.size (aeL xs (x0, x1, x2, x3, x4)) (.int .i64 (aeC xs (x0, x1, x2, x3, x4))) w' e ∧ Below w.heap.size w w' := by
  have B1 : Below w.heap.size w (w.alloc (.cells #[.int .i64 x0, .string x1, .string x2, .int .i64 x3, .bool x4] 31)) := (Below.refl _ w).alloc (Nat.le_refl _) _
  have hbx := EsC.fresh w 31 x0 x1 x2 x3 x4
  have HL := Lib.hid h.1
  cases hok : okE xs
  · have HD := Lib.hid (ae_1 (x := (x0, x1, x2, x3, x4)) hok)
    go_enter Try.func8, Try.ntmps8
    go_wp2_with fail
    refine (l06Ok_below (some ⟨yb, yo, none⟩) n c xs _ (h.mono B1) hn).mono ?_
    rintro e w2 ⟨rfl, b2⟩
    rw [hok]
    go_wp2
    go_ret2
    exact ⟨by rw [HD.out.1, HD.out.2]; exact EsRes.nil _ _ _, belowCall B1 b2⟩
  have h100 : n ≤ 100 := (okE_at HL.out hok).1
  cases hst : esB (x0, x1, x2, x3, x4)
  · have HD := Lib.hid (ae_2 hok hst)
    go_enter Try.func8, Try.ntmps8
    go_wp2_with fail
    generalize w.alloc (.cells #[.int .i64 x0, .string x1, .string x2, .int .i64 x3, .bool x4] 31) = w1 at hbx B1 ⊢
    refine (l06Ok_below (some ⟨yb, yo, none⟩) n c xs _ (h.mono B1) hn).mono ?_
    rintro e w2 ⟨rfl, b2⟩
    rw [hok]
    go_wp2_with fail
    refine (l06One_below _ _ x0 x1 x2 x3 x4 _ (hbx.mono b2)).mono ?_
    rintro e w3 ⟨rfl, b3⟩
    rw [hst]
    go_wp2
    go_ret2
    exact ⟨by rw [HD.out.1, HD.out.2]; exact EsRes.nil _ _ _, belowCall (belowCall B1 b2) b3⟩
  have HR := Lib.hid (okE_rise hok)
  by_cases hf : fndE xs (x0, x1, x2, x3, x4) < n
  · have HD := Lib.hid (ae_4 HL.out hok hst hf)
    have hfv : fndV xs (x0, x1, x2, x3, x4) = .int .i64 (fndE xs (x0, x1, x2, x3, x4) : Nat) := by rw [fndV, HL.out, if_pos hf]
    have hge : (0 : Int) ≤ ((fndE xs (x0, x1, x2, x3, x4) : Nat) : Int) := by omega
    generalize fndE xs (x0, x1, x2, x3, x4) = fk at hfv hge
    have HFV := Lib.hid hfv
    clear hfv
    go_enter Try.func8, Try.ntmps8
    go_wp2_with fail
    generalize w.alloc (.cells #[.int .i64 x0, .string x1, .string x2, .int .i64 x3, .bool x4] 31) = w1 at hbx B1 ⊢
    refine (l06Ok_below (some ⟨yb, yo, none⟩) n c xs _ (h.mono B1) hn).mono ?_
    rintro e w2 ⟨rfl, b2⟩
    rw [hok]
    go_wp2_with fail
    refine (l06One_below _ _ x0 x1 x2 x3 x4 _ (hbx.mono b2)).mono ?_
    rintro e w3 ⟨rfl, b3⟩
    rw [hst]
    have B3 := belowCall (belowCall B1 b2) b3
    go_wp2_with fail
    refine (l06Find_any (some ⟨yb, yo, none⟩) n c _ _ xs x0 x1 x2 x3 x4 w3 (h.mono B3) ((hbx.mono b2).mono b3) hn).mono ?_
    rintro e w4 ⟨rfl, m4, rfl⟩
    rw [HFV.out]
    go_wp2
    go_ret2
    exact ⟨by rw [HD.out.1, HD.out.2]; exact EsRes.nil _ _ _, belowDN B3 _⟩
  have hfv : fndV xs (x0, x1, x2, x3, x4) = .int .i64 (-1) := by rw [fndV, HL.out, if_neg hf]
  have HFV := Lib.hid hfv
  have HNO := Lib.hid (fndE_none (l := xs) (x := (x0, x1, x2, x3, x4)) (by rw [HL.out]; exact hf))
  have H5 := Lib.hid (fun hg => ae_5 (x := (x0, x1, x2, x3, x4)) HL.out hok hst hf hg)
  have H0 := Lib.hid (fun hg => ae_0 (x := (x0, x1, x2, x3, x4)) HL.out hok hst hf hg)
  clear hfv hf
  go_enter Try.func8, Try.ntmps8
  go_wp2_with fail
  generalize w.alloc (.cells #[.int .i64 x0, .string x1, .string x2, .int .i64 x3, .bool x4] 31) = w1 at hbx B1 ⊢
  refine (l06Ok_below (some ⟨yb, yo, none⟩) n c xs _ (h.mono B1) hn).mono ?_
  rintro e w2 ⟨rfl, b2⟩
  rw [hok]
  go_wp2_with fail
  refine (l06One_below _ _ x0 x1 x2 x3 x4 _ (hbx.mono b2)).mono ?_
  rintro e w3 ⟨rfl, b3⟩
  rw [hst]
  have B3 := belowCall (belowCall B1 b2) b3
  have hbx3 := (hbx.mono b2).mono b3
  go_wp2_with fail
  refine (l06Find_any (some ⟨yb, yo, none⟩) n c _ _ xs x0 x1 x2 x3 x4 w3 (h.mono B3) hbx3 hn).mono ?_
  rintro e w4' ⟨rfl, m4, rfl⟩
  rw [HFV.out]
  have B4 : Below w.heap.size w (w3.drewN m4) := belowDN B3 _
  have hbx4 : EsC (w3.drewN m4) w.heap.size 0 (x0, x1, x2, x3, x4) := hbx3.mono (belowDN (Below.refl _ _) _)
  generalize w3.drewN m4 = w4 at B4 hbx4 ⊢
  obtain ⟨hlt4, k0, k1, k2, k3, k4⟩ := hbx4.parts
  rw [Nat.zero_add] at k1 k2 k3 k4
  clear hok hst
  by_cases hfull : n < 100
  · have HD := Lib.hid (H0.out hfull)
    have hf1 : ¬ (100 : Int) ≤ (n : Int) := by omega
    go_wp2_with fail
    · refine (l06Put_any yb yo n c xs x0 x1 x2 x3 x4 w4 (h.mono B4) hn hnc HR.out HNO.out).mono ?_
      rintro e w5 ⟨v, rfl, -, hown, b5⟩
      have HO := Lib.hid hown
      have HLN := Lib.hid (putE_len HNO.out)
      clear hown
      go_wp2
      go_ret2
      exact ⟨by rw [HD.out.1, HD.out.2]; exact EsRes.own (by rw [← HL.out] at HO; exact ownLow HO.out B4.size) (by rw [HLN.out, HL.out]), belowCall B4 b5⟩
  · have HD := Lib.hid (H5.out hfull)
    have hf1 : (100 : Int) ≤ (n : Int) := by omega
    go_wp2
    go_ret2
    exact ⟨by rw [HD.out.1, HD.out.2]; exact EsRes.nil _ _ _, B4⟩
end Go.Proofs.Ytfnjndbnogeddaa
