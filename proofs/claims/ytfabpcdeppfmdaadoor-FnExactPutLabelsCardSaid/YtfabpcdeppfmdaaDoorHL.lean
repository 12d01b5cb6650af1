/- Labels: their texts and their boxes, both sides; the table of directions. -/
import Derived.Test.YtfabpcdeppfmdaaDoorH7
import Derived.Test.YtfabpcdeppfmdaaDoorD2
import Derived.Test.YtfabpcdeppfmdaaDoorD3
import Derived.LaidSub
namespace Go.Proofs.YtfabpcdeppfmdaaDoor
open Go.ChangeShapes Go.WideShapes Go.ChangeAt Go.RowKit Go.Deep

theorem pow_laid {W : World} (h : laidMetH Tryd.prog [("internal/strconv.uint64pow10", Lib.tabData .u64 Lib.pow10Tab)] W) : Pow W :=
  Lib.tabIs_of_head (rest := []) pow_global pow_type Tryd.underlying114 Tryd.underlying87 (by kernel_rfl) (by kernel_rfl) h
/-- the label of a magnitude -/
def labB (m : Int) : ByteArray := ⟨(Lib.itoa (rnd m 100)).toArray⟩
theorem labB_len {m : Int} (h1 : -2000 ≤ m) (h2 : m ≤ 20000) : (labB m).size ≤ 20 := by
  have hr : -20 ≤ rnd m 100 ∧ rnd m 100 ≤ 201 := by unfold rnd; omega
  have := itoa_len (rnd m 100) (by omega) (by omega)
  show (Lib.itoa (rnd m 100)).toArray.size ≤ 20
  simpa using this
def labS (m : Int) : ByteArray := if magB m then labB m else ⟨#[]⟩
theorem labS_yes {m : Int} (h : magB m = true) : labS m = labB m := by simp [labS, h]
theorem labS_no {m : Int} (h : magB m = false) : labS m = ⟨#[]⟩ := by simp [labS, h]
theorem sLabel_any (m : Int) (w : World) (h1 : -2000 ≤ m) (h2 : m ≤ 20000) :
    Calls Tryd.prog 62 #[.int .i64 m] w fun e w' => e = .returned (.string (labB m)) ∧ Below w.heap.size w w' := by
  have hr : -20 ≤ rnd m 100 ∧ rnd m 100 ≤ 201 := by unfold rnd; omega
  have HB : Hid ((⟨(Lib.itoa (rnd m 100)).toArray⟩ : ByteArray) = labB m) := Lib.hid rfl
  go_enter Tryd.func62, Tryd.ntmps62
  go_wp2_with (go_at_call 79; refine (l02Round_any _ _ _ (by omega) (by omega) (by omega) (by omega)).mono ?_; rintro e w' ⟨rfl, rfl⟩)
  refine (l01Dec_any (rnd m 100) _ (by omega) (by omega)).mono ?_
  rintro e w2 ⟨rfl, b2⟩
  rw [HB.out]
  go_wp2
  go_ret
  exact ⟨rfl, b2⟩
theorem sLabelOf_any (m : Int) (w : World) :
    Calls Tryd.prog 22 #[.int .i64 m] w fun e w' => e = .returned (.string (labS m)) ∧ Below w.heap.size w w' := by
  cases hm : magB m
  · have HV := Lib.hid (labS_no hm)
    go_enter Tryd.func22, Tryd.ntmps22
    go_wp2_with (go_at_call 61; refine (l02Mag_any _ _).mono ?_; rintro e w' ⟨rfl, rfl⟩)
    go_ret
    exact ⟨by rw [HV.out]; rfl, Below.refl _ _⟩
  · have HV := Lib.hid (labS_yes hm)
    obtain ⟨h1, h2⟩ := magB_iff.1 hm
    go_enter Tryd.func22, Tryd.ntmps22
    go_wp2_with (first | (go_at_call 61; refine (l02Mag_any _ _).mono ?_; rintro e w' ⟨rfl, rfl⟩) | (go_at_call 62; refine (sLabel_any m _ h1 h2).mono ?_; rintro e w2 ⟨rfl, b2⟩))
    go_ret
    exact ⟨by rw [HV.out]; rfl, b2⟩
theorem iLabelOf_any (m : Int) (w : World) (hp : Pow w) :
    Calls Tryd.prog 21 #[.int .i64 m] w fun e w' => e = .returned (.string (labS m)) ∧ Below w.heap.size w w' := by
  cases hm : magB m
  · have HV := Lib.hid (labS_no hm)
    go_enter Tryd.func21, Tryd.ntmps21
    go_wp2_with (go_at_call 58; refine (iValidMag_any _ _).mono ?_; rintro e w' ⟨rfl, rfl⟩)
    go_ret
    exact ⟨by rw [HV.out]; rfl, Below.refl _ _⟩
  · have HV := Lib.hid (labS_yes hm)
    obtain ⟨h1, h2⟩ := magB_iff.1 hm
    have hr : -20 ≤ rnd m 100 ∧ rnd m 100 ≤ 201 := by unfold rnd; omega
    have HB : Hid ((⟨(Lib.itoa (rnd m 100)).toArray⟩ : ByteArray) = labB m) := Lib.hid rfl
    go_enter Tryd.func21, Tryd.ntmps21
    go_wp2_with (go_at_call 58; refine (iValidMag_any _ _).mono ?_; rintro e w' ⟨rfl, rfl⟩)
    refine (nearest_any m 100 _ (by omega) (by omega) (by omega) (by omega)).mono ?_
    rintro e w2 ⟨rfl, b2⟩
    go_wp2_with fail
    refine (iDecimal_any (rnd m 100) w2 (by omega) (by omega) (hp.mono b2)).mono ?_
    rintro e w3 ⟨rfl, b3⟩
    rw [HB.out]
    go_wp2
    go_ret
    exact ⟨by rw [HV.out]; rfl, belowCall b2 b3⟩
/-- the box of a mark's label on a side -/
def bxQ (x : Mk) (s : Int) : Q4 :=
  if s = 0 then (x.1 + 4, x.2.1 - 4, x.1 + 4 + 6 * ((labB x.2.2).size : Int), x.2.1 + 4)
  else if s = 1 then (x.1 - 4 - 6 * ((labB x.2.2).size : Int), x.2.1 - 4, x.1 - 4, x.2.1 + 4)
  else if s = 2 then (x.1 - 3 * ((labB x.2.2).size : Int), x.2.1 + 4, x.1 + 3 * ((labB x.2.2).size : Int), x.2.1 + 12)
  else (x.1 - 3 * ((labB x.2.2).size : Int), x.2.1 - 12, x.1 + 3 * ((labB x.2.2).size : Int), x.2.1 - 4)
theorem bx_0 (x0 x1 x2 : Int) : bxQ (x0, x1, x2) 0 = (x0 + 4, x1 - 4, x0 + 4 + 6 * ((labB x2).size : Int), x1 + 4) := rfl
theorem bx_1 (x0 x1 x2 : Int) : bxQ (x0, x1, x2) 1 = (x0 - 4 - 6 * ((labB x2).size : Int), x1 - 4, x0 - 4, x1 + 4) := rfl
theorem bx_2 (x0 x1 x2 : Int) : bxQ (x0, x1, x2) 2 = (x0 - 3 * ((labB x2).size : Int), x1 + 4, x0 + 3 * ((labB x2).size : Int), x1 + 12) := rfl
theorem bx_3 (x0 x1 x2 : Int) : bxQ (x0, x1, x2) 3 = (x0 - 3 * ((labB x2).size : Int), x1 - 12, x0 + 3 * ((labB x2).size : Int), x1 - 4) := rfl
set_option maxRecDepth 100000 in
set_option maxHeartbeats 2000000 in
theorem l07Box_any (x0 x1 x2 s : Int) (w : World) (hv : mrkB (x0, x1, x2) = true) (h0 : 0 ≤ s) (h3 : s ≤ 3) :
    Calls Tryd.prog 51 #[.agg #[.int .i64 x0, .int .i64 x1, .int .i64 x2], .int .i64 s] w fun e w' => ∃ g, e = .returned (.slice (some ⟨g, 0, none⟩) 4 4) ∧ w'.ownsRow w.heap.size 2 1 (.slice (some ⟨g, 0, none⟩) 4 4) 4 ((q4L (bxQ (x0, x1, x2) s)).map (Value.int .i64)) ∧ Below w.heap.size w w' := by
  obtain ⟨⟨m1, m2⟩, ⟨m3, m4⟩, m5, m6⟩ := mrkB_bd hv
  have hS := labB_len m5 m6
  have e0 := bx_0 x0 x1 x2
  have e1 := bx_1 x0 x1 x2
  have e2 := bx_2 x0 x1 x2
  have e3 := bx_3 x0 x1 x2
  have E0 := Lib.hid e0
  have E1 := Lib.hid e1
  have E2 := Lib.hid e2
  have E3 := Lib.hid e3
  clear e0 e1 e2 e3 hv
  have hbx := MkC.fresh w 35 x0 x1 x2
  have hb1 : Below w.heap.size w (w.alloc (.cells #[.int .i64 x0, .int .i64 x1, .int .i64 x2] 35)) := (Below.refl _ w).alloc (Nat.le_refl _) _
  go_enter Tryd.func51, Tryd.ntmps51
  go_wp2_with fail
  refine (sLabel_any x2 _ m5 m6).mono ?_
  rintro e w2 ⟨rfl, b2⟩
  obtain ⟨-, k0, k1, k2⟩ := (hbx.mono b2).parts
  rw [Nat.zero_add] at k1 k2
  have hb2 := belowCall hb1 b2
  have z2 := hb2.size
  clear hbx hb1 b2
  generalize labB x2 = S at hS E0 E1 E2 E3 ⊢
  have hq : (6 * (S.size : Int)).tdiv 2 = 3 * (S.size : Int) := by rw [Int.tdiv_eq_ediv_of_nonneg (by omega)]; omega
  have hs : s = 0 ∨ s = 1 ∨ s = 2 ∨ s = 3 := by omega
  rcases hs with rfl | rfl | rfl | rfl
  · have HQ := E0
    (go_wp2; go_ret; rw [HQ.out]; exact ⟨_, rfl, World.ownsRow_lit w2 _ 4 z2 (by unfold maxLen; omega) rfl, by (repeat (first | assumption | exact Below.refl _ _ | refine belowDN ?_ _ | refine Below.drew ?_ | refine Below.setCell ?_ (by first | omega | (simp <;> omega)) _ | refine Below.alloc ?_ (by first | omega | (simp <;> omega)) _ | refine belowCall ?_ (by assumption)))⟩)
  · have HQ := E1
    (go_wp2; go_ret; rw [HQ.out]; exact ⟨_, rfl, World.ownsRow_lit w2 _ 4 z2 (by unfold maxLen; omega) rfl, by (repeat (first | assumption | exact Below.refl _ _ | refine belowDN ?_ _ | refine Below.drew ?_ | refine Below.setCell ?_ (by first | omega | (simp <;> omega)) _ | refine Below.alloc ?_ (by first | omega | (simp <;> omega)) _ | refine belowCall ?_ (by assumption)))⟩)
  · have HQ := E2
    (go_wp2; go_ret; rw [HQ.out]; exact ⟨_, rfl, World.ownsRow_lit w2 _ 4 z2 (by unfold maxLen; omega) rfl, by (repeat (first | assumption | exact Below.refl _ _ | refine belowDN ?_ _ | refine Below.drew ?_ | refine Below.setCell ?_ (by first | omega | (simp <;> omega)) _ | refine Below.alloc ?_ (by first | omega | (simp <;> omega)) _ | refine belowCall ?_ (by assumption)))⟩)
  · have HQ := E3
    (go_wp2; go_ret; rw [HQ.out]; exact ⟨_, rfl, World.ownsRow_lit w2 _ 4 z2 (by unfold maxLen; omega) rfl, by (repeat (first | assumption | exact Below.refl _ _ | refine belowDN ?_ _ | refine Below.drew ?_ | refine Below.setCell ?_ (by first | omega | (simp <;> omega)) _ | refine Below.alloc ?_ (by first | omega | (simp <;> omega)) _ | refine belowCall ?_ (by assumption)))⟩)
theorem moved_any (a0 a1 a2 a3 x y r0 r1 r2 r3 : Int) (w : World) (e0 : a0 + x = r0) (e1 : a1 + y = r1) (e2 : a2 + x = r2) (e3 : a3 + y = r3) (h0 : -10000 ≤ r0 ∧ r0 ≤ 10000) (h1 : -10000 ≤ r1 ∧ r1 ≤ 10000) (h2 : -10000 ≤ r2 ∧ r2 ≤ 10000) (h3 : -10000 ≤ r3 ∧ r3 ≤ 10000) :
    Calls Tryd.prog 72 #[.agg #[.int .i64 a0, .int .i64 a1, .int .i64 a2, .int .i64 a3], .int .i64 x, .int .i64 y] w fun e w' => e = .returned (.agg #[.int .i64 r0, .int .i64 r1, .int .i64 r2, .int .i64 r3]) ∧ Below w.heap.size w w' := by
  subst e0 e1 e2 e3
  go_enter Tryd.func72, Tryd.ntmps72
  go_wp2
  exact bodyPost_ret (v := .agg #[.int .i64 (a0 + x), .int .i64 (a1 + y), .int .i64 (a2 + x), .int .i64 (a3 + y)]) (by simp [results, Tryd.results72, go_sem]) rfl ⟨rfl, by (repeat (first | assumption | exact Below.refl _ _ | refine belowDN ?_ _ | refine Below.drew ?_ | refine Below.setCell ?_ (by first | omega | (simp <;> omega)) _ | refine Below.alloc ?_ (by first | omega | (simp <;> omega)) _ | refine belowCall ?_ (by assumption)))⟩
def waysL : List Int := [1, 0, -1, 0, 0, 1, 0, -1]
/-- the table of directions stands as it was laid -/
def Ways (w : World) : Prop := Lib.TabIs Tryd.prog w "loop.example/g01026/impl.sideWays" .i64 waysL
theorem ways_global : Tryd.prog.globalNamed "loop.example/g01026/impl.sideWays" = some 0 := by kernel_rfl
theorem ways_type : (Tryd.prog.globals[0]?).map (·.type) = some 97 := by kernel_rfl
theorem Ways.mono {w w' : World} (h : Ways w) (hb : Below w.heap.size w w') : Ways w' := var_below ways_global h hb
def waysD {H : Type} : DataW H := .agg [.agg [.lit (.int .i64 1), .lit (.int .i64 0)], .agg [.lit (.int .i64 (-1)), .lit (.int .i64 0)], .agg [.lit (.int .i64 0), .lit (.int .i64 1)], .agg [.lit (.int .i64 0), .lit (.int .i64 (-1))]]
theorem ways_cells {H : Type} {enc : TypeId × Value → H} {P : Program} {w : World} {base : Nat} {sp : Nat → Bool} {held : Bool} {fuel : Nat} {t e e' : TypeId} {cs : List Value} {p : List MemPlace}
    (ht : P.underlying t = some (.array 4 e)) (he : P.underlying e = some (.array 2 e')) (he' : P.underlying e' = some (.int .i64)) (hc1 : P.cellsOf e' = 1) (hce : P.cellsOf e = 2) (hct : P.cellsOf t = 8)
    (h : DataW.trod enc P w base sp held fuel t cs = some (waysD, p)) : cs = waysL.map fun z => Value.int .i64 z := by
  cases fuel with
  | zero => simp [DataW.trod] at h
  | succ fuel =>
    simp only [DataW.trod, ht, hce, hct] at h
    split at h
    · rename_i hl
      obtain ⟨xs, hm, hx⟩ := Option.map_eq_some_iff.1 h
      have hxs : xs.map (·.1) = [.agg [.lit (.int .i64 1), .lit (.int .i64 0)], .agg [.lit (.int .i64 (-1)), .lit (.int .i64 0)], .agg [.lit (.int .i64 0), .lit (.int .i64 1)], .agg [.lit (.int .i64 0), .lit (.int .i64 (-1))]] := by
        have := congrArg Prod.fst hx
        simpa [waysD] using this
      have key : ∀ (i : Nat) (a b : Int), i < 4 → (xs.map (·.1))[i]? = some (.agg [.lit (.int .i64 a), .lit (.int .i64 b)]) → (cs.drop (i * 2)).take 2 = [Value.int .i64 a, Value.int .i64 b] := fun i a b hi hab => by
        obtain ⟨d, hb, hf⟩ := Lib.mapM_at hm i i (by simp [hi])
        have h2 : (xs.map (·.1))[i]? = some d.1 := by simp [hb]
        rw [hab] at h2
        obtain ⟨d1, d2⟩ := d
        obtain rfl := Option.some.inj h2
        exact Lib.cells_of_tab (zs := [a, b]) he he' hc1 hce hf
      have k0 := key 0 1 0 (by decide) (by rw [hxs]; rfl)
      have k1 := key 1 (-1) 0 (by decide) (by rw [hxs]; rfl)
      have k2 := key 2 0 1 (by decide) (by rw [hxs]; rfl)
      have k3 := key 3 0 (-1) (by decide) (by rw [hxs]; rfl)
      have hl8 : cs.length = 8 := by simpa using hl
      clear hm hl key h hx
      match cs, hl8, k0, k1, k2, k3 with
      | [c0, c1, c2, c3, c4, c5, c6, c7], _, k0, k1, k2, k3 =>
        simp at k0 k1 k2 k3
        simp [waysL, k0, k1, k2, k3]
    · cases h
theorem ways_laid {W : World} (h : laidMetH Tryd.prog [("loop.example/g01026/impl.sideWays", waysD)] W) : Ways W := by
  have h' : laidMet Tryd.prog [("loop.example/g01026/impl.sideWays", waysD)] W := h
  obtain ⟨ps, ⟨g', t', cs, fuel, p, q, hg', ht', hvar, hd, _, _⟩, _⟩ := h'
  obtain rfl := Option.some.inj (ways_global.symm.trans hg')
  obtain rfl := Option.some.inj (ways_type.symm.trans ht')
  unfold Ways Lib.TabIs
  rw [hvar, ← ways_cells Tryd.underlying97 Tryd.underlying96 Tryd.underlying2 (by kernel_rfl) (by kernel_rfl) (by kernel_rfl) hd]
theorem Ways.at {w : World} (h : Ways w) : 0 < w.heap.size ∧ ∀ i, i < 8 → w.cell? ⟨0, i, none⟩ = some (.int .i64 (waysL.getD i 0)) :=
  ⟨var_lt ways_global h, fun i hi => Lib.TabIs.cell h ways_global i hi⟩
end Go.Proofs.YtfabpcdeppfmdaaDoor
