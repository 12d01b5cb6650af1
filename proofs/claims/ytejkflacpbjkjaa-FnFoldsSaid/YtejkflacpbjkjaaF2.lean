/- CycleOf, PhaseOf, NextTime, both sides. -/
import Derived.Test.YtejkflacpbjkjaaF1
namespace Go.Proofs.Ytejkflacpbjkjaa
open Go.ChangeShapes Go.WideShapes Go.ChangeAt Go.RowKit Go.Deep

theorem cyV_1 {e p t : Int} (h : ephB e p = false) : cycV e p t = duo 0 1 := by simp [cycV, h]
theorem cyV_2 {e p t : Int} (h : ephB e p = true) (h2 : tmB t = false) : cycV e p t = duo 0 2 := by simp [cycV, h, h2]
theorem cyV_0 {e p t : Int} (h : ephB e p = true) (h2 : tmB t = true) : cycV e p t = duo (cyc e p t) 0 := by simp [cycV, h, h2]
theorem phV_1 {e p t : Int} (h : ephB e p = false) : phsV e p t = duo 0 1 := by simp [phsV, h]
theorem phV_2 {e p t : Int} (h : ephB e p = true) (h2 : tmB t = false) : phsV e p t = duo 0 2 := by simp [phsV, h, h2]
theorem phV_0 {e p t : Int} (h : ephB e p = true) (h2 : tmB t = true) : phsV e p t = duo (phs e p t) 0 := by simp [phsV, h, h2]
theorem nxV_1 {e p t : Int} (h : ephB e p = false) : nxtV e p t = duo 0 1 := by simp [nxtV, h]
theorem nxV_2 {e p t : Int} (h : ephB e p = true) (h2 : tmB t = false) : nxtV e p t = duo 0 2 := by simp [nxtV, h, h2]
theorem nxV_0 {e p t : Int} (h : ephB e p = true) (h2 : tmB t = true) : nxtV e p t = duo (nxt e p t) 0 := by simp [nxtV, h, h2]
theorem lst1 (e p t : Int) (w : World) (T U : TypeId) : Lst ((w.alloc (.cells #[.int .i64 e, .int .i64 p] T)).alloc (.cells #[.int .i64 t] U)) (some ⟨w.heap.size + 1, 0, none⟩) 1 [t] := by
  have h := Lst.one (w.alloc (.cells #[.int .i64 e, .int .i64 p] T)) t U
  rwa [show (w.alloc (.cells #[.int .i64 e, .int .i64 p] T)).heap.size = w.heap.size + 1 by simp] at h
theorem lst2 (e p f t : Int) (w : World) (T U : TypeId) : Lst ((w.alloc (.cells #[.int .i64 e, .int .i64 p] T)).alloc (.cells #[.int .i64 f, .int .i64 t] U)) (some ⟨w.heap.size + 1, 0, none⟩) 2 [f, t] := by
  have h := Lst.two (w.alloc (.cells #[.int .i64 e, .int .i64 p] T)) f t U
  rwa [show (w.alloc (.cells #[.int .i64 e, .int .i64 p] T)).heap.size = w.heap.size + 1 by simp] at h
theorem ecd_1 {e p t : Int} (h : ephB e p = false) : ecd e p [t] = 1 := ecd_eph h
theorem ecd_2 {e p t : Int} (h : ephB e p = true) (h2 : tmB t = false) : ecd e p [t] = 2 := ecd_tm h (by simp [h2])
theorem ecd_0 {e p t : Int} (h : ephB e p = true) (h2 : tmB t = true) : ecd e p [t] = 0 := ecd_ok h (by simp [h2])
theorem iCycOf_any (e p t : Int) (w : World) :
    Calls Try.prog 27 #[.agg #[.int .i64 e, .int .i64 p], .int .i64 t] w fun x w' => x = .returned (cycV e p t) ∧ Below w.heap.size w w' := by
  (have hbx := PtC.fresh w 25 e p; have B1 : Below w.heap.size w (w.alloc (.cells #[.int .i64 e, .int .i64 p] 25)) := (Below.refl _ w).alloc (Nat.le_refl _) _)
  cases he : ephB e p
  · have HC := Lib.hid (ecd_1 (t := t) he)
    have HD := Lib.hid (cyV_1 (t := t) he)
    go_enter Try.func27, Try.ntmps27
    go_wp2_with fail
    (refine (checkT_any e p _ 1 1 [t] _ (lst1 e p t w _ _) (by omega)).mono ?_; rintro x w2 ⟨rfl, b2'⟩; have b2 : Below (w.alloc (.cells #[.int .i64 e, .int .i64 p] 25)).heap.size (w.alloc (.cells #[.int .i64 e, .int .i64 p] 25)) w2 := belowCall ((Below.refl _ _).alloc (Nat.le_refl _) _) b2'; clear b2'; have B2 := belowCall B1 b2; obtain ⟨-, k0, k1⟩ := (hbx.mono b2).parts; rw [Nat.zero_add] at k1)
    rw [HC.out]
    go_wp2
    go_ret2
    exact ⟨by rw [HD.out]; rfl, B2⟩
  cases ht : tmB t
  · have HC := Lib.hid (ecd_2 he ht)
    have HD := Lib.hid (cyV_2 he ht)
    go_enter Try.func27, Try.ntmps27
    go_wp2_with fail
    (refine (checkT_any e p _ 1 1 [t] _ (lst1 e p t w _ _) (by omega)).mono ?_; rintro x w2 ⟨rfl, b2'⟩; have b2 : Below (w.alloc (.cells #[.int .i64 e, .int .i64 p] 25)).heap.size (w.alloc (.cells #[.int .i64 e, .int .i64 p] 25)) w2 := belowCall ((Below.refl _ _).alloc (Nat.le_refl _) _) b2'; clear b2'; have B2 := belowCall B1 b2; obtain ⟨-, k0, k1⟩ := (hbx.mono b2).parts; rw [Nat.zero_add] at k1)
    rw [HC.out]
    go_wp2
    go_ret2
    exact ⟨by rw [HD.out]; rfl, B2⟩
  have HC := Lib.hid (ecd_0 he ht)
  have HD := Lib.hid (cyV_0 he ht)
  obtain ⟨⟨h1, h2⟩, h3, h4⟩ := ephB_iff.1 he
  obtain ⟨h5, h6⟩ := tmB_iff.1 ht
  go_enter Try.func27, Try.ntmps27
  go_wp2_with fail
  (refine (checkT_any e p _ 1 1 [t] _ (lst1 e p t w _ _) (by omega)).mono ?_; rintro x w2 ⟨rfl, b2'⟩; have b2 : Below (w.alloc (.cells #[.int .i64 e, .int .i64 p] 25)).heap.size (w.alloc (.cells #[.int .i64 e, .int .i64 p] 25)) w2 := belowCall ((Below.refl _ _).alloc (Nat.le_refl _) _) b2'; clear b2'; have B2 := belowCall B1 b2; obtain ⟨-, k0, k1⟩ := (hbx.mono b2).parts; rw [Nat.zero_add] at k1)
  rw [HC.out]
  go_wp2_with fail
  refine (iCyc_any e p t _ h1 h2 h3 h4 (by omega) (by omega)).mono ?_
  rintro x w3 ⟨rfl, b3⟩
  go_wp2
  go_ret2
  exact ⟨by rw [HD.out]; rfl, belowCall B2 b3⟩
theorem sCycOf_any (e p t : Int) (w : World) :
    Calls Try.prog 26 #[.agg #[.int .i64 e, .int .i64 p], .int .i64 t] w fun x w' => x = .returned (cycV e p t) ∧ Below w.heap.size w w' := by
  (have hbx := PtC.fresh w 25 e p; have B1 : Below w.heap.size w (w.alloc (.cells #[.int .i64 e, .int .i64 p] 25)) := (Below.refl _ w).alloc (Nat.le_refl _) _)
  cases he : ephB e p
  · have HC := Lib.hid (ecd_1 (t := t) he)
    have HD := Lib.hid (cyV_1 (t := t) he)
    go_enter Try.func26, Try.ntmps26
    go_wp2_with fail
    (generalize w.alloc (.cells #[.int .i64 e, .int .i64 p] 25) = v at hbx B1 ⊢; refine (l09Code_any e p t v).mono ?_; rintro x w2 ⟨rfl, b2⟩; have B2 := belowCall B1 b2; obtain ⟨-, k0, k1⟩ := (hbx.mono b2).parts; rw [Nat.zero_add] at k1)
    rw [HC.out]
    go_wp2
    go_ret2
    exact ⟨by rw [HD.out]; rfl, B2⟩
  cases ht : tmB t
  · have HC := Lib.hid (ecd_2 he ht)
    have HD := Lib.hid (cyV_2 he ht)
    go_enter Try.func26, Try.ntmps26
    go_wp2_with fail
    (generalize w.alloc (.cells #[.int .i64 e, .int .i64 p] 25) = v at hbx B1 ⊢; refine (l09Code_any e p t v).mono ?_; rintro x w2 ⟨rfl, b2⟩; have B2 := belowCall B1 b2; obtain ⟨-, k0, k1⟩ := (hbx.mono b2).parts; rw [Nat.zero_add] at k1)
    rw [HC.out]
    go_wp2
    go_ret2
    exact ⟨by rw [HD.out]; rfl, B2⟩
  have HC := Lib.hid (ecd_0 he ht)
  have HD := Lib.hid (cyV_0 he ht)
  obtain ⟨⟨h1, h2⟩, h3, h4⟩ := ephB_iff.1 he
  obtain ⟨h5, h6⟩ := tmB_iff.1 ht
  go_enter Try.func26, Try.ntmps26
  go_wp2_with fail
  (generalize w.alloc (.cells #[.int .i64 e, .int .i64 p] 25) = v at hbx B1 ⊢; refine (l09Code_any e p t v).mono ?_; rintro x w2 ⟨rfl, b2⟩; have B2 := belowCall B1 b2; obtain ⟨-, k0, k1⟩ := (hbx.mono b2).parts; rw [Nat.zero_add] at k1)
  rw [HC.out]
  go_wp2_with fail
  refine (sCyc_any e p t _ h1 h2 h3 h4 (by omega) (by omega)).mono ?_
  rintro x w3 ⟨rfl, b3⟩
  go_wp2
  go_ret2
  exact ⟨by rw [HD.out]; rfl, belowCall B2 b3⟩
theorem iPhsOf_any (e p t : Int) (w : World) :
    Calls Try.prog 28 #[.agg #[.int .i64 e, .int .i64 p], .int .i64 t] w fun x w' => x = .returned (phsV e p t) ∧ Below w.heap.size w w' := by
  (have hbx := PtC.fresh w 25 e p; have B1 : Below w.heap.size w (w.alloc (.cells #[.int .i64 e, .int .i64 p] 25)) := (Below.refl _ w).alloc (Nat.le_refl _) _)
  cases he : ephB e p
  · have HC := Lib.hid (ecd_1 (t := t) he)
    have HD := Lib.hid (phV_1 (t := t) he)
    go_enter Try.func28, Try.ntmps28
    go_wp2_with fail
    (refine (checkT_any e p _ 1 1 [t] _ (lst1 e p t w _ _) (by omega)).mono ?_; rintro x w2 ⟨rfl, b2'⟩; have b2 : Below (w.alloc (.cells #[.int .i64 e, .int .i64 p] 25)).heap.size (w.alloc (.cells #[.int .i64 e, .int .i64 p] 25)) w2 := belowCall ((Below.refl _ _).alloc (Nat.le_refl _) _) b2'; clear b2'; have B2 := belowCall B1 b2; obtain ⟨-, k0, k1⟩ := (hbx.mono b2).parts; rw [Nat.zero_add] at k1)
    rw [HC.out]
    go_wp2
    go_ret2
    exact ⟨by rw [HD.out]; rfl, B2⟩
  cases ht : tmB t
  · have HC := Lib.hid (ecd_2 he ht)
    have HD := Lib.hid (phV_2 he ht)
    go_enter Try.func28, Try.ntmps28
    go_wp2_with fail
    (refine (checkT_any e p _ 1 1 [t] _ (lst1 e p t w _ _) (by omega)).mono ?_; rintro x w2 ⟨rfl, b2'⟩; have b2 : Below (w.alloc (.cells #[.int .i64 e, .int .i64 p] 25)).heap.size (w.alloc (.cells #[.int .i64 e, .int .i64 p] 25)) w2 := belowCall ((Below.refl _ _).alloc (Nat.le_refl _) _) b2'; clear b2'; have B2 := belowCall B1 b2; obtain ⟨-, k0, k1⟩ := (hbx.mono b2).parts; rw [Nat.zero_add] at k1)
    rw [HC.out]
    go_wp2
    go_ret2
    exact ⟨by rw [HD.out]; rfl, B2⟩
  have HC := Lib.hid (ecd_0 he ht)
  have HD := Lib.hid (phV_0 he ht)
  obtain ⟨⟨h1, h2⟩, h3, h4⟩ := ephB_iff.1 he
  obtain ⟨h5, h6⟩ := tmB_iff.1 ht
  go_enter Try.func28, Try.ntmps28
  go_wp2_with fail
  (refine (checkT_any e p _ 1 1 [t] _ (lst1 e p t w _ _) (by omega)).mono ?_; rintro x w2 ⟨rfl, b2'⟩; have b2 : Below (w.alloc (.cells #[.int .i64 e, .int .i64 p] 25)).heap.size (w.alloc (.cells #[.int .i64 e, .int .i64 p] 25)) w2 := belowCall ((Below.refl _ _).alloc (Nat.le_refl _) _) b2'; clear b2'; have B2 := belowCall B1 b2; obtain ⟨-, k0, k1⟩ := (hbx.mono b2).parts; rw [Nat.zero_add] at k1)
  rw [HC.out]
  go_wp2_with fail
  refine (iPhs_any e p t _ h1 h2 h3 h4 (by omega) (by omega)).mono ?_
  rintro x w3 ⟨rfl, b3⟩
  go_wp2
  go_ret2
  exact ⟨by rw [HD.out]; rfl, belowCall B2 b3⟩
theorem sPhsOf_any (e p t : Int) (w : World) :
    Calls Try.prog 18 #[.agg #[.int .i64 e, .int .i64 p], .int .i64 t] w fun x w' => x = .returned (phsV e p t) ∧ Below w.heap.size w w' := by
  (have hbx := PtC.fresh w 25 e p; have B1 : Below w.heap.size w (w.alloc (.cells #[.int .i64 e, .int .i64 p] 25)) := (Below.refl _ w).alloc (Nat.le_refl _) _)
  cases he : ephB e p
  · have HC := Lib.hid (ecd_1 (t := t) he)
    have HD := Lib.hid (phV_1 (t := t) he)
    go_enter Try.func18, Try.ntmps18
    go_wp2_with fail
    (generalize w.alloc (.cells #[.int .i64 e, .int .i64 p] 25) = v at hbx B1 ⊢; refine (l09Code_any e p t v).mono ?_; rintro x w2 ⟨rfl, b2⟩; have B2 := belowCall B1 b2; obtain ⟨-, k0, k1⟩ := (hbx.mono b2).parts; rw [Nat.zero_add] at k1)
    rw [HC.out]
    go_wp2
    go_ret2
    exact ⟨by rw [HD.out]; rfl, B2⟩
  cases ht : tmB t
  · have HC := Lib.hid (ecd_2 he ht)
    have HD := Lib.hid (phV_2 he ht)
    go_enter Try.func18, Try.ntmps18
    go_wp2_with fail
    (generalize w.alloc (.cells #[.int .i64 e, .int .i64 p] 25) = v at hbx B1 ⊢; refine (l09Code_any e p t v).mono ?_; rintro x w2 ⟨rfl, b2⟩; have B2 := belowCall B1 b2; obtain ⟨-, k0, k1⟩ := (hbx.mono b2).parts; rw [Nat.zero_add] at k1)
    rw [HC.out]
    go_wp2
    go_ret2
    exact ⟨by rw [HD.out]; rfl, B2⟩
  have HC := Lib.hid (ecd_0 he ht)
  have HD := Lib.hid (phV_0 he ht)
  obtain ⟨⟨h1, h2⟩, h3, h4⟩ := ephB_iff.1 he
  obtain ⟨h5, h6⟩ := tmB_iff.1 ht
  go_enter Try.func18, Try.ntmps18
  go_wp2_with fail
  (generalize w.alloc (.cells #[.int .i64 e, .int .i64 p] 25) = v at hbx B1 ⊢; refine (l09Code_any e p t v).mono ?_; rintro x w2 ⟨rfl, b2⟩; have B2 := belowCall B1 b2; obtain ⟨-, k0, k1⟩ := (hbx.mono b2).parts; rw [Nat.zero_add] at k1)
  rw [HC.out]
  go_wp2_with fail
  refine (sPhs_any e p t _ h1 h2 h3 h4 (by omega) (by omega)).mono ?_
  rintro x w3 ⟨rfl, b3⟩
  go_wp2
  go_ret2
  exact ⟨by rw [HD.out]; rfl, belowCall B2 b3⟩
theorem iNxtOf_any (e p t : Int) (w : World) :
    Calls Try.prog 30 #[.agg #[.int .i64 e, .int .i64 p], .int .i64 t] w fun x w' => x = .returned (nxtV e p t) ∧ Below w.heap.size w w' := by
  (have hbx := PtC.fresh w 25 e p; have B1 : Below w.heap.size w (w.alloc (.cells #[.int .i64 e, .int .i64 p] 25)) := (Below.refl _ w).alloc (Nat.le_refl _) _)
  cases he : ephB e p
  · have HC := Lib.hid (ecd_1 (t := t) he)
    have HD := Lib.hid (nxV_1 (t := t) he)
    go_enter Try.func30, Try.ntmps30
    go_wp2_with fail
    (refine (checkT_any e p _ 1 1 [t] _ (lst1 e p t w _ _) (by omega)).mono ?_; rintro x w2 ⟨rfl, b2'⟩; have b2 : Below (w.alloc (.cells #[.int .i64 e, .int .i64 p] 25)).heap.size (w.alloc (.cells #[.int .i64 e, .int .i64 p] 25)) w2 := belowCall ((Below.refl _ _).alloc (Nat.le_refl _) _) b2'; clear b2'; have B2 := belowCall B1 b2; obtain ⟨-, k0, k1⟩ := (hbx.mono b2).parts; rw [Nat.zero_add] at k1)
    rw [HC.out]
    go_wp2
    go_ret2
    exact ⟨by rw [HD.out]; rfl, B2⟩
  cases ht : tmB t
  · have HC := Lib.hid (ecd_2 he ht)
    have HD := Lib.hid (nxV_2 he ht)
    go_enter Try.func30, Try.ntmps30
    go_wp2_with fail
    (refine (checkT_any e p _ 1 1 [t] _ (lst1 e p t w _ _) (by omega)).mono ?_; rintro x w2 ⟨rfl, b2'⟩; have b2 : Below (w.alloc (.cells #[.int .i64 e, .int .i64 p] 25)).heap.size (w.alloc (.cells #[.int .i64 e, .int .i64 p] 25)) w2 := belowCall ((Below.refl _ _).alloc (Nat.le_refl _) _) b2'; clear b2'; have B2 := belowCall B1 b2; obtain ⟨-, k0, k1⟩ := (hbx.mono b2).parts; rw [Nat.zero_add] at k1)
    rw [HC.out]
    go_wp2
    go_ret2
    exact ⟨by rw [HD.out]; rfl, B2⟩
  have HC := Lib.hid (ecd_0 he ht)
  have HD := Lib.hid (nxV_0 he ht)
  obtain ⟨⟨h1, h2⟩, h3, h4⟩ := ephB_iff.1 he
  obtain ⟨h5, h6⟩ := tmB_iff.1 ht
  have hnb := nxt_bd (e := e) (t := t) h3
  have hne := nxt_eq (e := e) (t := t) h3
  have HCF : ∀ W, Calls Try.prog 68 #[.agg #[.int .i64 e, .int .i64 p], .int .i64 t] W fun x w' => x = .returned (.int .i64 (cyc e p (t - 1) + 1)) ∧ Below W.heap.size W w' := fun W => iCycF_any e p t W h1 h2 h3 h4 h5 h6
  have HXT : ∀ W, Calls Try.prog 67 #[.agg #[.int .i64 e, .int .i64 p], .int .i64 (cyc e p (t - 1) + 1)] W fun x w' => x = .returned (.int .i64 (nxt e p t)) ∧ Below W.heap.size W w' := fun W => by rw [← hne]; exact iExt_any e p _ W h1 h2 (by omega) (by omega)
  generalize cyc e p (t - 1) + 1 = c at HCF HXT
  clear hne
  go_enter Try.func30, Try.ntmps30
  go_wp2_with fail
  (refine (checkT_any e p _ 1 1 [t] _ (lst1 e p t w _ _) (by omega)).mono ?_; rintro x w2 ⟨rfl, b2'⟩; have b2 : Below (w.alloc (.cells #[.int .i64 e, .int .i64 p] 25)).heap.size (w.alloc (.cells #[.int .i64 e, .int .i64 p] 25)) w2 := belowCall ((Below.refl _ _).alloc (Nat.le_refl _) _) b2'; clear b2'; have B2 := belowCall B1 b2; obtain ⟨-, k0, k1⟩ := (hbx.mono b2).parts; rw [Nat.zero_add] at k1)
  rw [HC.out]
  have hlt : w.heap.size < w2.heap.size := (hbx.mono b2).1
  go_wp2_with fail
  obtain ⟨v', hv'⟩ : ∃ v', v' = w2 := ⟨_, rfl⟩
  go_region_held3 (fun W' => W'.cell? ⟨w.heap.size, 0, none⟩ = some (.int .i64 e) ∧ W'.cell? ⟨w.heap.size, 1, none⟩ = some (.int .i64 p)) (refine ⟨?_, ?_⟩ <;> first | assumption | exact ((show Below w2.heap.size w2 _ by (repeat (first | assumption | exact Below.refl _ _ | refine belowDN ?_ _ | refine Below.drew ?_ | refine Below.setCell ?_ (by first | omega | (simp <;> omega)) _ | refine Below.alloc ?_ (by first | omega | (simp <;> omega)) _ | refine belowCall ?_ (by assumption)))).cell (p := ⟨w.heap.size, 0, none⟩) hlt).trans k0 | exact ((show Below w2.heap.size w2 _ by (repeat (first | assumption | exact Below.refl _ _ | refine belowDN ?_ _ | refine Below.drew ?_ | refine Below.setCell ?_ (by first | omega | (simp <;> omega)) _ | refine Below.alloc ?_ (by first | omega | (simp <;> omega)) _ | refine belowCall ?_ (by assumption)))).cell (p := ⟨w.heap.size, 1, none⟩) hlt).trans k1) (first | (go_at_call 68; refine (HCF _).mono ?_; rintro x wA ⟨rfl, bA⟩) | (go_at_call 67; refine (HXT _).mono ?_; rintro x wB ⟨rfl, bB⟩))
  all_goals
    go_wp2
    go_ret2
    exact ⟨by rw [HD.out]; rfl, belowCall B2 (by (repeat (first | assumption | exact Below.refl _ _ | refine belowDN ?_ _ | refine Below.drew ?_ | refine Below.setCell ?_ (by first | omega | (simp <;> omega)) _ | refine Below.alloc ?_ (by first | omega | (simp <;> omega)) _ | refine belowCall ?_ (by assumption))))⟩
theorem sNxt_any (e p t : Int) (w : World) (h1 : 0 ≤ e) (h2 : e ≤ 10000000) (h3 : 1 ≤ p) (h4 : p ≤ 1000000) (h5 : 0 ≤ t) (h6 : t ≤ 10000000) :
    Calls Try.prog 66 #[.agg #[.int .i64 e, .int .i64 p], .int .i64 t] w fun x w' => x = .returned (.int .i64 (nxt e p t)) ∧ Below w.heap.size w w' := by
  (have hbx := PtC.fresh w 25 e p; have B1 : Below w.heap.size w (w.alloc (.cells #[.int .i64 e, .int .i64 p] 25)) := (Below.refl _ w).alloc (Nat.le_refl _) _)
  have hb := phs_bd (e := e) (t := t) h3
  have hn : Hid ((phs e p t = 0 → nxt e p t = t) ∧ (¬ phs e p t = 0 → nxt e p t = t + p - phs e p t)) := Lib.hid ⟨fun h => by rw [nxt, if_pos h], fun h => by rw [nxt, if_neg h]⟩
  have HP : ∀ W, Calls Try.prog 55 #[.agg #[.int .i64 e, .int .i64 p], .int .i64 t] W fun x w' => x = .returned (.int .i64 (phs e p t)) ∧ Below W.heap.size W w' := fun W => sPhs_any e p t W h1 h2 h3 h4 h5 (by omega)
  generalize phs e p t = f at hb hn HP
  by_cases h0 : f = 0
  · have HN := Lib.hid (hn.out.1 h0)
    have hd : (f == 0) = true := by simpa using h0
    go_enter Try.func66, Try.ntmps66
    go_wp2_with fail
    generalize w.alloc (.cells #[.int .i64 e, .int .i64 p] 25) = v at hbx B1 ⊢
    refine (HP _).mono ?_
    rintro x w2 ⟨rfl, b2⟩
    go_wp2
    go_ret
    exact ⟨by rw [HN.out]; rfl, belowCall B1 b2⟩
  · have HN := Lib.hid (hn.out.2 h0)
    have hd : (f == 0) = false := by simpa using h0
    go_enter Try.func66, Try.ntmps66
    go_wp2_with fail
    generalize w.alloc (.cells #[.int .i64 e, .int .i64 p] 25) = v at hbx B1 ⊢
    refine (HP _).mono ?_
    rintro x w2 ⟨rfl, b2⟩
    obtain ⟨-, k0, k1⟩ := (hbx.mono b2).parts
    rw [Nat.zero_add] at k1
    go_wp2
    go_ret
    exact ⟨by rw [HN.out]; rfl, belowCall B1 b2⟩
theorem sNxtOf_any (e p t : Int) (w : World) :
    Calls Try.prog 29 #[.agg #[.int .i64 e, .int .i64 p], .int .i64 t] w fun x w' => x = .returned (nxtV e p t) ∧ Below w.heap.size w w' := by
  (have hbx := PtC.fresh w 25 e p; have B1 : Below w.heap.size w (w.alloc (.cells #[.int .i64 e, .int .i64 p] 25)) := (Below.refl _ w).alloc (Nat.le_refl _) _)
  cases he : ephB e p
  · have HC := Lib.hid (ecd_1 (t := t) he)
    have HD := Lib.hid (nxV_1 (t := t) he)
    go_enter Try.func29, Try.ntmps29
    go_wp2_with fail
    (generalize w.alloc (.cells #[.int .i64 e, .int .i64 p] 25) = v at hbx B1 ⊢; refine (l09Code_any e p t v).mono ?_; rintro x w2 ⟨rfl, b2⟩; have B2 := belowCall B1 b2; obtain ⟨-, k0, k1⟩ := (hbx.mono b2).parts; rw [Nat.zero_add] at k1)
    rw [HC.out]
    go_wp2
    go_ret2
    exact ⟨by rw [HD.out]; rfl, B2⟩
  cases ht : tmB t
  · have HC := Lib.hid (ecd_2 he ht)
    have HD := Lib.hid (nxV_2 he ht)
    go_enter Try.func29, Try.ntmps29
    go_wp2_with fail
    (generalize w.alloc (.cells #[.int .i64 e, .int .i64 p] 25) = v at hbx B1 ⊢; refine (l09Code_any e p t v).mono ?_; rintro x w2 ⟨rfl, b2⟩; have B2 := belowCall B1 b2; obtain ⟨-, k0, k1⟩ := (hbx.mono b2).parts; rw [Nat.zero_add] at k1)
    rw [HC.out]
    go_wp2
    go_ret2
    exact ⟨by rw [HD.out]; rfl, B2⟩
  have HC := Lib.hid (ecd_0 he ht)
  have HD := Lib.hid (nxV_0 he ht)
  obtain ⟨⟨h1, h2⟩, h3, h4⟩ := ephB_iff.1 he
  obtain ⟨h5, h6⟩ := tmB_iff.1 ht
  go_enter Try.func29, Try.ntmps29
  go_wp2_with fail
  (generalize w.alloc (.cells #[.int .i64 e, .int .i64 p] 25) = v at hbx B1 ⊢; refine (l09Code_any e p t v).mono ?_; rintro x w2 ⟨rfl, b2⟩; have B2 := belowCall B1 b2; obtain ⟨-, k0, k1⟩ := (hbx.mono b2).parts; rw [Nat.zero_add] at k1)
  rw [HC.out]
  go_wp2_with fail
  refine (sNxt_any e p t _ h1 h2 h3 h4 h5 h6).mono ?_
  rintro x w3 ⟨rfl, b3⟩
  go_wp2
  go_ret2
  exact ⟨by rw [HD.out]; rfl, belowCall B2 b3⟩
end Go.Proofs.Ytejkflacpbjkjaa
