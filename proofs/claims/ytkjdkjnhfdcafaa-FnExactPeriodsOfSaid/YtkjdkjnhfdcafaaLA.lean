/- Searches: plain numbers; ValidSearch and PeriodsOf, both sides. -/
import Derived.Test.YtkjdkjnhfdcafaaF1
import Derived.Test.YtkjdkjnhfdcafaaH7R
import Derived.Test.YtkjdkjnhfdcafaaFK
import Derived.Test.YtkjdkjnhfdcafaaGI
import Derived.Deep.RegionHeld3
import Derived.Deep.AppendLies
namespace Go.Proofs.Ytkjdkjnhfdcafaa
open Go.ChangeShapes Go.WideShapes Go.ChangeAt Go.RowKit Go.Deep

abbrev Sr := Int × Int × Int
def fldSr (x : Sr) : Nat → Value
  | 0 => .int .i64 x.1
  | 1 => .int .i64 x.2.1
  | _ => .int .i64 x.2.2
def SrC (w : World) (b o : Nat) (x : Sr) : Prop := b < w.heap.size ∧ ∀ f, f < 3 → w.cell? ⟨b, o + f, none⟩ = some (fldSr x f)
theorem SrC.mono {w w' : World} {b o : Nat} {x : Sr} (h : SrC w b o x) (hb : Below w.heap.size w w') : SrC w' b o x :=
  ⟨Nat.lt_of_lt_of_le h.1 hb.size, fun f hf => by rw [hb.cell (p := ⟨b, o + f, none⟩) h.1]; exact h.2 f hf⟩
theorem SrC.parts {w : World} {b o : Nat} {x0 x1 x2 : Int} (h : SrC w b o (x0, x1, x2)) : b < w.heap.size ∧ w.cell? ⟨b, o, none⟩ = some (.int .i64 x0) ∧ w.cell? ⟨b, o + 1, none⟩ = some (.int .i64 x1) ∧ w.cell? ⟨b, o + 2, none⟩ = some (.int .i64 x2) :=
  ⟨h.1, h.2 0 (by decide), h.2 1 (by decide), h.2 2 (by decide)⟩
theorem SrC.fresh (w : World) (T : TypeId) (x0 x1 x2 : Int) : SrC (w.alloc (.cells #[.int .i64 x0, .int .i64 x1, .int .i64 x2] T)) w.heap.size 0 (x0, x1, x2) :=
  ⟨by simp, fun f hf => by
    rw [Nat.zero_add, World.cell?_alloc_new]
    match f, hf with
    | 0, _ => rfl
    | 1, _ => rfl
    | 2, _ => rfl⟩
def srQ (f t s : Int) : Bool := perB f && (inB t f 1000000 && inB s 1 1000000)
def srN (f t s : Int) : Int := (t - f).tdiv s + 1
def srB (f t s : Int) : Bool := srQ f t s && decide (srN f t s ≤ 500)
def srK (f t s : Int) : Nat := (srN f t s).toNat
def srL (f s : Int) (k : Nat) : List Int := (List.range k).map fun i : Nat => f + (i : Int) * s
def srV (f t s : Int) : List Int := if srB f t s then srL f s (srK f t s) else []
def srV1 (f t s : Int) : Int := if srB f t s then 0 else 1
theorem srQ_iff {f t s : Int} : srQ f t s = true ↔ (1 ≤ f ∧ f ≤ 1000000) ∧ (f ≤ t ∧ t ≤ 1000000) ∧ 1 ≤ s ∧ s ≤ 1000000 := by
  rw [srQ, Bool.and_eq_true, Bool.and_eq_true, perB_iff, inB_iff, inB_iff]
theorem srN_ediv {f t s : Int} (h1 : f ≤ t) : srN f t s = (t - f) / s + 1 := by rw [srN, Int.tdiv_eq_ediv_of_nonneg (by omega)]
theorem srN_bd {f t s : Int} (h : srQ f t s = true) : 1 ≤ srN f t s ∧ srN f t s ≤ 1000000 := by
  obtain ⟨⟨h1, h2⟩, ⟨h3, h4⟩, h5, h6⟩ := srQ_iff.1 h
  rw [srN_ediv h3]
  have a := Int.ediv_nonneg (a := t - f) (b := s) (by omega) (by omega)
  have b := Int.ediv_le_self (a := t - f) s (by omega)
  omega
theorem srB_iff {f t s : Int} : srB f t s = true ↔ srQ f t s = true ∧ srN f t s ≤ 500 := by rw [srB, Bool.and_eq_true, decide_eq_true_eq]
theorem srK_is {f t s : Int} (h : srB f t s = true) : srN f t s = (srK f t s : Int) ∧ 1 ≤ srK f t s ∧ srK f t s ≤ 500 := by
  obtain ⟨h1, h2⟩ := srB_iff.1 h
  have := srN_bd h1
  unfold srK; omega
theorem sr_more {f t s : Int} (h : srB f t s = true) (k : Nat) : f + (k : Int) * s ≤ t ↔ k < srK f t s := by
  obtain ⟨h1, -⟩ := srB_iff.1 h
  obtain ⟨hk, -, -⟩ := srK_is h
  obtain ⟨-, ⟨h3, h4⟩, h5, h6⟩ := srQ_iff.1 h1
  rw [srN_ediv h3] at hk
  have := Int.le_ediv_iff_mul_le (a := (k : Int)) (b := t - f) (c := s) (by omega)
  omega
theorem sr_bd {f t s : Int} (h : srB f t s = true) (k : Nat) (hk : k ≤ srK f t s) : 0 ≤ (k : Int) * s ∧ f + (k : Int) * s ≤ 2000000 := by
  obtain ⟨h1, -⟩ := srB_iff.1 h
  obtain ⟨⟨h1, h2⟩, ⟨h3, h4⟩, h5, h6⟩ := srQ_iff.1 h1
  have h0 : 0 ≤ (k : Int) * s := Int.mul_nonneg (by omega) (by omega)
  refine ⟨h0, ?_⟩
  by_cases hz : k = 0
  · subst hz; simp; omega
  · have h1 := (sr_more h (k - 1)).2 (by omega)
    have h2 : ((k - 1 : Nat) : Int) * s = (k : Int) * s - s := by
      rw [show ((k - 1 : Nat) : Int) = (k : Int) - 1 by omega, Int.sub_mul, Int.one_mul]
    omega
theorem srL_len (f s : Int) (k : Nat) : (srL f s k).length = k := by simp [srL]
theorem srL_at (f s : Int) {k i : Nat} (h : i < k) : (srL f s k)[i]?.getD 0 = f + (i : Int) * s := by simp [srL, h]
theorem srL_map (f s : Int) (k : Nat) : (srL f s (k + 1)).map (Value.int .i64) = (srL f s k).map (Value.int .i64) ++ [.int .i64 (f + (k : Int) * s)] := by simp [srL, List.range_succ]
theorem srV_no {f t s : Int} (h : srB f t s = false) : srV1 f t s = 1 ∧ srV f t s = [] := by simp [srV, srV1, h]
theorem srV_yes {f t s : Int} (h : srB f t s = true) : srV1 f t s = 0 ∧ srV f t s = srL f s (srK f t s) := by simp [srV, srV1, h]
theorem srV_len {n : Nat} (hn : 500 ≤ n) (f t s : Int) : (srV f t s).length ≤ n := by
  cases h : srB f t s
  · rw [(srV_no h).2]; simp
  · rw [(srV_yes h).2, srL_len]; have := (srK_is h).2.2; omega
theorem toSr_any (f t s : Int) (w : World) :
    Calls Try.prog 16 #[.agg #[.int .i64 f, .int .i64 t, .int .i64 s]] w fun x w' => x = .returned (.agg #[.int .i64 f, .int .i64 t, .int .i64 s]) ∧ Below w.heap.size w w' := by
  go_enter Try.func16, Try.ntmps16
  go_wp2
  exact bodyPost_ret (v := .agg #[.int .i64 f, .int .i64 t, .int .i64 s]) (by simp [results, Try.results16, go_sem]) rfl ⟨rfl, by (repeat (first | assumption | exact Below.refl _ _ | refine belowDN ?_ _ | refine Below.drew ?_ | refine Below.setCell ?_ (by first | omega | (simp <;> omega)) _ | refine Below.alloc ?_ (by first | omega | (simp <;> omega)) _ | refine belowCall ?_ (by assumption)))⟩
theorem iCnt_any (f t s : Int) (w : World) (h : srQ f t s = true) :
    Calls Try.prog 56 #[.agg #[.int .i64 f, .int .i64 t, .int .i64 s]] w fun x w' => x = .returned (.int .i64 (srN f t s)) ∧ Below w.heap.size w w' := by
  obtain ⟨⟨h1, h2⟩, ⟨h3, h4⟩, h5, h6⟩ := srQ_iff.1 h
  have hb := srN_bd h
  have hs0 : ¬ s = 0 := by omega
  have hw : IntKind.i64.wrap (t - f) = t - f := IntWalk.i64_in _ (by omega)
  have hv : IntKind.i64.wrap ((t - f).tdiv s) = (t - f).tdiv s := IntWalk.i64_in _ (by unfold srN at hb; omega)
  have hn : IntKind.i64.wrap ((t - f).tdiv s + 1) = srN f t s := IntWalk.i64_in _ (by unfold srN at hb; omega)
  go_enter Try.func56, Try.ntmps56
  go_wp2
  go_ret
  exact ⟨rfl, by (repeat (first | assumption | exact Below.refl _ _ | refine belowDN ?_ _ | refine Below.drew ?_ | refine Below.setCell ?_ (by first | omega | (simp <;> omega)) _ | refine Below.alloc ?_ (by first | omega | (simp <;> omega)) _ | refine belowCall ?_ (by assumption)))⟩
set_option maxHeartbeats 1000000 in
theorem iValidSr_any (f t s : Int) (w : World) :
    Calls Try.prog 17 #[.agg #[.int .i64 f, .int .i64 t, .int .i64 s]] w fun x w' => x = .returned (.bool (srB f t s)) ∧ Below w.heap.size w w' := by
  cases h0 : srQ f t s
  · have HV : Hid (srB f t s = false) := Lib.hid (by simp [srB, h0])
    unfold srQ at h0
    cases h1 : perB f
    · go_enter Try.func17, Try.ntmps17
      go_wp2_with (first | (go_at_call 54; refine (isPer_any _ _).mono ?_; rintro x w' ⟨rfl, rfl⟩; rw [h1]))
      go_ret
      exact ⟨by rw [HV.out]; rfl, by (repeat (first | assumption | exact Below.refl _ _ | refine belowDN ?_ _ | refine Below.drew ?_ | refine Below.setCell ?_ (by first | omega | (simp <;> omega)) _ | refine Below.alloc ?_ (by first | omega | (simp <;> omega)) _ | refine belowCall ?_ (by assumption)))⟩
    cases h2 : inB t f 1000000
    · go_enter Try.func17, Try.ntmps17
      go_wp2_with (first | (go_at_call 54; refine (isPer_any _ _).mono ?_; rintro x w' ⟨rfl, rfl⟩; rw [h1]) | (go_at_call 55; refine (inRange_any _ _ _ _).mono ?_; rintro e w' ⟨rfl, rfl⟩; rw [h2]))
      go_ret
      exact ⟨by rw [HV.out]; rfl, by (repeat (first | assumption | exact Below.refl _ _ | refine belowDN ?_ _ | refine Below.drew ?_ | refine Below.setCell ?_ (by first | omega | (simp <;> omega)) _ | refine Below.alloc ?_ (by first | omega | (simp <;> omega)) _ | refine belowCall ?_ (by assumption)))⟩
    have h3 : inB s 1 1000000 = false := by rw [h1, h2] at h0; exact h0
    go_enter Try.func17, Try.ntmps17
    go_wp2_with (first | (go_at_call 54; refine (isPer_any _ _).mono ?_; rintro x w' ⟨rfl, rfl⟩; rw [h1]) | (go_at_call 55; refine (inRange_any _ _ _ _).mono ?_; rintro e w' ⟨rfl, rfl⟩; first | rw [h2] | rw [h3]))
    go_ret
    exact ⟨by rw [HV.out]; rfl, by (repeat (first | assumption | exact Below.refl _ _ | refine belowDN ?_ _ | refine Below.drew ?_ | refine Below.setCell ?_ (by first | omega | (simp <;> omega)) _ | refine Below.alloc ?_ (by first | omega | (simp <;> omega)) _ | refine belowCall ?_ (by assumption)))⟩
  · have HC := Lib.hid (fun W : World => iCnt_any f t s W h0)
    have HV : Hid (srB f t s = decide (srN f t s ≤ 500)) := Lib.hid (by simp [srB, h0])
    have hb := srN_bd h0
    obtain ⟨hlt, k0, k1, k2⟩ := (SrC.fresh w 25 f t s).parts
    rw [Nat.zero_add] at k1 k2
    have B1 : Below w.heap.size w (w.alloc (.cells #[.int .i64 f, .int .i64 t, .int .i64 s] 25)) := (Below.refl _ w).alloc (Nat.le_refl _) _
    have h1 := h0
    unfold srQ at h1
    rw [Bool.and_eq_true, Bool.and_eq_true] at h1
    obtain ⟨h1, h2, h3⟩ := h1
    clear h0
    generalize srN f t s = N at HC HV hb
    go_enter Try.func17, Try.ntmps17
    go_wp2_with (first | (go_at_call 54; refine (isPer_any _ _).mono ?_; rintro x w' ⟨rfl, rfl⟩; rw [h1]) | (go_at_call 55; refine (inRange_any _ _ _ _).mono ?_; rintro e w' ⟨rfl, rfl⟩; first | rw [h2] | rw [h3]) | (go_at_call 56; refine (HC.out _).mono ?_; rintro x w2 ⟨rfl, b2⟩))
    go_ret
    exact ⟨by rw [HV.out]; rfl, belowCall B1 (by (repeat (first | assumption | exact Below.refl _ _ | refine belowDN ?_ _ | refine Below.drew ?_ | refine Below.setCell ?_ (by first | omega | (simp <;> omega)) _ | refine Below.alloc ?_ (by first | omega | (simp <;> omega)) _ | refine belowCall ?_ (by assumption))))⟩
theorem sCnt_any (f t s : Int) (w : World) (h : srQ f t s = true) :
    Calls Try.prog 97 #[.agg #[.int .i64 f, .int .i64 t, .int .i64 s]] w fun x w' => x = .returned (.int .i64 (srN f t s)) ∧ Below w.heap.size w w' := by
  obtain ⟨⟨h1, h2⟩, ⟨h3, h4⟩, h5, h6⟩ := srQ_iff.1 h
  have hb := srN_bd h
  have hs0 : ¬ s = 0 := by omega
  have hw : IntKind.i64.wrap (t - f) = t - f := IntWalk.i64_in _ (by omega)
  have hv : IntKind.i64.wrap ((t - f).tdiv s) = (t - f).tdiv s := IntWalk.i64_in _ (by unfold srN at hb; omega)
  have hn : IntKind.i64.wrap ((t - f).tdiv s + 1) = srN f t s := IntWalk.i64_in _ (by unfold srN at hb; omega)
  go_enter Try.func97, Try.ntmps97
  go_wp2
  go_ret
  exact ⟨rfl, by (repeat (first | assumption | exact Below.refl _ _ | refine belowDN ?_ _ | refine Below.drew ?_ | refine Below.setCell ?_ (by first | omega | (simp <;> omega)) _ | refine Below.alloc ?_ (by first | omega | (simp <;> omega)) _ | refine belowCall ?_ (by assumption)))⟩
set_option maxHeartbeats 1000000 in
theorem l10Ok_any (f t s : Int) (w : World) :
    Calls Try.prog 53 #[.agg #[.int .i64 f, .int .i64 t, .int .i64 s]] w fun x w' => x = .returned (.bool (srB f t s)) ∧ Below w.heap.size w w' := by
  cases h0 : srQ f t s
  · have HV : Hid (srB f t s = false) := Lib.hid (by simp [srB, h0])
    unfold srQ at h0
    cases h1 : perB f
    · go_enter Try.func53, Try.ntmps53
      go_wp2_with (first | (go_at_call 59; refine (l09Per_any _ _).mono ?_; rintro x w' ⟨rfl, rfl⟩; rw [h1]))
      go_ret
      exact ⟨by rw [HV.out]; rfl, by (repeat (first | assumption | exact Below.refl _ _ | refine belowDN ?_ _ | refine Below.drew ?_ | refine Below.setCell ?_ (by first | omega | (simp <;> omega)) _ | refine Below.alloc ?_ (by first | omega | (simp <;> omega)) _ | refine belowCall ?_ (by assumption)))⟩
    cases h2 : inB t f 1000000
    · go_enter Try.func53, Try.ntmps53
      go_wp2_with (first | (go_at_call 59; refine (l09Per_any _ _).mono ?_; rintro x w' ⟨rfl, rfl⟩; rw [h1]) | (go_at_call 76; refine (l00In_any _ _ _ _).mono ?_; rintro e w' ⟨rfl, rfl⟩; rw [h2]))
      go_ret
      exact ⟨by rw [HV.out]; rfl, by (repeat (first | assumption | exact Below.refl _ _ | refine belowDN ?_ _ | refine Below.drew ?_ | refine Below.setCell ?_ (by first | omega | (simp <;> omega)) _ | refine Below.alloc ?_ (by first | omega | (simp <;> omega)) _ | refine belowCall ?_ (by assumption)))⟩
    have h3 : perB s = false := by rw [h1, h2] at h0; exact h0
    go_enter Try.func53, Try.ntmps53
    go_wp2_with (first | (go_at_call 59; refine (l09Per_any _ _).mono ?_; rintro x w' ⟨rfl, rfl⟩; first | rw [h1] | rw [h3]) | (go_at_call 76; refine (l00In_any _ _ _ _).mono ?_; rintro e w' ⟨rfl, rfl⟩; rw [h2]))
    go_ret
    exact ⟨by rw [HV.out]; rfl, by (repeat (first | assumption | exact Below.refl _ _ | refine belowDN ?_ _ | refine Below.drew ?_ | refine Below.setCell ?_ (by first | omega | (simp <;> omega)) _ | refine Below.alloc ?_ (by first | omega | (simp <;> omega)) _ | refine belowCall ?_ (by assumption)))⟩
  · have HC := Lib.hid (fun W : World => sCnt_any f t s W h0)
    have HV : Hid (srB f t s = decide (srN f t s ≤ 500)) := Lib.hid (by simp [srB, h0])
    have hb := srN_bd h0
    obtain ⟨hlt, k0, k1, k2⟩ := (SrC.fresh w 25 f t s).parts
    rw [Nat.zero_add] at k1 k2
    have B1 : Below w.heap.size w (w.alloc (.cells #[.int .i64 f, .int .i64 t, .int .i64 s] 25)) := (Below.refl _ w).alloc (Nat.le_refl _) _
    have h1 := h0
    unfold srQ at h1
    rw [Bool.and_eq_true, Bool.and_eq_true] at h1
    obtain ⟨h1, h2, h3⟩ := h1
    replace h3 : perB s = true := h3
    clear h0
    generalize srN f t s = N at HC HV hb
    go_enter Try.func53, Try.ntmps53
    go_wp2_with (first | (go_at_call 59; refine (l09Per_any _ _).mono ?_; rintro x w' ⟨rfl, rfl⟩; first | rw [h1] | rw [h3]) | (go_at_call 76; refine (l00In_any _ _ _ _).mono ?_; rintro e w' ⟨rfl, rfl⟩; rw [h2]) | (go_at_call 97; refine (HC.out _).mono ?_; rintro x w2 ⟨rfl, b2⟩))
    go_ret
    exact ⟨by rw [HV.out]; rfl, belowCall B1 (by (repeat (first | assumption | exact Below.refl _ _ | refine belowDN ?_ _ | refine Below.drew ?_ | refine Below.setCell ?_ (by first | omega | (simp <;> omega)) _ | refine Below.alloc ?_ (by first | omega | (simp <;> omega)) _ | refine belowCall ?_ (by assumption))))⟩
theorem sValidSr_any (f t s : Int) (w : World) :
    Calls Try.prog 15 #[.agg #[.int .i64 f, .int .i64 t, .int .i64 s]] w fun x w' => x = .returned (.bool (srB f t s)) ∧ Below w.heap.size w w' := by
  have B1 : Below w.heap.size w (w.alloc (.cells #[.int .i64 f, .int .i64 t, .int .i64 s] 25)) := (Below.refl _ w).alloc (Nat.le_refl _) _
  go_enter Try.func15, Try.ntmps15
  go_wp2_with fail
  refine (l10Ok_any f t s _).mono ?_
  rintro x w2 ⟨rfl, b2⟩
  go_wp2
  go_ret
  exact ⟨rfl, belowCall B1 b2⟩
end Go.Proofs.Ytkjdkjnhfdcafaa
