/- StarNamed, the program's: the map by names. -/
import Derived.Test.YtlbphdbcjhggjaaDoorSA
import Derived.Sort.Walk0
import Derived.WalkKit
namespace Go.Proofs.YtlbphdbcjhggjaaDoor
open Go.ChangeShapes Go.WideShapes Go.ChangeAt Go.RowKit Go.Deep Go.Maps Go.WideMaps

/-! names of a valid catalogue are different -/
def nmL (xs : List St) (k : Nat) : List UInt8 := (xs[k]?.getD st0).1.toList
theorem okS_parts {xs : List St} {n : Nat} (hn : xs.length = n) (h : okS xs = true) : n ≤ 60 ∧ ∀ k, k < n → okAt xs k = true := by
  simp only [okS, Bool.and_eq_true, decide_eq_true_eq, List.all_eq_true, List.mem_range] at h
  exact ⟨by omega, fun k hk => h.2 k (by omega)⟩
theorem nm_step {xs : List St} {k : Nat} (h : okAt xs (k + 1) = true) : nmL xs k < nmL xs (k + 1) := by
  simp only [okAt, Bool.and_eq_true, Bool.or_eq_true, decide_eq_true_eq, Nat.add_sub_cancel] at h
  rcases h.2 with h2 | h2
  · omega
  · rw [bytesLess_eq] at h2
    exact of_decide_eq_true h2
theorem nm_lt {xs : List St} {n : Nat} (h : ∀ k, k < n → okAt xs k = true) : ∀ (d i : Nat), i + d + 1 < n → nmL xs i < nmL xs (i + d + 1)
  | 0, i, hi => nm_step (h (i + 1) hi)
  | d + 1, i, hi => List.lt_trans (nm_lt h d i (by omega)) (nm_step (h (i + d + 1 + 1) hi))
theorem nm_ne {xs : List St} {n i j : Nat} (h : ∀ k, k < n → okAt xs k = true) (hij : i < j) (hj : j < n) : (nmL xs i == nmL xs j) = false := by
  obtain ⟨d, rfl⟩ : ∃ d, j = i + d + 1 := ⟨j - i - 1, by omega⟩
  have := nm_lt h d i hj
  simp only [beq_eq_false_iff_ne]
  intro e
  rw [e] at this
  exact List.lt_irrefl _ this
theorem nm_size {xs : List St} {k : Nat} (h : okAt xs k = true) : (xs[k]?.getD st0).1.size ≤ maxLen := by
  simp only [okAt, starB, Bool.and_eq_true] at h
  have h1 := h.1.1.1.1.1.1
  simp only [nameB, Bool.and_eq_true, decide_eq_true_eq] at h1
  unfold maxLen; omega
/-! the map's datum -/
def kS (s : ByteArray) : Lit := .string s.data.toList
theorem kS_ne {s t : ByteArray} (h : (s.toList == t.toList) = false) : kS s ≠ kS t := fun e => by
  simp only [kS, Lit.string.injEq] at e
  rw [ByteArray.toList_eq, ByteArray.toList_eq, e] at h
  simp at h
theorem kS_eq {s t : ByteArray} (h : (s.toList == t.toList) = true) : kS s = kS t := by
  rw [beq_iff_eq, ByteArray.toList_eq, ByteArray.toList_eq] at h
  simp [kS, h]
def dM (xs : List St) : Nat → DataW Unit
  | 0 => .map []
  | k + 1 => (dM xs k).put (kS (xs[k]?.getD st0).1) (.lit (.int .i64 k))
theorem dM_map (xs : List St) : ∀ k, IsMap (dM xs k)
  | 0 => ⟨[], rfl⟩
  | k + 1 => (dM_map xs k).put _ _
theorem lawS : Keyed Tryd.prog 9 := string_keyed Tryd.underlying9
theorem keyS {s : ByteArray} (h : s.size ≤ maxLen) : keyOf Tryd.prog 9 (.string s) = some (kS s) := keyOf_string_mk Tryd.underlying9 h
theorem findS_spec {xs : List St} {nm : ByteArray} (h : findS xs nm < xs.length) : (nmL xs (findS xs nm) == nm.toList) = true := by
  induction xs with
  | nil => simp at h
  | cons x xs ih =>
    simp only [findS] at h ⊢
    split
    · rename_i hx; simpa [nmL] using hx
    · rename_i hx
      rw [if_neg hx] at h
      have := ih (by simpa using h)
      simpa [nmL] using this
theorem findS_min {xs : List St} {nm : ByteArray} : ∀ j, j < findS xs nm → (nmL xs j == nm.toList) = false := by
  induction xs with
  | nil => intro j hj; simp [findS] at hj
  | cons x xs ih =>
    intro j hj
    simp only [findS] at hj
    split at hj
    · omega
    · rename_i hx
      cases j with
      | zero => simpa [nmL] using hx
      | succ j => have := ih j (by omega); simpa [nmL] using this
/-- what the map tells of a name -/
theorem dM_look {xs : List St} {n : Nat} (hn : xs.length = n) (h : ∀ k, k < n → okAt xs k = true) (nm : ByteArray) : ∀ k, k ≤ n →
    Maps.has (dM xs k) (kS nm) = decide (findS xs nm < k) ∧ (findS xs nm < k → (dM xs k).atKey (kS nm) (.lit (.int .i64 0)) = .lit (.int .i64 (findS xs nm : Nat)))
  | 0, _ => ⟨by simp [dM, Maps.has], fun h => absurd h (by omega)⟩
  | k + 1, hk => by
    obtain ⟨ih1, ih2⟩ := dM_look hn h nm k (by omega)
    by_cases hE : (nmL xs k == nm.toList) = true
    · have hf : findS xs nm = k := findS_at (by omega) (fun j hj => by
        have h1 := nm_ne h hj (show k < n by omega)
        have h2 : nmL xs k = nm.toList := by simpa using hE
        rw [h2] at h1; exact h1) hE
      have hk1 : WideAt.IsKeyLit (kS (xs[k]?.getD st0).1) := lawS.key (keyS (nm_size (h k (by omega))))
      have he : kS nm = kS (xs[k]?.getD st0).1 := (kS_eq hE).symm
      rw [he, dM, hf]
      exact ⟨by rw [has_put_same (dM_map xs k) hk1]; simp, fun _ => atKey_put_same (dM_map xs k) hk1 _ _⟩
    · have hE' : (nmL xs k == nm.toList) = false := by simpa using hE
      have hne : kS nm ≠ kS (xs[k]?.getD st0).1 := fun e => kS_ne hE' e.symm
      have hfk : findS xs nm ≠ k := fun e => by
        have := findS_spec (xs := xs) (nm := nm) (by omega)
        rw [e] at this; exact hE this
      rw [dM, has_put_other hne, atKey_put_other hne]
      refine ⟨?_, fun hlt => ih2 (by omega)⟩
      rw [ih1]
      exact decide_eq_decide.2 (by omega)
theorem zeroI (w : World) : (zeroValue 2).run Tryd.prog w = .ok (.int .i64 0) w := by kernel_rfl
theorem mkMap (n : Nat) (hn : n ≤ 1048576) (w : World) : (Instr.makeMap 49 (some (.int .i64 n))).run Tryd.prog w = .ok (.map (some w.heap.size)) (w.alloc (.map #[] 0)) := by
  have h0 : ¬ ((n : Int) < 0) := by omega
  simp [Instr.makeMap, go_sem]
set_option maxHeartbeats 1000000 in
theorem places_any (a : Option Addr) (n c : Nat) (xs : List St) (w : World) (h : StL w a n xs) (hok : ∀ k, k < n → okAt xs k = true) (hn : n ≤ 60) :
    Calls Tryd.prog 21 #[.slice a n c] w fun e w' => ∃ B, e = .returned (.map (some B)) ∧ w'.ownsMap Tryd.prog 9 (plainElem Tryd.prog 2) B n (dM xs n) ∧ Below w.heap.size w w' := by
  have hl : (n : Int) ≤ 1048576 := by omega
  have hmm := mkMap n (by omega)
  go_enter Tryd.func21, Tryd.ntmps21
  go_wp2
  go_loopw [11] (fun i wr => ∃ k : Nat, k ≤ n ∧ i = .int .i64 k ∧ wr.ownsMap Tryd.prog 9 (plainElem Tryd.prog 2) w.heap.size k (dM xs k) ∧ Below w.heap.size w wr) (fun i _ => n - (intOf i).toNat)
  case atStart => exact ⟨0, Nat.zero_le _, rfl, World.ownsMap_made _ _ _ _, (Below.refl _ _).alloc (Nat.le_refl _) _⟩
  case round =>
    obtain ⟨k, hk, rfl, hown, hB⟩ := hrel
    by_cases hlt : k < n
    · obtain ⟨b1, o1, rfl, hc⟩ := h.2 k hlt
      have hsz := nm_size (hok k hlt)
      obtain ⟨⟨nx, x1, x2, x3, x4⟩, hx⟩ : ∃ x, xs[k]?.getD st0 = x := ⟨_, rfl⟩
      rw [hx] at hc hsz
      have hS : Hid (dM xs (k + 1) = (dM xs k).put (kS nx) (.lit (.int .i64 k))) := Lib.hid (by rw [dM, hx])
      have hkey := keyS hsz
      obtain ⟨p, p0, p1, p2, p3, p4⟩ := (hc.mono hB).parts
      clear hx hc
      have hkk : (k : Int) < (n : Int) := by omega
      have hsw := hB.size
      have hlt2 := hown.lt
      go_wp2_with (at_mapUpdate; refine wpList_mapUpdate_own _ rfl _ _ _ 49 rfl 9 2 lawS Tryd.underlying49 _ w.heap.size k _ rfl (hown.alloc _) (by unfold maxLen; omega) _ _ _ rfl rfl hkey _ [] (plainElem_int Tryd.underlying2 (WalkArith.wf_i64 (by omega))) ?_)
      intro w1 hown1 hgrow1
      have R2 : Below w.heap.size w w1 := (show Below w.heap.size w _ from hB.alloc hB.size _).grown hgrow1 (by simp; omega) (fun j hj => by cases hj; exact Nat.le_refl _)
      go_wp2
      go_roundw
      case rel => exact ⟨k + 1, by omega, by go_num, by rw [hS.out]; exact hown1, R2⟩
      case measure => simp [intOf]; omega
    · obtain rfl : k = n := by omega
      go_wp2
      go_ret
      exact ⟨_, rfl, hown, hB⟩
end Go.Proofs.YtlbphdbcjhggjaaDoor
