/- Names in a list of observers: the model's search, the map's datum. -/
import Derived.Test.YtiogffjhhhpolacDoorO4
import Derived.Maps.OwnSet
import Derived.Maps.Views
import Derived.Sort.Walk0
import Derived.WalkKit
namespace Go.Proofs.YtiogffjhhhpolacDoor
open Go.ChangeShapes Go.WideShapes Go.ChangeAt Go.RowKit Go.Deep Go.Maps Go.WideMaps

/-- the first index with a name; the length if there is none -/
def findO : List Ob → ByteArray → Nat
  | [], _ => 0
  | x :: xs, nm => if x.1.toList == nm.toList then 0 else findO xs nm + 1
theorem findO_le (xs : List Ob) (nm : ByteArray) : findO xs nm ≤ xs.length := by
  induction xs with
  | nil => exact Nat.le_refl _
  | cons x xs ih => simp only [findO, List.length_cons]; split <;> omega
theorem findO_at {xs : List Ob} {nm : ByteArray} {k : Nat} (hk : k < xs.length) (hall : ∀ j, j < k → ((xs[j]?.getD ob0).1.toList == nm.toList) = false) (hx : ((xs[k]?.getD ob0).1.toList == nm.toList) = true) : findO xs nm = k := by
  induction xs generalizing k with
  | nil => simp at hk
  | cons x xs ih =>
    cases k with
    | zero => simp at hx; simp [findO, hx]
    | succ k =>
      have h0 := hall 0 (by omega)
      simp at h0
      have := ih (k := k) (by simpa using hk) (fun j hj => by have := hall (j + 1) (by omega); simpa using this) (by simpa using hx)
      simp [findO, h0, this]
theorem findO_none {xs : List Ob} {nm : ByteArray} (hall : ∀ j, j < xs.length → ((xs[j]?.getD ob0).1.toList == nm.toList) = false) : findO xs nm = xs.length := by
  induction xs with
  | nil => rfl
  | cons x xs ih =>
    have h0 := hall 0 (by simp)
    simp at h0
    have := ih (fun j hj => by have := hall (j + 1) (by simpa using hj); simpa using this)
    simp [findO, h0, this]
def findVO (xs : List Ob) (nm : ByteArray) : Int := if findO xs nm < xs.length then findO xs nm else -1
theorem findVO_at {xs : List Ob} {nm : ByteArray} {k : Nat} (h : findO xs nm = k) (hk : k < xs.length) : findVO xs nm = k := by rw [findVO, h, if_pos hk]
theorem findVO_none {xs : List Ob} {nm : ByteArray} (h : findO xs nm = xs.length) : findVO xs nm = -1 := by rw [findVO, h, if_neg (by omega)]
set_option maxHeartbeats 1000000 in
theorem l05Find_any (a : Option Addr) (n c : Nat) (xs : List Ob) (nm : ByteArray) (w : World) (h : ObL w a n xs) (hn : n ≤ 1048576) :
    Calls Tryd.prog 21 #[.slice a n c, .string nm] w fun e w' => e = .returned (.int .i64 (findVO xs nm)) ∧ w = w' := by
  have hl : (n : Int) ≤ 1048576 := by omega
  have HL := Lib.hid h.1
  go_enter Tryd.func21, Tryd.ntmps21
  go_wp2
  go_loop [5] (fun i => ∃ k : Nat, k ≤ n ∧ i = .int .i64 k ∧ (∀ j, j < k → ((xs[j]?.getD ob0).1.toList == nm.toList) = false)) (fun i => n - (Go.RowKit.intOf i).toNat)
  case atStart => exact ⟨0, Nat.zero_le _, rfl, fun j hj => absurd hj (by omega)⟩
  case round =>
    obtain ⟨k, hk, rfl, hall⟩ := hrel
    have HALL := Lib.hid hall
    clear hall
    by_cases hlt : k < n
    · obtain ⟨b1, o1, rfl, hc⟩ := h.2 k hlt
      obtain ⟨⟨nx, x1⟩, hx⟩ : ∃ x, xs[k]?.getD ob0 = x := ⟨_, rfl⟩
      rw [hx] at hc
      obtain ⟨p, p0, p1⟩ := hc.parts
      have HX := Lib.hid hx
      clear hx hc
      have hkk : (k : Int) < (n : Int) := by omega
      cases hE : (nx.toList == nm.toList)
      · go_wp2
        go_round
        case rel =>
          refine ⟨k + 1, by omega, by go_num, fun j hj => ?_⟩
          by_cases hjk : j = k
          · subst hjk; rw [HX.out]; exact hE
          · exact HALL.out j (by omega)
        case measure => simp [Go.RowKit.intOf]; omega
      · have HV := Lib.hid (findVO_at (findO_at (by have := HL.out; omega) HALL.out (by rw [HX.out]; exact hE)) (by have := HL.out; omega))
        go_wp2
        go_ret
        exact ⟨by rw [HV.out]; rfl, rfl⟩
    · obtain rfl : k = n := by omega
      have HV := Lib.hid (findVO_none (findO_none (xs := xs) (nm := nm) (by rw [HL.out]; exact HALL.out)))
      go_wp2
      go_ret
      exact ⟨by rw [HV.out]; rfl, rfl⟩
/-! names of a valid catalogue are different -/
def nmLO (xs : List Ob) (k : Nat) : List UInt8 := (xs[k]?.getD ob0).1.toList
theorem okO_parts {xs : List Ob} {n : Nat} (hn : xs.length = n) (h : okO xs = true) : n ≤ 40 ∧ ∀ k, k < n → okAtO xs k = true := by
  simp only [okO, Bool.and_eq_true, decide_eq_true_eq, List.all_eq_true, List.mem_range] at h
  exact ⟨by omega, fun k hk => h.2 k (by omega)⟩
theorem nmO_step {xs : List Ob} {k : Nat} (h : okAtO xs (k + 1) = true) : nmLO xs k < nmLO xs (k + 1) := by
  simp only [okAtO, Bool.and_eq_true, Bool.or_eq_true, decide_eq_true_eq, Nat.add_sub_cancel] at h
  rcases h.2 with h2 | h2
  · omega
  · rw [bytesLess_eq] at h2
    exact of_decide_eq_true h2
theorem nmO_lt {xs : List Ob} {n : Nat} (h : ∀ k, k < n → okAtO xs k = true) : ∀ (d i : Nat), i + d + 1 < n → nmLO xs i < nmLO xs (i + d + 1)
  | 0, i, hi => nmO_step (h (i + 1) hi)
  | d + 1, i, hi => List.lt_trans (nmO_lt h d i (by omega)) (nmO_step (h (i + d + 1 + 1) hi))
theorem nmO_ne {xs : List Ob} {n i j : Nat} (h : ∀ k, k < n → okAtO xs k = true) (hij : i < j) (hj : j < n) : (nmLO xs i == nmLO xs j) = false := by
  obtain ⟨d, rfl⟩ : ∃ d, j = i + d + 1 := ⟨j - i - 1, by omega⟩
  have := nmO_lt h d i hj
  simp only [beq_eq_false_iff_ne]
  intro e
  rw [e] at this
  exact List.lt_irrefl _ this
theorem nmO_size {xs : List Ob} {k : Nat} (h : okAtO xs k = true) : (xs[k]?.getD ob0).1.size ≤ maxLen := by
  simp only [okAtO, obB, Bool.and_eq_true] at h
  have h1 := h.1.1
  simp only [nameB, Bool.and_eq_true, decide_eq_true_eq] at h1
  unfold maxLen; omega
/-! the map's datum -/
def kSO (s : ByteArray) : Lit := .string s.data.toList
theorem kSO_ne {s t : ByteArray} (h : (s.toList == t.toList) = false) : kSO s ≠ kSO t := fun e => by
  simp only [kSO, Lit.string.injEq] at e
  rw [ByteArray.toList_eq, ByteArray.toList_eq, e] at h
  simp at h
theorem kSO_eq {s t : ByteArray} (h : (s.toList == t.toList) = true) : kSO s = kSO t := by
  rw [beq_iff_eq, ByteArray.toList_eq, ByteArray.toList_eq] at h
  simp [kSO, h]
def dMO (xs : List Ob) : Nat → DataW Unit
  | 0 => .map []
  | k + 1 => (dMO xs k).put (kSO (xs[k]?.getD ob0).1) (.lit (.int .i64 k))
theorem dMO_map (xs : List Ob) : ∀ k, IsMap (dMO xs k)
  | 0 => ⟨[], rfl⟩
  | k + 1 => (dMO_map xs k).put _ _
theorem lawSO : Keyed Tryd.prog 9 := string_keyed Tryd.underlying9
theorem keySO {s : ByteArray} (h : s.size ≤ maxLen) : keyOf Tryd.prog 9 (.string s) = some (kSO s) := keyOf_string_mk Tryd.underlying9 h
theorem findO_spec {xs : List Ob} {nm : ByteArray} (h : findO xs nm < xs.length) : (nmLO xs (findO xs nm) == nm.toList) = true := by
  induction xs with
  | nil => simp at h
  | cons x xs ih =>
    simp only [findO] at h ⊢
    split
    · rename_i hx; simpa [nmLO] using hx
    · rename_i hx
      rw [if_neg hx] at h
      have := ih (by simpa using h)
      simpa [nmLO] using this
theorem findO_min {xs : List Ob} {nm : ByteArray} : ∀ j, j < findO xs nm → (nmLO xs j == nm.toList) = false := by
  induction xs with
  | nil => intro j hj; simp [findO] at hj
  | cons x xs ih =>
    intro j hj
    simp only [findO] at hj
    split at hj
    · omega
    · rename_i hx
      cases j with
      | zero => simpa [nmLO] using hx
      | succ j => have := ih j (by omega); simpa [nmLO] using this
/-- what the map tells of a name -/
theorem dMO_look {xs : List Ob} {n : Nat} (hn : xs.length = n) (h : ∀ k, k < n → okAtO xs k = true) (nm : ByteArray) : ∀ k, k ≤ n →
    Maps.has (dMO xs k) (kSO nm) = decide (findO xs nm < k) ∧ (findO xs nm < k → (dMO xs k).atKey (kSO nm) (.lit (.int .i64 0)) = .lit (.int .i64 (findO xs nm : Nat)))
  | 0, _ => ⟨by simp [dMO, Maps.has], fun h => absurd h (by omega)⟩
  | k + 1, hk => by
    obtain ⟨ih1, ih2⟩ := dMO_look hn h nm k (by omega)
    by_cases hE : (nmLO xs k == nm.toList) = true
    · have hf : findO xs nm = k := findO_at (by omega) (fun j hj => by
        have h1 := nmO_ne h hj (show k < n by omega)
        have h2 : nmLO xs k = nm.toList := by simpa using hE
        rw [h2] at h1; exact h1) hE
      have hk1 : WideAt.IsKeyLit (kSO (xs[k]?.getD ob0).1) := lawSO.key (keySO (nmO_size (h k (by omega))))
      have he : kSO nm = kSO (xs[k]?.getD ob0).1 := (kSO_eq hE).symm
      rw [he, dMO, hf]
      exact ⟨by rw [has_put_same (dMO_map xs k) hk1]; simp, fun _ => atKey_put_same (dMO_map xs k) hk1 _ _⟩
    · have hE' : (nmLO xs k == nm.toList) = false := by simpa using hE
      have hne : kSO nm ≠ kSO (xs[k]?.getD ob0).1 := fun e => kSO_ne hE' e.symm
      have hfk : findO xs nm ≠ k := fun e => by
        have := findO_spec (xs := xs) (nm := nm) (by omega)
        rw [e] at this; exact hE this
      rw [dMO, has_put_other hne, atKey_put_other hne]
      refine ⟨?_, fun hlt => ih2 (by omega)⟩
      rw [ih1]
      exact decide_eq_decide.2 (by omega)
theorem zeroIO (w : World) : (zeroValue 2).run Tryd.prog w = .ok (.int .i64 0) w := by kernel_rfl
theorem mkMapO (n : Nat) (hn : n ≤ 1048576) (w : World) : (Instr.makeMap 64 (some (.int .i64 n))).run Tryd.prog w = .ok (.map (some w.heap.size)) (w.alloc (.map #[] 0)) := by
  have h0 : ¬ ((n : Int) < 0) := by omega
  simp [Instr.makeMap, go_sem]
end Go.Proofs.YtiogffjhhhpolacDoor
