/- A number put into a sorted list: the model's l00Put. -/
import Derived.Test.YtcjipmpccmppiaaB3
import Derived.Test.YtcjipmpccmppiaaG0
import Derived.Test.YtcjipmpccmppiaaFK
import Derived.Test.YtcjipmpccmppiaaH7R
import Derived.Deep.AppendLies
namespace Go.Proofs.Ytcjipmpccmppiaa
open Go.ChangeShapes Go.WideShapes Go.ChangeAt Go.RowKit Go.Deep

/-- z put into a list -/
def puI (z : Int) : List Int → List Int
  | [] => [z]
  | x :: r => if x < z then x :: puI z r else if x = z then x :: r else z :: x :: r
def puS (z : Int) (s : List Int × Bool) (x : Int) : List Int × Bool := if s.2 = false ∧ z ≤ x then (if z < x then (s.1 ++ [z, x], true) else (s.1 ++ [x], true)) else (s.1 ++ [x], s.2)
def puK (z : Int) (xs : List Int) (k : Nat) : List Int × Bool := (xs.take k).foldl (puS z) ([], false)
theorem puS_done (z : Int) : ∀ (xs : List Int) (o : List Int), xs.foldl (puS z) (o, true) = (o ++ xs, true)
  | [], o => by simp
  | x :: r, o => by
    rw [List.foldl_cons]
    have e : puS z (o, true) x = (o ++ [x], true) := by simp [puS]
    rw [e, puS_done z r, List.append_assoc]; rfl
theorem puI_fold (z : Int) : ∀ (xs : List Int) (o : List Int), (if (xs.foldl (puS z) (o, false)).2 then (xs.foldl (puS z) (o, false)).1 else (xs.foldl (puS z) (o, false)).1 ++ [z]) = o ++ puI z xs
  | [], o => by simp [puI]
  | x :: r, o => by
    rw [List.foldl_cons]
    by_cases h1 : x < z
    · have e : puS z (o, false) x = (o ++ [x], false) := by simp only [puS]; rw [if_neg (by simp; omega)]
      rw [e, puI_fold z r, puI, if_pos h1, List.append_assoc]; rfl
    · by_cases h2 : x = z
      · have e : puS z (o, false) x = (o ++ [x], true) := by simp only [puS]; rw [if_pos (by simp; omega), if_neg (by omega)]
        rw [e, puS_done, puI, if_neg h1, if_pos h2, if_pos rfl, List.append_assoc]; rfl
      · have e : puS z (o, false) x = (o ++ [z, x], true) := by simp only [puS]; rw [if_pos (by simp; omega), if_pos (by omega)]
        rw [e, puS_done, puI, if_neg h1, if_neg h2, if_pos rfl, List.append_assoc]; rfl
theorem puI_of (z : Int) (xs : List Int) {n : Nat} (hn : xs.length = n) {o : List Int} {d : Bool} (h : puK z xs n = (o, d)) : puI z xs = if d then o else o ++ [z] := by
  have := puI_fold z xs []
  rw [puK, List.take_of_length_le (by omega)] at h
  rw [h] at this
  simpa using this.symm
theorem puK_step {z : Int} {xs : List Int} {k : Nat} {x : Int} (hk : k < xs.length) (hx : xs[k]?.getD 0 = x) : puK z xs (k + 1) = puS z (puK z xs k) x := by
  have hx' : xs[k] = x := by rw [← hx]; simp [hk]
  rw [puK, puK, List.take_succ_eq_append_getElem hk, List.foldl_append, hx']; rfl
theorem puK_len (z : Int) (xs : List Int) : ∀ k, (puK z xs k).1.length ≤ k + (if (puK z xs k).2 then 1 else 0)
  | 0 => by simp [puK]
  | k + 1 => by
    have ih := puK_len z xs k
    by_cases hk : k < xs.length
    · rw [puK_step hk rfl]
      generalize puK z xs k = s at ih
      generalize xs[k]?.getD 0 = x
      obtain ⟨o, d⟩ := s
      cases d
      · simp at ih
        simp only [puS]
        split
        · split <;> simp <;> omega
        · simp; omega
      · simp at ih
        simp [puS]; omega
    · have e : puK z xs (k + 1) = puK z xs k := by rw [puK, puK, List.take_of_length_le (by omega), List.take_of_length_le (by omega)]
      rw [e]; omega
/-- z put into the numbers of a range that a test leaves -/
theorem puI_range (P : Nat → Bool) (q : Nat) : ∀ (len s : Nat), s ≤ q → q < s + len → puI (q : Int) (((List.range' s len).filter P).map fun c : Nat => (c : Int)) = ((List.range' s len).filter fun c => P c || c == q).map fun c : Nat => (c : Int)
  | 0, s, h1, h2 => by omega
  | len + 1, s, h1, h2 => by
    have hrest : ∀ s', q < s' → (List.range' s' len).filter (fun c => P c || c == q) = (List.range' s' len).filter P := fun s' hs => by
      refine List.filter_congr fun c hc => ?_
      have := (List.mem_range'_1.1 hc).1
      have e : (c == q) = false := by simp; omega
      rw [e, Bool.or_false]
    rw [List.range'_succ, List.filter_cons, List.filter_cons]
    by_cases e : s = q
    · subst e
      rw [hrest (s + 1) (by omega)]
      cases hP : P s
      · simp only [Bool.false_or, BEq.rfl, if_true]
        rw [if_neg (by simp)]
        cases hl : (List.range' (s + 1) len).filter P with
        | nil => rfl
        | cons c r =>
          have hc : c ∈ (List.range' (s + 1) len).filter P := by rw [hl]; exact List.mem_cons_self
          have hcs := (List.mem_range'_1.1 (List.mem_filter.1 hc).1).1
          rw [List.map_cons, puI, if_neg (by omega), if_neg (by omega)]; rfl
      · simp only [Bool.true_or, if_true]
        rw [List.map_cons, puI, if_neg (by omega), if_pos rfl]
    · have ih := puI_range P q len (s + 1) (by omega) (by omega)
      have e' : (s == q) = false := by simpa using e
      rw [e', Bool.or_false]
      cases hP : P s
      · simp only [Bool.false_eq_true, if_false]
        exact ih
      · simp only [if_true]
        rw [List.map_cons, puI, if_pos (by omega), ih]; rfl
set_option maxRecDepth 100000 in
set_option maxHeartbeats 2000000 in
theorem put_any (a : Option Addr) (n c : Nat) (xs : List Int) (z : Int) (w : World) (h : Lst w a n xs) (hn : n ≤ 100) :
    Calls Try.prog 107 #[.slice a n c, .int .i64 z] w fun e w' => ∃ g c', e = .returned (.slice (some ⟨g, 0, none⟩) (puI z xs).length c') ∧ w'.ownsRow w.heap.size 2 1 (.slice (some ⟨g, 0, none⟩) (puI z xs).length c') (puI z xs).length ((puI z xs).map (Value.int .i64)) ∧ Below w.heap.size w w' := by
  obtain ⟨i0, hi, hz0, hz1, hz2⟩ := info_parts A_info
  have hl : (n : Int) ≤ 100 := by omega
  have HL := Lib.hid h.1
  have HE := Lib.hid (fun o d => puI_of z xs h.1 (o := o) (d := d))
  have HK := Lib.hid (puK_len z xs)
  have hE0 : (w.alloc (.cells #[] 2)).ownsRow w.heap.size 2 1 (.slice (some ⟨w.heap.size, 0, none⟩) 0 0) 0 [] := World.ownsRow_lit w #[] 0 (Nat.le_refl _) (by unfold maxLen; omega) rfl
  have b0 : Below w.heap.size w (w.alloc (.cells #[] 2)) := (Below.refl _ _).alloc (Nat.le_refl _) _
  go_enter Try.func107, Try.ntmps107
  go_wp2
  go_loopw [5, 6, 7] (fun o d i wr => ∃ (k g c m : Nat) (L : List Int) (b : Bool), k ≤ n ∧ i = .int .i64 k ∧ puK z xs k = (L, b) ∧ L.length = m ∧ o = .slice (some ⟨g, 0, none⟩) m c ∧ d = .bool b ∧ wr.ownsRow w.heap.size 2 1 (.slice (some ⟨g, 0, none⟩) m c) m (L.map (Value.int .i64)) ∧ Below w.heap.size w wr) (fun _ _ i _ => n - (Go.RowKit.intOf i).toNat)
  case atStart => exact ⟨0, w.heap.size, 0, 0, [], false, Nat.zero_le _, rfl, rfl, rfl, rfl, rfl, hE0, b0⟩
  case round =>
    obtain ⟨k, g, c, m, L, b, hk, rfl, hKk, hLm, rfl, rfl, hown, hB⟩ := hrel
    clear hE0 b0
    have hsz := hB.size
    have hm : m ≤ k + 1 := by
      have := HK.out k
      rw [hKk] at this
      cases b <;> simp at this <;> omega
    have HKK := Lib.hid hKk
    have HLM := Lib.hid hLm
    clear hKk hLm
    by_cases hlt : k < n
    · obtain ⟨ba, oa, rfl, hla, hca⟩ := h.2 k hlt
      obtain ⟨x, hx⟩ : ∃ x, xs[k]?.getD 0 = x := ⟨_, rfl⟩
      have HST := Lib.hid (puK_step (z := z) (by have := HL.out; omega) hx)
      rw [hx] at hca
      have q1 : wr.cell? ⟨ba, oa + k, none⟩ = some (.int .i64 x) := by rw [hB.cell (p := ⟨ba, oa + k, none⟩) hla]; exact hca
      have hkk : (k : Int) < (n : Int) := by omega
      have HCA := Lib.hid hca
      clear hx hca
      cases b
      · by_cases h1 : z ≤ x
        · have hd1 : decide (z ≤ x) = true := by simpa using h1
          by_cases h2 : z < x
          · obtain ⟨X, hX⟩ : ∃ X, X = z := ⟨_, rfl⟩
            obtain ⟨Y, hY⟩ : ∃ Y, Y = x := ⟨_, rfl⟩
            have HN : Hid (puK z xs (k + 1) = (L ++ [X] ++ [Y], true)) := Lib.hid (by rw [HST.out, HKK.out, hX, hY]; simp only [puS]; rw [if_pos ⟨trivial, h1⟩, if_pos h2]; simp)
            subst hX
            subst hY
            go_wp2_with (first | (at_builtin; refine wpList_append_lies _ rfl _ _ 24 rfl w.heap.size 2 i0 (.int .i64 0) 1 8 Try.underlying24 hi hz0 hz1 hz2 rfl (by decide) _ _ _ rfl (hown.alloc _) ⟨wr.heap.size, 0, none⟩ 1 1 [.int .i64 X] rfl rfl (cell_one_new _ _ _) (by intro u hu; simp at hu; subst hu; rfl) (by decide) (by unfold maxLen; omega) (by omega) (by simp; omega) _ rfl ?_; intro g7 c7 w7 hown7 hg7 hat7 hlt7; have hB7 : Below w.heap.size w w7 := (show Below w.heap.size w (wr.alloc (.cells #[.int .i64 X] 2)) from hB.alloc (by omega) _).grown hg7 (by simp; omega) (fun j e => (hown.lt j e).1); have hs7 := hB7.size; (try have q7 := (hB7.cell (p := ⟨ba, oa + k, none⟩) hla).trans HCA.out); clear hg7 hat7) | (at_builtin; refine wpList_append_lies _ rfl _ _ 24 rfl w.heap.size 2 i0 (.int .i64 0) 1 8 Try.underlying24 hi hz0 hz1 hz2 rfl (by decide) _ _ _ rfl (hown7.alloc _) ⟨w7.heap.size, 0, none⟩ 1 1 [.int .i64 Y] rfl rfl (cell_one_new _ _ _) (by intro u hu; simp at hu; subst hu; rfl) (by decide) (by unfold maxLen; omega) (by omega) (by simp; omega) _ rfl ?_; intro g8 c8 w8 hown8 hg8 hat8 hlt8; have hB8 : Below w.heap.size w w8 := (show Below w.heap.size w (w7.alloc (.cells #[.int .i64 Y] 2)) from hB7.alloc (by omega) _).grown hg8 (by simp; omega) (fun j e => (hown7.lt j e).1); clear hg8 hat8))
            have HO := Lib.hid hown8
            clear hown8 hown7 hown
            go_roundw
            case rel => exact ⟨k + 1, g8, c8, _, _, _, by omega, by go_num, HN.out, by simp [HLM.out], rfl, rfl, by simpa using HO.out, hB8⟩
            case measure => simp [Go.RowKit.intOf]; omega
          · obtain ⟨X, hX⟩ : ∃ X, X = x := ⟨_, rfl⟩
            have HN : Hid (puK z xs (k + 1) = (L ++ [X], true)) := Lib.hid (by rw [HST.out, HKK.out, hX]; simp only [puS]; rw [if_pos ⟨trivial, h1⟩, if_neg h2])
            subst hX
            go_wp2_with (first | (at_builtin; refine wpList_append_lies _ rfl _ _ 24 rfl w.heap.size 2 i0 (.int .i64 0) 1 8 Try.underlying24 hi hz0 hz1 hz2 rfl (by decide) _ _ _ rfl (hown.alloc _) ⟨wr.heap.size, 0, none⟩ 1 1 [.int .i64 X] rfl rfl (cell_one_new _ _ _) (by intro u hu; simp at hu; subst hu; rfl) (by decide) (by unfold maxLen; omega) (by omega) (by simp; omega) _ rfl ?_; intro g7 c7 w7 hown7 hg7 hat7 hlt7; have hB7 : Below w.heap.size w w7 := (show Below w.heap.size w (wr.alloc (.cells #[.int .i64 X] 2)) from hB.alloc (by omega) _).grown hg7 (by simp; omega) (fun j e => (hown.lt j e).1); have hs7 := hB7.size; (try have q7 := (hB7.cell (p := ⟨ba, oa + k, none⟩) hla).trans HCA.out); clear hg7 hat7))
            have HO := Lib.hid hown7
            clear hown7 hown
            go_roundw
            case rel => exact ⟨k + 1, g7, c7, _, _, _, by omega, by go_num, HN.out, by simp [HLM.out], rfl, rfl, by simpa using HO.out, hB7⟩
            case measure => simp [Go.RowKit.intOf]; omega
        · have hd1 : decide (z ≤ x) = false := by simpa using h1
          obtain ⟨X, hX⟩ : ∃ X, X = x := ⟨_, rfl⟩
          have HN : Hid (puK z xs (k + 1) = (L ++ [X], false)) := Lib.hid (by rw [HST.out, HKK.out, hX]; simp only [puS]; rw [if_neg (fun hh => h1 hh.2)])
          subst hX
          go_wp2_with (first | (at_builtin; refine wpList_append_lies _ rfl _ _ 24 rfl w.heap.size 2 i0 (.int .i64 0) 1 8 Try.underlying24 hi hz0 hz1 hz2 rfl (by decide) _ _ _ rfl (hown.alloc _) ⟨wr.heap.size, 0, none⟩ 1 1 [.int .i64 X] rfl rfl (cell_one_new _ _ _) (by intro u hu; simp at hu; subst hu; rfl) (by decide) (by unfold maxLen; omega) (by omega) (by simp; omega) _ rfl ?_; intro g7 c7 w7 hown7 hg7 hat7 hlt7; have hB7 : Below w.heap.size w w7 := (show Below w.heap.size w (wr.alloc (.cells #[.int .i64 X] 2)) from hB.alloc (by omega) _).grown hg7 (by simp; omega) (fun j e => (hown.lt j e).1); have hs7 := hB7.size; (try have q7 := (hB7.cell (p := ⟨ba, oa + k, none⟩) hla).trans HCA.out); clear hg7 hat7))
          have HO := Lib.hid hown7
          clear hown7 hown
          go_roundw
          case rel => exact ⟨k + 1, g7, c7, _, _, _, by omega, by go_num, HN.out, by simp [HLM.out], rfl, rfl, by simpa using HO.out, hB7⟩
          case measure => simp [Go.RowKit.intOf]; omega
      · obtain ⟨X, hX⟩ : ∃ X, X = x := ⟨_, rfl⟩
        have HN : Hid (puK z xs (k + 1) = (L ++ [X], true)) := Lib.hid (by rw [HST.out, HKK.out, hX]; simp [puS])
        subst hX
        go_wp2_with (first | (at_builtin; refine wpList_append_lies _ rfl _ _ 24 rfl w.heap.size 2 i0 (.int .i64 0) 1 8 Try.underlying24 hi hz0 hz1 hz2 rfl (by decide) _ _ _ rfl (hown.alloc _) ⟨wr.heap.size, 0, none⟩ 1 1 [.int .i64 X] rfl rfl (cell_one_new _ _ _) (by intro u hu; simp at hu; subst hu; rfl) (by decide) (by unfold maxLen; omega) (by omega) (by simp; omega) _ rfl ?_; intro g7 c7 w7 hown7 hg7 hat7 hlt7; have hB7 : Below w.heap.size w w7 := (show Below w.heap.size w (wr.alloc (.cells #[.int .i64 X] 2)) from hB.alloc (by omega) _).grown hg7 (by simp; omega) (fun j e => (hown.lt j e).1); have hs7 := hB7.size; (try have q7 := (hB7.cell (p := ⟨ba, oa + k, none⟩) hla).trans HCA.out); clear hg7 hat7))
        have HO := Lib.hid hown7
        clear hown7 hown
        go_roundw
        case rel => exact ⟨k + 1, g7, c7, _, _, _, by omega, by go_num, HN.out, by simp [HLM.out], rfl, rfl, by simpa using HO.out, hB7⟩
        case measure => simp [Go.RowKit.intOf]; omega
    · obtain rfl : k = n := by omega
      have HF := Lib.hid (HE.out _ _ HKK.out)
      cases b
      · obtain ⟨X, hX⟩ : ∃ X, X = z := ⟨_, rfl⟩
        have HF2 : Hid (puI z xs = L ++ [X]) := Lib.hid (by rw [HF.out, hX]; simp)
        subst hX
        go_wp2_with (first | (at_builtin; refine wpList_append_lies _ rfl _ _ 24 rfl w.heap.size 2 i0 (.int .i64 0) 1 8 Try.underlying24 hi hz0 hz1 hz2 rfl (by decide) _ _ _ rfl (hown.alloc _) ⟨wr.heap.size, 0, none⟩ 1 1 [.int .i64 X] rfl rfl (cell_one_new _ _ _) (by intro u hu; simp at hu; subst hu; rfl) (by decide) (by unfold maxLen; omega) (by omega) (by simp; omega) _ rfl ?_; intro g7 c7 w7 hown7 hg7 hat7 hlt7; have hB7 : Below w.heap.size w w7 := (show Below w.heap.size w (wr.alloc (.cells #[.int .i64 X] 2)) from hB.alloc (by omega) _).grown hg7 (by simp; omega) (fun j e => (hown.lt j e).1); have hs7 := hB7.size; (try have q7 := (hB7.cell (p := ⟨ba, oa + k, none⟩) hla).trans HCA.out); clear hg7 hat7))
        have HO := Lib.hid hown7
        clear hown7 hown
        go_wp2
        go_ret
        exact ⟨g7, c7, by rw [HF2.out, List.length_append, HLM.out]; rfl, by rw [HF2.out, List.length_append, HLM.out, List.map_append]; exact HO.out, hB7⟩
      · have HF2 : Hid (puI z xs = L) := Lib.hid (by rw [HF.out]; simp)
        have HO := Lib.hid hown
        clear hown
        go_wp2
        go_ret
        exact ⟨g, c, by rw [HF2.out, HLM.out]; rfl, by rw [HF2.out, HLM.out]; exact HO.out, hB⟩
end Go.Proofs.Ytcjipmpccmppiaa
