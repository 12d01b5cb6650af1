/- SplitWords: the program's (strings.FieldsFunc at isBlank) and the model's (the parts, then those that are not empty). -/
import Derived.Test.YtfebellnmdfpiaaR12
import Derived.Test.YtfebellnmdfpiaaShelf
namespace Go.Proofs.Ytfebellnmdfpiaa
open Go.ChangeShapes Go.WideShapes Go.ChangeAt Go.RowKit

theorem splitA_len (c : UInt8) : ∀ (l cur : List UInt8), (splitA c cur l).length ≤ l.length + 1
  | [], cur => by simp [splitA]
  | x :: r, cur => by
    rw [splitA]
    split
    · have := splitA_len c r []
      simp; omega
    · have := splitA_len c r (cur ++ [x])
      simp; omega
theorem words_len (l : List UInt8) : (wordsA [] l).length ≤ l.length + 1 := Nat.le_trans (List.length_filter_le _ _) (splitA_len 32 l [])
theorem toL_inj {ps qs : List ByteArray} (h : ps.map (fun p => p.data.toList) = qs.map (fun p => p.data.toList)) : ps = qs := by
  have hi : ∀ (xs ys : List ByteArray), xs.map (fun p => p.data.toList) = ys.map (fun p => p.data.toList) → xs = ys := by
    intro xs
    induction xs with
    | nil => intro ys h; cases ys with
      | nil => rfl
      | cons y ys => simp at h
    | cons x xs ih => intro ys h; cases ys with
      | nil => simp at h
      | cons y ys =>
        rw [List.map_cons, List.map_cons] at h
        injection h with h1 h2
        rw [byteEq h1, ih ys h2]
  exact hi ps qs h
theorem take_flt {ps : List ByteArray} {k : Nat} {x : ByteArray} (hk : k < ps.length) (hx : ps[k]?.getD ⟨#[]⟩ = x) : ((ps.map (fun p => p.data.toList)).take (k + 1)).filter notE = ((ps.map (fun p => p.data.toList)).take k).filter notE ++ [x.data.toList].filter notE := by
  have hk' : k < (ps.map (fun p => p.data.toList)).length := by simpa using hk
  rw [List.take_succ_eq_append_getElem hk', List.filter_append]
  have : (ps.map (fun p => p.data.toList))[k] = x.data.toList := by
    rw [List.getElem_map, ← hx]
    simp [hk]
  rw [this]
theorem isBlank_at (w : World) : PredAt Try.prog 41 #[] encR (· == 32) w := fun W r _ => by
  unfold FnGives
  go_enter Try.func41, Try.ntmps41
  go_wp2
  go_ret
  exact ⟨by simp; rw [Bool.eq_iff_iff, beq_iff_eq, beq_iff_eq]; omega, 0, rfl⟩
theorem iSplitWords_any (s : ByteArray) (w : World) (hs : s.size ≤ 1048576) :
    Calls Try.prog 25 #[.string s] w fun e w' => ∃ (g cap : Nat) (ps : List ByteArray), e = .returned (.slice (some ⟨g, 0, none⟩) ps.length cap) ∧ ps.map (fun p => p.data.toList) = wordsA [] s.data.toList ∧ w'.ownsRow w.heap.size 9 1 (.slice (some ⟨g, 0, none⟩) ps.length cap) ps.length (strs ps) ∧ Below w.heap.size w w' := by
  have hC := Try.strings_FieldsFunc 41 #[] (enters_of Try.func41 (by kernel_rfl) rfl) (· == 32) s w (by omega) (isBlank_at w)
  have hG := Lib.hid (goFields_words s)
  go_enter Try.func25, Try.ntmps25
  go_wp2_with fail
  refine hC.mono ?_
  rintro e w1 ⟨A0, rfl, hA, hown, hb⟩
  have HO := Lib.hid hown
  clear hown
  generalize Lib.goFieldsP (· == 32) s = ps at HO hG ⊢
  go_wp2
  go_ret
  exact ⟨A0, _, ps, rfl, hG.out, HO.out, hb⟩
set_option maxHeartbeats 2000000 in
set_option maxRecDepth 100000 in
theorem sSplitWords_any (s : ByteArray) (w : World) (hs : s.size ≤ 1048576) :
    Calls Try.prog 24 #[.string s] w fun e w' => ∃ (g cap : Nat) (qs : List ByteArray), e = .returned (.slice (some ⟨g, 0, none⟩) qs.length cap) ∧ qs.map (fun p => p.data.toList) = wordsA [] s.data.toList ∧ SAt w' g qs ∧ Below w.heap.size w w' := by
  obtain ⟨i0, hi, hz0, hz1, hz2⟩ := info_parts S_info
  go_enter Try.func24, Try.ntmps24
  go_wp2_with fail
  refine (l01Split_any s 32 _ hs).mono ?_
  rintro e w1 ⟨g, cap, ps, rfl, hps, hown, hb⟩
  have hlen : ps.length ≤ 1048577 := by
    have h1 := splitA_len 32 s.data.toList []
    rw [← hps, List.length_map] at h1
    have h2 : s.data.toList.length = s.size := (Lib.size_eq s).symm
    omega
  have hS := SAt.of_own hown
  have HPS := Lib.hid hps
  clear hown hps
  go_wp2
  go_loopw [4, 5] (fun o i wr => ∃ (k g' cap' : Nat) (qs : List ByteArray), k ≤ ps.length ∧ i = .int .i64 k ∧ qs.length ≤ k ∧ o = .slice (some ⟨g', 0, none⟩) qs.length cap' ∧ qs.map (fun p => p.data.toList) = ((ps.map (fun p => p.data.toList)).take k).filter notE ∧ wr.ownsRow w1.heap.size 9 1 o qs.length (strs qs) ∧ Below w1.heap.size w1 wr) (fun _ i _ => ps.length - (intOf i).toNat)
  case atStart => exact ⟨0, w1.heap.size, 0, [], by omega, rfl, by simp, rfl, by simp, by exact World.ownsRow_lit w1 #[] 0 (Nat.le_refl _) (by unfold maxLen; omega) rfl, (Below.refl _ _).alloc (Nat.le_refl _) _⟩
  case round =>
    obtain ⟨k, g', cap', qs, hk, rfl, hql, rfl, hqs, hown, hB⟩ := hrel
    have HQ := Lib.hid hqs
    clear hqs
    by_cases hlt : k < ps.length
    · obtain ⟨x, hx⟩ : ∃ x, ps[k]?.getD ⟨#[]⟩ = x := ⟨_, rfl⟩
      have hc := ((hS.mono hB) k hlt).2
      rw [hx] at hc
      have HT := Lib.hid (take_flt hlt hx)
      clear hx
      by_cases hxe : x = ⟨#[]⟩
      · subst hxe
        go_wp2
        go_roundw
        case rel => exact ⟨k + 1, g', cap', qs, by omega, by go_num, by omega, rfl, by rw [HT.out, HQ.out]; simp [notE], hown, hB⟩
        case measure => simp [intOf]; omega
      · have hem : x.toList.isEmpty = false := by
          rw [ByteArray.toList_eq]
          cases hd : x.data.toList with
          | nil => exact absurd (byteEq (by rw [hd])) hxe
          | cons a r => rfl
        have hxl : [x.data.toList].filter notE = [x.data.toList] := by
          have : x.data.toList ≠ [] := fun e => hxe (byteEq (by rw [e]))
          cases hd : x.data.toList with
          | nil => exact absurd hd this
          | cons a r => rfl
        have HX := Lib.hid hxl
        clear hxl
        go_wp2_with (at_builtin; refine wpList_append_own _ rfl _ _ 35 rfl w1.heap.size 9 i0 (.string ⟨#[]⟩) 1 16 Try.underlying35 hi hz0 hz1 hz2 rfl (by decide) _ qs.length (strs qs) rfl ?c0 ⟨wr.heap.size, 0, none⟩ 1 1 [.string x] rfl ?cl ?c1 ?c2 ?c3 ?c4 ?c5 ?_)
        case c0 => exact hown.alloc _
        case cl => rfl
        case c1 =>
          intro j u hj
          cases j with
          | zero => simp at hj; subst hj; simp [Go.WideShapes.add_plain]
          | succ j => simp at hj
        case c2 => intro u hu; simp at hu; subst hu; rfl
        case c3 => unfold maxLen; omega
        case c4 => omega
        case c5 => have := hB.size; first | omega | (simp; omega)
        intro v' wb hownb hgb hnil
        have hBb : Below w1.heap.size w1 wb := (hB.alloc hB.size _).grown hgb (by have := hB.size; first | omega | (simp; omega)) (fun k hk => by simp [Value.ownBlock] at hk; have := hB.size; have := hown.lt g' rfl; omega)
        have hst : strs qs ++ [Value.string x] = strs (qs ++ [x]) := by simp [strs]
        rw [hst] at hownb
        rcases hownb.2 with ⟨_, h0⟩ | ⟨g2, c2, cur, hv', _⟩
        · omega
        · subst hv'
          clear hnil hgb hown hB
          go_wp2
          go_roundw
          case rel =>
            refine ⟨k + 1, g2, c2, qs ++ [x], by omega, by go_num, by simp; omega, by simp, ?_, by simpa using hownb, hBb⟩
            rw [List.map_append, HT.out, HQ.out, HX.out]
            rfl
          case measure => simp [intOf]; omega
    · obtain rfl : k = ps.length := by omega
      have hend : qs.map (fun p => p.data.toList) = wordsA [] s.data.toList := by
        rw [HQ.out, List.take_of_length_le (by simp), HPS.out]; rfl
      have HE := Lib.hid hend
      clear hend
      have hSq := SAt.of_own hown
      go_wp2
      go_ret
      exact ⟨g', cap', qs, rfl, HE.out, hSq, belowCall hb hB⟩
end Go.Proofs.Ytfebellnmdfpiaa
