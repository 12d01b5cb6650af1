/- l01Split: the model's splitting of a text at a byte. -/
import Derived.Test.YtlfbfgdejoggpacDoorB1
import Derived.Test.YtlfbfgdejoggpacDoorB7
import Derived.OwnWalk
import Derived.Laws.Rows
namespace Go.Proofs.YtlfbfgdejoggpacDoor
open Go.ChangeShapes Go.WideShapes Go.ChangeAt Go.RowKit

/-- the parts of a text between bytes c, behind what is begun -/
def splitA (c : UInt8) (cur : List UInt8) : List UInt8 → List (List UInt8)
  | [] => [cur]
  | x :: r => if x = c then cur :: splitA c [] r else splitA c (cur ++ [x]) r
theorem splitA_ne (c : UInt8) : ∀ (l cur : List UInt8), splitA c cur l ≠ []
  | [], cur => by simp [splitA]
  | x :: r, cur => by
    unfold splitA
    split
    · simp
    · exact splitA_ne c r _
theorem splitA_none {c : UInt8} : ∀ {l : List UInt8} (cur : List UInt8), (∀ x ∈ l, x ≠ c) → splitA c cur l = [cur ++ l]
  | [], cur, _ => by simp [splitA]
  | x :: r, cur, h => by
    unfold splitA
    rw [if_neg (h x (by simp)), splitA_none _ (fun y hy => h y (by simp [hy]))]
    simp
theorem splitA_hit {c : UInt8} {b : List UInt8} : ∀ {a : List UInt8} (cur : List UInt8), (∀ x ∈ a, x ≠ c) → splitA c cur (a ++ c :: b) = (cur ++ a) :: splitA c [] b
  | [], cur, _ => by simp [splitA]
  | x :: r, cur, h => by
    rw [List.cons_append]
    conv => lhs; unfold splitA
    rw [if_neg (h x (by simp)), splitA_hit _ (fun y hy => h y (by simp [hy]))]
    simp
theorem splitA_one {c : UInt8} : ∀ {l cur a : List UInt8}, splitA c cur l = [a] → cur ++ l = a
  | [], cur, a, h => by simpa [splitA] using h
  | x :: r, cur, a, h => by
    unfold splitA at h
    split at h
    · injection h with _ h2
      exact absurd h2 (splitA_ne c r [])
    · have := splitA_one h
      simpa using this
theorem splitA_two {c : UInt8} : ∀ {l cur a b : List UInt8}, splitA c cur l = [a, b] → cur ++ l = a ++ c :: b
  | [], cur, a, b, h => by simp [splitA] at h
  | x :: r, cur, a, b, h => by
    unfold splitA at h
    split at h
    · rename_i hx
      injection h with h1 h2
      have := splitA_one h2
      subst hx
      simp at this
      rw [h1, this]
    · have := splitA_two h
      simpa using this
def strs (ps : List ByteArray) : List Value := ps.map Value.string
theorem S_info : (Tryd.prog.info? 9).map (fun i => (i.zero, i.size, i.bytes)) = some (some (.string ⟨#[]⟩), 1, 16) := by kernel_rfl
theorem ext_list (s : ByteArray) (a b : Nat) : (s.extract a b).data.toList = (s.data.toList.drop a).take (b - a) := by
  simp [ByteArray.data_extract]
theorem drop_cons (s : ByteArray) (k : Nat) (h : k < s.size) : s.data.toList.drop k = (s[k]'h) :: s.data.toList.drop (k + 1) := by
  have h' : k < s.data.toList.length := by simpa using h
  rw [List.drop_eq_getElem_cons h']
  rfl
theorem ext_snoc (s : ByteArray) (a k : Nat) (ha : a ≤ k) (h : k < s.size) : (s.extract a (k + 1)).data.toList = (s.extract a k).data.toList ++ [s[k]'h] := by
  rw [ext_list, ext_list, show k + 1 - a = (k - a) + 1 from by omega]
  have h' : k - a < (s.data.toList.drop a).length := by simp; omega
  rw [List.take_succ_eq_append_getElem h']
  congr 2
  rw [List.getElem_drop]
  simp only [show a + (k - a) = k from by omega]
  rfl
theorem ext_nil (s : ByteArray) (k : Nat) : (s.extract k k).data.toList = [] := by rw [ext_list]; simp
theorem split_go {s : ByteArray} {c : UInt8} {a k : Nat} (ha : a ≤ k) (h : k < s.size) (hne : s[k]'h ≠ c) : splitA c (s.extract a k).data.toList (s.data.toList.drop k) = splitA c (s.extract a (k + 1)).data.toList (s.data.toList.drop (k + 1)) := by
  rw [drop_cons s k h, ext_snoc s a k ha h]
  conv => lhs; unfold splitA
  rw [if_neg hne]
theorem split_at {s : ByteArray} {c : UInt8} {a k : Nat} (h : k < s.size) (he : s[k]'h = c) : splitA c (s.extract a k).data.toList (s.data.toList.drop k) = (s.extract a k).data.toList :: splitA c (s.extract (k + 1) (k + 1)).data.toList (s.data.toList.drop (k + 1)) := by
  rw [drop_cons s k h, ext_nil]
  conv => lhs; unfold splitA
  rw [if_pos he]
theorem byte_is {a b : UInt8} : ((a.toNat : Int) == (b.toNat : Int)) = true ↔ a = b := by
  simp only [beq_iff_eq]
  constructor
  · intro h; exact UInt8.toNat_inj.1 (by omega)
  · intro h; rw [h]
theorem l01Split_any (s : ByteArray) (c : UInt8) (w : World) (hs : s.size ≤ 1048576) :
    Calls Tryd.prog 7 #[.string s, .int .u8 (c.toNat : Int)] w fun e w' => ∃ (g cap : Nat) (ps : List ByteArray), e = .returned (.slice (some ⟨g, 0, none⟩) ps.length cap) ∧ ps.map (fun p => p.data.toList) = splitA c [] s.data.toList ∧ w'.ownsRow w.heap.size 9 1 (.slice (some ⟨g, 0, none⟩) ps.length cap) ps.length (strs ps) ∧ Below w.heap.size w w' := by
  obtain ⟨i0, hi, hz0, hz1, hz2⟩ := info_parts S_info
  go_enter Tryd.func7, Tryd.ntmps7
  go_wp2
  go_loopw [5, 6, 7] (fun o f i wr => ∃ (k from0 g cap : Nat) (ps : List ByteArray), from0 ≤ k ∧ k ≤ s.size ∧ ps.length ≤ k ∧ i = .int .i64 k ∧ f = .int .i64 from0 ∧ o = .slice (some ⟨g, 0, none⟩) ps.length cap ∧ ps.map (fun p => p.data.toList) ++ splitA c (s.extract from0 k).data.toList (s.data.toList.drop k) = splitA c [] s.data.toList ∧ wr.ownsRow w.heap.size 9 1 o ps.length (strs ps) ∧ Below w.heap.size w wr) (fun _ _ i _ => s.size - (intOf i).toNat)
  case atStart => exact ⟨0, 0, w.heap.size, 0, [], by omega, by omega, by simp, rfl, rfl, rfl, by simp, by exact World.ownsRow_lit w #[] 0 (Nat.le_refl _) (by unfold maxLen; omega) rfl, (Below.refl _ _).alloc (Nat.le_refl _) _⟩
  case round =>
    obtain ⟨k, from0, g, cap, ps, hfk, hk, hpl, rfl, rfl, rfl, hsp, hown, hB⟩ := hrel
    have HS := Lib.hid hsp
    clear hsp
    by_cases hlt : k < s.size
    · cases hq : (((s[k]'hlt).toNat : Int) == (c.toNat : Int))
      · have hne : s[k]'hlt ≠ c := fun e => by rw [byte_is.2 e] at hq; cases hq
        go_wp2
        go_roundw
        case rel => exact ⟨k + 1, from0, g, cap, ps, by omega, by omega, by omega, by go_num, rfl, rfl, by rw [← split_go hfk hlt hne]; exact HS.out, hown, hB⟩
        case measure => simp [intOf]; omega
      · have he : s[k]'hlt = c := byte_is.1 hq
        have hkk : (k : Int) ≤ (s.size : Int) := by omega
        have hff : (from0 : Int) ≤ (k : Int) := by omega
        go_wp2_with (at_builtin; refine wpList_append_own _ rfl _ _ 28 rfl w.heap.size 9 i0 (.string ⟨#[]⟩) 1 16 Tryd.underlying28 hi hz0 hz1 hz2 rfl (by decide) _ ps.length (strs ps) rfl ?c0 ⟨wr.heap.size, 0, none⟩ 1 1 [.string (s.extract from0 k)] rfl ?cl ?c1 ?c2 ?c3 ?c4 ?c5 ?_)
        case c0 => exact hown.alloc _
        case cl => rfl
        case c1 =>
          intro j u hj
          cases j with
          | zero => simp at hj; subst hj; simp [Go.WideShapes.add_plain]
          | succ j => simp at hj
        case c2 => intro u hu; simp at hu; subst hu; rfl
        case c3 => unfold maxLen; omega
        case c4 => omega
        case c5 => have := hB.size; first | omega | (simp; omega)
        intro v' wb hownb hgb hnil
        have hBb : Below w.heap.size w wb := (hB.alloc hB.size _).grown hgb (by have := hB.size; first | omega | (simp; omega)) (fun k hk => by simp [Value.ownBlock] at hk; have := hB.size; have := hown.lt g rfl; omega)
        have hst : strs ps ++ [Value.string (s.extract from0 k)] = strs (ps ++ [s.extract from0 k]) := by simp [strs]
        rw [hst] at hownb
        rcases hownb.2 with ⟨_, h0⟩ | ⟨g', c', cur, hv', _⟩
        · omega
        · subst hv'
          clear hnil hgb hown hB
          go_wp2
          go_roundw
          case rel =>
            refine ⟨k + 1, k + 1, g', c', ps ++ [s.extract from0 k], by omega, by omega, by simp; omega, by go_num, by go_num, by simp, ?_, by simpa using hownb, hBb⟩
            rw [List.map_append, List.append_assoc, ← HS.out, split_at hlt he]
            rfl
          case measure => simp [intOf]; omega
    · obtain rfl : k = s.size := by omega
      have hff : (from0 : Int) ≤ (s.size : Int) := by omega
      have hend : ps.map (fun p => p.data.toList) ++ [(s.extract from0 s.size).data.toList] = splitA c [] s.data.toList := by
        have h := HS.out
        rw [show s.data.toList.drop s.size = [] from List.drop_eq_nil_of_le (by simp), splitA] at h
        exact h
      have HE := Lib.hid hend
      clear hend
      go_wp2_with (at_builtin; refine wpList_append_own _ rfl _ _ 28 rfl w.heap.size 9 i0 (.string ⟨#[]⟩) 1 16 Tryd.underlying28 hi hz0 hz1 hz2 rfl (by decide) _ ps.length (strs ps) rfl ?c0 ⟨wr.heap.size, 0, none⟩ 1 1 [.string (s.extract from0 s.size)] rfl ?cl ?c1 ?c2 ?c3 ?c4 ?c5 ?_)
      case c0 => exact hown.alloc _
      case cl => rfl
      case c1 =>
        intro j u hj
        cases j with
        | zero => simp at hj; subst hj; simp [Go.WideShapes.add_plain]
        | succ j => simp at hj
      case c2 => intro u hu; simp at hu; subst hu; rfl
      case c3 => unfold maxLen; omega
      case c4 => omega
      case c5 => have := hB.size; first | omega | (simp; omega)
      intro v' wb hownb hgb hnil
      have hBb : Below w.heap.size w wb := (hB.alloc hB.size _).grown hgb (by have := hB.size; first | omega | (simp; omega)) (fun k hk => by simp [Value.ownBlock] at hk; have := hB.size; have := hown.lt g rfl; omega)
      have hst : strs ps ++ [Value.string (s.extract from0 s.size)] = strs (ps ++ [s.extract from0 s.size]) := by simp [strs]
      rw [hst] at hownb
      rcases hownb.2 with ⟨_, h0⟩ | ⟨g', c', cur, hv', _⟩
      · omega
      · subst hv'
        clear hnil hgb hown hB
        go_wp2
        go_ret
        exact ⟨g', c', ps ++ [s.extract from0 s.size], by simp, by rw [List.map_append]; exact HE.out, by simpa using hownb, hBb⟩
end Go.Proofs.YtlfbfgdejoggpacDoor
