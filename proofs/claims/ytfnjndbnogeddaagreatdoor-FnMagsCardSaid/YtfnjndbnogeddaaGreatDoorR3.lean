/- l01Split: the model's splitting of a text at a byte. -/
import Derived.Test.YtfnjndbnogeddaaGreatDoorB1
import Derived.Test.YtfnjndbnogeddaaGreatDoorB7
import Derived.OwnWalk
import Derived.Laws.Rows
namespace Go.Proofs.YtfnjndbnogeddaaGreatDoor
open Go.ChangeShapes Go.WideShapes Go.ChangeAt Go.RowKit

/-- the parts of a text between bytes c, behind what is begun -/
def splitA (c : UInt8) (cur : List UInt8) : List UInt8 → List (List UInt8)
  | [] => [cur]
  | x :: r => if x = c then cur :: splitA c [] r else splitA c (cur ++ [x]) r
theorem splitA_ne (c : UInt8) : ∀ (l cur : List UInt8), splitA c cur l ≠ []
  | [], cur => by simp [splitA]
  | x :: r, cur => by
    unfold splitA
    split
    · simp
    · exact splitA_ne c r _
theorem splitA_none {c : UInt8} : ∀ {l : List UInt8} (cur : List UInt8), (∀ x ∈ l, x ≠ c) → splitA c cur l = [cur ++ l]
  | [], cur, _ => by simp [splitA]
  | x :: r, cur, h => by
    unfold splitA
    rw [if_neg (h x (by simp)), splitA_none _ (fun y hy => h y (by simp [hy]))]
    simp
theorem splitA_hit {c : UInt8} {b : List UInt8} : ∀ {a : List UInt8} (cur : List UInt8), (∀ x ∈ a, x ≠ c) → splitA c cur (a ++ c :: b) = (cur ++ a) :: splitA c [] b
  | [], cur, _ => by simp [splitA]
  | x :: r, cur, h => by
    rw [List.cons_append]
    conv => lhs; unfold splitA
    rw [if_neg (h x (by simp)), splitA_hit _ (fun y hy => h y (by simp [hy]))]
    simp
theorem splitA_one {c : UInt8} : ∀ {l cur a : List UInt8}, splitA c cur l = [a] → cur ++ l = a
  | [], cur, a, h => by simpa [splitA] using h
  | x :: r, cur, a, h => by
    unfold splitA at h
    split at h
    · injection h with _ h2
      exact absurd h2 (splitA_ne c r [])
    · have := splitA_one h
      simpa using this
theorem splitA_two {c : UInt8} : ∀ {l cur a b : List UInt8}, splitA c cur l = [a, b] → cur ++ l = a ++ c :: b
  | [], cur, a, b, h => by simp [splitA] at h
  | x :: r, cur, a, b, h => by
    unfold splitA at h
    split at h
    · rename_i hx
      injection h with h1 h2
      have := splitA_one h2
      subst hx
      simp at this
      rw [h1, this]
    · have := splitA_two h
      simpa using this
def strs (ps : List ByteArray) : List Value := ps.map Value.string
theorem S_info : (Tryz.prog.info? 9).map (fun i => (i.zero, i.size, i.bytes)) = some (some (.string ⟨#[]⟩), 1, 16) := by kernel_rfl
theorem ext_list (s : ByteArray) (a b : Nat) : (s.extract a b).data.toList = (s.data.toList.drop a).take (b - a) := by
  simp [ByteArray.data_extract]
theorem drop_cons (s : ByteArray) (k : Nat) (h : k < s.size) : s.data.toList.drop k = (s[k]'h) :: s.data.toList.drop (k + 1) := by
  have h' : k < s.data.toList.length := by simpa using h
  rw [List.drop_eq_getElem_cons h']
  rfl
theorem ext_snoc (s : ByteArray) (a k : Nat) (ha : a ≤ k) (h : k < s.size) : (s.extract a (k + 1)).data.toList = (s.extract a k).data.toList ++ [s[k]'h] := by
  rw [ext_list, ext_list, show k + 1 - a = (k - a) + 1 from by omega]
  have h' : k - a < (s.data.toList.drop a).length := by simp; omega
  rw [List.take_succ_eq_append_getElem h']
  congr 2
  rw [List.getElem_drop]
  simp only [show a + (k - a) = k from by omega]
  rfl
theorem ext_nil (s : ByteArray) (k : Nat) : (s.extract k k).data.toList = [] := by rw [ext_list]; simp
theorem split_go {s : ByteArray} {c : UInt8} {a k : Nat} (ha : a ≤ k) (h : k < s.size) (hne : s[k]'h ≠ c) : splitA c (s.extract a k).data.toList (s.data.toList.drop k) = splitA c (s.extract a (k + 1)).data.toList (s.data.toList.drop (k + 1)) := by
  rw [drop_cons s k h, ext_snoc s a k ha h]
  conv => lhs; unfold splitA
  rw [if_neg hne]
theorem split_at {s : ByteArray} {c : UInt8} {a k : Nat} (h : k < s.size) (he : s[k]'h = c) : splitA c (s.extract a k).data.toList (s.data.toList.drop k) = (s.extract a k).data.toList :: splitA c (s.extract (k + 1) (k + 1)).data.toList (s.data.toList.drop (k + 1)) := by
  rw [drop_cons s k h, ext_nil]
  conv => lhs; unfold splitA
  rw [if_pos he]
theorem byte_is {a b : UInt8} : ((a.toNat : Int) == (b.toNat : Int)) = true ↔ a = b := by
  simp only [beq_iff_eq]
  constructor
  · intro h; exact UInt8.toNat_inj.1 (by omega)
  · intro h; rw [h]
end Go.Proofs.YtfnjndbnogeddaaGreatDoor
