/- ReadDecimal: the model's. -/
import Derived.Test.YtfnjndbnogeddaaGreatDoorR1
import Derived.Test.YtfnjndbnogeddaaGreatDoorB7
import Derived.Lib.AtoiErrMem
namespace Go.Proofs.YtfnjndbnogeddaaGreatDoor
open Go.ChangeShapes Go.WideShapes Go.ChangeAt Go.RowKit

theorem dgB (c : UInt8) : digitB (c.toNat : Int) = isDg c := by
  simp only [digitB, inB, isDg]
  congr 1 <;> exact decide_eq_decide.2 (by omega)
theorem byte_at (t : ByteArray) (k : Nat) (h : k < t.size) : t.data.toList[k]? = some (t[k]'h) := by
  have h' : k < t.data.toList.length := by simpa using h
  rw [List.getElem?_eq_getElem h']
  rfl
theorem take_snoc (t : ByteArray) (k : Nat) (h : k < t.size) : t.data.toList.take (k + 1) = t.data.toList.take k ++ [t[k]'h] := by
  have h' : k < t.data.toList.length := by simpa using h
  rw [List.take_succ_eq_append_getElem h']
  rfl
theorem str_eq (l : List UInt8) (s : ByteArray) : ((⟨l.toArray⟩ : ByteArray) = s) ↔ l = s.data.toList := by
  constructor
  · intro h; subst h; simp
  · intro h; subst h; cases s; simp
theorem str_ne {u t : ByteArray} (h : ¬ u = t) : (!u.toList == t.toList) = true := by
  have : ¬ u.toList = t.toList := fun e => h (by
    rw [ByteArray.toList_eq, ByteArray.toList_eq] at e
    cases u; cases t; simp at e; rw [e])
  simp [this]
theorem sizeL (t : ByteArray) : t.data.toList.length = t.size := by simp
theorem take_size (t : ByteArray) : t.data.toList.take t.size = t.data.toList := List.take_of_length_le (by simp)
theorem min_tail (s : ByteArray) (h : 0 < s.size) (h0 : (((s[0]'h).toNat : Int) == 45) = true) : s.data.toList = 45 :: (s.extract 1 s.size).data.toList := by
  have hb := byte_at s 0 h
  have hc : s[0]'h = 45 := by
    have : (s[0]'h).toNat = 45 := by have := eq_of_beq h0; omega
    exact UInt8.toNat_inj.1 this
  rw [hc] at hb
  cases hd : s.data.toList with
  | nil => rw [hd] at hb; simp at hb
  | cons c r =>
    rw [hd] at hb
    simp at hb
    subst hb
    congr 1
    have : (s.extract 1 s.size).data.toList = s.data.toList.drop 1 := by
      simp [ByteArray.data_extract]
      rw [List.take_of_length_le]
      simp
    rw [this, hd]; rfl
theorem plain_head (s : ByteArray) (h : 0 < s.size) (h0 : (((s[0]'h).toNat : Int) == 45) = false) : s.data.toList.head? ≠ some 45 := by
  have hb := byte_at s 0 h
  rw [List.head?_eq_getElem?, hb]
  intro e
  injection e with e
  rw [e] at h0
  exact absurd h0 (by decide)
theorem ext_size (s : ByteArray) : (s.extract 1 s.size).size = s.size - 1 := by simp [ByteArray.size_extract]
/-! ### The program's -/
def Errs (w : World) : Prop := (∃ tp p, w.var? Tryz.prog "strconv.ErrSyntax" = some #[.iface tp p]) ∧ (∃ tp p, w.var? Tryz.prog "strconv.ErrRange" = some #[.iface tp p])
theorem syn_global : Tryz.prog.globalNamed "strconv.ErrSyntax" = some 1 := by kernel_rfl
theorem rng_global : Tryz.prog.globalNamed "strconv.ErrRange" = some 2 := by kernel_rfl
theorem Errs.mono {w w' : World} (h : Errs w) (hb : Below w.heap.size w w') : Errs w' := by
  obtain ⟨⟨t1, p1, h1⟩, t2, p2, h2⟩ := h
  exact ⟨⟨t1, p1, var_below syn_global h1 hb⟩, t2, p2, var_below rng_global h2 hb⟩
/-- strconv.ParseInt(s, 10, 64): the number and no error, or a number and an error -/
theorem parseInt_any (s : ByteArray) (w : World) (hs : s.size ≤ 281474976710656) (hE : Errs w) :
    Calls Tryz.prog 52 #[.string s, .int .i64 10, .int .i64 64] w fun e w' =>
      ((∃ v, Lib.parseIntB 64 s.data.toList = .ok v ∧ e = .returned (.tuple #[.int .i64 v, .nilIface])) ∨ ((∀ v, Lib.parseIntB 64 s.data.toList ≠ .ok v) ∧ ∃ n N, e = .returned (.tuple #[.int .i64 n, .iface 139 (.pointer (some ⟨N, 0, none⟩))]))) ∧ Below w.heap.size w w' := by
  obtain ⟨⟨t1, p1, h1⟩, t2, p2, h2⟩ := hE
  cases hp : Lib.parseIntB 64 s.data.toList with
  | ok v =>
    refine (Tryz.strconv_ParseInt_10_at64_ok s (by omega) v hp w).mono ?_
    rintro e w' ⟨rfl, hw⟩
    refine ⟨.inl ⟨v, rfl, rfl⟩, ?_⟩
    rcases hw with rfl | ⟨t, rfl⟩
    · exact Below.refl _ _
    · exact Lib.bytesWorld_below w _ t
  | «syntax» =>
    refine (Tryz.strconv_ParseInt_10_at64_syntax_var s hs hp t1 p1 w h1).mono ?_
    rintro e w' ⟨N, rfl, _, _, hb⟩
    exact ⟨.inr ⟨(fun v h => by cases h), _, N, rfl⟩, hb⟩
  | range =>
    refine (Tryz.strconv_ParseInt_10_at64_range_var s hs hp t2 p2 w h2).mono ?_
    rintro e w' ⟨N, rfl, _, _, hb⟩
    exact ⟨.inr ⟨(fun v h => by cases h), _, N, rfl⟩, hb⟩
end Go.Proofs.YtfnjndbnogeddaaGreatDoor
