/- ApplyShifts: plain lists, the tests of shifts, the answer's form. -/
import Derived.Test.YtfnjndbnogeddaaOD
import Derived.Test.YtfnjndbnogeddaaO4
import Derived.Test.YtfnjndbnogeddaaB3
namespace Go.Proofs.Ytfnjndbnogeddaa
open Go.ChangeShapes Go.WideShapes Go.ChangeAt Go.RowKit Go.Deep

/-- the observers with other shifts -/
def apL (xs : List Ob) (zs : List Int) : List Ob := List.zipWith (fun x z => (x.1, z)) xs zs
theorem apL_len {xs : List Ob} {zs : List Int} {n : Nat} (h1 : xs.length = n) (h2 : zs.length = n) : (apL xs zs).length = n := by simp [apL, h1, h2]
theorem apL_at {xs : List Ob} {zs : List Int} {n k : Nat} {x0 : ByteArray} {x1 z : Int} (h1 : xs.length = n) (h2 : zs.length = n) (hk : k < n) (hx : xs[k]?.getD ob0 = (x0, x1)) (hz : zs[k]?.getD 0 = z) : (apL xs zs)[k]? = some (x0, z) := by
  have a1 : k < xs.length := by omega
  have a2 : k < zs.length := by omega
  simp only [List.getElem?_eq_getElem a1, List.getElem?_eq_getElem a2, Option.getD_some] at hx hz
  simp [apL, List.getElem?_zipWith, List.getElem?_eq_getElem a1, List.getElem?_eq_getElem a2, hx, hz]
theorem apL_step {xs : List Ob} {zs : List Int} {n k : Nat} {x0 : ByteArray} {x1 z : Int} (h1 : xs.length = n) (h2 : zs.length = n) (hk : k < n) (hx : xs[k]?.getD ob0 = (x0, x1)) (hz : zs[k]?.getD 0 = z) : (apL xs zs).take (k + 1) = (apL xs zs).take k ++ [(x0, z)] := by
  rw [List.take_add_one, apL_at h1 h2 hk hx hz]; rfl
/-- the first k with other shifts, the others as they were -/
def mixL (xs : List Ob) (zs : List Int) (k : Nat) : List Ob := (apL xs zs).take k ++ xs.drop k
theorem mixL_zero (xs : List Ob) (zs : List Int) : mixL xs zs 0 = xs := by simp [mixL]
theorem mixL_full {xs : List Ob} {zs : List Int} {n : Nat} (h1 : xs.length = n) (h2 : zs.length = n) : mixL xs zs n = apL xs zs := by
  rw [mixL, List.take_of_length_le (by rw [apL_len h1 h2]; omega), List.drop_eq_nil_of_le (by omega), List.append_nil]
theorem flat_set (A D : List Ob) (a : ByteArray) (b z : Int) : (flatOb (A ++ (a, b) :: D)).set (A.length * 2 + 1) (.int .i64 z) = flatOb (A ++ (a, z) :: D) := by
  rw [flatOb_app, flatOb_app, List.set_append_right _ _ (by rw [flatOb_len]; omega), flatOb_len, show A.length * 2 + 1 - A.length * 2 = 1 from by omega]
  congr 1
theorem mixL_set {xs : List Ob} {zs : List Int} {n k : Nat} {x0 : ByteArray} {x1 z : Int} (h1 : xs.length = n) (h2 : zs.length = n) (hk : k < n) (hx : xs[k]?.getD ob0 = (x0, x1)) (hz : zs[k]?.getD 0 = z) :
    (flatOb (mixL xs zs k)).set (k * 2 + 1) (.int .i64 z) = flatOb (mixL xs zs (k + 1)) := by
  have a1 : k < xs.length := by omega
  have hd : xs.drop k = (x0, x1) :: xs.drop (k + 1) := by
    rw [List.drop_eq_getElem_cons a1]
    simp only [List.getElem?_eq_getElem a1, Option.getD_some] at hx
    rw [hx]
  have hl : ((apL xs zs).take k).length = k := by rw [List.length_take, apL_len h1 h2]; omega
  have h := flat_set ((apL xs zs).take k) (xs.drop (k + 1)) x0 x1 z
  rw [hl] at h
  rw [mixL, hd, h, mixL, apL_step h1 h2 hk hx hz, List.append_assoc]
  rfl
theorem mixL_at {xs : List Ob} {zs : List Int} {n k : Nat} {x0 : ByteArray} {x1 : Int} (h1 : xs.length = n) (h2 : zs.length = n) (hk : k < n) (hx : xs[k]?.getD ob0 = (x0, x1)) : (flatOb (mixL xs zs k))[k * 2 + 1]? = some (.int .i64 x1) := by
  have a1 : k < xs.length := by omega
  have hl : (mixL xs zs k).length = n := by rw [mixL, List.length_append, List.length_take, List.length_drop, apL_len h1 h2]; omega
  have hm : (mixL xs zs k)[k]?.getD ob0 = (x0, x1) := by
    have hlt : ((apL xs zs).take k).length = k := by rw [List.length_take, apL_len h1 h2]; omega
    rw [mixL, List.getElem?_append_right (by omega), hlt, Nat.sub_self, List.getElem?_drop, Nat.add_zero, hx]
  rw [flatOb_at _ k 1 (by omega) (by omega), hm]
  rfl
def shfB (m : Int) (zs : List Int) : Bool := zs.all fun z => inB z (-m) m
theorem shfB_yes {m : Int} {zs : List Int} {n : Nat} (hn : zs.length = n) (h : ∀ j, j < n → inB (zs[j]?.getD 0) (-m) m = true) : shfB m zs = true := by
  rw [shfB, List.all_eq_true]
  intro x hx
  obtain ⟨j, hj, rfl⟩ := List.getElem_of_mem hx
  have := h j (by omega)
  simpa [hj] using this
theorem shfB_no {m : Int} {zs : List Int} {n k : Nat} (hn : zs.length = n) (hk : k < n) (h : inB (zs[k]?.getD 0) (-m) m = false) : shfB m zs = false := by
  rw [shfB, List.all_eq_false]
  have hk' : k < zs.length := by omega
  refine ⟨zs[k], List.getElem_mem _, ?_⟩
  simpa [hk'] using h
theorem shfB_at {m : Int} {zs : List Int} {n k : Nat} (hn : zs.length = n) (hk : k < n) (h : shfB m zs = true) : inB (zs[k]?.getD 0) (-m) m = true := by
  rw [shfB, List.all_eq_true] at h
  have hk' : k < zs.length := by omega
  have := h zs[k] (List.getElem_mem _)
  simpa [hk'] using this
theorem inB_next {m : Int} {zs : List Int} {k : Nat} {z : Int} (h : ∀ j, j < k → inB (zs[j]?.getD 0) (-m) m = true) (hx : zs[k]?.getD 0 = z) (hk : inB z (-m) m = true) : ∀ j, j < k + 1 → inB (zs[j]?.getD 0) (-m) m = true := fun j hj => by
  by_cases e : j = k
  · subst e; rw [hx]; exact hk
  · exact h j (by omega)
def apC (xs : List Ob) (zs : List Int) : Int := if okO xs then (if zs.length = xs.length ∧ shfB 2000 zs = true then 0 else 2) else 1
theorem apC_1 {xs : List Ob} {zs : List Int} (h : okO xs = false) : apC xs zs = 1 := by simp [apC, h]
theorem apC_2 {xs : List Ob} {zs : List Int} (h : okO xs = true) (h2 : ¬ zs.length = xs.length) : apC xs zs = 2 := by rw [apC, if_pos h, if_neg (fun h3 => h2 h3.1)]
theorem apC_3 {xs : List Ob} {zs : List Int} (h : okO xs = true) (h2 : shfB 2000 zs = false) : apC xs zs = 2 := by rw [apC, if_pos h, if_neg (fun h3 => by rw [h2] at h3; exact absurd h3.2 (by decide))]
theorem apC_0 {xs : List Ob} {zs : List Int} (h : okO xs = true) (h2 : zs.length = xs.length) (h3 : shfB 2000 zs = true) : apC xs zs = 0 := by rw [apC, if_pos h, if_pos ⟨h2, h3⟩]
/-- what ApplyShifts hands back: a slice of the call's own, or nil and a code -/
def AppliedO (B T : Nat) (xs : List Ob) (zs : List Int) (w' : World) (e : Ending) : Prop :=
  (apC xs zs = 0 ∧ ∃ v, e = .returned (.tuple #[v, .int .i64 0]) ∧ w'.ownsRow B T 2 v (apL xs zs).length (flatOb (apL xs zs))) ∨
  (apC xs zs ≠ 0 ∧ e = .returned (.tuple #[.slice none 0 0, .int .i64 (apC xs zs)]))
end Go.Proofs.Ytfnjndbnogeddaa
