/- MedianMag, the model's. -/
import Derived.Test.YtidiiladlmaigaaM3
import Derived.Test.YtidiiladlmaigaaB4
namespace Go.Proofs.Ytidiiladlmaigaa
open Go.ChangeShapes Go.WideShapes Go.ChangeAt Go.RowKit

/-- the median of rising numbers -/
def medP (ys : List Int) : Int := if ys.length % 2 = 1 then ys[ys.length / 2]?.getD 0 else rnd (ys[ys.length / 2 - 1]?.getD 0 + ys[ys.length / 2]?.getD 0) 2
theorem medP_odd {ys : List Int} {n : Nat} (hn : ys.length = n) (h : n % 2 = 1) : medP ys = ys[n / 2]?.getD 0 := by rw [medP, hn, if_pos h]
theorem medP_even {ys : List Int} {n : Nat} (hn : ys.length = n) (h : n % 2 = 0) : medP ys = rnd (ys[n / 2 - 1]?.getD 0 + ys[n / 2]?.getD 0) 2 := by rw [medP, hn, if_neg (by omega)]
theorem perm_bd {ys xs : List Int} {B : Int} (h : ys.Perm xs) (hx : ∀ x ∈ xs, -B ≤ x ∧ x ≤ B) (j : Nat) (hj : j < ys.length) : -B ≤ ys[j]?.getD 0 ∧ ys[j]?.getD 0 ≤ B := by
  have := hx ys[j] (h.mem_iff.1 (List.getElem_mem hj))
  simpa [hj] using this
theorem flipM {P : Program} {f : FuncId} {args : Array Value} {w : World} {v : Value} (h : Calls P f args w fun e w' => e = .returned v ∧ w = w') : Calls P f args w fun e w' => e = .returned v ∧ w' = w :=
  h.mono fun _ _ hh => ⟨hh.1, hh.2.symm⟩
def medS (xs : List Int) (v : Value) : Prop := (okMags xs = true ∧ 0 < xs.length ∧ ∃ ys, Rising ys ∧ ys.Perm xs ∧ v = .tuple #[.int .i64 (medP ys), .int .i64 0]) ∨ (¬ (okMags xs = true ∧ 0 < xs.length) ∧ v = .tuple #[.int .i64 0, .int .i64 (someCode xs)])
theorem medS_one {xs : List Int} {v u : Value} (h : medS xs v) (h' : medS xs u) : v = u := by
  rcases h with ⟨h1, h2, ys, h3, h4, rfl⟩ | ⟨h1, rfl⟩ <;> rcases h' with ⟨k1, k2, zs, k3, k4, rfl⟩ | ⟨k1, rfl⟩
  · rw [rising_one h3 k3 (h4.trans k4.symm)]
  · exact absurd ⟨h1, h2⟩ k1
  · exact absurd ⟨k1, k2⟩ h1
  · rfl
theorem medS_form {xs : List Int} {v : Value} (h : medS xs v) : ∃ m c, v = .tuple #[.int .i64 m, .int .i64 c] := by
  rcases h with ⟨_, _, ys, _, _, rfl⟩ | ⟨_, rfl⟩ <;> exact ⟨_, _, rfl⟩
theorem some_ok {xs : List Int} (h : okMags xs = true) (h0 : 0 < xs.length) : someCode xs = 0 := by rw [someCode, if_pos h, if_neg (by omega)]
theorem some_bad {xs : List Int} (h : ¬ (okMags xs = true ∧ 0 < xs.length)) : someCode xs = 2 ∨ someCode xs = 3 := by
  unfold someCode
  split
  · rename_i h1
    right
    rw [if_pos]
    rcases Nat.eq_zero_or_pos xs.length with h2 | h2
    · exact h2
    · exact absurd ⟨h1, h2⟩ h
  · exact .inl rfl
theorem mags_bd {xs : List Int} (h : okMags xs = true) : ∀ x ∈ xs, -1000000000000 ≤ x ∧ x ≤ 1000000000000 := fun x hx => by
  simp only [okMags, Bool.and_eq_true, List.all_eq_true] at h
  have := h.2 x hx
  rw [magB_iff] at this
  omega
end Go.Proofs.Ytidiiladlmaigaa
