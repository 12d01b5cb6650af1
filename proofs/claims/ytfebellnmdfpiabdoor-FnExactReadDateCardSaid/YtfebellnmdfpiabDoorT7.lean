/- DateOf: the program's and the model's. -/
import Derived.Test.YtfebellnmdfpiabDoorT6
namespace Go.Proofs.YtfebellnmdfpiabDoor
open Go.ChangeShapes Go.WideShapes Go.ChangeAt Go.RowKit

def cellInt (w : World) (a : Addr) : Int := match w.cell? a with | some v => intOf v | none => 0
theorem cellInt_of {w : World} {a : Addr} {n : Int} (h : w.cell? a = some (.int .i64 n)) : cellInt w a = n := by simp [cellInt, h, intOf]
theorem sc_same {w : World} {a : Addr} {v u : Value} (h : w.cell? a = some u) : (w.setCell a v).cell? a = some v := World.cell?_setCell_same _ _ _ h
theorem sc_other {w : World} {b o o' : Nat} {v u : Value} (hne : o ≠ o') (h : w.cell? ⟨b, o', none⟩ = some u) : (w.setCell ⟨b, o, none⟩ v).cell? ⟨b, o', none⟩ = some u := by
  rw [World.cell?_setCell_other _ _ _ _ (fun e => hne (congrArg Addr.off e))]; exact h
/-- what DateOf answers: the date of the day, or the code -/
def DatePost (day : Int) (v : Value) : Prop :=
  if inB day 0 100000 then ∃ (y : Int) (m : Nat) (d : Int), v = .tuple #[.agg #[.int .i64 y, .int .i64 m, .int .i64 d], .int .i64 0] ∧ okD y m d ∧ dnum y m d = day
  else v = .tuple #[.agg #[.int .i64 0, .int .i64 0, .int .i64 0], .int .i64 2]
theorem DatePost.same {day : Int} {v v' : Value} (h : DatePost day v) (h' : DatePost day v') : v = v' := by
  unfold DatePost at h h'
  split at h
  · rename_i hc
    rw [if_pos hc] at h'
    obtain ⟨y, m, d, rfl, h1, h2⟩ := h
    obtain ⟨y', m', d', rfl, h1', h2'⟩ := h'
    obtain ⟨rfl, rfl, rfl⟩ := dnum_inj h1 h1' (h2.trans h2'.symm)
    rfl
  · rename_i hc
    rw [if_neg hc] at h'
    exact h.trans h'.symm
theorem DatePost.form {day : Int} {v : Value} (h : DatePost day v) : ∃ a b c e, v = .tuple #[.agg #[.int .i64 a, .int .i64 b, .int .i64 c], .int .i64 e] := by
  unfold DatePost at h
  split at h
  · obtain ⟨y, m, d, rfl, _, _⟩ := h
    exact ⟨_, _, _, _, rfl⟩
  · exact ⟨_, _, _, _, h⟩
theorem m_lt {y : Int} {m : Nat} {d day : Int} (he : yst y + cuB (leapB y) m + d - 1 = day) (h : mdB (leapB y) m < d) (hd : day < yst (y + 1)) (h1 : m ≤ 12) : m + 1 ≤ 12 := by
  by_cases h12 : m = 12
  · exfalso
    subst h12
    have e : ∀ b : Bool, cuB b 12 + mdB b 12 = 365 + (if b then 1 else 0) := by decide
    have e1 := e (leapB y)
    have e2 := yst_next y
    rw [leapN_if] at e2
    omega
  · omega
end Go.Proofs.YtfebellnmdfpiabDoor
