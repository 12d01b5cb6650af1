/- Skies: a star is in the box around it, others just if they are near. -/
import Derived.Test.YtiogffjhhhpolabK3
import Derived.Test.YtiogffjhhhpolabI6
import Derived.Test.YtiogffjhhhpolabS3
namespace Go.Proofs.Ytiogffjhhhpolab
open Go.ChangeShapes Go.WideShapes Go.ChangeAt Go.RowKit Go.Deep

def apartN (a b : Int) : Int := mn (a - b).natAbs (86400 - (a - b).natAbs)
theorem apartN_symm (a b : Int) : apartN a b = apartN b a := by
  unfold apartN
  rw [show ((a - b).natAbs) = (b - a).natAbs by omega]
theorem apartN_bd {a b : Int} (h1 : 0 ≤ a) (h2 : a ≤ 86399) (h3 : 0 ≤ b) (h4 : b ≤ 86399) : 0 ≤ apartN a b ∧ apartN a b ≤ 43200 := by
  unfold apartN mn; split <;> omega
theorem apartN_self (a : Int) : apartN a a = 0 := by unfold apartN mn; split <;> omega
/-- the four numbers of the box around -/
theorem box_good {a d wd : Int} (h3 : -324000 ≤ d) (h4 : d ≤ 324000) (h5 : 0 ≤ wd) : boxOk ((a - wd) % 86400) ((a + wd) % 86400) (boxL d wd) (boxU d wd) = true := by
  have e1 : 0 ≤ (a - wd) % 86400 ∧ (a - wd) % 86400 ≤ 86399 := by omega
  have e2 : 0 ≤ (a + wd) % 86400 ∧ (a + wd) % 86400 ≤ 86399 := by omega
  have e3 : -324000 ≤ boxL d wd ∧ boxL d wd ≤ 324000 := by unfold boxL; split <;> omega
  have e4 : -324000 ≤ boxU d wd ∧ boxU d wd ≤ 324000 := by unfold boxU; split <;> omega
  have e5 : boxL d wd ≤ boxU d wd := by unfold boxL boxU; split <;> split <;> omega
  simp [boxOk, ascB, decB, inB_iff.2 e1, inB_iff.2 e2, inB_iff.2 e3, inB_iff.2 e4, e5]
theorem near_is {a d wd a' d' : Int} {nm : ByteArray} {u v : Int} (h1 : 0 ≤ a) (h2 : a ≤ 86399) (h3 : 0 ≤ a') (h4 : a' ≤ 86399) (h5 : -324000 ≤ d') (h6 : d' ≤ 324000) (h7 : 0 ≤ wd) (h8 : wd ≤ 40000) :
    inP ((a - wd) % 86400) ((a + wd) % 86400) (boxL d wd) (boxU d wd) (nm, a', d', u, v) = (decide (apartN a a' ≤ wd) && decide (d' - d ≤ 15 * wd) && decide (-15 * wd ≤ d' - d)) := by
  have ef : (a - wd) % 86400 = if wd ≤ a then a - wd else a - wd + 86400 := by split <;> omega
  have et : (a + wd) % 86400 = if a + wd ≤ 86399 then a + wd else a + wd - 86400 := by split <;> omega
  have hA : (if (a - wd) % 86400 ≤ (a + wd) % 86400 then inB a' ((a - wd) % 86400) ((a + wd) % 86400) else (decide ((a - wd) % 86400 ≤ a') || decide (a' ≤ (a + wd) % 86400))) = decide (apartN a a' ≤ wd) := by
    rw [Bool.eq_iff_iff]
    rw [ef, et]
    unfold apartN mn
    by_cases c1 : wd ≤ a
    · by_cases c2 : a + wd ≤ 86399
      · simp only [c1, c2, if_true]
        rw [if_pos (by omega), inB_iff, decide_eq_true_eq]
        split <;> omega
      · simp only [c1, c2, if_true, if_false]
        rw [if_neg (by omega), Bool.or_eq_true, decide_eq_true_eq, decide_eq_true_eq, decide_eq_true_eq]
        split <;> omega
    · by_cases c2 : a + wd ≤ 86399
      · simp only [c1, c2, if_true, if_false]
        rw [if_neg (by omega), Bool.or_eq_true, decide_eq_true_eq, decide_eq_true_eq, decide_eq_true_eq]
        split <;> omega
      · omega
  have hD : inB d' (boxL d wd) (boxU d wd) = (decide (d' - d ≤ 15 * wd) && decide (-15 * wd ≤ d' - d)) := by
    rw [Bool.eq_iff_iff, inB_iff, Bool.and_eq_true, decide_eq_true_eq, decide_eq_true_eq]
    unfold boxL boxU
    split <;> split <;> omega
  simp only [inP]
  rw [hA, hD]
  cases decide (apartN a a' ≤ wd) <;> cases decide (d' - d ≤ 15 * wd) <;> cases decide (-15 * wd ≤ d' - d) <;> rfl
theorem lst_of_own {w : World} {B T n : Nat} {v : Value} {xs : List Int} (h : w.ownsRow B T 1 v n (xs.map (Value.int .i64))) (hn : xs.length = n) : ∃ a c, v = .slice a n c ∧ Lst w a n xs := by
  rcases h.2 with ⟨hv, h0⟩ | ⟨g, cap, cur, hv, _⟩
  · exact ⟨none, 0, by rw [hv, h0], ⟨hn, fun i hi => absurd hi (by omega)⟩⟩
  · subst hv
    exact ⟨some ⟨g, 0, none⟩, cap, rfl, Lst.of_own h⟩
theorem StL.one (w : World) (T : TypeId) (nm : ByteArray) (a d u v : Int) : StL (w.alloc (.cells #[.string nm, .int .i64 a, .int .i64 d, .int .i64 u, .int .i64 v] T)) (some ⟨w.heap.size, 0, none⟩) 1 [(nm, a, d, u, v)] :=
  ⟨rfl, fun i hi => by
    obtain rfl : i = 0 := by omega
    exact ⟨_, _, rfl, StC.fresh w T nm a d u v⟩⟩
theorem apart_yes (a b ap : Int) (w : World) (h1 : ascB a = true) (h2 : ascB b = true) (h : apartN a b = ap) :
    Calls Try.prog 53 #[.int .i64 a, .int .i64 b] w fun e w' => e = .returned (.tuple #[.int .i64 ap, .int .i64 0]) ∧ w' = w :=
  (iApart_any a b w).mono fun e w' hh => ⟨by rw [hh.1, apV_yes h1 h2, ← h]; rfl, hh.2.symm⟩
end Go.Proofs.Ytiogffjhhhpolab
