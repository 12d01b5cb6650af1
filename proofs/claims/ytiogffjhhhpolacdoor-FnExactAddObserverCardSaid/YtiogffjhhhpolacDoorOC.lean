/- AddObserver's answers as the law sees them. -/
import Derived.Test.YtiogffjhhhpolacDoorOA
import Derived.Test.YtiogffjhhhpolacDoorOB
import Derived.Test.YtiogffjhhhpolacDoorGR
namespace Go.Proofs.YtiogffjhhhpolacDoor
open Go.ChangeShapes Go.WideShapes Go.ChangeAt Go.RowKit Go.Deep

def selO (xs : List Ob) (x : Ob) : List Ob := if addOC xs x = 0 then addO xs x else []
theorem selO_len {xs : List Ob} {x : Ob} : (selO xs x).length ≤ 1048576 := by
  unfold selO
  split
  · rename_i h
    by_cases h1 : okO xs = true
    · by_cases h2 : obB x = true
      · by_cases h3 : findO xs x.1 < xs.length
        · rw [addOC_has h1 h2 h3] at h; omega
        · rw [addO_len (noneO_ne h3)]
          have := (okO_parts rfl h1).1
          omega
      · rw [addOC_star h1 (by simpa using h2)] at h; omega
    · rw [addOC_ok (by simpa using h1)] at h; omega
  · simp
theorem AddedO.opened {B T m : Nat} {xs : List Ob} {x : Ob} {w : World} {e : Ending} (h : AddedO B T xs x w e) :
    ∃ a c, e = .returned (.tuple #[.slice a (selO xs x).length c, .int .i64 (addOC xs x)]) ∧ ObO B w a (selO xs x).length 0 m (selO xs x) := by
  rcases h with ⟨h0, g, c, rfl, hown⟩ | ⟨h0, rfl⟩
  · have hs : selO xs x = addO xs x := by rw [selO, if_pos h0]
    rw [hs, h0]
    exact ⟨_, c, rfl, ObO.of_own hown rfl⟩
  · have hs : selO xs x = [] := by rw [selO, if_neg h0]
    rw [hs]
    exact ⟨none, 0, rfl, .inl ⟨rfl, rfl⟩⟩
end Go.Proofs.YtiogffjhhhpolacDoor
