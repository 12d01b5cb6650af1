/- The answers of LinkedTo and ShiftsFrom, opened for the laws. -/
import Derived.Test.YtfnjndbnogeddaaL4
import Derived.Test.YtfnjndbnogeddaaGI
import Derived.Test.YtfnjndbnogeddaaGR
namespace Go.Proofs.Ytfnjndbnogeddaa
open Go.ChangeShapes Go.WideShapes Go.ChangeAt Go.RowKit Go.Deep

def numL (code : Int) (zs : List Int) : List Int := if code = 0 then zs else []
theorem NumsE.opened (m : Nat) {B : Nat} {code : Int} {zs : List Int} {w : World} {e : Ending} (h : NumsE B code zs w e) :
    ∃ L a c, L = numL code zs ∧ e = .returned (.tuple #[.slice a L.length c, .int .i64 code]) ∧ IntO B w a L.length 0 m L := by
  rcases h with ⟨rfl, v, rfl, hown⟩ | ⟨hc, rfl⟩
  · obtain ⟨a, c, rfl, hM⟩ := IntO.of_owns (m := m) hown
    exact ⟨zs, a, c, by simp [numL], rfl, hM⟩
  · exact ⟨[], none, 0, by simp [numL, hc], rfl, .inl ⟨rfl, rfl⟩⟩
theorem lnk_num (c f : Int) (xs : List Cm) : (numL (ckC c f xs) (lnkL c f xs)).length ≤ 1048576 := by
  unfold numL
  split
  · rename_i h
    rcases ckC_cases c f xs with hk | hk | ⟨_, hv, _⟩
    · rw [hk] at h; cases h
    · rw [hk] at h; cases h
    · obtain ⟨c1, c2, _⟩ := cms_parts hv
      have := lnkN_len (finK xs c.toNat f.toNat) c.toNat
      simp only [lnkL, List.length_map]
      omega
  · simp
theorem shf_num (c f : Int) (xs : List Cm) : (numL (ckC c f xs) (shfL c f xs)).length ≤ 1048576 := by
  unfold numL
  split
  · rename_i h
    rcases ckC_cases c f xs with hk | hk | ⟨_, hv, _⟩
    · rw [hk] at h; cases h
    · rw [hk] at h; cases h
    · obtain ⟨c1, c2, _⟩ := cms_parts hv
      simp only [shfL, List.length_map, List.length_range]
      omega
  · simp
end Go.Proofs.Ytfnjndbnogeddaa
