/- StarNamed, both sides. -/
import Derived.Test.YtiogffjhhhpolabDoorSB
namespace Go.Proofs.YtiogffjhhhpolabDoor
open Go.ChangeShapes Go.WideShapes Go.ChangeAt Go.RowKit Go.Deep Go.Maps Go.WideMaps

def snV (xs : List St) (nm : ByteArray) : Value := if okS xs then (if findS xs nm < xs.length then .tuple #[.int .i64 (findS xs nm : Nat), .int .i64 0] else .tuple #[.int .i64 0, .int .i64 3]) else .tuple #[.int .i64 0, .int .i64 1]
theorem snV_bad {xs : List St} {nm : ByteArray} (h : okS xs = false) : snV xs nm = .tuple #[.int .i64 0, .int .i64 1] := by simp [snV, h]
theorem snV_none {xs : List St} {nm : ByteArray} (h : okS xs = true) (hf : ¬ findS xs nm < xs.length) : snV xs nm = .tuple #[.int .i64 0, .int .i64 3] := by simp [snV, h]; omega
theorem snV_at {xs : List St} {nm : ByteArray} (h : okS xs = true) (hf : findS xs nm < xs.length) : snV xs nm = .tuple #[.int .i64 (findS xs nm : Nat), .int .i64 0] := by simp [snV, h, hf]
theorem snV_form (xs : List St) (nm : ByteArray) : ∃ m c, snV xs nm = .tuple #[.int .i64 m, .int .i64 c] := by
  unfold snV; split
  · split <;> exact ⟨_, _, rfl⟩
  · exact ⟨_, _, rfl⟩
theorem sStarNamed_any (a : Option Addr) (n c : Nat) (xs : List St) (nm : ByteArray) (w : World) (h : StL w a n xs) (hn : n ≤ 1048576) :
    Calls Tryd.prog 14 #[.slice a n c, .string nm] w fun e w' => e = .returned (snV xs nm) ∧ Below w.heap.size w w' := by
  have HL := Lib.hid h.1
  cases hok : okS xs
  · have HV := Lib.hid (snV_bad (nm := nm) hok)
    go_enter Tryd.func14, Tryd.ntmps14
    go_wp2_with fail
    refine (l04Ok_any a n c xs w h hn).mono ?_
    rintro e w2 ⟨rfl, q, rfl⟩
    rw [hok]
    go_wp2
    go_ret2
    exact ⟨by rw [HV.out]; rfl, belowDN (Below.refl _ _) _⟩
  by_cases hf : findS xs nm < xs.length
  · have HV := Lib.hid (snV_at hok hf)
    have HF := Lib.hid (findV_at rfl hf)
    have hneg : ¬ ((findS xs nm : Nat) : Int) < 0 := by omega
    go_enter Tryd.func14, Tryd.ntmps14
    go_wp2_with fail
    refine (l04Ok_any a n c xs w h hn).mono ?_
    rintro e w2 ⟨rfl, q, rfl⟩
    rw [hok]
    go_wp2_with fail
    refine (l04Find_any a n c xs nm _ (h.mono (belowDN (Below.refl _ _) _)) hn).mono ?_
    rintro e w3 ⟨rfl, rfl⟩
    rw [HF.out]
    go_wp2
    go_ret2
    exact ⟨by rw [HV.out]; rfl, belowDN (Below.refl _ _) _⟩
  · have HV := Lib.hid (snV_none hok hf)
    have HF := Lib.hid (findV_none (xs := xs) (nm := nm) (by have := findS_le xs nm; omega))
    go_enter Tryd.func14, Tryd.ntmps14
    go_wp2_with fail
    refine (l04Ok_any a n c xs w h hn).mono ?_
    rintro e w2 ⟨rfl, q, rfl⟩
    rw [hok]
    go_wp2_with fail
    refine (l04Find_any a n c xs nm _ (h.mono (belowDN (Below.refl _ _) _)) hn).mono ?_
    rintro e w3 ⟨rfl, rfl⟩
    rw [HF.out]
    go_wp2
    go_ret2
    exact ⟨by rw [HV.out]; rfl, belowDN (Below.refl _ _) _⟩
end Go.Proofs.YtiogffjhhhpolabDoor
