/- StarNamed, both sides. -/
import Derived.Test.YtlbphdbcjhggjaaDoorSB
namespace Go.Proofs.YtlbphdbcjhggjaaDoor
open Go.ChangeShapes Go.WideShapes Go.ChangeAt Go.RowKit Go.Deep Go.Maps Go.WideMaps

def snV (xs : List St) (nm : ByteArray) : Value := if okS xs then (if findS xs nm < xs.length then .tuple #[.int .i64 (findS xs nm : Nat), .int .i64 0] else .tuple #[.int .i64 0, .int .i64 3]) else .tuple #[.int .i64 0, .int .i64 1]
theorem snV_bad {xs : List St} {nm : ByteArray} (h : okS xs = false) : snV xs nm = .tuple #[.int .i64 0, .int .i64 1] := by simp [snV, h]
theorem snV_none {xs : List St} {nm : ByteArray} (h : okS xs = true) (hf : ¬ findS xs nm < xs.length) : snV xs nm = .tuple #[.int .i64 0, .int .i64 3] := by simp [snV, h]; omega
theorem snV_at {xs : List St} {nm : ByteArray} (h : okS xs = true) (hf : findS xs nm < xs.length) : snV xs nm = .tuple #[.int .i64 (findS xs nm : Nat), .int .i64 0] := by simp [snV, h, hf]
theorem snV_form (xs : List St) (nm : ByteArray) : ∃ m c, snV xs nm = .tuple #[.int .i64 m, .int .i64 c] := by
  unfold snV; split
  · split <;> exact ⟨_, _, rfl⟩
  · exact ⟨_, _, rfl⟩
set_option maxHeartbeats 1000000 in
theorem iStarNamed_any (a : Option Addr) (n c : Nat) (xs : List St) (nm : ByteArray) (w : World) (h : StL w a n xs) (hn : n ≤ 1048576) (hnm : nm.size ≤ maxLen) :
    Calls Tryd.prog 8 #[.slice a n c, .string nm] w fun e w' => e = .returned (snV xs nm) ∧ Below w.heap.size w w' := by
  have HL := Lib.hid h.1
  have hkey := keyS hnm
  cases hok : okS xs
  · have HV := Lib.hid (snV_bad (nm := nm) hok)
    go_enter Tryd.func8, Tryd.ntmps8
    go_wp2_with fail
    refine (iValidStars_any a n c xs w h hn).mono ?_
    rintro e w2 ⟨rfl, b2⟩
    rw [hok]
    go_wp2
    go_ret2
    exact ⟨by rw [HV.out]; rfl, b2⟩
  obtain ⟨h60, hall⟩ := okS_parts HL.out hok
  obtain ⟨hhas, hat⟩ := dM_look HL.out hall nm n (Nat.le_refl _)
  go_enter Tryd.func8, Tryd.ntmps8
  go_wp2_with fail
  refine (iValidStars_any a n c xs w h hn).mono ?_
  rintro e w2 ⟨rfl, b2⟩
  rw [hok]
  go_wp2_with fail
  refine (places_any a n c xs w2 (h.mono b2) hall h60).mono ?_
  rintro e w3 ⟨B, rfl, hown, b3⟩
  have HALL := Lib.hid hall
  have HHAS := Lib.hid hhas
  have HAT := Lib.hid hat
  clear hall hhas hat
  go_wp2_with (at_lookup; refine wpList_lookup_own_ok_int _ rfl _ _ 49 rfl 9 2 .i64 lawS Tryd.underlying49 Tryd.underlying2 (zeroI _) B _ _ rfl hown _ _ rfl hkey ?_)
  intro c0 hc0 hwc
  by_cases hf : findS xs nm < xs.length
  · have HV := Lib.hid (snV_at hok hf)
    have hh : Maps.has (dM xs n) (kS nm) = true := by rw [HHAS.out]; simp; have := HL.out; omega
    have hc : c0 = (findS xs nm : Nat) := by
      rw [HAT.out (by have := HL.out; omega)] at hc0
      simp only [DataW.lit.injEq, Lit.int.injEq, true_and] at hc0
      exact hc0.symm
    subst hc
    rw [hh]
    clear hc0 hh
    go_wp2
    go_ret2
    exact ⟨by rw [HV.out]; rfl, belowCall b2 b3⟩
  · have HV := Lib.hid (snV_none hok hf)
    have hh : Maps.has (dM xs n) (kS nm) = false := by rw [HHAS.out]; simp; have := HL.out; omega
    rw [hh]
    clear hc0 hh
    go_wp2
    go_ret2
    exact ⟨by rw [HV.out]; rfl, belowCall b2 b3⟩
end Go.Proofs.YtlbphdbcjhggjaaDoor
