/- EphemerisText, both sides. -/
import Derived.Test.YtejkflacpbjkjaaDoorF1
import Derived.Test.YtejkflacpbjkjaaDoorD2
import Derived.Test.YtejkflacpbjkjaaDoorD3
import Derived.Deep.RegionHeld3
namespace Go.Proofs.YtejkflacpbjkjaaDoor
open Go.ChangeShapes Go.WideShapes Go.ChangeAt Go.RowKit Go.Deep

theorem powT_laid {W : World} (h : laidMetH Tryd.prog [("internal/strconv.uint64pow10", Lib.tabData .u64 Lib.pow10Tab)] W) : Pow W :=
  Lib.tabIs_of_head (rest := []) pow_global pow_type Tryd.underlying78 Tryd.underlying58 (by kernel_rfl) (by kernel_rfl) h
def decE (n : Int) : ByteArray := ⟨(Lib.itoa n).toArray⟩
theorem decE_len {n : Int} (h1 : 0 ≤ n) (h2 : n ≤ 10000000) : (decE n).size ≤ 20 := by
  have := itoa_len n (by omega) (by omega)
  show (Lib.itoa n).toArray.size ≤ 20
  simpa using this
/-- the text of an ephemeris -/
def ephS (e p : Int) : ByteArray := if ephB e p then ((decE e ++ ⟨#[32, 43, 32]⟩) ++ decE p) ++ ⟨#[32, 42, 32, 69]⟩ else ⟨#[]⟩
theorem ephS_no {e p : Int} (h : ephB e p = false) : ephS e p = ⟨#[]⟩ := by simp [ephS, h]
theorem ephS_yes {e p : Int} (h : ephB e p = true) : ephS e p = ((decE e ++ ⟨#[32, 43, 32]⟩) ++ decE p) ++ ⟨#[32, 42, 32, 69]⟩ := by simp [ephS, h]
set_option maxRecDepth 100000 in
set_option maxHeartbeats 4000000 in
theorem iEphText_any (e p : Int) (w : World) (hp : Pow w) :
    Calls Tryd.prog 13 #[.agg #[.int .i64 e, .int .i64 p]] w fun y w' => y = .returned (.string (ephS e p)) ∧ Below w.heap.size w w' := by
  have hbx := PtC.fresh w 25 e p
  have hb1 : Below w.heap.size w (w.alloc (.cells #[.int .i64 e, .int .i64 p] 25)) := (Below.refl _ w).alloc (Nat.le_refl _) _
  cases hv : ephB e p
  · have HV := Lib.hid (ephS_no hv)
    go_enter Tryd.func13, Tryd.ntmps13
    go_wp2_with fail
    refine (iValidEp_any e p _).mono ?_
    rintro y w2 ⟨rfl, b2⟩
    rw [hv]
    go_wp2
    go_ret
    exact ⟨by rw [HV.out]; rfl, belowCall hb1 b2⟩
  have HV := Lib.hid (ephS_yes hv)
  obtain ⟨⟨m1, m2⟩, m3, m4⟩ := ephB_iff.1 hv
  have hsx := decE_len m1 m2
  have hsy := decE_len (n := p) (by omega) (by omega)
  go_enter Tryd.func13, Tryd.ntmps13
  go_wp2_with fail
  refine (iValidEp_any e p _).mono ?_
  rintro y w2 ⟨rfl, b2⟩
  rw [hv]
  (obtain ⟨hlt, k0, k1⟩ := (hbx.mono b2).parts; rw [Nat.zero_add] at k1; have hb2 := belowCall hb1 b2)
  have hp2 := hp.mono hb2
  have HDD : ∀ W n, 0 ≤ n → n ≤ 10000000 → Below w2.heap.size w2 W → Calls Tryd.prog 28 #[.int .i64 n] W fun y w' => y = .returned (.string (decE n)) ∧ Below W.heap.size W w' := fun W n h1 h2 hW => iDecimal_any n W (by omega) (by omega) (hp2.mono hW)
  (obtain ⟨sx, hex⟩ : ∃ s, decE e = s := ⟨_, rfl⟩; obtain ⟨sy, hey⟩ : ∃ s, decE p = s := ⟨_, rfl⟩; rw [hex] at hsx HV; rw [hey] at hsy HV; have HEX := Lib.hid hex; have HEY := Lib.hid hey; clear hex hey; have s1 : ¬ 9223372036854775807 < sx.size + 3 := (by omega); have s2 : ¬ 9223372036854775807 < sx.size + 3 + sy.size := (by omega); have s3 : ¬ 9223372036854775807 < sx.size + 3 + sy.size + 4 := (by omega))
  clear hv hp hp2
  go_wp2_with fail
  go_region_held3 (fun W' => W'.cell? ⟨w.heap.size, 0, none⟩ = some (.int .i64 e) ∧ W'.cell? ⟨w.heap.size, 1, none⟩ = some (.int .i64 p)) (refine ⟨?_, ?_⟩ <;> first | assumption | exact ((show Below w2.heap.size w2 _ by (repeat (first | assumption | exact Below.refl _ _ | refine belowDN ?_ _ | refine Below.drew ?_ | refine Below.setCell ?_ (by first | omega | (simp <;> omega)) _ | refine Below.alloc ?_ (by first | omega | (simp <;> omega)) _ | refine belowCall ?_ (by assumption)))).cell (p := ⟨w.heap.size, 0, none⟩) hlt).trans k0 | exact ((show Below w2.heap.size w2 _ by (repeat (first | assumption | exact Below.refl _ _ | refine belowDN ?_ _ | refine Below.drew ?_ | refine Below.setCell ?_ (by first | omega | (simp <;> omega)) _ | refine Below.alloc ?_ (by first | omega | (simp <;> omega)) _ | refine belowCall ?_ (by assumption)))).cell (p := ⟨w.heap.size, 1, none⟩) hlt).trans k1) (first | (go_at_call 28; refine (HDD _ _ (by omega) (by omega) (by (repeat (first | assumption | exact Below.refl _ _ | refine belowDN ?_ _ | refine Below.drew ?_ | refine Below.setCell ?_ (by first | omega | (simp <;> omega)) _ | refine Below.alloc ?_ (by first | omega | (simp <;> omega)) _ | refine belowCall ?_ (by assumption))))).mono ?_; rintro y wA ⟨rfl, bA⟩; (first | rw [HEX.out] | rw [HEY.out])))
  all_goals
    go_wp2
    go_ret
    exact ⟨by rw [HV.out]; rfl, belowCall hb2 (by (repeat (first | assumption | exact Below.refl _ _ | refine belowDN ?_ _ | refine Below.drew ?_ | refine Below.setCell ?_ (by first | omega | (simp <;> omega)) _ | refine Below.alloc ?_ (by first | omega | (simp <;> omega)) _ | refine belowCall ?_ (by assumption))))⟩
end Go.Proofs.YtejkflacpbjkjaaDoor
