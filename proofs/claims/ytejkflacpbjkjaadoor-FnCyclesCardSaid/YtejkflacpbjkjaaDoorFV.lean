/- PhaseText, both sides. -/
import Derived.Test.YtejkflacpbjkjaaDoorFB
import Derived.Test.YtejkflacpbjkjaaDoorF2
import Derived.Test.YtejkflacpbjkjaaDoorD5
import Derived.Deep.RegionHeld3
namespace Go.Proofs.YtejkflacpbjkjaaDoor
open Go.ChangeShapes Go.WideShapes Go.ChangeAt Go.RowKit Go.Deep

theorem powE_laid {W : World} (h : laidMetH Tryd.prog [("internal/strconv.uint64pow10", Lib.tabData .u64 Lib.pow10Tab)] W) : Pow W :=
  Lib.tabIs_of_head (rest := []) pow_global pow_type Tryd.underlying78 Tryd.underlying58 (by kernel_rfl) (by kernel_rfl) h
/-- the text of a phase -/
def phtL (e p t : Int) : List UInt8 := if ephB e p && tmB t then 48 :: 46 :: padL (bnI e p 1000 t) 3 else []
theorem phtL_no {e p t : Int} (h : (ephB e p && tmB t) = false) : phtL e p t = [] := by unfold phtL; rw [h]; rfl
theorem phtL_yes {e p t : Int} (h1 : ephB e p = true) (h2 : tmB t = true) : phtL e p t = 48 :: 46 :: padL (bnI e p 1000 t) 3 := by unfold phtL; rw [h1, h2]; rfl
set_option maxRecDepth 100000 in
set_option maxHeartbeats 4000000 in
theorem sPhText_any (e p t : Int) (w : World) :
    Calls Tryd.prog 14 #[.agg #[.int .i64 e, .int .i64 p], .int .i64 t] w fun y w' => y = .returned (.string ⟨(phtL e p t).toArray⟩) ∧ Below w.heap.size w w' := by
  have hbx := PtC.fresh w 25 e p
  have hb1 : Below w.heap.size w (w.alloc (.cells #[.int .i64 e, .int .i64 p] 25)) := (Below.refl _ w).alloc (Nat.le_refl _) _
  cases he : ephB e p
  · have HC := Lib.hid (ecd_1 (t := t) he)
    have HV := Lib.hid (phtL_no (t := t) (show (ephB e p && tmB t) = false by rw [he]; rfl))
    go_enter Tryd.func14, Tryd.ntmps14
    go_wp2_with fail
    refine (l09Code_any e p t _).mono ?_
    rintro y w2 ⟨rfl, b2⟩
    rw [HC.out]
    go_wp2
    go_ret
    exact ⟨by rw [HV.out]; rfl, belowCall hb1 b2⟩
  cases ht : tmB t
  · have HC := Lib.hid (ecd_2 he ht)
    have HV := Lib.hid (phtL_no (show (ephB e p && tmB t) = false by rw [he, ht]; rfl))
    go_enter Tryd.func14, Tryd.ntmps14
    go_wp2_with fail
    refine (l09Code_any e p t _).mono ?_
    rintro y w2 ⟨rfl, b2⟩
    rw [HC.out]
    go_wp2
    go_ret
    exact ⟨by rw [HV.out]; rfl, belowCall hb1 b2⟩
  have HC := Lib.hid (ecd_0 he ht)
  obtain ⟨⟨h1, h2⟩, h3, h4⟩ := ephB_iff.1 he
  obtain ⟨h5, h6⟩ := tmB_iff.1 ht
  have hnb := bnI_bd (e := e) (t := t) h3 (show (1 : Int) ≤ 1000 by omega)
  have hbig := bnI_big (e := e) (t := t) h3 h4 (show (1 : Int) ≤ 1000 by omega) (by omega)
  obtain ⟨u, hu⟩ : ∃ u : Nat, bnI e p 1000 t = (u : Int) := ⟨(bnI e p 1000 t).toNat, by omega⟩
  have hu3 : u < 1000 := by omega
  have HV : Hid (phtL e p t = 48 :: 46 :: threeV (u : Int)) := Lib.hid (by rw [phtL_yes he ht, hu, three_pad hu3])
  have h3l := three_len (u : Int) (by omega) (by omega)
  have hne : ¬ p = 0 := by omega
  have HPH : ∀ W, Calls Tryd.prog 31 #[.agg #[.int .i64 e, .int .i64 p], .int .i64 t] W fun x w' => x = .returned (.int .i64 (phs e p t)) ∧ Below W.heap.size W w' := fun W => sPhs_any e p t W h1 h2 h3 h4 h5 (by omega)
  have HTH : ∀ W, Calls Tryd.prog 30 #[.int .i64 (u : Int)] W fun y w' => y = .returned (.string ⟨(threeV (u : Int)).toArray⟩) ∧ Below W.heap.size W w' := fun W => l02Three_any (u : Int) W (by omega) (by omega)
  have hqd := tdiv_bd (1000 * phs e p t) p 1000000000 (by omega) (by omega)
  have HQ : Hid ((1000 * phs e p t).tdiv p = (u : Int)) := Lib.hid hu
  obtain ⟨f, hf⟩ : ∃ f, phs e p t = f := ⟨_, rfl⟩
  rw [hf] at HPH HQ hqd hbig
  have wQ1 : IntKind.i64.wrap (1000 * f) = 1000 * f := IntWalk.i64_in _ (by omega)
  have wQ2 : IntKind.i64.wrap ((1000 * f).tdiv p) = (u : Int) := by rw [IntWalk.i64_in _ (by omega)]; exact HQ.out
  obtain ⟨T, hT⟩ : ∃ T, (⟨(threeV (u : Int)).toArray⟩ : ByteArray) = T := ⟨_, rfl⟩
  have hsz : T.size ≤ 60 := by rw [← hT]; show (threeV (u : Int)).toArray.size ≤ 60; simpa using h3l
  have HVT : Hid ((⟨(phtL e p t).toArray⟩ : ByteArray) = ⟨#[48, 46]⟩ ++ T) := Lib.hid (by rw [HV.out, ← hT]; apply ByteArray.ext; simp)
  rw [hT] at HTH
  have s1 : ¬ 9223372036854775807 < 2 + T.size := by omega
  clear hT hf hu hnb
  go_enter Tryd.func14, Tryd.ntmps14
  go_wp2_with fail
  refine (l09Code_any e p t _).mono ?_
  rintro y w2 ⟨rfl, b2⟩
  rw [HC.out]
  obtain ⟨hlt, k0, k1⟩ := (hbx.mono b2).parts
  rw [Nat.zero_add] at k1
  have hb2 := belowCall hb1 b2
  clear he ht
  go_wp2_with fail
  go_region_held3 (fun W' => W'.cell? ⟨w.heap.size, 0, none⟩ = some (.int .i64 e) ∧ W'.cell? ⟨w.heap.size, 1, none⟩ = some (.int .i64 p)) (refine ⟨?_, ?_⟩ <;> first | assumption | exact ((show Below w2.heap.size w2 _ by (repeat (first | assumption | exact Below.refl _ _ | refine belowDN ?_ _ | refine Below.drew ?_ | refine Below.setCell ?_ (by first | omega | (simp <;> omega)) _ | refine Below.alloc ?_ (by first | omega | (simp <;> omega)) _ | refine belowCall ?_ (by assumption)))).cell (p := ⟨w.heap.size, 0, none⟩) hlt).trans k0 | exact ((show Below w2.heap.size w2 _ by (repeat (first | assumption | exact Below.refl _ _ | refine belowDN ?_ _ | refine Below.drew ?_ | refine Below.setCell ?_ (by first | omega | (simp <;> omega)) _ | refine Below.alloc ?_ (by first | omega | (simp <;> omega)) _ | refine belowCall ?_ (by assumption)))).cell (p := ⟨w.heap.size, 1, none⟩) hlt).trans k1) (first | (go_at_call 31; refine (HPH _).mono ?_; rintro y wA ⟨rfl, bA⟩) | (go_at_call 30; refine (HTH _).mono ?_; rintro y wB ⟨rfl, bB⟩))
  all_goals
    go_wp2
    go_ret
    exact ⟨by rw [HVT.out]; rfl, belowCall hb2 (by (repeat (first | assumption | exact Below.refl _ _ | refine belowDN ?_ _ | refine Below.drew ?_ | refine Below.setCell ?_ (by first | omega | (simp <;> omega)) _ | refine Below.alloc ?_ (by first | omega | (simp <;> omega)) _ | refine belowCall ?_ (by assumption))))⟩
set_option maxRecDepth 100000 in
set_option maxHeartbeats 4000000 in
theorem iPhText_any (e p t : Int) (w : World) (hp : Pow w) :
    Calls Tryd.prog 12 #[.agg #[.int .i64 e, .int .i64 p], .int .i64 t] w fun y w' => y = .returned (.string ⟨(phtL e p t).toArray⟩) ∧ Below w.heap.size w w' := by
  (have hbx := PtC.fresh w 25 e p; have B1 : Below w.heap.size w (w.alloc (.cells #[.int .i64 e, .int .i64 p] 25)) := (Below.refl _ w).alloc (Nat.le_refl _) _)
  cases he : ephB e p
  · have HC := Lib.hid (ecd_1 (t := t) he)
    have HV := Lib.hid (phtL_no (t := t) (show (ephB e p && tmB t) = false by rw [he]; rfl))
    go_enter Tryd.func12, Tryd.ntmps12
    go_wp2_with fail
    (refine (checkT_any e p _ 1 1 [t] _ (lst1 e p t w _ _) (by omega)).mono ?_; rintro x w2 ⟨rfl, b2'⟩; have b2 : Below (w.alloc (.cells #[.int .i64 e, .int .i64 p] 25)).heap.size (w.alloc (.cells #[.int .i64 e, .int .i64 p] 25)) w2 := belowCall ((Below.refl _ _).alloc (Nat.le_refl _) _) b2'; clear b2'; have B2 := belowCall B1 b2; obtain ⟨-, k0, k1⟩ := (hbx.mono b2).parts; rw [Nat.zero_add] at k1)
    rw [HC.out]
    go_wp2
    go_ret
    exact ⟨by rw [HV.out]; rfl, B2⟩
  cases ht : tmB t
  · have HC := Lib.hid (ecd_2 he ht)
    have HV := Lib.hid (phtL_no (show (ephB e p && tmB t) = false by rw [he, ht]; rfl))
    go_enter Tryd.func12, Tryd.ntmps12
    go_wp2_with fail
    (refine (checkT_any e p _ 1 1 [t] _ (lst1 e p t w _ _) (by omega)).mono ?_; rintro x w2 ⟨rfl, b2'⟩; have b2 : Below (w.alloc (.cells #[.int .i64 e, .int .i64 p] 25)).heap.size (w.alloc (.cells #[.int .i64 e, .int .i64 p] 25)) w2 := belowCall ((Below.refl _ _).alloc (Nat.le_refl _) _) b2'; clear b2'; have B2 := belowCall B1 b2; obtain ⟨-, k0, k1⟩ := (hbx.mono b2).parts; rw [Nat.zero_add] at k1)
    rw [HC.out]
    go_wp2
    go_ret
    exact ⟨by rw [HV.out]; rfl, B2⟩
  have HC := Lib.hid (ecd_0 he ht)
  have HV := Lib.hid (phtL_yes he ht)
  obtain ⟨⟨h1, h2⟩, h3, h4⟩ := ephB_iff.1 he
  obtain ⟨h5, h6⟩ := tmB_iff.1 ht
  have hnb := bnI_bd (e := e) (t := t) h3 (show (1 : Int) ≤ 1000 by omega)
  have hg := pow_lt hp
  go_enter Tryd.func12, Tryd.ntmps12
  go_wp2_with fail
  (refine (checkT_any e p _ 1 1 [t] _ (lst1 e p t w _ _) (by omega)).mono ?_; rintro x w2 ⟨rfl, b2'⟩; have b2 : Below (w.alloc (.cells #[.int .i64 e, .int .i64 p] 25)).heap.size (w.alloc (.cells #[.int .i64 e, .int .i64 p] 25)) w2 := belowCall ((Below.refl _ _).alloc (Nat.le_refl _) _) b2'; clear b2'; have B2 := belowCall B1 b2; obtain ⟨-, k0, k1⟩ := (hbx.mono b2).parts; rw [Nat.zero_add] at k1)
  rw [HC.out]
  have hlt2 : w.heap.size < w2.heap.size := (hbx.mono b2).parts.1
  have hw0 : Below w2.heap.size w2 (w2.alloc (.cells #[.pointer none, .slice none 0 0] 45)) := (Below.refl _ _).alloc (Nat.le_refl _) _
  have hb0 := bld_new w2
  clear he ht
  go_wp2_with fail
  generalize w2.alloc (.cells #[.pointer none, .slice none 0 0] 45) = w3 at hw0 hb0 ⊢
  refine (bwString w2.heap.size w2.heap.size [] [48, 46] w3 hb0 (by simp)).mono ?_
  rintro x w4 ⟨rfl, hb1, b4⟩
  have D4 := hw0.trans b4
  have q0 := (D4.cell (p := ⟨w.heap.size, 0, none⟩) hlt2).trans k0
  have q1 := (D4.cell (p := ⟨w.heap.size, 1, none⟩) hlt2).trans k1
  go_wp2_with fail
  refine (binOf_any e p 1000 t w4 h1 h2 h3 h4 h5 (by omega) (by omega) (by omega)).mono ?_
  rintro x w5 ⟨rfl, b5⟩
  have hb2 := hb1.below b5
  have D5 := belowCall D4 b5
  go_wp2_with fail
  refine (writePadded_any w2.heap.size w2.heap.size _ (bnI e p 1000 t) 3 w5 hb2 (powB hp hg (belowCall B2 D5)) (by omega) (by omega) (by omega) (by simp)).mono ?_
  rintro x w6 ⟨rfl, hb3, b6⟩
  go_wp2_with fail
  refine (bwDone w2.heap.size w2.heap.size _ w6 hb3).mono ?_
  rintro x w7 ⟨rfl, b7⟩
  go_wp2_with fail
  go_ret
  exact ⟨by rw [HV.out]; rfl, belowCall B2 (D5.trans (b6.trans b7))⟩
end Go.Proofs.YtejkflacpbjkjaaDoor
