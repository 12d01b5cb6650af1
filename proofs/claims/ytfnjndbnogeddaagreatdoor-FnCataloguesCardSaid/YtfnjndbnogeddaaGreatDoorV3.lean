/- AddStar, the program's. -/
import Derived.Test.YtfnjndbnogeddaaGreatDoorV1
import Derived.Test.YtfnjndbnogeddaaGreatDoorV2
import Derived.Test.YtfnjndbnogeddaaGreatDoorSP
import Derived.Lib.SliceRun
import Derived.Deep.RegionHeld3
import Derived.Deep.AppendLies
namespace Go.Proofs.YtfnjndbnogeddaaGreatDoor
open Go.ChangeShapes Go.WideShapes Go.ChangeAt Go.RowKit Go.Deep Go.Maps Go.WideMaps

theorem flat_cells {w : World} {a : Addr} {n : Nat} {xs : List St} (h : StL w (some a) n xs) : ∀ j u, (flatS xs)[j]? = some u → w.cell? (a.add j) = some u := by
  intro j u hj
  have hlt : j < xs.length * 5 := by
    have := (List.getElem?_eq_some_iff.1 hj).1
    rwa [flatS_len] at this
  have hl := h.1
  obtain ⟨b, off, e, hc⟩ := h.2 (j / 5) (by omega)
  cases e
  have h1 := flatS_at xs (j / 5) (j % 5) (by omega) (by omega)
  rw [show j / 5 * 5 + j % 5 = j from by omega, hj] at h1
  cases h1
  rw [Go.WideShapes.add_plain, ← hc.2 (j % 5) (by omega)]
  congr 2
  omega
theorem own_low5 {w : World} {B B' e size n : Nat} {v : Value} {xs : List Value} (h : w.ownsRow B e size v n xs) (hb : B' ≤ B) : w.ownsRow B' e size v n xs := by
  refine ⟨h.1, ?_⟩
  rcases h.2 with h0 | ⟨g, cap, cur, hv, hg, rest⟩
  · exact .inl h0
  · exact .inr ⟨g, cap, cur, hv, Nat.le_trans hb hg, rest⟩
theorem flat_one (xs : List St) : ∀ u ∈ flatS xs, u.oneCell' = true := by
  intro u hu
  simp only [flatS, List.mem_flatMap] at hu
  obtain ⟨x, _, hx⟩ := hu
  simp at hx
  rcases hx with rfl | rfl | rfl | rfl | rfl <;> rfl
set_option maxRecDepth 100000 in
set_option maxHeartbeats 1000000 in
theorem clone_any (a : Option Addr) (n c : Nat) (xs : List St) (w : World) (h : StL w a n xs) (hn : n ≤ 1048576) :
    Calls Tryz.prog 62 #[.slice a n c] w fun e w' => ∃ v, e = .returned v ∧ w'.ownsRow w.heap.size 27 5 v n (flatS xs) ∧ Below w.heap.size w w' := by
  have qT : ∀ (w : World) (a : Option Addr) (n c n' c' : Nat), (binOp .eql 24 (.slice a n c) (.slice none n' c')).run Tryz.prog w = .ok (.bool a.isNone) w := fun w a n c n' c' => Lib.run_eql_slice_nil w _ _ a n c n' c' Tryz.underlying24
  obtain ⟨i0, hi, hz0, hz1, hz2⟩ := info_parts Star_info
  have hl := h.1
  rcases a with _ | y
  · have h0 : n = 0 := by
      by_cases hz : n = 0
      · exact hz
      · obtain ⟨b, off, e, _⟩ := h.2 0 (by omega)
        cases e
    subst h0
    have hx : xs = [] := List.length_eq_zero_iff.1 hl
    subst hx
    go_enter Tryz.func62, Tryz.ntmps62
    go_wp2
    go_ret
    exact ⟨_, rfl, World.ownsRow_nil _ _ _ _, by (repeat (first | assumption | exact Below.refl _ _ | refine belowDN ?_ _ | refine Below.drew ?_ | refine Below.setCell ?_ (by first | omega | (simp <;> omega)) _ | refine Below.alloc ?_ (by first | omega | (simp <;> omega)) _ | refine belowCall ?_ (by assumption)))⟩
  · have hB0 : Below w.heap.size w (w.alloc (.cells #[] 27)) := (Below.refl _ _).alloc (Nat.le_refl _) _
    have hcl := flat_cells (h.mono hB0)
    go_enter Tryz.func62, Tryz.ntmps62
    go_wp2_with (at_builtin; refine wpList_append_own _ rfl _ _ 24 rfl w.heap.size 27 i0 _ 5 48 Tryz.underlying24 hi hz0 hz1 hz2 rfl (by decide) _ 0 [] rfl ?c0 y n c (flatS xs) rfl (by rw [flatS_len, hl]) hcl (flat_one xs) (by unfold maxLen; omega) (by omega) (by simp) ?_)
    case c0 => exact World.ownsRow_lit w #[] 0 (Nat.le_refl _) (by unfold maxLen; omega) rfl
    intro v' wb hownb hgb _
    have hBb : Below w.heap.size w wb := hB0.grown hgb (by simp) (fun k hk => by simp [Value.ownBlock] at hk; omega)
    go_wp2
    go_ret
    exact ⟨_, rfl, hownb, hBb⟩
set_option maxRecDepth 100000 in
set_option maxHeartbeats 4000000 in
theorem addEntryS_any (a : Option Addr) (n c : Nat) (xs : List St) (nm : ByteArray) (x1 x2 x3 x4 : Int) (ea : Addr) (w : World) (h : StL w a n xs) (hn : n ≤ 1048576) (hnm : nm.size ≤ maxLen) (hE : Errn w ea) :
    Calls Tryz.prog 30 #[.slice a n c, .agg #[.string nm, .int .i64 x1, .int .i64 x2, .int .i64 x3, .int .i64 x4], .int .i64 60] w fun e w' => Added w.heap.size 27 xs (nm, x1, x2, x3, x4) w' e ∧ Below w.heap.size w w' := by
  have HL := Lib.hid h.1
  have B1 : Below w.heap.size w (w.alloc (.cells #[.string nm, .int .i64 x1, .int .i64 x2, .int .i64 x3, .int .i64 x4] 27)) := (Below.refl _ w).alloc (Nat.le_refl _) _
  have h1 := h.mono B1
  have hbx := StC.fresh w 27 nm x1 x2 x3 x4
  have hE1 := hE.mono B1
  cases hok : okS xs
  · have HC := Lib.hid (addC_ok (x := (nm, x1, x2, x3, x4)) hok)
    go_enter Tryz.func30, Tryz.ntmps30
    go_wp2_with fail
    refine (areES_any a n c xs _ h1 hn).mono ?_
    rintro e w2 ⟨rfl, b2⟩
    rw [hok]
    go_wp2
    go_ret2
    exact ⟨.inr ⟨by rw [HC.out]; decide, by rw [HC.out]; rfl⟩, belowCall B1 b2⟩
  go_enter Tryz.func30, Tryz.ntmps30
  go_wp2_with fail
  generalize hW : w.alloc (.cells #[.string nm, .int .i64 x1, .int .i64 x2, .int .i64 x3, .int .i64 x4] 27) = w1 at B1 h1 hbx hE1 ⊢
  have hsw : w.heap.size < w1.heap.size := by rw [← hW]; simp
  clear hW
  refine (areES_any a n c xs _ h1 hn).mono ?_
  rintro e w2 ⟨rfl, b2⟩
  rw [hok]
  have C2 := belowCall B1 b2
  have hbx2 := hbx.mono b2
  have h2 := h1.mono b2
  have hE2 := hE1.mono b2
  obtain ⟨_, q0, q1, q2, q3, q4⟩ := hbx2.parts
  rw [Nat.zero_add] at q1 q2 q3 q4
  cases hst : starB (nm, x1, x2, x3, x4)
  · have HC := Lib.hid (addC_star hok hst)
    go_wp2_with fail
    refine (valid_any nm x1 x2 x3 x4 w2).mono ?_
    rintro e w3 ⟨rfl, b3⟩
    rw [hst]
    go_wp2
    go_ret2
    exact ⟨.inr ⟨by rw [HC.out]; decide, by rw [HC.out]; rfl⟩, belowCall C2 b3⟩
  go_wp2_with fail
  refine (valid_any nm x1 x2 x3 x4 w2).mono ?_
  rintro e w3 ⟨rfl, b3⟩
  rw [hst]
  have C3 := belowCall C2 b3
  have hbx3 := hbx2.mono b3
  have h3 := h2.mono b3
  have hE3 := hE2.mono b3
  clear q0 q1 q2 q3 q4 hbx hbx2 h1 h2 b2 B1 C2 hE1 hE2
  obtain ⟨hbl, q0, q1, q2, q3, q4⟩ := hbx3.parts
  rw [Nat.zero_add] at q1 q2 q3 q4
  obtain ⟨h60, hall⟩ := okS_parts HL.out hok
  have HALL := Lib.hid hall
  clear hall
  go_wp2_with fail
  refine (stName_any _ _ _ _ _ _).mono ?_
  rintro e w4 ⟨rfl, b4⟩
  go_wp2_with fail
  refine (placeS_any a n c xs nm ea w4 (h3.mono b4) HALL.out h60 hnm (hE3.mono b4)).mono ?_
  rintro e w5 ⟨rfl, b45⟩
  have b35 := belowCall b4 b45
  have hE5 := hE3.mono b35
  obtain ⟨hEl, hEc⟩ := hE5
  have C5 := C3.trans (b35.mono C3.size)
  have h5 := h3.mono b35
  obtain ⟨hbl5, r0, r1, r2, r3, r4⟩ := (hbx3.mono b35).parts
  rw [Nat.zero_add] at r1 r2 r3 r4
  clear q0 q1 q2 q3 q4
  obtain ⟨i0, hi, hz0, hz1, hz2⟩ := info_parts Star_info
  by_cases hf : findS xs nm < xs.length
  · have HC := Lib.hid (addC_has (x := (nm, x1, x2, x3, x4)) hok hst hf)
    have HP := Lib.hid (plV_at (a := ea) hf)
    rw [HP.out]
    go_wp2_with fail
    refine (is_nil ea _).mono ?_
    rintro e w6 ⟨rfl, rfl⟩
    go_wp2
    go_ret2
    exact ⟨.inr ⟨by rw [HC.out]; decide, by rw [HC.out]; rfl⟩, C5⟩
  have HP := Lib.hid (plV_none (a := ea) hf)
  rw [HP.out]
  go_wp2_with fail
  refine (is_same ea _).mono ?_
  rintro e w6 ⟨rfl, rfl⟩
  by_cases hfull : n = 60
  · have HC := Lib.hid (addC_full (x := (nm, x1, x2, x3, x4)) hok hst hf (by rw [HL.out]; omega))
    have d60 : ((n : Int) == 60) = true := by simp; omega
    clear hfull
    go_wp2
    go_ret2
    exact ⟨.inr ⟨by rw [HC.out]; decide, by rw [HC.out]; rfl⟩, C5⟩
  have HC := Lib.hid (addC_zero (x := (nm, x1, x2, x3, x4)) hok hst hf (by rw [HL.out]; omega))
  have d60 : ((n : Int) == 60) = false := by simp; omega
  have HF := Lib.hid hf
  clear hfull hf
  go_wp2
  go_region_held3 (fun W' => W'.cell? ⟨w.heap.size, 0, none⟩ = some (.string nm) ∧ W'.cell? ⟨w.heap.size, 1, none⟩ = some (.int .i64 x1) ∧ W'.cell? ⟨w.heap.size, 2, none⟩ = some (.int .i64 x2) ∧ W'.cell? ⟨w.heap.size, 3, none⟩ = some (.int .i64 x3) ∧ W'.cell? ⟨w.heap.size, 4, none⟩ = some (.int .i64 x4)) (refine ⟨?_, ?_, ?_, ?_, ?_⟩ <;> first | assumption | exact ((show Below w5.heap.size w5 _ by (repeat (first | assumption | exact Below.refl _ _ | refine belowDN ?_ _ | refine Below.drew ?_ | refine Below.setCell ?_ (by first | omega | (simp <;> omega)) _ | refine Below.alloc ?_ (by first | omega | (simp <;> omega)) _ | refine belowCall ?_ (by assumption)))).cell (p := ⟨w.heap.size, 0, none⟩) hbl5).trans r0 | exact ((show Below w5.heap.size w5 _ by (repeat (first | assumption | exact Below.refl _ _ | refine belowDN ?_ _ | refine Below.drew ?_ | refine Below.setCell ?_ (by first | omega | (simp <;> omega)) _ | refine Below.alloc ?_ (by first | omega | (simp <;> omega)) _ | refine belowCall ?_ (by assumption)))).cell (p := ⟨w.heap.size, 1, none⟩) hbl5).trans r1 | exact ((show Below w5.heap.size w5 _ by (repeat (first | assumption | exact Below.refl _ _ | refine belowDN ?_ _ | refine Below.drew ?_ | refine Below.setCell ?_ (by first | omega | (simp <;> omega)) _ | refine Below.alloc ?_ (by first | omega | (simp <;> omega)) _ | refine belowCall ?_ (by assumption)))).cell (p := ⟨w.heap.size, 2, none⟩) hbl5).trans r2 | exact ((show Below w5.heap.size w5 _ by (repeat (first | assumption | exact Below.refl _ _ | refine belowDN ?_ _ | refine Below.drew ?_ | refine Below.setCell ?_ (by first | omega | (simp <;> omega)) _ | refine Below.alloc ?_ (by first | omega | (simp <;> omega)) _ | refine belowCall ?_ (by assumption)))).cell (p := ⟨w.heap.size, 3, none⟩) hbl5).trans r3 | exact ((show Below w5.heap.size w5 _ by (repeat (first | assumption | exact Below.refl _ _ | refine belowDN ?_ _ | refine Below.drew ?_ | refine Below.setCell ?_ (by first | omega | (simp <;> omega)) _ | refine Below.alloc ?_ (by first | omega | (simp <;> omega)) _ | refine belowCall ?_ (by assumption)))).cell (p := ⟨w.heap.size, 4, none⟩) hbl5).trans r4 ) (first | (go_at_call 62; refine (clone_any a n c xs _ (h5.mono (by (repeat (first | assumption | exact Below.refl _ _ | refine belowDN ?_ _ | refine Below.drew ?_ | refine Below.setCell ?_ (by first | omega | (simp <;> omega)) _ | refine Below.alloc ?_ (by first | omega | (simp <;> omega)) _ | refine belowCall ?_ (by assumption))))) hn).mono ?_; rintro e w6 ⟨v6, rfl, hcl, b6⟩; have b56 : Below w5.heap.size w5 w6 := belowCall (by (repeat (first | assumption | exact Below.refl _ _ | refine belowDN ?_ _ | refine Below.drew ?_ | refine Below.setCell ?_ (by first | omega | (simp <;> omega)) _ | refine Below.alloc ?_ (by first | omega | (simp <;> omega)) _ | refine belowCall ?_ (by assumption)))) b6; have z6 := b6.size; (try simp at z6); have z56 := b56.size; have hcl5 := own_low5 (B' := w5.heap.size) hcl (by first | exact Nat.le_refl _ | (simp; done))) | (refine Go.step_append_lies _ rfl _ _ 24 rfl w5.heap.size 27 i0 _ 5 48 Tryz.underlying24 hi hz0 hz1 hz2 rfl (by decide) v6 n (flatS xs) rfl (hcl5.alloc _) ⟨w6.heap.size, 0, none⟩ 1 1 [.string nm, .int .i64 x1, .int .i64 x2, .int .i64 x3, .int .i64 x4] rfl rfl (cell_five _ _ _ _ _ _ _) (by intro u hu; simp at hu; rcases hu with rfl | rfl | rfl | rfl | rfl <;> rfl) (by decide) (by unfold maxLen; omega) (by omega) (by first | (simp; omega) | omega) _ rfl ?_; intro g7 c7 w7 hown7 hg7 hgg hlt7; have c70 := hg7.cell (a := ⟨w.heap.size, 0, none⟩) (v := .string nm) (by first | assumption | exact ((show Below w5.heap.size w5 _ by (repeat (first | assumption | exact Below.refl _ _ | refine belowDN ?_ _ | refine Below.drew ?_ | refine Below.setCell ?_ (by first | omega | (simp <;> omega)) _ | refine Below.alloc ?_ (by first | omega | (simp <;> omega)) _ | refine belowCall ?_ (by assumption)))).cell (p := ⟨w.heap.size, 0, none⟩) hbl5).trans r0) (fun e => by have hh : w5.heap.size ≤ w.heap.size := (hcl5.lt _ e.symm).1; omega); have c71 := hg7.cell (a := ⟨w.heap.size, 1, none⟩) (v := .int .i64 x1) (by first | assumption | exact ((show Below w5.heap.size w5 _ by (repeat (first | assumption | exact Below.refl _ _ | refine belowDN ?_ _ | refine Below.drew ?_ | refine Below.setCell ?_ (by first | omega | (simp <;> omega)) _ | refine Below.alloc ?_ (by first | omega | (simp <;> omega)) _ | refine belowCall ?_ (by assumption)))).cell (p := ⟨w.heap.size, 1, none⟩) hbl5).trans r1) (fun e => by have hh : w5.heap.size ≤ w.heap.size := (hcl5.lt _ e.symm).1; omega); have c72 := hg7.cell (a := ⟨w.heap.size, 2, none⟩) (v := .int .i64 x2) (by first | assumption | exact ((show Below w5.heap.size w5 _ by (repeat (first | assumption | exact Below.refl _ _ | refine belowDN ?_ _ | refine Below.drew ?_ | refine Below.setCell ?_ (by first | omega | (simp <;> omega)) _ | refine Below.alloc ?_ (by first | omega | (simp <;> omega)) _ | refine belowCall ?_ (by assumption)))).cell (p := ⟨w.heap.size, 2, none⟩) hbl5).trans r2) (fun e => by have hh : w5.heap.size ≤ w.heap.size := (hcl5.lt _ e.symm).1; omega); have c73 := hg7.cell (a := ⟨w.heap.size, 3, none⟩) (v := .int .i64 x3) (by first | assumption | exact ((show Below w5.heap.size w5 _ by (repeat (first | assumption | exact Below.refl _ _ | refine belowDN ?_ _ | refine Below.drew ?_ | refine Below.setCell ?_ (by first | omega | (simp <;> omega)) _ | refine Below.alloc ?_ (by first | omega | (simp <;> omega)) _ | refine belowCall ?_ (by assumption)))).cell (p := ⟨w.heap.size, 3, none⟩) hbl5).trans r3) (fun e => by have hh : w5.heap.size ≤ w.heap.size := (hcl5.lt _ e.symm).1; omega); have c74 := hg7.cell (a := ⟨w.heap.size, 4, none⟩) (v := .int .i64 x4) (by first | assumption | exact ((show Below w5.heap.size w5 _ by (repeat (first | assumption | exact Below.refl _ _ | refine belowDN ?_ _ | refine Below.drew ?_ | refine Below.setCell ?_ (by first | omega | (simp <;> omega)) _ | refine Below.alloc ?_ (by first | omega | (simp <;> omega)) _ | refine belowCall ?_ (by assumption)))).cell (p := ⟨w.heap.size, 4, none⟩) hbl5).trans r4) (fun e => by have hh : w5.heap.size ≤ w.heap.size := (hcl5.lt _ e.symm).1; omega); have b57 : Below w5.heap.size w5 w7 := (show Below w5.heap.size w5 _ by (repeat (first | assumption | exact Below.refl _ _ | refine belowDN ?_ _ | refine Below.drew ?_ | refine Below.setCell ?_ (by first | omega | (simp <;> omega)) _ | refine Below.alloc ?_ (by first | omega | (simp <;> omega)) _ | refine belowCall ?_ (by assumption)))).grown hg7 (by first | (simp; omega) | omega) (fun j e => (hcl5.lt j e).1); clear hg7 hgg) | (refine Go.step_append_lies _ rfl _ _ 24 rfl w5.heap.size 27 i0 _ 5 48 Tryz.underlying24 hi hz0 hz1 hz2 rfl (by decide) v6 n (flatS xs) rfl hcl5 ⟨w5.heap.size, 0, none⟩ 1 1 [.string nm, .int .i64 x1, .int .i64 x2, .int .i64 x3, .int .i64 x4] rfl rfl (fun j u hj => (b6.cell (p := (⟨w5.heap.size, 0, none⟩ : Addr).add j) (by rw [Go.WideShapes.add_plain]; simp)).trans (cell_five w5.drew _ _ _ _ _ _ j u hj)) (by intro u hu; simp at hu; rcases hu with rfl | rfl | rfl | rfl | rfl <;> rfl) (by decide) (by unfold maxLen; omega) (by omega) (by first | (simp; omega) | omega) _ rfl ?_; intro g7 c7 w7 hown7 hg7 hgg hlt7; have c70 := hg7.cell (a := ⟨w.heap.size, 0, none⟩) (v := .string nm) (by first | assumption | exact ((show Below w5.heap.size w5 _ by (repeat (first | assumption | exact Below.refl _ _ | refine belowDN ?_ _ | refine Below.drew ?_ | refine Below.setCell ?_ (by first | omega | (simp <;> omega)) _ | refine Below.alloc ?_ (by first | omega | (simp <;> omega)) _ | refine belowCall ?_ (by assumption)))).cell (p := ⟨w.heap.size, 0, none⟩) hbl5).trans r0) (fun e => by have hh : w5.heap.size ≤ w.heap.size := (hcl5.lt _ e.symm).1; omega); have c71 := hg7.cell (a := ⟨w.heap.size, 1, none⟩) (v := .int .i64 x1) (by first | assumption | exact ((show Below w5.heap.size w5 _ by (repeat (first | assumption | exact Below.refl _ _ | refine belowDN ?_ _ | refine Below.drew ?_ | refine Below.setCell ?_ (by first | omega | (simp <;> omega)) _ | refine Below.alloc ?_ (by first | omega | (simp <;> omega)) _ | refine belowCall ?_ (by assumption)))).cell (p := ⟨w.heap.size, 1, none⟩) hbl5).trans r1) (fun e => by have hh : w5.heap.size ≤ w.heap.size := (hcl5.lt _ e.symm).1; omega); have c72 := hg7.cell (a := ⟨w.heap.size, 2, none⟩) (v := .int .i64 x2) (by first | assumption | exact ((show Below w5.heap.size w5 _ by (repeat (first | assumption | exact Below.refl _ _ | refine belowDN ?_ _ | refine Below.drew ?_ | refine Below.setCell ?_ (by first | omega | (simp <;> omega)) _ | refine Below.alloc ?_ (by first | omega | (simp <;> omega)) _ | refine belowCall ?_ (by assumption)))).cell (p := ⟨w.heap.size, 2, none⟩) hbl5).trans r2) (fun e => by have hh : w5.heap.size ≤ w.heap.size := (hcl5.lt _ e.symm).1; omega); have c73 := hg7.cell (a := ⟨w.heap.size, 3, none⟩) (v := .int .i64 x3) (by first | assumption | exact ((show Below w5.heap.size w5 _ by (repeat (first | assumption | exact Below.refl _ _ | refine belowDN ?_ _ | refine Below.drew ?_ | refine Below.setCell ?_ (by first | omega | (simp <;> omega)) _ | refine Below.alloc ?_ (by first | omega | (simp <;> omega)) _ | refine belowCall ?_ (by assumption)))).cell (p := ⟨w.heap.size, 3, none⟩) hbl5).trans r3) (fun e => by have hh : w5.heap.size ≤ w.heap.size := (hcl5.lt _ e.symm).1; omega); have c74 := hg7.cell (a := ⟨w.heap.size, 4, none⟩) (v := .int .i64 x4) (by first | assumption | exact ((show Below w5.heap.size w5 _ by (repeat (first | assumption | exact Below.refl _ _ | refine belowDN ?_ _ | refine Below.drew ?_ | refine Below.setCell ?_ (by first | omega | (simp <;> omega)) _ | refine Below.alloc ?_ (by first | omega | (simp <;> omega)) _ | refine belowCall ?_ (by assumption)))).cell (p := ⟨w.heap.size, 4, none⟩) hbl5).trans r4) (fun e => by have hh : w5.heap.size ≤ w.heap.size := (hcl5.lt _ e.symm).1; omega); have b57 : Below w5.heap.size w5 w7 := (show Below w5.heap.size w5 _ by (repeat (first | assumption | exact Below.refl _ _ | refine belowDN ?_ _ | refine Below.drew ?_ | refine Below.setCell ?_ (by first | omega | (simp <;> omega)) _ | refine Below.alloc ?_ (by first | omega | (simp <;> omega)) _ | refine belowCall ?_ (by assumption)))).grown hg7 (by first | (simp; omega) | omega) (fun j e => (hcl5.lt j e).1); clear hg7 hgg))
  all_goals
    have hown8 : w7.ownsRow w5.heap.size 27 5 (.slice (some ⟨g7, 0, none⟩) (n + 1) c7) (n + 1) (flatS (xs ++ [(nm, x1, x2, x3, x4)])) := by rw [flatS_snoc]; exact hown7
    have HLN : Hid ((xs ++ [(nm, x1, x2, x3, x4)]).length = n + 1) := Lib.hid (by rw [List.length_append, HL.out]; rfl)
    have z57 := b57.size
    go_wp2_with fail
    refine (sortS_any g7 (n + 1) c7 w5.heap.size _ w7 hown8 HLN.out (by omega)).mono ?_
    rintro e w8 ⟨rfl, ys, hyl, hyp, hys, hown9, hg8⟩
    obtain rfl := sorted_addL hok HF.out hyp hys
    have hgB := (hown9.lt g7 rfl).1
    have C8 : Below w.heap.size w w8 := (C5.trans (b57.mono C5.size)).grown hg8 (Nat.le_trans C5.size z57) (fun j e => by cases e; exact Nat.le_trans C5.size hgB)
    have HYL := Lib.hid hyl
    have HOWN := Lib.hid (own_low5 hown9 C5.size)
    clear hyl hyp hys hown8 hown7 hown9 hg8
    go_wp2
    go_ret2
    exact ⟨.inl ⟨HC.out, g7, c7, by rw [HYL.out]; rfl, by rw [HYL.out]; exact HOWN.out⟩, C8⟩
theorem iAddStar_any (a : Option Addr) (n c : Nat) (xs : List St) (nm : ByteArray) (x1 x2 x3 x4 : Int) (ea : Addr) (w : World) (h : StL w a n xs) (hn : n ≤ 1048576) (hnm : nm.size ≤ maxLen) (hE : Errn w ea) :
    Calls Tryz.prog 8 #[.slice a n c, .agg #[.string nm, .int .i64 x1, .int .i64 x2, .int .i64 x3, .int .i64 x4]] w fun e w' => Added w.heap.size 27 xs (nm, x1, x2, x3, x4) w' e ∧ Below w.heap.size w w' := by
  have B1 : Below w.heap.size w (w.alloc (.cells #[.string nm, .int .i64 x1, .int .i64 x2, .int .i64 x3, .int .i64 x4] 27)) := (Below.refl _ w).alloc (Nat.le_refl _) _
  have hs1 : w.heap.size ≤ (w.alloc (.cells #[.string nm, .int .i64 x1, .int .i64 x2, .int .i64 x3, .int .i64 x4] 27)).heap.size := B1.size
  go_enter Tryz.func8, Tryz.ntmps8
  go_wp2_with fail
  refine (addEntryS_any a n c xs nm x1 x2 x3 x4 ea _ (h.mono B1) hn hnm (hE.mono B1)).mono ?_
  rintro e w2 ⟨hA, b2⟩
  rcases hA with ⟨h0, g, c', rfl, hown⟩ | ⟨h0, rfl⟩
  · have HOWN := Lib.hid (own_low5 hown hs1)
    have H0 := Lib.hid h0
    clear hown h0
    go_wp2
    go_ret2
    exact ⟨.inl ⟨H0.out, g, c', rfl, HOWN.out⟩, belowCall B1 b2⟩
  · have H0 := Lib.hid h0
    clear h0
    go_wp2
    go_ret2
    exact ⟨.inr ⟨H0.out, rfl⟩, belowCall B1 b2⟩
end Go.Proofs.YtfnjndbnogeddaaGreatDoor
