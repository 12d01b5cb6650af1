/- The model's drawn catalogue and star: l04Draw, A2Stars, A2Star. -/
import Derived.Test.YtfnjndbnogeddaaGreatDoorK2
import Derived.Test.YtfnjndbnogeddaaGreatDoorS7
import Derived.Test.YtfnjndbnogeddaaGreatDoorVF
import Derived.Maps.AppendAt
namespace Go.Proofs.YtfnjndbnogeddaaGreatDoor
open Go.ChangeShapes Go.WideShapes Go.ChangeAt Go.RowKit Go.Deep

theorem nmK_lt : ∀ (k : Fin 6) (j : Fin 6), j.1 < k.1 → Op.bytesLess (nmK j.1).data.toList (nmK k.1).data.toList = true := by decide
theorem okS_nil : okS [] = true := rfl
theorem okS_snoc {xs : List St} {x : St} (h : okS xs = true) (hl : xs.length < 60) (hx : starB x = true) (hn : xs = [] ∨ Op.bytesLess (xs[xs.length - 1]?.getD st0).1.toList x.1.toList = true) : okS (xs ++ [x]) = true := by
  simp only [okS, Bool.and_eq_true, decide_eq_true_eq, List.all_eq_true, List.mem_range] at h ⊢
  refine ⟨by simp; omega, fun k hk => ?_⟩
  simp at hk
  by_cases hk2 : k < xs.length
  · have := h.2 k hk2
    simp only [okAt, Bool.and_eq_true, Bool.or_eq_true, decide_eq_true_eq] at this ⊢
    rw [List.getElem?_append_left hk2, List.getElem?_append_left (by omega)]
    exact this
  · obtain rfl : k = xs.length := by omega
    simp only [okAt, Bool.and_eq_true, Bool.or_eq_true, decide_eq_true_eq]
    refine ⟨by simpa using hx, ?_⟩
    rcases hn with rfl | hn
    · exact .inl rfl
    · by_cases h0 : xs.length = 0
      · exact .inl h0
      · right
        rw [List.getElem?_append_left (by omega)]
        simpa using hn
/-- the names of drawn stars are those of the first k -/
def InK (xs : List St) (k : Nat) : Prop := xs = [] ∨ ∃ j, j < k ∧ (xs[xs.length - 1]?.getD st0).1 = nmK j
theorem InK.mono {xs : List St} {k : Nat} (h : InK xs k) : InK xs (k + 1) := by
  rcases h with h | ⟨j, h1, h2⟩
  · exact .inl h
  · exact .inr ⟨j, by omega, h2⟩
theorem InK.snoc {xs : List St} {k : Nat} {x : St} (hx : x.1 = nmK k) : InK (xs ++ [x]) (k + 1) := .inr ⟨k, by omega, by simp [hx]⟩
theorem InK.less {xs : List St} {k : Nat} {x : St} (h : InK xs k) (hk : k < 6) (hx : x.1 = nmK k) : xs = [] ∨ Op.bytesLess (xs[xs.length - 1]?.getD st0).1.toList x.1.toList = true := by
  rcases h with h | ⟨j, h1, h2⟩
  · exact .inl h
  · refine .inr ?_
    rw [h2, hx, ByteArray.toList_eq, ByteArray.toList_eq]
    exact nmK_lt ⟨k, hk⟩ ⟨j, by omega⟩ h1
set_option maxRecDepth 100000 in
set_option maxHeartbeats 4000000 in
theorem l04Draw_any (g : Nat) (a : Option Addr) (len cap M : Nat) (w : World) (h : Src w 92 g a len cap M) (hb : LstB w g a len) (hM : M ≤ 1000) (hlen : len ≤ 1048576) :
    Calls Tryz.prog 25 #[.pointer (some ⟨g, 0, none⟩)] w fun e w' => ∃ a' n c xs, e = .returned (.slice a' n c) ∧ StL w' a' n xs ∧ okS xs = true ∧ n ≤ 6 ∧ w.grownBy w' (some g) := by
  obtain ⟨i0, hi, hz0, hz1, hz2⟩ := info_parts Star_info
  have hgl := src_lt h
  go_enter Tryz.func25, Tryz.ntmps25
  go_wp2_with fail
  refine (l04Names_any w).mono ?_
  rintro e w1 ⟨rfl, hn1, hz1', hg1⟩
  have hs1 := src_kept h (hg1.block g hgl (by simp))
  have hb1 : LstB w1 g a len := fun i hi => by
    obtain ⟨b, off, v, e, hlt, hc, h0, h1⟩ := hb i hi
    exact ⟨b, off, v, e, hlt, hg1.cell hc (by simp), h0, h1⟩
  have hG1 : w.grownBy w1 (some g) := ⟨hg1.os, hg1.tape, hg1.output, hg1.size, fun i hi _ => hg1.block i hi (by simp)⟩
  go_wp2
  go_loopw [4, 5] (fun o i wr => ∃ (k M' : Nat) (xs : List St), k ≤ 6 ∧ i = .int .i64 k ∧ wr.ownsRow (w.heap.size + 1) 27 5 o xs.length (flatS xs) ∧ okS xs = true ∧ InK xs k ∧ xs.length ≤ k ∧ M' ≤ M + 22 * k ∧ Src wr 92 g a len cap M' ∧ LstB wr g a len ∧ (∀ i, i < 6 → wr.cell? ⟨w.heap.size, 0 + i, none⟩ = some (.string (nmK i))) ∧ w.grownBy wr (some g) ∧ w.heap.size + 1 ≤ wr.heap.size) (fun _ i _ => 6 - (intOf i).toNat)
  case atStart => exact ⟨0, M, [], by omega, rfl, (by exact World.ownsRow_lit w1 #[] 0 hz1' (by unfold maxLen; omega) rfl), rfl, .inl rfl, by simp, by omega, src_kept hs1 (Below.heap_alloc _ _ _ (src_lt hs1)), hb1.below ((Below.refl _ _).alloc (Nat.le_of_lt (src_lt hs1)) _), fun i hi => (World.grownBy_alloc w1 _ none).cell (hn1 i hi) (by simp), grown_trans hG1 (World.grownBy_alloc _ _ _), (by simp; omega)⟩
  case round =>
    obtain ⟨k, M', xs, hk, rfl, hown, hok, hin, hxl, hMk, hs, hbb, hnm, hG, hzr⟩ := hrel
    clear hn1 hs1 hb1 hG1 hg1
    by_cases hlt : k < 6
    · have hck := hnm k hlt
      rw [Nat.zero_add] at hck
      go_wp2_with fail
      refine (one_any 2 g a len cap M' wr hs hbb (by omega) hlen (by omega)).mono ?_
      rintro e wb ⟨b, rfl, hsb, hgb⟩
      have hbbb := hbb.grown hgb
      have hGb := grown_trans hG hgb
      have hzb : w.heap.size + 1 ≤ wb.heap.size := Nat.le_trans hzr hgb.size
      have hnmb : ∀ i, i < 6 → wb.cell? ⟨w.heap.size, 0 + i, none⟩ = some (.string (nmK i)) := fun i hi => hgb.cell (hnm i hi) (by simp; omega)
      have hckb := hnmb k hlt
      rw [Nat.zero_add] at hckb
      have hownb := hown.kept hgb (.inr (fun e => by have := (hown.lt g e).1; omega))
      clear hown hs hbb hG hnm hck hgb
      rcases b with _ | _
      · go_wp2
        go_roundw
        case rel => exact ⟨k + 1, M' + 2, xs, by omega, by go_num, hownb, hok, hin.mono, by omega, by omega, hsb, hbbb, hnmb, hGb, hzb⟩
        case measure => simp [intOf]; omega
      · have HOK := Lib.hid hok
        have HIN := Lib.hid hin
        clear hok hin
        go_wp2_with fail
        refine (l04New_any (nmK k) (nmK_name k hlt) g a len cap (M' + 2) wb hsb hbbb (by omega) hlen).mono ?_
        rintro e wa ⟨x1, x2, x3, x4, M2, rfl, hst, hM2, hsa, hga⟩
        have howna := hownb.kept hga (.inr (fun e => by have := (hownb.lt g e).1; omega))
        have hza : w.heap.size + 1 ≤ wa.heap.size := Nat.le_trans hzb hga.size
        have hnma : ∀ i, i < 6 → wa.cell? ⟨w.heap.size, 0 + i, none⟩ = some (.string (nmK i)) := fun i hi => hga.cell (hnmb i hi) (by simp; omega)
        have hbba := hbbb.grown hga
        have hGa := grown_trans hGb hga
        have HST := Lib.hid hst
        have hgla := src_lt hsa
        clear hst hownb hsb hbbb hnmb hckb hGb hga
        go_wp2_with (first | (at_builtin; refine wpList_append_own _ rfl _ _ 24 rfl (w.heap.size + 1) 27 i0 _ 5 48 Tryz.underlying24 hi hz0 hz1 hz2 rfl (by decide) _ _ _ rfl (howna.alloc _) ⟨wa.heap.size, 0, none⟩ 1 1 [.string (nmK k), .int .i64 x1, .int .i64 x2, .int .i64 x3, .int .i64 x4] rfl rfl (cell_five _ _ _ _ _ _ _) (by intro u hu; simp at hu; rcases hu with rfl | rfl | rfl | rfl | rfl <;> rfl) (by unfold maxLen; omega) (by omega) (by simp; omega) ?_))
        intro v' wc hownc hgc _
        have hgA := (World.grownBy_alloc wa (.cells #[.string (nmK k), .int .i64 x1, .int .i64 x2, .int .i64 x3, .int .i64 x4] 27) _).trans hgc
        have hno := fun j e => (howna.lt j e).1
        have hsc := src_kept hsa (hgA.block g hgla (fun e => by have := hno _ e.symm; omega))
        have hbbc : LstB wc g a len := fun i hi => by
          obtain ⟨b, off, v, e, hlt, hc, h0, h1⟩ := hbba i hi
          exact ⟨b, off, v, e, hlt, hgA.cell hc (fun e => by have := hno _ e.symm; simp at this; omega), h0, h1⟩
        have hnmc : ∀ i, i < 6 → wc.cell? ⟨w.heap.size, 0 + i, none⟩ = some (.string (nmK i)) := fun i hi => hgA.cell (hnma i hi) (fun e => by have := hno _ e.symm; simp at this; omega)
        have hGc := grown_far hGa hgA (fun j e => by have := hno _ e; omega)
        have hzc : w.heap.size + 1 ≤ wc.heap.size := Nat.le_trans hza hgA.size
        have hownc' : wc.ownsRow (w.heap.size + 1) 27 5 v' (xs ++ [(nmK k, x1, x2, x3, x4)]).length (flatS (xs ++ [(nmK k, x1, x2, x3, x4)])) := by rw [flatS_snoc]; simpa [fld] using hownc
        clear hownc hgc hgA hno hsa hbba hnma hGa howna
        go_wp2
        go_roundw
        case rel => exact ⟨k + 1, M2, xs ++ [(nmK k, x1, x2, x3, x4)], by omega, by go_num, hownc', okS_snoc HOK.out (by omega) HST.out (HIN.out.less hlt rfl), InK.snoc rfl, by simp; omega, by omega, hsc, hbbc, hnmc, hGc, hzc⟩
        case measure => simp [intOf]; omega
    · obtain rfl : k = 6 := by omega
      rcases hown.2 with ⟨hv0, hn0⟩ | ⟨g', c, cur, hv0, _⟩
      · subst hv0
        go_wp2
        go_ret
        exact ⟨none, 0, 0, xs, rfl, ⟨hn0, fun i hi => absurd hi (by omega)⟩, hok, by omega, hG⟩
      · subst hv0
        go_wp2
        go_ret
        exact ⟨_, _, _, xs, rfl, StL.of_own hown rfl, hok, by omega, hG⟩
theorem A2Stars_any (a : Option Addr) (len cap : Nat) (w : World) (hb : LstB w w.heap.size a len) (hlen : len ≤ 1048576) :
    Calls Tryz.prog 6 #[.slice a len cap] w fun e w' => ∃ a' n c xs, e = .returned (.slice a' n c) ∧ StL w' a' n xs ∧ okS xs = true ∧ n ≤ 6 ∧ Below w.heap.size w w' := by
  go_enter Tryz.func6, Tryz.ntmps6
  go_wp2_with fail
  refine (l00From_any a len cap w).mono ?_
  rintro e w0 ⟨rfl, hs0, hB0⟩
  have hb0 := hb.below hB0
  go_wp2_with fail
  refine (l04Draw_any w.heap.size a len cap 0 w0 hs0 hb0 (by omega) hlen).mono ?_
  rintro e w1 ⟨a', n, c, xs, rfl, hL, hok, hn, hg1⟩
  have hB1 : Below w.heap.size w w1 := hB0.trans (grown_below hg1 (Nat.le_refl _) hB0.size)
  have HL := Lib.hid hL
  have HOK := Lib.hid hok
  clear hL hok
  go_wp2
  go_ret
  exact ⟨a', n, c, xs, rfl, HL.out, HOK.out, hn, hB1⟩
set_option maxRecDepth 100000 in
set_option maxHeartbeats 4000000 in
theorem A2Star_any (a : Option Addr) (len cap : Nat) (w : World) (hb : LstB w w.heap.size a len) (hlen : len ≤ 1048576) :
    Calls Tryz.prog 7 #[.slice a len cap] w fun e w' => ∃ nm x1 x2 x3 x4, e = .returned (.agg #[.string nm, .int .i64 x1, .int .i64 x2, .int .i64 x3, .int .i64 x4]) ∧ starB (nm, x1, x2, x3, x4) = true ∧ Below w.heap.size w w' := by
  obtain ⟨W0, hW0⟩ : ∃ W0 : World, W0 = w.alloc (.cells #[.string ⟨#[]⟩, .int .i64 0, .int .i64 0, .int .i64 0, .int .i64 0] 27) := ⟨_, rfl⟩
  have hB0 : Below w.heap.size w W0 := by rw [hW0]; exact (Below.refl _ _).alloc (Nat.le_refl _) _
  have hz0 : W0.heap.size = w.heap.size + 1 := by rw [hW0]; simp
  have hR0 : W0.rowIs w.heap.size 27 5 (fld st0) := by
    rw [hW0]
    exact World.rowIs_alloc _ _ _ _ (fun i hi => by
      match i, hi with
      | 0, _ => rfl
      | 1, _ => rfl
      | 2, _ => rfl
      | 3, _ => rfl
      | 4, _ => rfl)
  have hb0 : LstB W0 (w.heap.size + 1) a len := fun i hi => by
    obtain ⟨b, off, v, e, hlt, hc, h0, h1⟩ := hb i hi
    exact ⟨b, off, v, e, by omega, by rw [hB0.cell (p := ⟨b, off + i, none⟩) hlt]; exact hc, h0, h1⟩
  go_enter Tryz.func7, Tryz.ntmps7
  go_wp2_with fail
  rw [← hW0]
  clear hW0
  refine (l00From_any a len cap W0).mono ?_
  rintro e w1 ⟨rfl, hs1, hB1⟩
  rw [hz0] at hs1 hB1 ⊢
  have hb1 := hb0.below hB1
  have hR1 := hR0.of_block (hB1.block w.heap.size (by omega))
  have hC1 : Below w.heap.size w w1 := hB0.trans (hB1.mono (by omega))
  have hl1 := src_lt hs1
  clear hR0 hB1 hb0 hB0
  go_wp2_with fail
  refine (l04Names_any w1).mono ?_
  rintro e w2 ⟨rfl, hn2, hz2, hg2⟩
  have hs2 := src_kept hs1 (hg2.block _ hl1 (by simp))
  have hb2 : LstB w2 (w.heap.size + 1) a len := fun i hi => by
    obtain ⟨b, off, v, e, hlt, hc, h0, h1⟩ := hb1 i hi
    exact ⟨b, off, v, e, hlt, hg2.cell hc (by simp), h0, h1⟩
  have hR2 := hR1.of_block (hg2.block w.heap.size hR1.lt (by simp))
  have hG2 := grown_far (row := none) (show w.grownBy w1 none from ⟨hC1.os, hC1.tape, hC1.output, hC1.size, fun i hi _ => hC1.block i hi⟩) hg2 (fun j e => by cases e)
  go_wp2_with fail
  refine (text_any (fun s => nameB s = true) w1.heap.size 0 6 6 (w.heap.size + 1) a len cap 0 w2 hs2 hb2 (by omega) hlen (by omega) (by omega) (by omega) (fun i hi => ⟨_, hn2 i hi, nmK_name i hi⟩)).mono ?_
  rintro e w3 ⟨nm, rfl, hnm, hs3, hg3⟩
  have hb3 := hb2.grown hg3
  have hR3 := hR2.of_block (hg3.block w.heap.size hR2.lt (by simp))
  have hG3 := grown_far hG2 hg3 (fun j e => by cases e; omega)
  go_wp2_with fail
  refine (l04New_any nm hnm (w.heap.size + 1) a len cap (0 + 2) w3 hs3 hb3 (by omega) hlen).mono ?_
  rintro e w4 ⟨x1, x2, x3, x4, M', rfl, hst, -, hs4, hg4⟩
  have hR4 := hR3.of_block (hg4.block w.heap.size hR3.lt (by simp))
  have hG4 := grown_far hG3 hg4 (fun j e => by cases e; omega)
  have HST := Lib.hid hst
  have HR := Lib.hid hR4
  have f0 := hR4.frozen 0
  have f1 := hR4.frozen 1
  have f2 := hR4.frozen 2
  have f3 := hR4.frozen 3
  have f4 := hR4.frozen 4
  obtain ⟨r0, r1, r2, r3, r4⟩ := cells5 (show w4.rowIs w.heap.size 27 5 (fld (⟨#[]⟩, 0, 0, 0, 0)) from hR4)
  clear hst hs4 hg4 hR3 hR2 hR1 hR4 hs3 hs2 hs1 hb1 hb2 hb3 hg2 hg3 hn2
  go_wp2
  have hR := (((((HR.out.set 0 (.string nm)).set 1 (.int .i64 x1)).set 2 (.int .i64 x2)).set 3 (.int .i64 x3)).set 4 (.int .i64 x4)).congr (g := fld (nm, x1, x2, x3, x4)) (fun i hi => by match i, hi with | 0, _ => rfl | 1, _ => rfl | 2, _ => rfl | 3, _ => rfl | 4, _ => rfl)
  obtain ⟨q0, q1, q2, q3, q4⟩ := cells5 hR
  have hB4 : Below w.heap.size w w4 := ⟨hG4.os, hG4.tape, hG4.output, hG4.size, fun k hk => hG4.block k hk (by simp)⟩
  exact bodyPost_ret (v := .agg #[.string nm, .int .i64 x1, .int .i64 x2, .int .i64 x3, .int .i64 x4]) (by simp [results, Tryz.results7, go_sem, q0, q1, q2, q3, q4]) rfl ⟨nm, x1, x2, x3, x4, rfl, HST.out, by (repeat (first | assumption | exact Below.refl _ _ | refine belowDN ?_ _ | refine Below.drew ?_ | refine Below.setCell ?_ (by first | omega | (simp <;> omega)) _ | refine Below.alloc ?_ (by first | omega | (simp <;> omega)) _ | refine belowCall ?_ (by assumption)))⟩
end Go.Proofs.YtfnjndbnogeddaaGreatDoor
