/- ByAmplitude, the model's. -/
import Derived.Test.YtiogffjhhhpolabA1
import Derived.Test.YtiogffjhhhpolabM3
import Derived.Test.YtiogffjhhhpolabSB
namespace Go.Proofs.Ytiogffjhhhpolab
open Go.ChangeShapes Go.WideShapes Go.ChangeAt Go.RowKit Go.Deep

theorem ampL_put {xs : List St} {i k : Nat} (hki : k ≤ i) (h1 : k = 0 ∨ ampV xs i ≤ ampV xs ((byL (ampV xs) i)[k - 1]?.getD 0)) (h2 : ∀ j, k ≤ j → j < i → ampV xs ((byL (ampV xs) i)[j]?.getD 0) < ampV xs i) : putAt (ampL xs i) k (i : Int) = ampL xs (i + 1) := by
  have hF := byL_falls (ampV xs) i
  have hl := byL_len (ampV xs) i
  have hb : ∀ j, j < k → j < (byL (ampV xs) i).length → ampV xs i ≤ ampV xs ((byL (ampV xs) i)[j]?.getD 0) := fun j hj hjl => by
    rcases h1 with h1 | h1
    · omega
    · by_cases e : j = k - 1
      · subst e; exact h1
      · have := List.pairwise_iff_getElem.1 hF j (k - 1) hjl (by omega) (by omega)
        rw [List.getElem?_eq_getElem (by omega), Option.getD_some] at h1
        rw [List.getElem?_eq_getElem hjl, Option.getD_some]
        omega
  obtain ⟨e1, e2⟩ := falls_at hF (by omega) hb (fun j h1 h3 => h2 j h1 (by omega))
  simp only [ampL, byL, putAt, List.map_append, List.map_cons, List.map_take, List.map_drop, e1, e2]
theorem ampL_at {xs : List St} {i j : Nat} (hj : j < i) : (ampL xs i)[j]?.getD 0 = ((byL (ampV xs) i)[j]?.getD 0 : Nat) ∧ (byL (ampV xs) i)[j]?.getD 0 < i := by
  have hl := byL_len (ampV xs) i
  have hm : (byL (ampV xs) i)[j]?.getD 0 ∈ byL (ampV xs) i := by simp [show j < (byL (ampV xs) i).length by omega]
  refine ⟨?_, (byL_mem _ _ _).1 hm⟩
  simp only [ampL, List.getElem?_map]
  rw [List.getElem?_eq_getElem (by omega)]
  rfl
theorem star_rg {nm : ByteArray} {a d u v : Int} (h : starB (nm, a, d, u, v) = true) : -2000 ≤ u ∧ u ≤ 20000 ∧ -2000 ≤ v ∧ v ≤ 20000 ∧ u ≤ v := by
  simp only [starB, Bool.and_eq_true, decide_eq_true_eq] at h
  have h1 := magB_iff.1 h.1.1.2
  have h2 := magB_iff.1 h.1.2
  exact ⟨h1.1, h1.2, h2.1, h2.2, h.2⟩
set_option maxHeartbeats 4000000 in
set_option maxRecDepth 100000 in
theorem sByAmp_any (a : Option Addr) (n c : Nat) (xs : List St) (w : World) (h : StL w a n xs) (hn : n ≤ 1048576) :
    Calls Try.prog 43 #[.slice a n c] w fun e w' => Chosen w.heap.size (okS xs) 1 (ampL xs n) w' e ∧ Below w.heap.size w w' := by
  obtain ⟨i0, hi, hz0, hz1, hz2⟩ := info_parts A_info
  have hl : (n : Int) ≤ 1048576 := by omega
  have HL := Lib.hid h.1
  cases hok : okS xs
  · go_enter Try.func43, Try.ntmps43
    go_wp2_with fail
    refine (l04Ok_any a n c xs w h hn).mono ?_
    rintro e w2 ⟨rfl, q, rfl⟩
    rw [hok]
    go_wp2
    go_ret2
    exact ⟨.inr ⟨rfl, rfl⟩, belowDN (Below.refl _ _) _⟩
  have HST : Hid (∀ k, k < n → starB (xs[k]?.getD st0) = true) := Lib.hid (fun k hk => by
    have := (okS_parts HL.out hok).2 k hk
    simp only [okAt, Bool.and_eq_true] at this
    exact this.1)
  go_enter Try.func43, Try.ntmps43
  go_wp2_with fail
  refine (l04Ok_any a n c xs w h hn).mono ?_
  rintro e w1 ⟨rfl, q, rfl⟩
  rw [hok]
  go_wp2
  go_loopw [4, 5] (fun o i wr => ∃ (k g' c' : Nat), k ≤ n ∧ i = .int .i64 k ∧ o = .slice (some ⟨g', 0, none⟩) k c' ∧ wr.ownsRow w.heap.size 2 1 o k ((ampL xs k).map (Value.int .i64)) ∧ Below w.heap.size w wr) (fun _ i _ => n - (intOf i).toNat)
  case atStart => exact ⟨0, w.heap.size, 0, by omega, rfl, rfl, by exact World.ownsRow_lit (w.drewN q) #[] 0 (Nat.le_refl _) (by unfold maxLen; omega) rfl, by (repeat (first | assumption | exact Below.refl _ _ | refine belowDN ?_ _ | refine Below.drew ?_ | refine Below.setCell ?_ (by first | omega | (simp <;> omega)) _ | refine Below.alloc ?_ (by first | omega | (simp <;> omega)) _ | refine belowCall ?_ (by assumption)))⟩
  case round =>
    obtain ⟨i, g', c', hin, rfl, rfl, hown, hB⟩ := hrel
    by_cases hlt : i < n
    · obtain ⟨⟨nm, x1, x2, x3, x4⟩, hx⟩ : ∃ x, xs[i]?.getD st0 = x := ⟨_, rfl⟩
      obtain ⟨b, off, rfl, hc⟩ := h.2 i hlt
      rw [hx] at hc
      have hsi := HST.out i hlt
      rw [hx] at hsi
      obtain ⟨ra, rb, rc, rd, -⟩ := star_rg hsi
      have HX := Lib.hid hx
      clear hx hsi
      obtain ⟨p, p0, p1, p2, p3, p4⟩ := (hc.mono hB).parts
      clear p0 p1 p2
      have hii : (i : Int) < (n : Int) := by omega
      obtain ⟨ys, hzs⟩ : ∃ ys, ampL xs i = ys := ⟨_, rfl⟩
      have hyl : ys.length = i := by rw [← hzs, ampL_len]
      rw [hzs] at hown
      have HZS := Lib.hid hzs
      clear hzs
      have hys : ∀ j, j < i → wr.cell? ⟨g', j, none⟩ = some (.int .i64 (ys[j]?.getD 0)) := fun j hj => by
        rw [hown.cellAt j (by omega)]; simp [hyl, hj]
      have hLy := Lst.of_own hown
      have hic' : i ≤ c' := by
        rcases hown.2 with ⟨h0, _⟩ | ⟨g0, cap0, cur, hv, _, _, h5, _⟩
        · cases h0
        · cases hv; exact h5
      have HOWN := Lib.hid hown
      clear hown
      go_wp2
      go_loopw [6] (fun kk wi => ∃ (k q : Nat), k ≤ i ∧ kk = .int .i64 k ∧ (∀ j, k ≤ j → j < i → ampV xs ((byL (ampV xs) i)[j]?.getD 0) < ampV xs i) ∧ wi = wr.drewN q) (fun kk _ => (intOf kk).toNat)
      case atStart => exact ⟨i, 0, Nat.le_refl _, rfl, fun j h1 h2 => by omega, rfl⟩
      case round =>
        obtain ⟨k, q', hki, rfl, hall, rfl⟩ := hrel
        have HALL := Lib.hid hall
        clear hall
        have hLk : Lst wr (some ⟨g', 0, none⟩) k (ys.take k) := ⟨by rw [List.length_take]; omega, fun j hj => by
          obtain ⟨b', o', e', h1, h2⟩ := hLy.2 j (by omega)
          exact ⟨b', o', e', h1, by rw [h2]; simp [hj]⟩⟩
        have hki' : (k : Int) ≤ (i : Int) := by omega
        have hkc : (k : Int) ≤ (c' : Int) := by omega
        have hk00 : (0 : Int) ≤ (k : Int) := by omega
        by_cases hk0 : 0 < k
        · obtain ⟨k', hk'⟩ : ∃ k', k = k' + 1 := ⟨k - 1, by omega⟩
          obtain ⟨y, hy⟩ : ∃ y, (byL (ampV xs) i)[k']?.getD 0 = y := ⟨_, rfl⟩
          obtain ⟨hy1, hy2⟩ := ampL_at (xs := xs) (i := i) (j := k') (by omega)
          rw [hy] at hy1 hy2
          rw [HZS.out] at hy1
          have hcy : wr.cell? ⟨g', k', none⟩ = some (.int .i64 (y : Nat)) := by rw [← hy1]; exact hys k' (by omega)
          obtain ⟨⟨nm', y1, y2, y3, y4⟩, hx'⟩ : ∃ x, xs[y]?.getD st0 = x := ⟨_, rfl⟩
          obtain ⟨b2, off2, he, hc2⟩ := h.2 y (by omega)
          cases he
          rw [hx'] at hc2
          have hsy := HST.out y (by omega)
          rw [hx'] at hsy
          obtain ⟨ra', rb', rc', rd', -⟩ := star_rg hsy
          have HX' := Lib.hid hx'
          clear hx' hsy hy1
          obtain ⟨p', p0', p1', p2', p3', p4'⟩ := (hc2.mono hB).parts
          clear p0' p1' p2'
          have HY := Lib.hid hy
          clear hy
          have HK := Lib.hid hk'
          have s1 : (k : Int) - 1 = (k' : Int) := by omega
          have s3 : (k' : Int) < (i : Int) := by omega
          have s4 : (y : Int) < (n : Int) := by omega
          have HA : Hid (ampV xs i = x4 - x3) := Lib.hid (by rw [ampV, HX.out])
          have HA' : Hid (ampV xs y = y4 - y3) := Lib.hid (by rw [ampV, HX'.out])
          clear hk'
          by_cases hxy : y4 - y3 < x4 - x3
          · go_wp2
            go_big_quiet (fail)
            go_wp2
            go_roundw
            case rel =>
              have hk' := HK.out
              refine ⟨k', _, by omega, by go_num, fun j h1 h2 => ?_, rfl⟩
              by_cases hjk : j = k'
              · subst hjk; rw [HY.out, HA.out, HA'.out]; omega
              · exact HALL.out j (by omega) h2
            case measure => simp [intOf]; omega
          · have HPUT : Hid (putAt ys k (i : Int) = ampL xs (i + 1)) := Lib.hid (by rw [← HZS.out]; exact ampL_put hki (.inr (by rw [HK.out, Nat.add_sub_cancel, HY.out, HA.out, HA'.out]; omega)) HALL.out)
            go_wp2
            go_big_quiet (fail)
            (go_wp2_with fail; refine (l00Own_any g' k c' (ys.take k) _ (hLk.mono (by (repeat (first | assumption | exact Below.refl _ _ | refine belowDN ?_ _ | refine Below.drew ?_ | refine Below.setCell ?_ (by first | omega | (simp <;> omega)) _ | refine Below.alloc ?_ (by first | omega | (simp <;> omega)) _ | refine belowCall ?_ (by assumption))))) (by omega)).mono ?_; rintro e w2 ⟨g2, c2, rfl, hown2', b2⟩; have hown2 := own_low (B' := w.heap.size) hown2' hB.size; have hg2l := (hown2'.lt g2 rfl).1; have hzw2 : wr.heap.size ≤ w2.heap.size := b2.size; have hzw : w.heap.size ≤ wr.heap.size := hB.size; have hB2 : Below wr.heap.size wr (w2.alloc (.cells #[.int .i64 i] 2)) := (by (repeat (first | assumption | exact Below.refl _ _ | refine belowDN ?_ _ | refine Below.drew ?_ | refine Below.setCell ?_ (by first | omega | (simp <;> omega)) _ | refine Below.alloc ?_ (by first | omega | (simp <;> omega)) _ | refine belowCall ?_ (by assumption)))); clear hown2'; go_wp2_with (first | (at_builtin; refine wpList_append_own _ rfl _ _ 43 rfl w.heap.size 2 i0 (.int .i64 0) 1 8 Try.underlying43 hi hz0 hz1 hz2 rfl (by decide) _ _ _ rfl (hown2.alloc _) ⟨w2.heap.size, 0, none⟩ 1 1 [.int .i64 i] rfl rfl (cell_one_new _ _ _) (by intro u hu; simp at hu; subst hu; rfl) (by unfold maxLen; omega) (by omega) (by simp; omega) ?_)); intro v3 w3 hown3 hg3 hnil3; have hb3 : Below wr.heap.size wr w3 := hB2.grown hg3 (by simp; omega) (fun kk hk => by simp [Value.ownBlock] at hk; subst hk; exact hg2l); rcases hown3.2 with ⟨h0, _⟩ | ⟨g3, c3, cur3, hv3, _⟩; (exact absurd h0 hnil3); subst hv3; clear hnil3 hg3 hown2; (have e3 : k + 1 + (i - k) ≤ maxLen := (by unfold maxLen; omega); have e4 : (k + 1 + (i - k)) * 8 ≤ 140737488355328 := (by omega); have e5 : w.heap.size ≤ w3.heap.size := (by have := hB.size; have := hb3.size; omega); have ecl : ((ys.drop k).map (Value.int .i64)).length = (i - k) * 1 := (by simp [hyl]); have ec1 := tail_cells (k := k) hyl hys (HOWN.out.lt g' rfl).2 hb3; have HO3 := Lib.hid hown3; clear hown3); by_cases hkc2 : c' = k; all_goals (go_wp2_with (first | (at_builtin; refine wpList_append_own _ rfl _ _ 43 rfl w.heap.size 2 i0 (.int .i64 0) 1 8 Try.underlying43 hi hz0 hz1 hz2 rfl (by decide) _ _ _ rfl HO3.out ⟨g', k, none⟩ (i - k) _ ((ys.drop k).map (Value.int .i64)) rfl ecl ec1 (fun u hu => by obtain ⟨b, _, rfl⟩ := List.mem_map.1 hu; rfl) e3 e4 e5 ?_) | (at_builtin; refine wpList_append_own _ rfl _ _ 43 rfl w.heap.size 2 i0 (.int .i64 0) 1 8 Try.underlying43 hi hz0 hz1 hz2 rfl (by decide) _ _ _ rfl HO3.out ⟨g', 0, none⟩ (i - k) _ ((ys.drop k).map (Value.int .i64)) rfl ecl (fun j u hj => by rw [List.drop_eq_nil_of_le (show ys.length ≤ k by omega)] at hj; simp at hj) (fun u hu => by obtain ⟨b, _, rfl⟩ := List.mem_map.1 hu; rfl) e3 e4 e5 ?_) | (at_builtin; refine wpList_append_own _ rfl _ _ 43 rfl w.heap.size 2 i0 (.int .i64 0) 1 8 Try.underlying43 hi hz0 hz1 hz2 rfl (by decide) _ _ _ rfl HO3.out ⟨g', 0, none⟩ (i - k) _ ((ys.drop k).map (Value.int .i64)) rfl ecl (fun j u hj => by have h0 : k = 0 := (by omega); have h9 := ec1 j u hj; rw [h0] at h9; exact h9) (fun u hu => by obtain ⟨b, _, rfl⟩ := List.mem_map.1 hu; rfl) e3 e4 e5 ?_))); all_goals (intro v' w4 hown4 hg4 hnil; have hB4 : Below w.heap.size w w4 := (belowCall hB hb3).grown hg4 e5 (fun kk hk => by simp [Value.ownBlock] at hk; subst hk; exact (HO3.out.lt g3 rfl).1); obtain ⟨g5, c5, rfl, hown5⟩ := own_put hyl hki (by simpa using hown4) hnil; clear hown4 hnil hg4; rw [HPUT.out] at hown5; have HOWN5 := Lib.hid hown5; clear hown5; go_wp2; go_roundw; (case rel => exact ⟨i + 1, g5, c5, by omega, by go_num, by rw [show k + 1 + (i - k) = i + 1 from by omega], (by rw [show k + 1 + (i - k) = i + 1 from by omega]; exact HOWN5.out), hB4⟩); (case measure => simp [intOf]; omega)))
        · have HPUT : Hid (putAt ys k (i : Int) = ampL xs (i + 1)) := Lib.hid (by rw [← HZS.out]; exact ampL_put hki (.inl (by omega)) HALL.out)
          go_wp2
          go_big_quiet (fail)
          (go_wp2_with fail; refine (l00Own_any g' k c' (ys.take k) _ (hLk.mono (by (repeat (first | assumption | exact Below.refl _ _ | refine belowDN ?_ _ | refine Below.drew ?_ | refine Below.setCell ?_ (by first | omega | (simp <;> omega)) _ | refine Below.alloc ?_ (by first | omega | (simp <;> omega)) _ | refine belowCall ?_ (by assumption))))) (by omega)).mono ?_; rintro e w2 ⟨g2, c2, rfl, hown2', b2⟩; have hown2 := own_low (B' := w.heap.size) hown2' hB.size; have hg2l := (hown2'.lt g2 rfl).1; have hzw2 : wr.heap.size ≤ w2.heap.size := b2.size; have hzw : w.heap.size ≤ wr.heap.size := hB.size; have hB2 : Below wr.heap.size wr (w2.alloc (.cells #[.int .i64 i] 2)) := (by (repeat (first | assumption | exact Below.refl _ _ | refine belowDN ?_ _ | refine Below.drew ?_ | refine Below.setCell ?_ (by first | omega | (simp <;> omega)) _ | refine Below.alloc ?_ (by first | omega | (simp <;> omega)) _ | refine belowCall ?_ (by assumption)))); clear hown2'; go_wp2_with (first | (at_builtin; refine wpList_append_own _ rfl _ _ 43 rfl w.heap.size 2 i0 (.int .i64 0) 1 8 Try.underlying43 hi hz0 hz1 hz2 rfl (by decide) _ _ _ rfl (hown2.alloc _) ⟨w2.heap.size, 0, none⟩ 1 1 [.int .i64 i] rfl rfl (cell_one_new _ _ _) (by intro u hu; simp at hu; subst hu; rfl) (by unfold maxLen; omega) (by omega) (by simp; omega) ?_)); intro v3 w3 hown3 hg3 hnil3; have hb3 : Below wr.heap.size wr w3 := hB2.grown hg3 (by simp; omega) (fun kk hk => by simp [Value.ownBlock] at hk; subst hk; exact hg2l); rcases hown3.2 with ⟨h0, _⟩ | ⟨g3, c3, cur3, hv3, _⟩; (exact absurd h0 hnil3); subst hv3; clear hnil3 hg3 hown2; (have e3 : k + 1 + (i - k) ≤ maxLen := (by unfold maxLen; omega); have e4 : (k + 1 + (i - k)) * 8 ≤ 140737488355328 := (by omega); have e5 : w.heap.size ≤ w3.heap.size := (by have := hB.size; have := hb3.size; omega); have ecl : ((ys.drop k).map (Value.int .i64)).length = (i - k) * 1 := (by simp [hyl]); have ec1 := tail_cells (k := k) hyl hys (HOWN.out.lt g' rfl).2 hb3; have HO3 := Lib.hid hown3; clear hown3); by_cases hkc2 : c' = k; all_goals (go_wp2_with (first | (at_builtin; refine wpList_append_own _ rfl _ _ 43 rfl w.heap.size 2 i0 (.int .i64 0) 1 8 Try.underlying43 hi hz0 hz1 hz2 rfl (by decide) _ _ _ rfl HO3.out ⟨g', k, none⟩ (i - k) _ ((ys.drop k).map (Value.int .i64)) rfl ecl ec1 (fun u hu => by obtain ⟨b, _, rfl⟩ := List.mem_map.1 hu; rfl) e3 e4 e5 ?_) | (at_builtin; refine wpList_append_own _ rfl _ _ 43 rfl w.heap.size 2 i0 (.int .i64 0) 1 8 Try.underlying43 hi hz0 hz1 hz2 rfl (by decide) _ _ _ rfl HO3.out ⟨g', 0, none⟩ (i - k) _ ((ys.drop k).map (Value.int .i64)) rfl ecl (fun j u hj => by rw [List.drop_eq_nil_of_le (show ys.length ≤ k by omega)] at hj; simp at hj) (fun u hu => by obtain ⟨b, _, rfl⟩ := List.mem_map.1 hu; rfl) e3 e4 e5 ?_) | (at_builtin; refine wpList_append_own _ rfl _ _ 43 rfl w.heap.size 2 i0 (.int .i64 0) 1 8 Try.underlying43 hi hz0 hz1 hz2 rfl (by decide) _ _ _ rfl HO3.out ⟨g', 0, none⟩ (i - k) _ ((ys.drop k).map (Value.int .i64)) rfl ecl (fun j u hj => by have h0 : k = 0 := (by omega); have h9 := ec1 j u hj; rw [h0] at h9; exact h9) (fun u hu => by obtain ⟨b, _, rfl⟩ := List.mem_map.1 hu; rfl) e3 e4 e5 ?_))); all_goals (intro v' w4 hown4 hg4 hnil; have hB4 : Below w.heap.size w w4 := (belowCall hB hb3).grown hg4 e5 (fun kk hk => by simp [Value.ownBlock] at hk; subst hk; exact (HO3.out.lt g3 rfl).1); obtain ⟨g5, c5, rfl, hown5⟩ := own_put hyl hki (by simpa using hown4) hnil; clear hown4 hnil hg4; rw [HPUT.out] at hown5; have HOWN5 := Lib.hid hown5; clear hown5; go_wp2; go_roundw; (case rel => exact ⟨i + 1, g5, c5, by omega, by go_num, by rw [show k + 1 + (i - k) = i + 1 from by omega], (by rw [show k + 1 + (i - k) = i + 1 from by omega]; exact HOWN5.out), hB4⟩); (case measure => simp [intOf]; omega)))
    · obtain rfl : i = n := by omega
      go_wp2
      go_ret2
      exact ⟨.inl ⟨rfl, g', c', by rw [ampL_len]; rfl, by rw [ampL_len]; exact hown⟩, hB⟩
end Go.Proofs.Ytiogffjhhhpolab
