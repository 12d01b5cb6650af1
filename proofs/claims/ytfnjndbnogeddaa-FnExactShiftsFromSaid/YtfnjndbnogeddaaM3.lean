/- The model's sorting (l02Sort). -/
import Derived.Test.YtfnjndbnogeddaaM2
import Derived.Deep.RegionLaw
import Derived.Deep.RegionHeld3
import Derived.Deep.AppendLies
namespace Go.Proofs.Ytfnjndbnogeddaa
open Go.ChangeShapes Go.WideShapes Go.ChangeAt Go.RowKit
theorem cellNew {W : World} {b : Nat} {v : Value} {t : TypeId} (h : b = W.heap.size) : (W.alloc (.cells #[v] t)).cell? ⟨b, 0 + 0, none⟩ = some v := by
  subst h
  rw [World.cell?_alloc_new]; rfl
theorem own_low {w : World} {B B' e size n : Nat} {v : Value} {xs : List Value} (h : w.ownsRow B e size v n xs) (hb : B' ≤ B) : w.ownsRow B' e size v n xs := by
  refine ⟨h.1, ?_⟩
  rcases h.2 with h0 | ⟨g, cap, cur, hv, hg, rest⟩
  · exact .inl h0
  · exact .inr ⟨g, cap, cur, hv, Nat.le_trans hb hg, rest⟩
theorem tail_cells {wr w3 : World} {g' k i : Nat} {ys : List Int} (hyl : ys.length = i) (hys : ∀ j, j < i → wr.cell? ⟨g', j, none⟩ = some (.int .i64 (ys[j]?.getD 0))) (hg : g' < wr.heap.size) (hb : Below wr.heap.size wr w3) :
    ∀ (j : Nat) (u : Value), ((ys.drop k).map (Value.int .i64))[j]? = some u → w3.cell? ((⟨g', k, none⟩ : Addr).add j) = some u := fun j u hj => by
  have hlt := (List.getElem?_eq_some_iff.1 hj).1
  rw [List.length_map, List.length_drop] at hlt
  rw [Go.WideShapes.add_plain, hb.cell (p := ⟨g', k + j, none⟩) hg, hys (k + j) (by omega), ← hj, List.getElem?_map, List.getElem?_drop, List.getElem?_eq_getElem (by omega)]
  rfl
theorem own_put {w4 : World} {B : Nat} {T : TypeId} {v' : Value} {k i : Nat} {x : Int} {ys : List Int} (_hyl : ys.length = i) (hki : k ≤ i) (h : w4.ownsRow B T 1 v' (k + 1 + (i - k)) (List.take k (List.map (Value.int .i64) ys) ++ Value.int .i64 x :: List.drop k (List.map (Value.int .i64) ys))) (hn : ¬ v' = .slice none 0 0) :
    ∃ g c, v' = .slice (some ⟨g, 0, none⟩) (k + 1 + (i - k)) c ∧ w4.ownsRow B T 1 (.slice (some ⟨g, 0, none⟩) (i + 1) c) (i + 1) ((putAt ys k x).map (Value.int .i64)) := by
  have e : (putAt ys k x).map (Value.int .i64) = List.take k (List.map (Value.int .i64) ys) ++ Value.int .i64 x :: List.drop k (List.map (Value.int .i64) ys) := by simp [putAt, List.map_take, List.map_drop]
  have hlen : k + 1 + (i - k) = i + 1 := by omega
  rcases h.2 with ⟨hv, _⟩ | ⟨g, c, cur, hv, _⟩
  · exact absurd hv hn
  · subst hv
    rw [hlen] at h
    exact ⟨g, c, rfl, by rw [e]; exact h⟩
set_option maxHeartbeats 4000000 in
set_option maxRecDepth 100000 in
theorem l02Sort_any (a : Option Addr) (n c : Nat) (xs : List Int) (w : World) (h : Lst w a n xs) (hn : n ≤ 1048576) :
    Calls Try.prog 79 #[.slice a n c] w fun e w' => ∃ g' c' ys, e = .returned (.slice (some ⟨g', 0, none⟩) n c') ∧ Rising ys ∧ ys.Perm xs ∧ w'.ownsRow w.heap.size 2 1 (.slice (some ⟨g', 0, none⟩) n c') n (ys.map (Value.int .i64)) ∧ Below w.heap.size w w' := by
  obtain ⟨i0, hi, hz0, hz1, hz2⟩ := info_parts A_info
  have hl := h.1
  go_enter Try.func79, Try.ntmps79
  go_wp2
  go_loopw [3, 4] (fun o i wr => ∃ (k g' c' : Nat) (ys : List Int), k ≤ n ∧ i = .int .i64 k ∧ ys.length = k ∧ o = .slice (some ⟨g', 0, none⟩) k c' ∧ Rising ys ∧ ys.Perm (xs.take k) ∧ wr.ownsRow w.heap.size 2 1 o k (ys.map (Value.int .i64)) ∧ Below w.heap.size w wr) (fun _ i _ => n - (intOf i).toNat)
  case atStart => exact ⟨0, w.heap.size, 0, [], by omega, rfl, rfl, rfl, List.Pairwise.nil, by simp, by exact World.ownsRow_lit w #[] 0 (Nat.le_refl _) (by unfold maxLen; omega) rfl, (Below.refl _ _).alloc (Nat.le_refl _) _⟩
  case round =>
    obtain ⟨i, g', c', ys, hin, rfl, hyl, rfl, hR, hP, hown, hB⟩ := hrel
    have HR := Lib.hid hR
    have HP := Lib.hid hP
    clear hR hP
    by_cases hlt : i < n
    · obtain ⟨x, hx⟩ : ∃ x, xs[i]?.getD 0 = x := ⟨_, rfl⟩
      obtain ⟨b, off, rfl, hbs, hc⟩ := h.2 i hlt
      rw [hx] at hc
      have HX := Lib.hid hx
      clear hx
      have hii : (i : Int) < (n : Int) := by omega
      have hcr : wr.cell? ⟨b, off + i, none⟩ = some (.int .i64 x) := by rw [hB.cell (p := ⟨b, off + i, none⟩) hbs]; exact hc
      have hys : ∀ j, j < i → wr.cell? ⟨g', j, none⟩ = some (.int .i64 (ys[j]?.getD 0)) := fun j hj => by
        rw [hown.cellAt j (by omega)]; simp [hyl, hj]
      have hLy := Lst.of_own hown
      have HOWN := Lib.hid hown
      clear hown
      go_wp2
      go_loopw [5] (fun kk wi => ∃ (k q : Nat), k ≤ i ∧ kk = .int .i64 k ∧ (∀ j, k ≤ j → j < i → x ≤ ys[j]?.getD 0) ∧ wi = wr.drewN q) (fun kk _ => (intOf kk).toNat)
      case atStart => exact ⟨i, 0, Nat.le_refl _, rfl, fun j h1 h2 => by omega, rfl⟩
      case round =>
        obtain ⟨k, q, hki, rfl, hall, rfl⟩ := hrel
        have HALL := Lib.hid hall
        clear hall
        have hLk : Lst wr (some ⟨g', 0, none⟩) k (ys.take k) := ⟨by rw [List.length_take]; omega, fun j hj => by
          obtain ⟨b', o', e', h1, h2⟩ := hLy.2 j (by omega)
          exact ⟨b', o', e', h1, by rw [h2]; simp [hj]⟩⟩
        have hki' : (k : Int) ≤ (i : Int) := by omega
        have hic' : i ≤ c' := by
          rcases HOWN.out.2 with ⟨h0, _⟩ | ⟨g0, cap0, cur, hv, _, _, h5, _⟩
          · cases h0
          · cases hv; exact h5
        have hkc : (k : Int) ≤ (c' : Int) := by omega
        have hk00 : (0 : Int) ≤ (k : Int) := by omega
        by_cases hk0 : 0 < k
        · obtain ⟨k', hk'⟩ : ∃ k', k = k' + 1 := ⟨k - 1, by omega⟩
          obtain ⟨y, hy⟩ : ∃ y, ys[k']?.getD 0 = y := ⟨_, rfl⟩
          have hcy : wr.cell? ⟨g', k', none⟩ = some (.int .i64 y) := by rw [← hy]; exact hys k' (by omega)
          have HY := Lib.hid hy
          clear hy
          have HK := Lib.hid hk'
          have s1 : (k : Int) - 1 = (k' : Int) := by omega
          have s3 : (k' : Int) < (i : Int) := by omega
          clear hk'
          by_cases hxy : x < y
          · go_wp2
            go_quiet (fail)
            go_wp2
            go_roundw
            case rel =>
              have hk' := HK.out
              refine ⟨k', _, by omega, by go_num, fun j h1 h2 => ?_, rfl⟩
              by_cases hjk : j = k'
              · subst hjk; rw [HY.out]; omega
              · exact HALL.out j (by omega) h2
            case measure => simp [intOf]; omega
          · have HF := Lib.hid (show (k = 0 ∨ (k ≤ ys.length ∧ ys[k - 1]?.getD 0 ≤ x)) from .inr ⟨by omega, by rw [HK.out, Nat.add_sub_cancel, HY.out]; omega⟩)
            go_wp2
            go_quiet (fail)
            go_wp2
            (have hbr : b < wr.heap.size := Nat.lt_of_lt_of_le hbs hB.size); go_region_held3 (fun W' => Below wr.heap.size wr W' ∧ W'.cell? ⟨b, off + i, none⟩ = some (.int .i64 x)) (refine ⟨?_, ?_⟩ <;> first | assumption | exact Below.drew (belowDN (Below.refl _ _) _) | ((repeat (first | assumption | exact Below.refl _ _ | refine belowDN ?_ _ | refine Below.drew ?_ | refine Below.setCell ?_ (by first | omega | (simp <;> omega)) _ | refine Below.alloc ?_ (by first | omega | (simp <;> omega)) _ | refine belowCall ?_ (by assumption))); done) | (rw [b2.cell (p := ⟨b, off + i, none⟩) (by first | exact hbr | (simp; omega))]; go_keep) | go_keep) (first | (go_at_call 94; refine (l00Own_any g' k c' (ys.take k) _ (hLk.mono (by (repeat (first | assumption | exact Below.refl _ _ | refine belowDN ?_ _ | refine Below.drew ?_ | refine Below.setCell ?_ (by first | omega | (simp <;> omega)) _ | refine Below.alloc ?_ (by first | omega | (simp <;> omega)) _ | refine belowCall ?_ (by assumption))))) (by omega)).mono ?_; rintro e w2 ⟨g2, c2, rfl, hown2, b2⟩; have hzz := b2.size; (try simp at hzz); have hcr2 : w2.cell? ⟨b, off + i, none⟩ = some (.int .i64 x) := (by rw [b2.cell (p := ⟨b, off + i, none⟩) (by first | exact hbr | (simp; omega))]; go_keep)) | (refine Go.step_append_lies _ rfl (.tmp 35) (.tmp 40) 38 rfl w.heap.size 2 i0 (.int .i64 0) 1 8 Try.underlying38 hi hz0 hz1 hz2 rfl (by decide) (.slice (some ⟨g2, 0, none⟩) k c2) k ((ys.take k).map (Value.int .i64)) (by simp [Act.eval]) (by exact (own_low hown2 (by exact hB.size)).alloc _) ⟨w2.heap.size, 0, none⟩ 1 1 [.int .i64 x] (by simp [Act.eval]) rfl (by intro j u hj; match j, hj with | 0, hj => (simp at hj; subst hj; simp [Go.WideShapes.add_plain]) | (j + 1), hj => simp at hj) (by intro u hu; simp at hu; subst hu; rfl) (by decide) (by unfold maxLen; omega) (by omega) (by have := hB.size; first | (simp; omega) | omega) _ rfl ?_; intro g3 c3 w3 hown3 hg3 hgg hlt3; have hb3 : Below wr.heap.size wr w3 := (show Below wr.heap.size wr (w2.alloc (.cells #[.int .i64 x] 2)) by (repeat (first | assumption | exact Below.refl _ _ | refine belowDN ?_ _ | refine Below.drew ?_ | refine Below.setCell ?_ (by first | omega | (simp <;> omega)) _ | refine Below.alloc ?_ (by first | omega | (simp <;> omega)) _ | refine belowCall ?_ (by assumption)))).grown hg3 (by first | (simp; omega) | omega) (fun kk hk => by simp [Value.ownBlock] at hk; subst hk; have := (hown2.lt g2 rfl).1; first | exact this | (simp at this; omega)); have hcr3 : w3.cell? ⟨b, off + i, none⟩ = some (.int .i64 x) := (by rw [hb3.cell (p := ⟨b, off + i, none⟩) hbr]; exact hcr)) | (refine Go.step_append_lies _ rfl (.tmp 35) (.tmp 40) 38 rfl w.heap.size 2 i0 (.int .i64 0) 1 8 Try.underlying38 hi hz0 hz1 hz2 rfl (by decide) (.slice (some ⟨g2, 0, none⟩) k c2) k ((ys.take k).map (Value.int .i64)) (by simp [Act.eval]) (by exact own_low hown2 (by have := hB.size; simp; omega)) ⟨wr.heap.size, 0, none⟩ 1 1 [.int .i64 x] (by simp [Act.eval]) rfl (by intro j u hj; match j, hj with | 0, hj => (simp at hj; subst hj; rw [Go.WideShapes.add_plain, b2.cell (by first | (simp; done) | (simp; omega))]; exact cellNew (by simp)) | (j + 1), hj => simp at hj) (by intro u hu; simp at hu; subst hu; rfl) (by decide) (by unfold maxLen; omega) (by omega) (by have := hB.size; first | (simp; omega) | omega) _ rfl ?_; intro g3 c3 w3 hown3 hg3 hgg hlt3; have hb3 : Below wr.heap.size wr w3 := (show Below wr.heap.size wr w2 by (repeat (first | assumption | exact Below.refl _ _ | refine belowDN ?_ _ | refine Below.drew ?_ | refine Below.setCell ?_ (by first | omega | (simp <;> omega)) _ | refine Below.alloc ?_ (by first | omega | (simp <;> omega)) _ | refine belowCall ?_ (by assumption)))).grown hg3 (by first | (simp; omega) | omega) (fun kk hk => by simp [Value.ownBlock] at hk; subst hk; have := (hown2.lt g2 rfl).1; first | exact this | (simp at this; omega)); have hcr3 : w3.cell? ⟨b, off + i, none⟩ = some (.int .i64 x) := (by rw [hb3.cell (p := ⟨b, off + i, none⟩) hbr]; exact hcr))); all_goals (have e3 : k + 1 + (i - k) ≤ maxLen := (by unfold maxLen; omega); have e4 : (k + 1 + (i - k)) * 8 ≤ 140737488355328 := (by omega); have e5 : w.heap.size ≤ w3.heap.size := (by have := hB.size; have := hb3.size; omega); have ecl : ((ys.drop k).map (Value.int .i64)).length = (i - k) * 1 := (by simp [hyl]); have ec1 := tail_cells (k := k) hyl hys (HOWN.out.lt g' rfl).2 hb3; have HO3 := Lib.hid hown3; clear hown3); all_goals (by_cases hkc2 : c' = k); all_goals (go_wp2_with (first | (at_builtin; refine wpList_append_own _ rfl _ _ 38 rfl w.heap.size 2 i0 (.int .i64 0) 1 8 Try.underlying38 hi hz0 hz1 hz2 rfl (by decide) _ _ _ rfl HO3.out ⟨g', k, none⟩ (i - k) _ ((ys.drop k).map (Value.int .i64)) rfl ecl ec1 (fun u hu => by obtain ⟨b, _, rfl⟩ := List.mem_map.1 hu; rfl) e3 e4 e5 ?_) | (at_builtin; refine wpList_append_own _ rfl _ _ 38 rfl w.heap.size 2 i0 (.int .i64 0) 1 8 Try.underlying38 hi hz0 hz1 hz2 rfl (by decide) _ _ _ rfl HO3.out ⟨g', 0, none⟩ (i - k) _ ((ys.drop k).map (Value.int .i64)) rfl ecl (fun j u hj => by rw [List.drop_eq_nil_of_le (show ys.length ≤ k by omega)] at hj; simp at hj) (fun u hu => by obtain ⟨b, _, rfl⟩ := List.mem_map.1 hu; rfl) e3 e4 e5 ?_) | (at_builtin; refine wpList_append_own _ rfl _ _ 38 rfl w.heap.size 2 i0 (.int .i64 0) 1 8 Try.underlying38 hi hz0 hz1 hz2 rfl (by decide) _ _ _ rfl HO3.out ⟨g', 0, none⟩ (i - k) _ ((ys.drop k).map (Value.int .i64)) rfl ecl (fun j u hj => by have h0 : k = 0 := (by omega); have h9 := ec1 j u hj; rw [h0] at h9; exact h9) (fun u hu => by obtain ⟨b, _, rfl⟩ := List.mem_map.1 hu; rfl) e3 e4 e5 ?_))); all_goals (intro v' w4 hown4 hg4 hnil; have hB4 : Below w.heap.size w w4 := (belowCall hB hb3).grown hg4 e5 (fun kk hk => by simp [Value.ownBlock] at hk; subst hk; exact (HO3.out.lt g3 rfl).1); obtain ⟨g5, c5, rfl, hown5⟩ := own_put hyl hki hown4 hnil; clear hown4 hnil hg4; have HOWN5 := Lib.hid hown5; clear hown5; go_wp2; go_roundw; (case rel => exact ⟨i + 1, g5, c5, putAt ys k x, by omega, by go_num, by rw [putAt_len, hyl], by rw [show k + 1 + (i - k) = i + 1 from by omega], putAt_rising HR.out (fun j h1 h2 => HALL.out j h1 (by omega)) HF.out, (by have h9 := take_perm (xs := xs) (k := i) (by have := h.1; omega) HP.out k; rw [HX.out] at h9; exact h9), (by rw [show k + 1 + (i - k) = i + 1 from by omega]; exact HOWN5.out), hB4⟩); (case measure => simp [intOf]; omega))
        · have HF := Lib.hid (show (k = 0 ∨ (k ≤ ys.length ∧ ys[k - 1]?.getD 0 ≤ x)) from .inl (by omega))
          go_wp2
          go_quiet (fail)
          go_wp2
          (have hbr : b < wr.heap.size := Nat.lt_of_lt_of_le hbs hB.size); go_region_held3 (fun W' => Below wr.heap.size wr W' ∧ W'.cell? ⟨b, off + i, none⟩ = some (.int .i64 x)) (refine ⟨?_, ?_⟩ <;> first | assumption | exact Below.drew (belowDN (Below.refl _ _) _) | ((repeat (first | assumption | exact Below.refl _ _ | refine belowDN ?_ _ | refine Below.drew ?_ | refine Below.setCell ?_ (by first | omega | (simp <;> omega)) _ | refine Below.alloc ?_ (by first | omega | (simp <;> omega)) _ | refine belowCall ?_ (by assumption))); done) | (rw [b2.cell (p := ⟨b, off + i, none⟩) (by first | exact hbr | (simp; omega))]; go_keep) | go_keep) (first | (go_at_call 94; refine (l00Own_any g' k c' (ys.take k) _ (hLk.mono (by (repeat (first | assumption | exact Below.refl _ _ | refine belowDN ?_ _ | refine Below.drew ?_ | refine Below.setCell ?_ (by first | omega | (simp <;> omega)) _ | refine Below.alloc ?_ (by first | omega | (simp <;> omega)) _ | refine belowCall ?_ (by assumption))))) (by omega)).mono ?_; rintro e w2 ⟨g2, c2, rfl, hown2, b2⟩; have hzz := b2.size; (try simp at hzz); have hcr2 : w2.cell? ⟨b, off + i, none⟩ = some (.int .i64 x) := (by rw [b2.cell (p := ⟨b, off + i, none⟩) (by first | exact hbr | (simp; omega))]; go_keep)) | (refine Go.step_append_lies _ rfl (.tmp 35) (.tmp 40) 38 rfl w.heap.size 2 i0 (.int .i64 0) 1 8 Try.underlying38 hi hz0 hz1 hz2 rfl (by decide) (.slice (some ⟨g2, 0, none⟩) k c2) k ((ys.take k).map (Value.int .i64)) (by simp [Act.eval]) (by exact (own_low hown2 (by exact hB.size)).alloc _) ⟨w2.heap.size, 0, none⟩ 1 1 [.int .i64 x] (by simp [Act.eval]) rfl (by intro j u hj; match j, hj with | 0, hj => (simp at hj; subst hj; simp [Go.WideShapes.add_plain]) | (j + 1), hj => simp at hj) (by intro u hu; simp at hu; subst hu; rfl) (by decide) (by unfold maxLen; omega) (by omega) (by have := hB.size; first | (simp; omega) | omega) _ rfl ?_; intro g3 c3 w3 hown3 hg3 hgg hlt3; have hb3 : Below wr.heap.size wr w3 := (show Below wr.heap.size wr (w2.alloc (.cells #[.int .i64 x] 2)) by (repeat (first | assumption | exact Below.refl _ _ | refine belowDN ?_ _ | refine Below.drew ?_ | refine Below.setCell ?_ (by first | omega | (simp <;> omega)) _ | refine Below.alloc ?_ (by first | omega | (simp <;> omega)) _ | refine belowCall ?_ (by assumption)))).grown hg3 (by first | (simp; omega) | omega) (fun kk hk => by simp [Value.ownBlock] at hk; subst hk; have := (hown2.lt g2 rfl).1; first | exact this | (simp at this; omega)); have hcr3 : w3.cell? ⟨b, off + i, none⟩ = some (.int .i64 x) := (by rw [hb3.cell (p := ⟨b, off + i, none⟩) hbr]; exact hcr)) | (refine Go.step_append_lies _ rfl (.tmp 35) (.tmp 40) 38 rfl w.heap.size 2 i0 (.int .i64 0) 1 8 Try.underlying38 hi hz0 hz1 hz2 rfl (by decide) (.slice (some ⟨g2, 0, none⟩) k c2) k ((ys.take k).map (Value.int .i64)) (by simp [Act.eval]) (by exact own_low hown2 (by have := hB.size; simp; omega)) ⟨wr.heap.size, 0, none⟩ 1 1 [.int .i64 x] (by simp [Act.eval]) rfl (by intro j u hj; match j, hj with | 0, hj => (simp at hj; subst hj; rw [Go.WideShapes.add_plain, b2.cell (by first | (simp; done) | (simp; omega))]; exact cellNew (by simp)) | (j + 1), hj => simp at hj) (by intro u hu; simp at hu; subst hu; rfl) (by decide) (by unfold maxLen; omega) (by omega) (by have := hB.size; first | (simp; omega) | omega) _ rfl ?_; intro g3 c3 w3 hown3 hg3 hgg hlt3; have hb3 : Below wr.heap.size wr w3 := (show Below wr.heap.size wr w2 by (repeat (first | assumption | exact Below.refl _ _ | refine belowDN ?_ _ | refine Below.drew ?_ | refine Below.setCell ?_ (by first | omega | (simp <;> omega)) _ | refine Below.alloc ?_ (by first | omega | (simp <;> omega)) _ | refine belowCall ?_ (by assumption)))).grown hg3 (by first | (simp; omega) | omega) (fun kk hk => by simp [Value.ownBlock] at hk; subst hk; have := (hown2.lt g2 rfl).1; first | exact this | (simp at this; omega)); have hcr3 : w3.cell? ⟨b, off + i, none⟩ = some (.int .i64 x) := (by rw [hb3.cell (p := ⟨b, off + i, none⟩) hbr]; exact hcr))); all_goals (have e3 : k + 1 + (i - k) ≤ maxLen := (by unfold maxLen; omega); have e4 : (k + 1 + (i - k)) * 8 ≤ 140737488355328 := (by omega); have e5 : w.heap.size ≤ w3.heap.size := (by have := hB.size; have := hb3.size; omega); have ecl : ((ys.drop k).map (Value.int .i64)).length = (i - k) * 1 := (by simp [hyl]); have ec1 := tail_cells (k := k) hyl hys (HOWN.out.lt g' rfl).2 hb3; have HO3 := Lib.hid hown3; clear hown3); all_goals (by_cases hkc2 : c' = k); all_goals (go_wp2_with (first | (at_builtin; refine wpList_append_own _ rfl _ _ 38 rfl w.heap.size 2 i0 (.int .i64 0) 1 8 Try.underlying38 hi hz0 hz1 hz2 rfl (by decide) _ _ _ rfl HO3.out ⟨g', k, none⟩ (i - k) _ ((ys.drop k).map (Value.int .i64)) rfl ecl ec1 (fun u hu => by obtain ⟨b, _, rfl⟩ := List.mem_map.1 hu; rfl) e3 e4 e5 ?_) | (at_builtin; refine wpList_append_own _ rfl _ _ 38 rfl w.heap.size 2 i0 (.int .i64 0) 1 8 Try.underlying38 hi hz0 hz1 hz2 rfl (by decide) _ _ _ rfl HO3.out ⟨g', 0, none⟩ (i - k) _ ((ys.drop k).map (Value.int .i64)) rfl ecl (fun j u hj => by rw [List.drop_eq_nil_of_le (show ys.length ≤ k by omega)] at hj; simp at hj) (fun u hu => by obtain ⟨b, _, rfl⟩ := List.mem_map.1 hu; rfl) e3 e4 e5 ?_) | (at_builtin; refine wpList_append_own _ rfl _ _ 38 rfl w.heap.size 2 i0 (.int .i64 0) 1 8 Try.underlying38 hi hz0 hz1 hz2 rfl (by decide) _ _ _ rfl HO3.out ⟨g', 0, none⟩ (i - k) _ ((ys.drop k).map (Value.int .i64)) rfl ecl (fun j u hj => by have h0 : k = 0 := (by omega); have h9 := ec1 j u hj; rw [h0] at h9; exact h9) (fun u hu => by obtain ⟨b, _, rfl⟩ := List.mem_map.1 hu; rfl) e3 e4 e5 ?_))); all_goals (intro v' w4 hown4 hg4 hnil; have hB4 : Below w.heap.size w w4 := (belowCall hB hb3).grown hg4 e5 (fun kk hk => by simp [Value.ownBlock] at hk; subst hk; exact (HO3.out.lt g3 rfl).1); obtain ⟨g5, c5, rfl, hown5⟩ := own_put hyl hki hown4 hnil; clear hown4 hnil hg4; have HOWN5 := Lib.hid hown5; clear hown5; go_wp2; go_roundw; (case rel => exact ⟨i + 1, g5, c5, putAt ys k x, by omega, by go_num, by rw [putAt_len, hyl], by rw [show k + 1 + (i - k) = i + 1 from by omega], putAt_rising HR.out (fun j h1 h2 => HALL.out j h1 (by omega)) HF.out, (by have h9 := take_perm (xs := xs) (k := i) (by have := h.1; omega) HP.out k; rw [HX.out] at h9; exact h9), (by rw [show k + 1 + (i - k) = i + 1 from by omega]; exact HOWN5.out), hB4⟩); (case measure => simp [intOf]; omega))
    · obtain rfl : i = n := by omega
      have hPn : ys.Perm xs := by have := HP.out; rwa [List.take_of_length_le (by omega)] at this
      have HPN := Lib.hid hPn
      clear hPn
      go_wp2
      go_ret
      exact ⟨g', c', ys, rfl, HR.out, HPN.out, hown, hB⟩
end Go.Proofs.Ytfnjndbnogeddaa
