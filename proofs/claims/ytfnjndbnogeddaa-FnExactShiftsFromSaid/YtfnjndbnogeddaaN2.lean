/- nthLeast and middleOf, the program's median. -/
import Derived.Test.YtfnjndbnogeddaaN1
import Derived.Test.YtfnjndbnogeddaaG0
import Derived.Deep.AppendLies
import Derived.Laws.OwnMore
namespace Go.Proofs.Ytfnjndbnogeddaa
open Go.ChangeShapes Go.WideShapes Go.ChangeAt Go.RowKit Go.Deep

theorem less_yes {p x : Int} {xs : List Int} {k : Nat} (hk : k < xs.length) (hx : xs[k]?.getD 0 = x) (h : x < p) : lessL p (xs.take (k + 1)) = lessL p (xs.take k) ++ [x] ∧ moreL p (xs.take (k + 1)) = moreL p (xs.take k) := by
  rw [List.take_succ_eq_append_getElem hk]
  have e : xs[k] = x := by simpa [hk] using hx
  have h2 : ¬ p < x := by omega
  simp [lessL, moreL, List.filter_append, e, h, h2]
theorem more_yes {p x : Int} {xs : List Int} {k : Nat} (hk : k < xs.length) (hx : xs[k]?.getD 0 = x) (h : p < x) : lessL p (xs.take (k + 1)) = lessL p (xs.take k) ∧ moreL p (xs.take (k + 1)) = moreL p (xs.take k) ++ [x] := by
  rw [List.take_succ_eq_append_getElem hk]
  have e : xs[k] = x := by simpa [hk] using hx
  have h2 : ¬ x < p := by omega
  simp [lessL, moreL, List.filter_append, e, h, h2]
theorem even_yes {p x : Int} {xs : List Int} {k : Nat} (hk : k < xs.length) (hx : xs[k]?.getD 0 = x) (h1 : ¬ x < p) (h2 : ¬ p < x) : lessL p (xs.take (k + 1)) = lessL p (xs.take k) ∧ moreL p (xs.take (k + 1)) = moreL p (xs.take k) := by
  rw [List.take_succ_eq_append_getElem hk]
  have e : xs[k] = x := by simpa [hk] using hx
  simp [lessL, moreL, List.filter_append, e, h1, h2]
theorem less_le (p : Int) (xs : List Int) (k : Nat) : (lessL p (xs.take k)).length ≤ k := Nat.le_trans (List.length_filter_le _ _) (List.length_take_le _ _)
theorem more_le (p : Int) (xs : List Int) (k : Nat) : (moreL p (xs.take k)).length ≤ k := Nat.le_trans (List.length_filter_le _ _) (List.length_take_le _ _)
/-- two rows of numbers of a call's own that lie apart -/
def Two (B T : Nat) (w : World) (a1 : Option Addr) (c1 : Nat) (L : List Int) (a2 : Option Addr) (c2 : Nat) (M : List Int) : Prop :=
  w.ownsRow B T 1 (.slice a1 L.length c1) L.length (L.map (Value.int .i64)) ∧ w.ownsRow B T 1 (.slice a2 M.length c2) M.length (M.map (Value.int .i64)) ∧ ((Value.slice a1 L.length c1).ownBlock = none ∨ (Value.slice a1 L.length c1).ownBlock ≠ (Value.slice a2 M.length c2).ownBlock)
theorem Two.swap {B T : Nat} {w : World} {a1 a2 : Option Addr} {c1 c2 : Nat} {L M : List Int} (h : Two B T w a1 c1 L a2 c2 M) : Two B T w a2 c2 M a1 c1 L := by
  refine ⟨h.2.1, h.1, ?_⟩
  rcases h.2.2 with h1 | h1
  · cases hb : (Value.slice a2 M.length c2).ownBlock with
    | none => exact .inl rfl
    | some g => exact .inr (by rw [h1]; simp)
  · exact .inr (fun e => h1 e.symm)
theorem own_lst1 {w : World} {B T n c : Nat} {a : Option Addr} {xs : List Int} (h : w.ownsRow B T 1 (.slice a n c) n (xs.map (Value.int .i64))) : Lst w a n xs := by
  have hl := h.1
  rcases h.2 with ⟨hv, h0⟩ | ⟨g, cap, cur, hv, _⟩
  · cases hv
    exact ⟨by simpa using hl, fun i hi => absurd hi (by omega)⟩
  · cases hv
    exact Lst.of_own h
/-- behind an append to the first -/
theorem Two.grown {B T g c : Nat} {w w' : World} {a1 a2 : Option Addr} {c1 c2 : Nat} {L M : List Int} {x : Int} (h : Two B T w a1 c1 L a2 c2 M) (o : Obj)
    (hown : w'.ownsRow B T 1 (.slice (some ⟨g, 0, none⟩) (L.length + 1) c) (L.length + 1) (L.map (Value.int .i64) ++ [.int .i64 x])) (hg : (w.alloc o).grownBy w' (Value.slice a1 L.length c1).ownBlock)
    (hl : (Value.slice a1 L.length c1).ownBlock = some g ∨ g = (w.alloc o).heap.size) : Two B T w' (some ⟨g, 0, none⟩) c (L ++ [x]) a2 c2 M := by
  have h2 := h.swap
  have hm : w'.ownsRow B T 1 (.slice a2 M.length c2) M.length (M.map (Value.int .i64)) := (h.2.1.alloc o).kept hg h2.2.2
  refine ⟨by simpa using hown, hm, .inr ?_⟩
  rcases hl with hl | hl
  · intro e
    rcases h.2.2 with h1 | h1
    · rw [h1] at hl; cases hl
    · exact h1 (hl.trans e)
  · intro e
    have hlt := (h.2.1.lt g e.symm).2
    simp at hl
    omega
def NthE (xs : List Int) (i : Nat) (w : World) (e : Ending) (w' : World) : Prop := ∃ v, e = .returned (.int .i64 v) ∧ NthP xs i v ∧ Below w.heap.size w w'
set_option maxRecDepth 100000 in
set_option maxHeartbeats 2000000 in
theorem nth_any : ∀ (N : Nat) (a : Option Addr) (n c : Nat) (xs : List Int) (i : Nat) (w : World), n ≤ N → Lst w a n xs → i < n → n ≤ 1048576 →
    Calls Try.prog 90 #[.slice a n c, .int .i64 i] w (NthE xs i w)
  | 0, a, n, c, xs, i, w, hN, h, hi', hn => absurd hi' (by omega)
  | N + 1, a, n, c, xs, i, w, hN, h, hi', hn => by
    have ih := nth_any N
    obtain ⟨i0, hi, hz0, hz1, hz2⟩ := info_parts A_info
    have HL := Lib.hid h.1
    have hl : (n : Int) ≤ 1048576 := by omega
    have htd : (n : Int).tdiv 2 = ((n / 2 : Nat) : Int) := by rw [Int.tdiv_eq_ediv_of_nonneg (by omega)]; omega
    have hlt2 : ((n / 2 : Nat) : Int) < (n : Int) := by omega
    obtain ⟨b, off, rfl, hbs, hcp⟩ := h.2 (n / 2) (by omega)
    obtain ⟨p, hp⟩ : ∃ p, xs[n / 2]?.getD 0 = p := ⟨_, rfl⟩
    rw [hp] at hcp
    have hmem : p ∈ xs := by
      have hk : n / 2 < xs.length := by have := HL.out; omega
      rw [← hp, List.getElem?_eq_getElem hk]
      exact List.getElem_mem _
    have hpos := even_pos hmem
    have hsum := part_len p xs
    rw [HL.out] at hsum
    have HI := Lib.hid ih
    clear hp ih hmem
    go_enter Try.func90, Try.ntmps90
    go_wp2
    go_loopw [6, 7, 19] (fun v1 v2 j wr => ∃ (k : Nat) (a1 : Option Addr) (c1 : Nat) (a2 : Option Addr) (c2 : Nat), k ≤ n ∧ j = .int .i64 k ∧ v1 = .slice a1 (lessL p (xs.take k)).length c1 ∧ v2 = .slice a2 (moreL p (xs.take k)).length c2 ∧ Two w.heap.size 2 wr a1 c1 (lessL p (xs.take k)) a2 c2 (moreL p (xs.take k)) ∧ Below w.heap.size w wr) (fun _ _ j _ => n - (Go.RowKit.intOf j).toNat)
    case atStart => exact ⟨0, none, 0, none, 0, Nat.zero_le _, rfl, rfl, rfl, ⟨World.ownsRow_nil _ _ _ _, World.ownsRow_nil _ _ _ _, .inl rfl⟩, Below.refl _ _⟩
    case round =>
      obtain ⟨k, a1, c1, a2, c2, hk, rfl, rfl, rfl, hTW, hB⟩ := hrel
      have hsz := hB.size
      have hll := less_le p xs k
      have hml := more_le p xs k
      by_cases hlt : k < n
      · obtain ⟨b', off', e', hbs', hcx⟩ := h.2 k hlt
        cases e'
        obtain ⟨x, hx⟩ : ∃ x, xs[k]?.getD 0 = x := ⟨_, rfl⟩
        rw [hx] at hcx
        have hcr := (hB.cell (p := ⟨b, off + k, none⟩) hbs).trans hcx
        have hkk : (k : Int) < (n : Int) := by omega
        by_cases h1 : x < p
        · have HS := Lib.hid (less_yes (by have := HL.out; omega) hx h1)
          generalize lessL p (xs.take k) = L at hTW hll HS ⊢
          generalize moreL p (xs.take k) = M at hTW hml HS ⊢
          clear hx
          go_wp2_with (at_builtin; refine wpList_append_lies _ rfl _ _ 38 rfl w.heap.size 2 i0 (.int .i64 0) 1 8 Try.underlying38 hi hz0 hz1 hz2 rfl (by decide) _ _ _ rfl (hTW.1.alloc _) ⟨wr.heap.size, 0, none⟩ 1 1 [.int .i64 x] rfl rfl (cell_one_new _ _ _) (by simp [Value.oneCell']) (by decide) (by unfold maxLen; omega) (by omega) (by simp; omega) _ rfl ?_; intro g cc wb hownb hgb hlies hglt; have hT2 := hTW.grown _ hownb hgb hlies; have hBb : Below w.heap.size w wb := (show Below w.heap.size w (wr.alloc (.cells #[.int .i64 x] 2)) by (repeat (first | assumption | exact Below.refl _ _ | refine belowDN ?_ _ | refine Below.drew ?_ | refine Below.setCell ?_ (by first | omega | (simp <;> omega)) _ | refine Below.alloc ?_ (by first | omega | (simp <;> omega)) _ | refine belowCall ?_ (by assumption)))).grown hgb (by simp; omega) (fun j hj => (hTW.1.lt j hj).1))
          go_roundw
          case rel => exact ⟨k + 1, some ⟨g, 0, none⟩, cc, a2, c2, by omega, by go_num, by rw [HS.out.1, List.length_append]; rfl, by rw [HS.out.2], by rw [HS.out.1, HS.out.2]; exact hT2, hBb⟩
          case measure => simp [Go.RowKit.intOf]; omega
        · by_cases h2 : p < x
          · have HS := Lib.hid (more_yes (by have := HL.out; omega) hx h2)
            generalize lessL p (xs.take k) = L at hTW hll HS ⊢
            generalize moreL p (xs.take k) = M at hTW hml HS ⊢
            clear hx
            go_wp2_with (at_builtin; refine wpList_append_lies _ rfl _ _ 38 rfl w.heap.size 2 i0 (.int .i64 0) 1 8 Try.underlying38 hi hz0 hz1 hz2 rfl (by decide) _ _ _ rfl (hTW.2.1.alloc _) ⟨wr.heap.size, 0, none⟩ 1 1 [.int .i64 x] rfl rfl (cell_one_new _ _ _) (by simp [Value.oneCell']) (by decide) (by unfold maxLen; omega) (by omega) (by simp; omega) _ rfl ?_; intro g cc wb hownb hgb hlies hglt; have hT2 := (hTW.swap.grown _ hownb hgb hlies).swap; have hBb : Below w.heap.size w wb := (show Below w.heap.size w (wr.alloc (.cells #[.int .i64 x] 2)) by (repeat (first | assumption | exact Below.refl _ _ | refine belowDN ?_ _ | refine Below.drew ?_ | refine Below.setCell ?_ (by first | omega | (simp <;> omega)) _ | refine Below.alloc ?_ (by first | omega | (simp <;> omega)) _ | refine belowCall ?_ (by assumption)))).grown hgb (by simp; omega) (fun j hj => (hTW.2.1.lt j hj).1))
            go_roundw
            case rel => exact ⟨k + 1, a1, c1, some ⟨g, 0, none⟩, cc, by omega, by go_num, by rw [HS.out.1], by rw [HS.out.2, List.length_append]; rfl, by rw [HS.out.1, HS.out.2]; exact hT2, hBb⟩
            case measure => simp [Go.RowKit.intOf]; omega
          · have HS := Lib.hid (even_yes (by have := HL.out; omega) hx h1 h2)
            generalize lessL p (xs.take k) = L at hTW hll HS ⊢
            generalize moreL p (xs.take k) = M at hTW hml HS ⊢
            clear hx
            go_wp2
            go_roundw
            case rel => exact ⟨k + 1, a1, c1, a2, c2, by omega, by go_num, by rw [HS.out.1], by rw [HS.out.2], by rw [HS.out.1, HS.out.2]; exact hTW, hB⟩
            case measure => simp [Go.RowKit.intOf]; omega
      · obtain rfl : k = n := by omega
        have htk : xs.take k = xs := List.take_of_length_le (by have := HL.out; omega)
        rw [htk] at hTW hll hml ⊢
        have hL1 := own_lst1 hTW.1
        have hL2 := own_lst1 hTW.2.1
        clear htk hTW
        have HLe := Lib.hid (fun v => @nth_less p v xs i)
        have HEv := Lib.hid (@nth_even p xs i)
        have HMo := Lib.hid (fun v => @nth_more p v xs i)
        generalize hLL : lessL p xs = L at hsum hll hL1 HLe HEv HMo ⊢
        generalize hMM : moreL p xs = M at hsum hml hL2 HMo ⊢
        generalize hEE : (evenL p xs).length = ev at hsum hpos HEv HMo ⊢
        clear hLL hMM hEE
        have hsub : (k : Int) - (M.length : Int) = ((k - M.length : Nat) : Int) := by omega
        by_cases g1 : i < L.length
        · have d1 : (i : Int) < (L.length : Int) := by omega
          go_wp2_with fail
          refine (HI.out a1 L.length c1 L i wr (by omega) hL1 g1 (by omega)).mono ?_
          rintro e w3 ⟨v, rfl, hv, b3⟩
          have HV := Lib.hid (HLe.out v hv)
          clear hv
          go_wp2
          go_ret
          exact ⟨v, rfl, HV.out, belowCall hB b3⟩
        · have d1 : ¬ (i : Int) < (L.length : Int) := by omega
          by_cases g2 : i < k - M.length
          · have d2 : (i : Int) < ((k - M.length : Nat) : Int) := by omega
            have HV := Lib.hid (HEv.out (by omega) (by omega))
            go_wp2
            go_ret
            exact ⟨p, rfl, HV.out, hB⟩
          · have d2 : ¬ (i : Int) < ((k - M.length : Nat) : Int) := by omega
            have hsub2 : (i : Int) - ((k - M.length : Nat) : Int) = ((i - (k - M.length) : Nat) : Int) := by omega
            have hidx : i - (k - M.length) = i - (L.length + ev) := by omega
            have hz : ∀ z : Int, z = ((i - (k - M.length) : Nat) : Int) → Calls Try.prog 90 #[.slice a2 M.length c2, .int .i64 z] wr (NthE M (i - (k - M.length)) wr) := fun z hz => by
              subst hz; exact HI.out a2 M.length c2 M (i - (k - M.length)) wr (by omega) hL2 (by omega) (by omega)
            go_wp2_with fail
            refine (hz _ (by omega)).mono ?_
            rintro e w3 ⟨v, rfl, hv, b3⟩
            rw [hidx] at hv
            have HV := Lib.hid (HMo.out v (by omega) hv)
            clear hv
            go_wp2
            go_ret
            exact ⟨v, rfl, HV.out, belowCall hB b3⟩
end Go.Proofs.Ytfnjndbnogeddaa
