/- l09Fold, the model's. -/
import Derived.Test.YtkjdkjnhfdcafaaFC
import Derived.Test.YtkjdkjnhfdcafaaM3
import Derived.Test.YtkjdkjnhfdcafaaF1
import Derived.Test.YtkjdkjnhfdcafaaFK
import Derived.Deep.RegionLaw
import Derived.Deep.RegionHeld3
import Derived.Deep.AppendLies
import Derived.Shelf.SlSortCmp.QuietGrown
namespace Go.Proofs.Ytkjdkjnhfdcafaa
open Go.ChangeShapes Go.WideShapes Go.ChangeAt Go.RowKit Go.Deep

theorem putAt_pw {R : Int → Int → Prop} {l : List Int} {k : Nat} {x : Int} (h : l.Pairwise R) (h1 : ∀ y ∈ l.take k, R y x) (h2 : ∀ y ∈ l.drop k, R x y) : (putAt l k x).Pairwise R := by
  have e : putAt l k x = l.take k ++ x :: l.drop k := by simp [putAt]
  rw [← List.take_append_drop k l, List.pairwise_append] at h
  rw [e, List.pairwise_append]
  refine ⟨h.1, List.pairwise_cons.2 ⟨h2, h.2.1⟩, fun a ha b hb => ?_⟩
  rcases List.mem_cons.1 hb with rfl | hb
  · exact h1 a ha
  · exact h.2.2 a ha b hb
theorem idxL_put {i : Nat} {ys : List Int} (h : ys.Perm (idxL i)) (k : Nat) : (putAt ys k (i : Int)).Perm (idxL (i + 1)) := by
  have e : idxL (i + 1) = idxL i ++ [(i : Int)] := by simp [idxL, List.range_succ]
  rw [e]
  exact ((putAt_perm ys k (i : Int)).trans (List.Perm.cons _ h)).trans (List.perm_append_singleton _ _).symm
theorem idxL_mem {y : Int} {i : Nat} (h : y ∈ idxL i) : ∃ q : Nat, y = q ∧ q < i := by
  simp only [idxL, List.mem_map, List.mem_range] at h
  obtain ⟨q, hq, rfl⟩ := h
  exact ⟨q, rfl, hq⟩
theorem fold_nth {ys : List Int} {i j : Nat} (hyl : ys.length = i) (hP : ys.Perm (idxL i)) (hj : j < i) : ∃ q : Nat, ys[j]?.getD 0 = (q : Int) ∧ q < i := by
  rw [List.getElem?_eq_getElem (by omega), Option.getD_some]
  exact idxL_mem (hP.mem_iff.1 (List.getElem_mem _))
theorem fold_put {e p : Int} {xs : List Pt} {i k : Nat} {ys : List Int} (hyl : ys.length = i) (hP : ys.Perm (idxL i)) (hR : ys.Pairwise (fun a b => leF e p xs a b = true))
    (hall : ∀ j, k ≤ j → j < i → keyP e p xs i < keyP e p xs (ys[j]?.getD 0).toNat) (hf : k = 0 ∨ keyP e p xs (ys[k - 1]?.getD 0).toNat ≤ keyP e p xs i) (hki : k ≤ i) :
    (putAt ys k (i : Int)).Pairwise (fun a b => leF e p xs a b = true) := by
  refine putAt_pw hR (fun y hy => ?_) (fun y hy => ?_)
  · obtain ⟨j, hj, rfl⟩ := List.getElem_of_mem hy
    rw [List.length_take] at hj
    rw [List.getElem_take]
    obtain ⟨q, hq, hqi⟩ := fold_nth (j := j) hyl hP (by omega)
    have hlast := hf.resolve_left (by omega)
    have hkey : keyP e p xs (ys[j]?.getD 0).toNat ≤ keyP e p xs (ys[k - 1]?.getD 0).toNat := by
      by_cases hjk : j = k - 1
      · rw [hjk]; exact Int.le_refl _
      · have h9 := List.pairwise_iff_getElem.1 hR j (k - 1) (by omega) (by omega) (by omega)
        rw [List.getElem?_eq_getElem (by omega : j < ys.length), List.getElem?_eq_getElem (by omega : k - 1 < ys.length), Option.getD_some, Option.getD_some]
        unfold leF at h9
        simp only [decide_eq_true_eq] at h9
        omega
    rw [List.getElem?_eq_getElem (by omega : j < ys.length), Option.getD_some] at hq hkey
    unfold leF
    simp only [decide_eq_true_eq, Int.toNat_natCast]
    omega
  · obtain ⟨j, hj, rfl⟩ := List.getElem_of_mem hy
    rw [List.length_drop] at hj
    rw [List.getElem_drop]
    have h9 := hall (k + j) (by omega) (by omega)
    rw [List.getElem?_eq_getElem (by omega : k + j < ys.length), Option.getD_some] at h9
    unfold leF
    simp only [decide_eq_true_eq, Int.toNat_natCast]
    omega
theorem sCycG (e p t : Int) (w : World) (h1 : 0 ≤ e) (h2 : e ≤ 10000000) (h3 : 1 ≤ p) (h4 : p ≤ 1000000) (h5 : -1 ≤ t) (h6 : t ≤ 20000000) :
    Calls Try.prog 117 #[.agg #[.int .i64 e, .int .i64 p], .int .i64 t] w fun x w' => x = .returned (.int .i64 (cyc e p t)) ∧ GRW w w' := by
  go_enter Try.func117, Try.ntmps117
  go_wp2_with (go_at_call 129; refine (l02Floor_any _ _ _ (by omega) (by omega) (by omega) (by omega)).mono ?_; rintro x w' ⟨rfl, rfl⟩)
  go_ret
  exact ⟨rfl, by (repeat (first | assumption | exact GRW.refl _ | refine GRW.drewN ?_ _ | refine GRW.drew ?_ | refine GRW.alloc ?_ _ | refine GRW.trans ?_ (by assumption)))⟩
set_option maxHeartbeats 1000000 in
theorem sPhsG (e p t : Int) (w : World) (h1 : 0 ≤ e) (h2 : e ≤ 10000000) (h3 : 1 ≤ p) (h4 : p ≤ 1000000) (h5 : 0 ≤ t) (h6 : t ≤ 20000000) :
    Calls Try.prog 92 #[.agg #[.int .i64 e, .int .i64 p], .int .i64 t] w fun x w' => x = .returned (.int .i64 (phs e p t)) ∧ GRW w w' := by
  have hc := cyc_bd (e := e) (t := t) h3
  have HC : ∀ W, Calls Try.prog 117 #[.agg #[.int .i64 e, .int .i64 p], .int .i64 t] W fun x w' => x = .returned (.int .i64 (cyc e p t)) ∧ GRW W w' := fun W => sCycG e p t W h1 h2 h3 h4 (by omega) h6
  have HV := Lib.hid (phs_eq2 e p t)
  generalize cyc e p t = c at HC hc HV
  replace HV : Hid (IntKind.i64.wrap (IntKind.i64.wrap (t - e) - IntKind.i64.wrap (c * p)) = phs e p t) := Lib.hid (by rw [IntWalk.i64_in (t - e) (by omega), IntWalk.i64_in (c * p) (by omega), IntWalk.i64_in _ (by omega)]; exact HV.out)
  obtain ⟨hlt, k0, k1⟩ := (PtC.fresh w 60 e p).parts
  rw [Nat.zero_add] at k1
  have B1 : GRW w (w.alloc (.cells #[.int .i64 e, .int .i64 p] 60)) := (GRW.refl _).alloc _
  go_enter Try.func92, Try.ntmps92
  go_wp2_with fail
  generalize w.alloc (.cells #[.int .i64 e, .int .i64 p] 60) = v at hlt k0 k1 B1 ⊢
  go_region_held3 (fun W' => W'.cell? ⟨w.heap.size, 0, none⟩ = some (.int .i64 e) ∧ W'.cell? ⟨w.heap.size, 1, none⟩ = some (.int .i64 p)) (refine ⟨?_, ?_⟩ <;> first | assumption | exact ((show GRW v _ by (repeat (first | assumption | exact GRW.refl _ | refine GRW.drewN ?_ _ | refine GRW.drew ?_ | refine GRW.alloc ?_ _ | refine GRW.trans ?_ (by assumption)))).below.cell (p := ⟨w.heap.size, 0, none⟩) hlt).trans k0 | exact ((show GRW v _ by (repeat (first | assumption | exact GRW.refl _ | refine GRW.drewN ?_ _ | refine GRW.drew ?_ | refine GRW.alloc ?_ _ | refine GRW.trans ?_ (by assumption)))).below.cell (p := ⟨w.heap.size, 1, none⟩) hlt).trans k1) (first | (go_at_call 117; refine (HC _).mono ?_; rintro x wA ⟨rfl, bA⟩))
  all_goals
    go_wp2
    go_ret
    exact ⟨ret_int HV.out, B1.trans (by (repeat (first | assumption | exact GRW.refl _ | refine GRW.drewN ?_ _ | refine GRW.drew ?_ | refine GRW.alloc ?_ _ | refine GRW.trans ?_ (by assumption))))⟩
theorem grow_below (w : World) (n : Nat) (os : Array Obj) : Below w.heap.size w (Go.Sort.grow (w.drewN n) os) := below_grown_sl _ _ _ _ (Nat.le_refl _)
set_option maxHeartbeats 4000000 in
set_option maxRecDepth 100000 in
theorem l09Fold_any (e p : Int) (a : Option Addr) (n c : Nat) (xs : List Pt) (w : World) (h : PtL w a n xs) (h100 : n ≤ 100) (h1 : 0 ≤ e) (h2 : e ≤ 10000000) (h3 : 1 ≤ p) (h4 : p ≤ 1000000) (hbd : ∀ k, k < n → 0 ≤ (xs[k]?.getD pt0).1 ∧ (xs[k]?.getD pt0).1 ≤ 10000000) :
    Calls Try.prog 86 #[.agg #[.int .i64 e, .int .i64 p], .slice a n c] w fun x w' => ∃ g' c', x = .returned (.slice (some ⟨g', 0, none⟩) n c') ∧ w'.ownsRow w.heap.size 2 1 (.slice (some ⟨g', 0, none⟩) n c') n (((idxL n).mergeSort (leF e p xs)).map (Value.int .i64)) ∧ Below w.heap.size w w' := by
  obtain ⟨i0, hi, hz0, hz1, hz2⟩ := info_parts A_info
  have mixed : Try.prog.follows .mixedOrders = true := by kernel_rfl
  have hl := h.1
  have hnz : (n : Int) ≤ 100 := by omega
  have HBD := Lib.hid hbd
  have hbx := PtC.fresh w 60 e p
  have BW : Below w.heap.size w (w.alloc (.cells #[.int .i64 e, .int .i64 p] 60)) := (Below.refl _ w).alloc (Nat.le_refl _) _
  have hv1 : (w.alloc (.cells #[.int .i64 e, .int .i64 p] 60)).heap.size = w.heap.size + 1 := by simp
  clear hbd
  go_enter Try.func86, Try.ntmps86
  go_wp2
  generalize w.alloc (.cells #[.int .i64 e, .int .i64 p] 60) = v at hbx BW hv1 ⊢
  go_loopw [5, 6] (fun o i wr => ∃ (k g' c' : Nat) (ys : List Int), k ≤ n ∧ i = .int .i64 k ∧ ys.length = k ∧ o = .slice (some ⟨g', 0, none⟩) k c' ∧ ys.Pairwise (fun a b => leF e p xs a b = true) ∧ ys.Perm (idxL k) ∧ wr.ownsRow v.heap.size 2 1 o k (ys.map (Value.int .i64)) ∧ Below v.heap.size v wr) (fun _ i _ => n - (intOf i).toNat)
  case atStart => exact ⟨0, w.heap.size + 1, 0, [], by omega, rfl, rfl, rfl, List.Pairwise.nil, by simp [idxL], by rw [← hv1]; exact World.ownsRow_lit v #[] 0 (Nat.le_refl _) (by unfold maxLen; omega) rfl, (Below.refl _ _).alloc (Nat.le_refl _) _⟩
  case round =>
    have hvw : w.heap.size < v.heap.size := by omega
    clear hv1
    obtain ⟨i, g', c', ys, hin, rfl, hyl, rfl, hR, hP, hown, hB⟩ := hrel
    have HR := Lib.hid hR
    have HP := Lib.hid hP
    clear hR hP
    by_cases hlt : i < n
    · obtain ⟨⟨x, xm⟩, hx⟩ : ∃ x, xs[i]?.getD pt0 = x := ⟨_, rfl⟩
      obtain ⟨b, off, rfl, hc⟩ := h.2 i hlt
      have hbs := hc.1
      have hxb := HBD.out i hlt
      rw [hx] at hc hxb
      have hc0 := hc.parts.2.1
      have HX := Lib.hid hx
      have HKX : Hid (keyP e p xs i = phs e p x) := Lib.hid (by unfold keyP; rw [hx])
      clear hx hc
      have hii : (i : Int) < (n : Int) := by omega
      have HOWN := Lib.hid hown
      clear hown
      go_wp2
      rename World => wo
      go_loopw [7] (fun kk wr => ∃ k : Nat, k ≤ i ∧ kk = .int .i64 k ∧ (∀ j, k ≤ j → j < i → keyP e p xs i < keyP e p xs (ys[j]?.getD 0).toNat) ∧ Below wo.heap.size wo wr) (fun kk _ => (intOf kk).toNat)
      case atStart => exact ⟨i, Nat.le_refl _, rfl, fun j h1 h2 => by omega, Below.refl _ _⟩
      case round =>
        obtain ⟨k, hki, rfl, hall, hD⟩ := hrel
        have HALL := Lib.hid hall
        clear hall
        by_cases hk0 : 0 < k
        · obtain ⟨k', hk'⟩ : ∃ k', k = k' + 1 := ⟨k - 1, by omega⟩
          have HK := Lib.hid hk'
          obtain ⟨q, hq, hqi⟩ := fold_nth (j := k') hyl HP.out (by omega)
          obtain ⟨⟨u, um⟩, hu⟩ : ∃ x, xs[q]?.getD pt0 = x := ⟨_, rfl⟩
          have hub := HBD.out q (by omega)
          obtain ⟨b', off', e', hcq⟩ := h.2 q (by omega)
          obtain ⟨rfl, rfl⟩ : b = b' ∧ off = off' := by injection e' with e'; injection e' with e1 e2; exact ⟨e1, e2⟩
          rw [hu] at hcq hub
          have hcq0 := hcq.parts.2.1
          have HKU : Hid (keyP e p xs (ys[k']?.getD 0).toNat = phs e p u) := Lib.hid (by rw [hq, Int.toNat_natCast]; unfold keyP; rw [hu])
          have c2r : wo.cell? ⟨g', k', none⟩ = some (.int .i64 (q : Int)) := by rw [HOWN.out.cellAt k' (by omega), List.getElem?_map]; rw [List.getElem?_eq_getElem (by omega : k' < ys.length)] at hq ⊢; rw [Option.getD_some] at hq; rw [Option.map_some, hq]
          have hgr := (HOWN.out.lt g' rfl).2
          have hwi := hD.size
          have hwr := hB.size
          have hvs := BW.size
          have c0 : wr.cell? ⟨w.heap.size, 0, none⟩ = some (.int .i64 e) := ((hbx.mono hB).mono hD).parts.2.1
          have c1 : wr.cell? ⟨w.heap.size, 1, none⟩ = some (.int .i64 p) := by have := ((hbx.mono hB).mono hD).parts.2.2; rwa [Nat.zero_add] at this
          have c2 : wr.cell? ⟨g', k', none⟩ = some (.int .i64 (q : Int)) := (hD.cell (p := ⟨g', k', none⟩) hgr).trans c2r
          have BWi : Below w.heap.size w wr := belowCall (belowCall BW hB) hD
          have c3 : wr.cell? ⟨b, off + q * 2, none⟩ = some (.int .i64 u) := (BWi.cell (p := ⟨b, off + q * 2, none⟩) hbs).trans hcq0
          have c4 : wr.cell? ⟨b, off + i * 2, none⟩ = some (.int .i64 x) := (BWi.cell (p := ⟨b, off + i * 2, none⟩) hbs).trans hc0
          have hlw : w.heap.size < wr.heap.size := by omega
          have hgw : g' < wr.heap.size := by omega
          have hbw : b < wr.heap.size := by omega
          have s1 : (k : Int) - 1 = (k' : Int) := by omega
          have wS : IntKind.i64.wrap (k' : Int) = (k' : Int) := IntWalk.i64_in _ (by omega)
          have s3 : (k' : Int) < (i : Int) := by omega
          have s4 : (q : Int) < (n : Int) := by omega
          have s5 : (0 : Int) ≤ (q : Int) := by omega
          have s6 : (0 : Int) ≤ (k' : Int) := by omega
          have l0 : ∀ (n : Nat) (os : Array Obj), (Go.Sort.grow (wr.drewN n) os).cell? ⟨w.heap.size, 0, none⟩ = some (.int .i64 e) := fun n os => cell_grown hlw c0 n os
          have l1 : ∀ (n : Nat) (os : Array Obj), (Go.Sort.grow (wr.drewN n) os).cell? ⟨w.heap.size, 1, none⟩ = some (.int .i64 p) := fun n os => cell_grown hlw c1 n os
          have l2 : ∀ (n : Nat) (os : Array Obj), (Go.Sort.grow (wr.drewN n) os).cell? ⟨g', k', none⟩ = some (.int .i64 (q : Int)) := fun n os => cell_grown hgw c2 n os
          have l3 : ∀ (n : Nat) (os : Array Obj), (Go.Sort.grow (wr.drewN n) os).cell? ⟨b, off + q * 2, none⟩ = some (.int .i64 u) := fun n os => cell_grown hbw c3 n os
          have l4 : ∀ (n : Nat) (os : Array Obj), (Go.Sort.grow (wr.drewN n) os).cell? ⟨b, off + i * 2, none⟩ = some (.int .i64 x) := fun n os => cell_grown hbw c4 n os
          have HPH : ∀ (z : Int) (n : Nat) (os : Array Obj), 0 ≤ z ∧ z ≤ 10000000 → Calls Try.prog 92 #[.agg #[.int .i64 e, .int .i64 p], .int .i64 z] (Go.Sort.grow (wr.drewN n) os) fun y w' => y = .returned (.int .i64 (phs e p z)) ∧ ∃ q os', w' = Go.Sort.grow ((Go.Sort.grow (wr.drewN n) os).drewN q) os' := fun z n os hz => sPhsG e p z _ h1 h2 h3 h4 hz.1 (by omega)
          have HCMP : Hid ((keyP e p xs i < keyP e p xs (ys[k']?.getD 0).toNat) ↔ phs e p x < phs e p u) := Lib.hid (by rw [HKX.out, HKU.out])
          clear hu hcq hcq0 hq e' hk' c2r
          by_cases hxy : phs e p x < phs e p u
          · go_wp2_with fail
            (go_quiet_grown (first | (go_at_call 92; refine Calls.grown_of (HPH _ _ _ (by assumption)))))
            have hB9 : Below wo.heap.size wo (Go.Sort.grow (wr.drewN nq) osq) := belowCall hD (grow_below wr nq osq)
            clear l0 l1 l2 l3 l4 HPH c0 c1 c2 c3 c4
            generalize Go.Sort.grow (wr.drewN nq) osq = w9 at hB9 ⊢
            go_wp2
            go_roundw
            case rel => exact ⟨k', by omega, by go_num, fun j h1 h2 => (by by_cases hjk : j = k'; (· subst hjk; exact HCMP.out.2 hxy); (· exact HALL.out j (by have := HK.out; omega) h2)), hB9⟩
            case measure => simp [intOf]; omega
          · have HF := Lib.hid (show (k = 0 ∨ keyP e p xs (ys[k - 1]?.getD 0).toNat ≤ keyP e p xs i) from .inr (by have hk' := HK.out; subst hk'; rw [Nat.add_sub_cancel]; have := HCMP.out; omega))
            go_wp2_with fail
            (go_quiet_grown (first | (go_at_call 92; refine Calls.grown_of (HPH _ _ _ (by assumption)))))
            have hB9 : Below wo.heap.size wo (Go.Sort.grow (wr.drewN nq) osq) := belowCall hD (grow_below wr nq osq)
            clear l0 l1 l2 l3 l4 HPH c0 c1 c2 c3 c4 s1 wS
            generalize Go.Sort.grow (wr.drewN nq) osq = w9 at hB9 ⊢
            (have hB9v : Below v.heap.size v w9 := belowCall hB hB9; have hown9 := ownKeepF HOWN.out hB9; have HOWN9 := Lib.hid hown9; have hys : ∀ j, j < i → w9.cell? ⟨g', j, none⟩ = some (.int .i64 (ys[j]?.getD 0)) := (fun j hj => by rw [hown9.cellAt j (by omega)]; simp [hyl, hj]); have hLy := Lst.of_own hown9; have hLk : Lst w9 (some ⟨g', 0, none⟩) k (ys.take k) := ⟨by rw [List.length_take]; omega, fun j hj => (by obtain ⟨b', o', e', h1, h2⟩ := hLy.2 j (by omega); exact ⟨b', o', e', h1, by rw [h2]; simp [hj]⟩)⟩; have hki' : (k : Int) ≤ (i : Int) := (by omega); have hic' : i ≤ c' := (by rcases HOWN.out.2 with ⟨h0, _⟩ | ⟨g0, cap0, cur, hv, _, _, h5, _⟩; (· cases h0); (· cases hv; exact h5)); have hkc : (k : Int) ≤ (c' : Int) := (by omega); have hk00 : (0 : Int) ≤ (k : Int) := (by omega); clear hown9; go_wp2_with fail; (refine (l00Own_any g' k c' (ys.take k) _ (hLk.mono (by (repeat (first | assumption | exact Below.refl _ _ | refine belowDN ?_ _ | refine Below.drew ?_ | refine Below.setCell ?_ (by first | omega | (simp <;> omega)) _ | refine Below.alloc ?_ (by first | omega | (simp <;> omega)) _ | refine belowCall ?_ (by assumption))))) (by omega)).mono ?_; rintro _ w2 ⟨g2, c2, rfl, hown2, b2⟩; have hzz := b2.size; (try simp at hzz)); go_wp2_with (at_builtin; refine wpList_append_own _ rfl _ _ 28 rfl v.heap.size 2 i0 (.int .i64 0) 1 8 Try.underlying28 hi hz0 hz1 hz2 rfl (by decide) _ _ _ rfl (by exact (own_low hown2 (by exact hB9v.size)).alloc _) ⟨w2.heap.size, 0, none⟩ 1 _ [.int .i64 (i : Int)] rfl rfl ?s1 ?s2 ?s3 ?s4 ?s5 ?_); (case s1 => intro j u hj; match j, hj with | 0, hj => (simp at hj; subst hj; simp [Go.WideShapes.add_plain]) | (j + 1), hj => simp at hj); (case s2 => intro u hu; simp at hu; subst hu; rfl); (case s3 => unfold maxLen; omega); (case s4 => omega); (case s5 => have := hB9v.size; have := b2.size; simp; omega); intro v3 w3 hown3 hg3 hn3; obtain ⟨g3, c3, rfl⟩ : ∃ g3 c3, v3 = .slice (some ⟨g3, 0, none⟩) (k + 1) c3 := (by rcases hown3.2 with ⟨hv, _⟩ | ⟨g, c, cur, hv, _⟩; (· exact absurd hv hn3); (· exact ⟨g, c, hv⟩)); have hb3 : Below w9.heap.size w9 w3 := (show Below w9.heap.size w9 (w2.alloc (.cells #[.int .i64 (i : Int)] 2)) by (repeat (first | assumption | exact Below.refl _ _ | refine belowDN ?_ _ | refine Below.drew ?_ | refine Below.setCell ?_ (by first | omega | (simp <;> omega)) _ | refine Below.alloc ?_ (by first | omega | (simp <;> omega)) _ | refine belowCall ?_ (by assumption)))).grown hg3 (by have := b2.size; first | (simp; omega) | omega) (fun kk hk => by simp [Value.ownBlock] at hk; subst hk; have := (hown2.lt g2 rfl).1; first | exact this | (simp at this; omega)); (have e3 : k + 1 + (i - k) ≤ maxLen := (by unfold maxLen; omega); have e4 : (k + 1 + (i - k)) * 8 ≤ 140737488355328 := (by omega); have e5 : v.heap.size ≤ w3.heap.size := (by have := hB9v.size; have := hb3.size; omega); have ecl : ((ys.drop k).map (Value.int .i64)).length = (i - k) * 1 := (by simp [hyl]); have ec1 := tail_cells (k := k) hyl hys (HOWN9.out.lt g' rfl).2 hb3; have HO3 := Lib.hid hown3; clear hown3); by_cases hkc2 : c' = k; all_goals (go_wp2_with (first | (at_builtin; refine wpList_append_own _ rfl _ _ 28 rfl v.heap.size 2 i0 (.int .i64 0) 1 8 Try.underlying28 hi hz0 hz1 hz2 rfl (by decide) _ _ _ rfl HO3.out ⟨g', k, none⟩ (i - k) _ ((ys.drop k).map (Value.int .i64)) rfl ecl ec1 (fun u hu => by obtain ⟨b, _, rfl⟩ := List.mem_map.1 hu; rfl) e3 e4 e5 ?_) | (at_builtin; refine wpList_append_own _ rfl _ _ 28 rfl v.heap.size 2 i0 (.int .i64 0) 1 8 Try.underlying28 hi hz0 hz1 hz2 rfl (by decide) _ _ _ rfl HO3.out ⟨g', 0, none⟩ (i - k) _ ((ys.drop k).map (Value.int .i64)) rfl ecl (fun j u hj => by rw [List.drop_eq_nil_of_le (show ys.length ≤ k by omega)] at hj; simp at hj) (fun u hu => by obtain ⟨b, _, rfl⟩ := List.mem_map.1 hu; rfl) e3 e4 e5 ?_) | (at_builtin; refine wpList_append_own _ rfl _ _ 28 rfl v.heap.size 2 i0 (.int .i64 0) 1 8 Try.underlying28 hi hz0 hz1 hz2 rfl (by decide) _ _ _ rfl HO3.out ⟨g', 0, none⟩ (i - k) _ ((ys.drop k).map (Value.int .i64)) rfl ecl (fun j u hj => by have h0 : k = 0 := (by omega); have h9 := ec1 j u hj; rw [h0] at h9; exact h9) (fun u hu => by obtain ⟨b, _, rfl⟩ := List.mem_map.1 hu; rfl) e3 e4 e5 ?_))); all_goals (intro v' w4 hown4 hg4 hnil; have hB4 : Below v.heap.size v w4 := (belowCall hB9v hb3).grown hg4 e5 (fun kk hk => by simp [Value.ownBlock] at hk; subst hk; exact (HO3.out.lt g3 rfl).1); obtain ⟨g5, c5, rfl, hown5⟩ := own_put hyl hki hown4 hnil; clear hown4 hnil hg4; have HOWN5 := Lib.hid hown5; clear hown5; go_wp2; go_roundw; (case rel => exact ⟨i + 1, g5, c5, putAt ys k (i : Int), by omega, by go_num, by rw [putAt_len, hyl], by rw [show k + 1 + (i - k) = i + 1 from by omega], fold_put hyl HP.out HR.out HALL.out HF.out hki, idxL_put HP.out k, (by rw [show k + 1 + (i - k) = i + 1 from by omega]; exact HOWN5.out), hB4⟩); (case measure => simp [intOf]; omega)))
        · have HF := Lib.hid (show (k = 0 ∨ keyP e p xs (ys[k - 1]?.getD 0).toNat ≤ keyP e p xs i) from .inl (by omega))
          go_wp2_with fail
          go_quiet (fail)
          have hB9 : Below wo.heap.size wo (wr.drewN nq) := belowDN hD _
          generalize wr.drewN nq = w9 at hB9 ⊢
          (have hB9v : Below v.heap.size v w9 := belowCall hB hB9; have hown9 := ownKeepF HOWN.out hB9; have HOWN9 := Lib.hid hown9; have hys : ∀ j, j < i → w9.cell? ⟨g', j, none⟩ = some (.int .i64 (ys[j]?.getD 0)) := (fun j hj => by rw [hown9.cellAt j (by omega)]; simp [hyl, hj]); have hLy := Lst.of_own hown9; have hLk : Lst w9 (some ⟨g', 0, none⟩) k (ys.take k) := ⟨by rw [List.length_take]; omega, fun j hj => (by obtain ⟨b', o', e', h1, h2⟩ := hLy.2 j (by omega); exact ⟨b', o', e', h1, by rw [h2]; simp [hj]⟩)⟩; have hki' : (k : Int) ≤ (i : Int) := (by omega); have hic' : i ≤ c' := (by rcases HOWN.out.2 with ⟨h0, _⟩ | ⟨g0, cap0, cur, hv, _, _, h5, _⟩; (· cases h0); (· cases hv; exact h5)); have hkc : (k : Int) ≤ (c' : Int) := (by omega); have hk00 : (0 : Int) ≤ (k : Int) := (by omega); clear hown9; go_wp2_with fail; (refine (l00Own_any g' k c' (ys.take k) _ (hLk.mono (by (repeat (first | assumption | exact Below.refl _ _ | refine belowDN ?_ _ | refine Below.drew ?_ | refine Below.setCell ?_ (by first | omega | (simp <;> omega)) _ | refine Below.alloc ?_ (by first | omega | (simp <;> omega)) _ | refine belowCall ?_ (by assumption))))) (by omega)).mono ?_; rintro _ w2 ⟨g2, c2, rfl, hown2, b2⟩; have hzz := b2.size; (try simp at hzz)); go_wp2_with (at_builtin; refine wpList_append_own _ rfl _ _ 28 rfl v.heap.size 2 i0 (.int .i64 0) 1 8 Try.underlying28 hi hz0 hz1 hz2 rfl (by decide) _ _ _ rfl (by exact (own_low hown2 (by exact hB9v.size)).alloc _) ⟨w2.heap.size, 0, none⟩ 1 _ [.int .i64 (i : Int)] rfl rfl ?s1 ?s2 ?s3 ?s4 ?s5 ?_); (case s1 => intro j u hj; match j, hj with | 0, hj => (simp at hj; subst hj; simp [Go.WideShapes.add_plain]) | (j + 1), hj => simp at hj); (case s2 => intro u hu; simp at hu; subst hu; rfl); (case s3 => unfold maxLen; omega); (case s4 => omega); (case s5 => have := hB9v.size; have := b2.size; simp; omega); intro v3 w3 hown3 hg3 hn3; obtain ⟨g3, c3, rfl⟩ : ∃ g3 c3, v3 = .slice (some ⟨g3, 0, none⟩) (k + 1) c3 := (by rcases hown3.2 with ⟨hv, _⟩ | ⟨g, c, cur, hv, _⟩; (· exact absurd hv hn3); (· exact ⟨g, c, hv⟩)); have hb3 : Below w9.heap.size w9 w3 := (show Below w9.heap.size w9 (w2.alloc (.cells #[.int .i64 (i : Int)] 2)) by (repeat (first | assumption | exact Below.refl _ _ | refine belowDN ?_ _ | refine Below.drew ?_ | refine Below.setCell ?_ (by first | omega | (simp <;> omega)) _ | refine Below.alloc ?_ (by first | omega | (simp <;> omega)) _ | refine belowCall ?_ (by assumption)))).grown hg3 (by have := b2.size; first | (simp; omega) | omega) (fun kk hk => by simp [Value.ownBlock] at hk; subst hk; have := (hown2.lt g2 rfl).1; first | exact this | (simp at this; omega)); (have e3 : k + 1 + (i - k) ≤ maxLen := (by unfold maxLen; omega); have e4 : (k + 1 + (i - k)) * 8 ≤ 140737488355328 := (by omega); have e5 : v.heap.size ≤ w3.heap.size := (by have := hB9v.size; have := hb3.size; omega); have ecl : ((ys.drop k).map (Value.int .i64)).length = (i - k) * 1 := (by simp [hyl]); have ec1 := tail_cells (k := k) hyl hys (HOWN9.out.lt g' rfl).2 hb3; have HO3 := Lib.hid hown3; clear hown3); by_cases hkc2 : c' = k; all_goals (go_wp2_with (first | (at_builtin; refine wpList_append_own _ rfl _ _ 28 rfl v.heap.size 2 i0 (.int .i64 0) 1 8 Try.underlying28 hi hz0 hz1 hz2 rfl (by decide) _ _ _ rfl HO3.out ⟨g', k, none⟩ (i - k) _ ((ys.drop k).map (Value.int .i64)) rfl ecl ec1 (fun u hu => by obtain ⟨b, _, rfl⟩ := List.mem_map.1 hu; rfl) e3 e4 e5 ?_) | (at_builtin; refine wpList_append_own _ rfl _ _ 28 rfl v.heap.size 2 i0 (.int .i64 0) 1 8 Try.underlying28 hi hz0 hz1 hz2 rfl (by decide) _ _ _ rfl HO3.out ⟨g', 0, none⟩ (i - k) _ ((ys.drop k).map (Value.int .i64)) rfl ecl (fun j u hj => by rw [List.drop_eq_nil_of_le (show ys.length ≤ k by omega)] at hj; simp at hj) (fun u hu => by obtain ⟨b, _, rfl⟩ := List.mem_map.1 hu; rfl) e3 e4 e5 ?_) | (at_builtin; refine wpList_append_own _ rfl _ _ 28 rfl v.heap.size 2 i0 (.int .i64 0) 1 8 Try.underlying28 hi hz0 hz1 hz2 rfl (by decide) _ _ _ rfl HO3.out ⟨g', 0, none⟩ (i - k) _ ((ys.drop k).map (Value.int .i64)) rfl ecl (fun j u hj => by have h0 : k = 0 := (by omega); have h9 := ec1 j u hj; rw [h0] at h9; exact h9) (fun u hu => by obtain ⟨b, _, rfl⟩ := List.mem_map.1 hu; rfl) e3 e4 e5 ?_))); all_goals (intro v' w4 hown4 hg4 hnil; have hB4 : Below v.heap.size v w4 := (belowCall hB9v hb3).grown hg4 e5 (fun kk hk => by simp [Value.ownBlock] at hk; subst hk; exact (HO3.out.lt g3 rfl).1); obtain ⟨g5, c5, rfl, hown5⟩ := own_put hyl hki hown4 hnil; clear hown4 hnil hg4; have HOWN5 := Lib.hid hown5; clear hown5; go_wp2; go_roundw; (case rel => exact ⟨i + 1, g5, c5, putAt ys k (i : Int), by omega, by go_num, by rw [putAt_len, hyl], by rw [show k + 1 + (i - k) = i + 1 from by omega], fold_put hyl HP.out HR.out HALL.out HF.out hki, idxL_put HP.out k, (by rw [show k + 1 + (i - k) = i + 1 from by omega]; exact HOWN5.out), hB4⟩); (case measure => simp [intOf]; omega)))
    · obtain rfl : i = n := by omega
      have HU := Lib.hid (fold_unique HP.out HR.out)
      go_wp2
      go_ret
      exact ⟨g', c', rfl, by rw [← HU.out]; exact own_low hown (by omega), belowCall BW hB⟩
set_option maxHeartbeats 1000000 in
theorem sFold_any (e p : Int) (a : Option Addr) (n c : Nat) (xs : List Pt) (w : World) (h : PtL w a n xs) (hn : n ≤ 1048576) :
    Calls Try.prog 43 #[.agg #[.int .i64 e, .int .i64 p], .slice a n c] w fun x w' => IntRes w.heap.size (foL e p xs) (.int .i64 (foC e p xs)) w' x ∧ Below w.heap.size w w' := by
  have hbx := (PtC.fresh w 60 e p)
  have B1 : Below w.heap.size w (w.alloc (.cells #[.int .i64 e, .int .i64 p] 60)) := (Below.refl _ w).alloc (Nat.le_refl _) _
  cases he : ephB e p
  · have HD := Lib.hid (fo_no (xs := xs) (show (ephB e p && okP xs) = false by rw [he]; rfl))
    go_enter Try.func43, Try.ntmps43
    go_wp2_with fail
    refine (l09Ok_any e p _).mono ?_
    rintro x w2 ⟨rfl, b2⟩
    rw [he]
    go_wp2
    go_ret2
    exact ⟨by rw [HD.out.1, HD.out.2]; exact IntRes.nil _ _ _, belowCall B1 b2⟩
  cases hok : okP xs
  · have HD := Lib.hid (fo_no (show (ephB e p && okP xs) = false by rw [he, hok]; rfl))
    go_enter Try.func43, Try.ntmps43
    go_wp2_with fail
    refine (l09Ok_any e p _).mono ?_
    rintro x w2 ⟨rfl, b2⟩
    rw [he]
    have B2 := belowCall B1 b2
    go_wp2_with fail
    refine (l08Ok_below a n c xs w2 (h.mono B2) hn).mono ?_
    rintro x w3 ⟨rfl, b3⟩
    rw [hok]
    go_wp2
    go_ret2
    exact ⟨by rw [HD.out.1, HD.out.2]; exact IntRes.nil _ _ _, belowCall B2 b3⟩
  have HD := Lib.hid (fo_yes (show (ephB e p && okP xs) = true by rw [he, hok]; rfl))
  obtain ⟨⟨h1, h2⟩, h3, h4⟩ := ephB_iff.1 he
  obtain ⟨h100, hbd, -⟩ := okP_num h.1 hok
  have HBD := Lib.hid (fun k (hk : k < n) => (⟨(hbd k hk).1, (hbd k hk).2.1⟩ : 0 ≤ (xs[k]?.getD pt0).1 ∧ (xs[k]?.getD pt0).1 ≤ 10000000))
  have HXL := Lib.hid h.1
  have HIL : Hid ((idxL n).length = n) := Lib.hid (idxL_len n)
  clear hbd
  go_enter Try.func43, Try.ntmps43
  go_wp2_with fail
  generalize w.alloc (.cells #[.int .i64 e, .int .i64 p] 60) = v at hbx B1 ⊢
  refine (l09Ok_any e p _).mono ?_
  rintro x w2 ⟨rfl, b2⟩
  rw [he]
  have B2 := belowCall B1 b2
  go_wp2_with fail
  refine (l08Ok_below a n c xs w2 (h.mono B2) hn).mono ?_
  rintro x w3 ⟨rfl, b3⟩
  rw [hok]
  have B3 := belowCall B2 b3
  obtain ⟨hlt, k0, k1⟩ := ((hbx.mono b2).mono b3).parts
  rw [Nat.zero_add] at k1
  go_wp2_with fail
  refine (l09Fold_any e p a n c xs w3 (h.mono B3) h100 h1 h2 h3 h4 HBD.out).mono ?_
  rintro x w4 ⟨g', c', rfl, hown, b4⟩
  have HO := Lib.hid hown
  have B4 := belowCall B3 b4
  clear hown
  go_wp2
  go_ret2
  exact ⟨by rw [HD.out.1, HD.out.2, HXL.out]; exact IntRes.own (ownLow HO.out B3.size) (by rw [List.length_mergeSort, HIL.out]), B4⟩
end Go.Proofs.Ytkjdkjnhfdcafaa
