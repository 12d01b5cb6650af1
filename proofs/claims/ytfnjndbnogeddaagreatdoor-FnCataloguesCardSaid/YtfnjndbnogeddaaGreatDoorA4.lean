/- ByAmplitude, the program's. -/
import Derived.Test.YtfnjndbnogeddaaGreatDoorA3
import Derived.Test.YtfnjndbnogeddaaGreatDoorSB
import Derived.Test.YtfnjndbnogeddaaGreatDoorB5
import Derived.Test.YtfnjndbnogeddaaGreatDoorI3
import Derived.Maps.GroupsBeside
import Derived.Carry
import Derived.Test.YtfnjndbnogeddaaGreatDoorVF
import Derived.Deep.RegionHeld3
import Derived.Deep.AppendLies
import Derived.Test.YtfnjndbnogeddaaGreatDoorM3
import Derived.Test.YtfnjndbnogeddaaGreatDoorI2
namespace Go.Proofs.YtfnjndbnogeddaaGreatDoor
open Go.ChangeShapes Go.WideShapes Go.ChangeAt Go.RowKit Go.Deep Go.Maps

/-- the indices below k whose range is m -/
def idxL (xs : List St) (k : Nat) (m : Int) : List Int := ((List.range k).filter fun j => decide (ampV xs j = m)).map fun (j : Nat) => (j : Int)
theorem idxL_yes {xs : List St} {k : Nat} {m : Int} (h : ampV xs k = m) : idxL xs (k + 1) m = idxL xs k m ++ [(k : Int)] := by simp [idxL, List.range_succ, List.filter_append, h]
theorem idxL_no {xs : List St} {k : Nat} {m : Int} (h : ampV xs k ≠ m) : idxL xs (k + 1) m = idxL xs k m := by simp [idxL, List.range_succ, List.filter_append, h]
theorem idxL_len (xs : List St) (k : Nat) (m : Int) : (idxL xs k m).length ≤ k := by
  simp only [idxL, List.length_map]
  exact Nat.le_trans (List.length_filter_le _ _) (by simp)
theorem idxL_ne {xs : List St} {k : Nat} {m : Int} : idxL xs k m ≠ [] ↔ ∃ j, j < k ∧ ampV xs j = m := by
  simp only [idxL, ne_eq, List.map_eq_nil_iff, List.filter_eq_nil_iff, List.mem_range, decide_eq_true_eq]
  constructor
  · intro h
    exact Classical.byContradiction fun hn => h fun j hj e => hn ⟨j, hj, e⟩
  · rintro ⟨j, hj, e⟩ h
    exact h j hj e
/-- the map of the groups -/
def gD (xs : List St) : Nat → DataW Unit
  | 0 => .map []
  | k + 1 => (gD xs k).put (.int .i64 (ampV xs k)) (.slice (lits .i64 (idxL xs (k + 1) (ampV xs k))) [])
theorem gD_map (xs : List St) : ∀ k, IsMap (gD xs k)
  | 0 => ⟨[], rfl⟩
  | k + 1 => (gD_map xs k).put _ _
theorem int_ne {a b : Int} (h : a ≠ b) : (Lit.int .i64 a) ≠ .int .i64 b := fun e => h (by simpa using e)
theorem keyL (m : Int) : WideAt.IsKeyLit (.int .i64 m) := by simp [WideAt.IsKeyLit]
theorem gD_has (xs : List St) (m : Int) : ∀ k, Maps.has (gD xs k) (.int .i64 m) = decide (idxL xs k m ≠ [])
  | 0 => by simp [gD, idxL, Maps.has]
  | k + 1 => by
    by_cases h : ampV xs k = m
    · rw [idxL_yes h]
      subst h
      rw [gD, has_put_same (gD_map xs k) (keyL _)]
      simp
    · rw [gD, has_put_other (int_ne (fun e => h e.symm)), idxL_no h]
      exact gD_has xs m k
theorem gD_at (xs : List St) (m : Int) : ∀ k, (gD xs k).atKey (.int .i64 m) .nil = if idxL xs k m = [] then .nil else .slice (lits .i64 (idxL xs k m)) []
  | 0 => by simp [gD, idxL, DataW.atKey]
  | k + 1 => by
    by_cases h : ampV xs k = m
    · rw [if_neg (by rw [idxL_yes h]; simp)]
      subst h
      rw [gD, atKey_put_same (gD_map xs k) (keyL _)]
    · rw [gD, atKey_put_other (int_ne (fun e => h e.symm)), idxL_no h]
      exact gD_at xs m k
theorem lits_inj {zs ys : List Int} (h : (lits .i64 zs : List (DataW Unit)) = lits .i64 ys) : zs = ys := by
  unfold lits at h
  exact (List.map_inj_right (fun a b hab => by simpa using hab)).1 h
theorem gD_row {xs : List St} {k B e : Nat} {m : Int} {w : World} {v : Value} {zs : List Int} (hat : (gD xs k).atKey (.int .i64 m) .nil = rowDatum .i64 v zs) (ho : w.ownsInts B e .i64 v zs) : zs = idxL xs k m := by
  rw [gD_at] at hat
  rcases ho.datum (H := Unit) with ⟨h1, rfl⟩ | h1
  · rw [h1] at hat
    split at hat
    · rename_i h; exact h.symm
    · cases hat
  · rw [h1] at hat
    split at hat
    · cases hat
    · simp only [DataW.slice.injEq, and_true] at hat
      exact (lits_inj hat).symm
/-- the indices whose range is t or greater, in the answer's order -/
def ordL (xs : List St) (n : Nat) (t : Int) : List Int := ((byL (ampV xs) n).filter fun j => decide (t ≤ ampV xs j)).map fun (j : Nat) => (j : Int)
theorem ordL_len (xs : List St) (n : Nat) (t : Int) : (ordL xs n t).length ≤ n := by
  simp only [ordL, List.length_map]
  exact Nat.le_trans (List.length_filter_le _ _) (by rw [byL_len]; exact Nat.le_refl _)
theorem ordL_step {xs : List St} {n : Nat} {m t : Int} (hmt : m < t) (hno : ∀ j, j < n → ampV xs j ≤ m ∨ t ≤ ampV xs j) : ordL xs n m = ordL xs n t ++ idxL xs n m := by
  simp only [ordL, idxL, ← List.map_append]
  rw [byL_step hmt hno]
theorem ordL_all {xs : List St} {n : Nat} {t : Int} (h : ∀ j, j < n → t ≤ ampV xs j) : ordL xs n t = ampL xs n := by
  simp only [ordL, ampL]
  rw [List.filter_eq_self.2 (fun j hj => by simpa using h j ((byL_mem _ _ _).1 hj))]
theorem ordL_none {xs : List St} {n : Nat} {t : Int} (h : ∀ j, j < n → ampV xs j < t) : ordL xs n t = [] := by
  simp only [ordL, List.map_eq_nil_iff, List.filter_eq_nil_iff]
  intro j hj
  have := h j ((byL_mem _ _ _).1 hj)
  simp; omega
theorem mxTo_spec {xs : List Int} : ∀ k, k ≤ xs.length → 0 < xs.length → mxTo xs k ∈ xs ∧ ∀ j, j < k → xs[j]?.getD 0 ≤ mxTo xs k
  | 0, _, h0 => ⟨by simp [mxTo, h0], fun j hj => absurd hj (by omega)⟩
  | k + 1, hk, h0 => by
    obtain ⟨h1, h2⟩ := mxTo_spec k (by omega) h0
    simp only [mxTo]
    split
    · rename_i hlt
      refine ⟨by simp [show k < xs.length by omega], fun j hj => ?_⟩
      by_cases e : j = k
      · subst e; exact Int.le_refl _
      · have := h2 j (by omega); omega
    · rename_i hlt
      refine ⟨h1, fun j hj => ?_⟩
      by_cases e : j = k
      · subst e; omega
      · exact h2 j (by omega)
theorem mxTo_max {xs : List Int} (h0 : 0 < xs.length) : mxTo xs xs.length ∈ xs ∧ ∀ x ∈ xs, x ≤ mxTo xs xs.length := by
  obtain ⟨h1, h2⟩ := mxTo_spec (xs := xs) xs.length (Nat.le_refl _) h0
  refine ⟨h1, fun x hx => ?_⟩
  obtain ⟨j, hj, rfl⟩ := List.getElem_of_mem hx
  have := h2 j hj
  simpa [hj] using this
theorem own_lst {w : World} {B T n : Nat} {v : Value} {xs : List Int} (h : w.ownsRow B T 1 v n (xs.map (Value.int .i64))) (hn : xs.length = n) : ∃ a c, v = .slice a n c ∧ Lst w a n xs := by
  rcases h.2 with ⟨hv, h0⟩ | ⟨g, cap, cur, hv, _⟩
  · exact ⟨none, 0, by rw [hv, h0], ⟨hn, fun i hi => absurd hi (by omega)⟩⟩
  · subst hv
    exact ⟨some ⟨g, 0, none⟩, cap, rfl, Lst.of_own h⟩
theorem keys_len {D : DataW Unit} (h : IsMap D) : (intKeys D).length = Maps.size D := by
  obtain ⟨es, rfl⟩ := h
  simp [intKeys, Maps.size]
theorem size_zero {D : DataW Unit} (h : IsMap D) (h0 : Maps.size D = 0) (k : Lit) : Maps.has D k = false := by
  obtain ⟨es, rfl⟩ := h
  have : es = [] := List.length_eq_zero_iff.1 h0
  subst this
  rfl
theorem groups_map {H : Type} {P : Program} {k : TypeId} {w : World} {base : Nat} {e : TypeId} {q : IntKind} {b n : Nat} {D : DataW H} (h : w.ownsGroups P k base e q b n D) : w.ownsMap P k (rowElem w base e q) b n D := by
  obtain ⟨es, clock, hb, F, hs, hD, _⟩ := h
  exact ⟨es, clock, hb, F, hs, hD⟩
def lenOf : Value → Nat
  | .slice _ n _ => n
  | _ => 0
theorem lawA : Keyed Tryz.prog 2 := int_keyed Tryz.underlying2
theorem keyA {x : Int} (h1 : -9223372036854775808 ≤ x) (h2 : x ≤ 9223372036854775807) : keyOf Tryz.prog 2 (.int .i64 x) = some (.int .i64 x) := keyOf_int_mk Tryz.underlying2 (WalkArith.wf_i64 (by omega))
theorem groups_at_far {H : Type} {P : Program} {k : TypeId} {w : World} {base : Nat} {e : TypeId} {q : IntKind} {b n : Nat} {D : DataW H} {t E : TypeId} {key : Value} {kl : Lit} {No : Nat → Prop} (h : w.ownsGroups P k base e q b n D) (hs : w.Shuns b No) (K : Keyed P k) (ht : P.underlying t = some (.map k E)) (hz : (zeroValue E).run P w = .ok (.slice none 0 0) w) (hn : n < maxLen) (hkey : keyOf P k key = some kl) :
    ∃ v zs, (Instr.lookup t (.map (some b)) key false).run P w = .ok v w ∧ D.atKey kl .nil = rowDatum q v zs ∧ w.ownsInts base e q v zs ∧ zs.length ≤ n ∧ w.groupBack P t k base e q b n D key kl v ∧ ∀ g, v.ownBlock = some g → ¬ No g := by
  obtain ⟨v, zs, hrun, hat, hoi, hzl, hback⟩ := h.at K ht hz hn hkey
  refine ⟨v, zs, hrun, hat, hoi, hzl, hback, ?_⟩
  obtain ⟨es, clock, hb, F, _⟩ := h
  rcases Maps.fit_look false K ht hz hb F hkey with ⟨hrun', _, _⟩ | ⟨e0, y, hm0, _, hrun', _, _, _⟩
  · rw [hrun] at hrun'
    obtain rfl : v = .slice none 0 0 := by simpa using hrun'
    intro g hg'
    cases hg'
  · rw [hrun] at hrun'
    obtain rfl : v = e0.val := by simpa using hrun'
    exact fun g hg' => hs es clock hb e0 hm0 g hg'
theorem zeroSl (w : World) : (zeroValue 34).run Tryz.prog w = .ok (.slice none 0 0) w := by kernel_rfl
set_option maxRecDepth 100000 in
set_option maxHeartbeats 8000000 in
theorem iByAmp_any (a : Option Addr) (n c : Nat) (xs : List St) (w : World) (h : StL w a n xs) (hn : n ≤ 1048576) :
    Calls Tryz.prog 12 #[.slice a n c] w fun e w' => ChosenI w.heap.size (okS xs) 1 (ampL xs n) w' e ∧ Below w.heap.size w w' := by
  have HL := Lib.hid h.1
  have hmm := @run_makeMap Tryz.prog
  obtain ⟨i0, hi, hz0, hz1, hz2⟩ := info_parts A_info
  cases hok : okS xs
  · go_enter Tryz.func12, Tryz.ntmps12
    go_wp2_with fail
    refine (iValidStars_any a n c xs w h hn).mono ?_
    rintro e w2 ⟨rfl, b2⟩
    rw [hok]
    go_wp2
    go_ret2
    exact ⟨.inr ⟨rfl, rfl⟩, b2⟩
  obtain ⟨h60, hall⟩ := okS_parts HL.out hok
  have HST : Hid (∀ k, k < n → starB (xs[k]?.getD st0) = true) := Lib.hid (fun k hk => by
    have := hall k hk
    simp only [okAt, Bool.and_eq_true] at this
    exact this.1)
  clear hall
  go_enter Tryz.func12, Tryz.ntmps12
  go_wp2_with fail
  refine (iValidStars_any a n c xs w h hn).mono ?_
  rintro e w2 ⟨rfl, b2⟩
  rw [hok]
  have hl2 := h.mono b2
  have z2 := b2.size
  go_wp2
  go_loopw [15] (fun i wr => ∃ k : Nat, k ≤ n ∧ i = .int .i64 k ∧ wr.ownsGroups Tryz.prog 2 (w2.heap.size + 1) 2 .i64 w2.heap.size k (gD xs k) ∧ Below w2.heap.size w2 wr ∧ w2.heap.size + 1 ≤ wr.heap.size) (fun i _ => n - (Go.RowKit.intOf i).toNat)
  case atStart => exact ⟨0, Nat.zero_le _, rfl, World.ownsGroups_made _ _ _ _ _, (Below.refl _ _).alloc (Nat.le_refl _) _, by simp⟩
  case round =>
    obtain ⟨k, hk, rfl, hown, hB, hws⟩ := hrel
    by_cases hlt : k < n
    · obtain ⟨b1, o1, rfl, hc⟩ := hl2.2 k hlt
      have hst := HST.out k hlt
      obtain ⟨⟨nx, x1, x2, x3, x4⟩, hx⟩ : ∃ x, xs[k]?.getD st0 = x := ⟨_, rfl⟩
      rw [hx] at hc hst
      have HA : Hid (ampV xs k = x4 - x3) := Lib.hid (by rw [ampV, hx])
      obtain ⟨-, -, -, -, -, s1, s2, s3⟩ := star_bd hst
      obtain ⟨p, p0, p1, p2, p3, p4⟩ := (hc.mono hB).parts
      clear hx hc
      have hkk : (k : Int) < (n : Int) := by omega
      have hkey := keyA (x := x4 - x3) (by omega) (by omega)
      have hbx := StC.fresh wr 27 nx x1 x2 x3 x4
      have hB3 : Below w2.heap.size w2 (wr.alloc (.cells #[.string nx, .int .i64 x1, .int .i64 x2, .int .i64 x3, .int .i64 x4] 27)) := hB.alloc hB.size _
      have hg3 : wr.grownBy (wr.alloc (.cells #[.string nx, .int .i64 x1, .int .i64 x2, .int .i64 x3, .int .i64 x4] 27)) none := World.grownBy_alloc _ _ _
      have hsh3 := ((show wr.Shuns w2.heap.size (fun _ => False) from fun _ _ _ _ _ _ _ h => h).reno (No' := fun g => wr.heap.size ≤ g) hown (fun g hg => .inr hg)).kept hg3 (by omega) (by simp)
      have hown3 := hown.kept hg3 (by simp) (hown.rowsAbove (fun j e => by cases e))
      have hws3 : w2.heap.size + 1 ≤ (wr.alloc (.cells #[.string nx, .int .i64 x1, .int .i64 x2, .int .i64 x3, .int .i64 x4] 27)).heap.size := by simp; omega
      go_wp2_with fail
      generalize (wr.alloc (.cells #[.string nx, .int .i64 x1, .int .i64 x2, .int .i64 x3, .int .i64 x4] 27)) = w3 at hbx hB3 hg3 hown3 hws3 hsh3 ⊢
      have hbl3 : w2.heap.size < w3.heap.size := by omega
      clear hown hB
      obtain ⟨qbl, q0, q1, q2, q3, q4⟩ := hbx.parts
      rw [Nat.zero_add] at q1 q2 q3 q4
      have tok1 : True := trivial
      go_region_held3 (fun W' => W'.cell? ⟨wr.heap.size, 0, none⟩ = some (.string nx) ∧ W'.cell? ⟨wr.heap.size, 1, none⟩ = some (.int .i64 x1) ∧ W'.cell? ⟨wr.heap.size, 2, none⟩ = some (.int .i64 x2) ∧ W'.cell? ⟨wr.heap.size, 3, none⟩ = some (.int .i64 x3) ∧ W'.cell? ⟨wr.heap.size, 4, none⟩ = some (.int .i64 x4)) (refine ⟨?_, ?_, ?_, ?_, ?_⟩ <;> first | assumption | exact ((show Below w3.heap.size w3 _ by (repeat (first | assumption | exact Below.refl _ _ | refine belowDN ?_ _ | refine Below.drew ?_ | refine Below.setCell ?_ (by first | omega | (simp <;> omega)) _ | refine Below.alloc ?_ (by first | omega | (simp <;> omega)) _ | refine belowCall ?_ (by assumption)))).cell (p := ⟨wr.heap.size, 0, none⟩) qbl).trans q0 | exact ((show Below w3.heap.size w3 _ by (repeat (first | assumption | exact Below.refl _ _ | refine belowDN ?_ _ | refine Below.drew ?_ | refine Below.setCell ?_ (by first | omega | (simp <;> omega)) _ | refine Below.alloc ?_ (by first | omega | (simp <;> omega)) _ | refine belowCall ?_ (by assumption)))).cell (p := ⟨wr.heap.size, 1, none⟩) qbl).trans q1 | exact ((show Below w3.heap.size w3 _ by (repeat (first | assumption | exact Below.refl _ _ | refine belowDN ?_ _ | refine Below.drew ?_ | refine Below.setCell ?_ (by first | omega | (simp <;> omega)) _ | refine Below.alloc ?_ (by first | omega | (simp <;> omega)) _ | refine belowCall ?_ (by assumption)))).cell (p := ⟨wr.heap.size, 2, none⟩) qbl).trans q2 | exact ((show Below w3.heap.size w3 _ by (repeat (first | assumption | exact Below.refl _ _ | refine belowDN ?_ _ | refine Below.drew ?_ | refine Below.setCell ?_ (by first | omega | (simp <;> omega)) _ | refine Below.alloc ?_ (by first | omega | (simp <;> omega)) _ | refine belowCall ?_ (by assumption)))).cell (p := ⟨wr.heap.size, 3, none⟩) qbl).trans q3 | exact ((show Below w3.heap.size w3 _ by (repeat (first | assumption | exact Below.refl _ _ | refine belowDN ?_ _ | refine Below.drew ?_ | refine Below.setCell ?_ (by first | omega | (simp <;> omega)) _ | refine Below.alloc ?_ (by first | omega | (simp <;> omega)) _ | refine belowCall ?_ (by assumption)))).cell (p := ⟨wr.heap.size, 4, none⟩) qbl).trans q4 ) (first | (have _t := tok1; go_at_call 34; refine (amp_any nx x1 x2 x3 x4 _ hst).mono ?_; rintro e w4 ⟨rfl, hb4⟩; clear tok1; have y4 := hb4.size; (try simp at y4); have hB4 : Below w3.heap.size w3 w4 := belowCall (by (repeat (first | assumption | exact Below.refl _ _ | refine belowDN ?_ _ | refine Below.drew ?_ | refine Below.setCell ?_ (by first | omega | (simp <;> omega)) _ | refine Below.alloc ?_ (by first | omega | (simp <;> omega)) _ | refine belowCall ?_ (by assumption)))) hb4; have z34 := hB4.size) | (go_at_call 34; refine (amp_any nx x1 x2 x3 x4 _ hst).mono ?_; rintro e w5 ⟨rfl, hb5⟩; have hB5 : Below w3.heap.size w3 w5 := belowCall (by (repeat (first | assumption | exact Below.refl _ _ | refine belowDN ?_ _ | refine Below.drew ?_ | refine Below.setCell ?_ (by first | omega | (simp <;> omega)) _ | refine Below.alloc ?_ (by first | omega | (simp <;> omega)) _ | refine belowCall ?_ (by assumption)))) hb5; have z35 := hB5.size; have ho5 := hown3.kept (grown_of_below hB5) (by simp) (hown3.rowsAbove (fun j e => by cases e)); have hs5 := hsh3.kept (grown_of_below hB5) hbl3 (by simp); obtain ⟨v, zs, hrun, hat, hoi, hzl, hback, hfar⟩ := groups_at_far ho5 hs5 lawA Tryz.underlying60 (zeroSl _) (by unfold maxLen; omega) hkey; have ho6 := ho5.kept (World.grownBy_alloc w5 (.cells #[.int .i64 (k : Nat)] 2) none) (by simp) (ho5.rowsAbove (fun j e => by cases e)); obtain ⟨u, ys, hrun', hat', hoi', hyl, hback', hfar'⟩ := groups_at_far ho6 (hs5.kept (World.grownBy_alloc w5 (.cells #[.int .i64 (k : Nat)] 2) none) (by omega) (by simp)) lawA Tryz.underlying60 (zeroSl _) (by unfold maxLen; omega) hkey) | (refine Go.step_append_lies _ rfl _ _ 34 rfl (w2.heap.size + 1) 2 i0 (.int .i64 0) 1 8 Tryz.underlying34 hi hz0 hz1 hz2 rfl (by decide) v zs.length (zs.map (Value.int .i64)) rfl (hoi.1.alloc _) ⟨w5.heap.size, 0, none⟩ 1 1 [.int .i64 (k : Nat)] rfl rfl (by intro j y hj; match j, hj with | 0, hj => (simp at hj; subst hj; rw [Go.WideShapes.add_plain]; first | exact cellNew (by first | rfl | (simp; done)) | (rw [hb5.cell (by first | (simp; done) | (simp; omega))]; exact cellNew (by first | rfl | (simp; done))) | (rw [hb5.cell (by first | (simp; done) | (simp; omega)), hb4.cell (by first | (simp; done) | (simp; omega))]; exact cellNew (by first | rfl | (simp; done)))) | (j + 1), hj => simp at hj) (by intro u hu; simp at hu; subst hu; rfl) (by decide) (by unfold maxLen; omega) (by omega) (by first | (simp; omega) | omega) _ rfl ?_; intro g6 c6 w6 hown6 hg6 hgg hlt6; have hzs := Lib.hid (gD_row (m := x4 - x3) hat hoi); have hoi6 := hoi.appended (x := (k : Nat)) hown6 (WalkArith.wf_i64 (by omega)); obtain ⟨w7, hrun7, hown7, hgrow7⟩ := hback w6 _ _ ((World.grownBy_alloc _ _ _).trans hg6) hoi6 (by simp; omega) (hgg.imp (fun h => h.symm) (fun h => ⟨g6, rfl, by rw [h]; first | exact Nat.le_refl _ | (simp; done) | (simp; omega)⟩)); have hB7 : Below w2.heap.size w2 w7 := ((belowCall hB3 hB5).groups hoi ((World.grownBy_alloc _ _ _).trans hg6) hgrow7 (by first | (simp; omega) | omega) (Nat.le_succ _) (Nat.le_refl _)); rw [hoi6.datum_pos (by simp), hzs.out] at hown7; have c60 := hg6.cell (a := ⟨wr.heap.size, 0, none⟩) (v := .string nx) (by first | assumption | exact ((show Below w3.heap.size w3 _ by (repeat (first | assumption | exact Below.refl _ _ | refine belowDN ?_ _ | refine Below.drew ?_ | refine Below.setCell ?_ (by first | omega | (simp <;> omega)) _ | refine Below.alloc ?_ (by first | omega | (simp <;> omega)) _ | refine belowCall ?_ (by assumption)))).cell (p := ⟨wr.heap.size, 0, none⟩) qbl).trans q0) (fun e => hfar _ e.symm (Nat.le_refl _)); have c70 := hgrow7.cell c60 (by simp; omega); have c61 := hg6.cell (a := ⟨wr.heap.size, 1, none⟩) (v := .int .i64 x1) (by first | assumption | exact ((show Below w3.heap.size w3 _ by (repeat (first | assumption | exact Below.refl _ _ | refine belowDN ?_ _ | refine Below.drew ?_ | refine Below.setCell ?_ (by first | omega | (simp <;> omega)) _ | refine Below.alloc ?_ (by first | omega | (simp <;> omega)) _ | refine belowCall ?_ (by assumption)))).cell (p := ⟨wr.heap.size, 1, none⟩) qbl).trans q1) (fun e => hfar _ e.symm (Nat.le_refl _)); have c71 := hgrow7.cell c61 (by simp; omega); have c62 := hg6.cell (a := ⟨wr.heap.size, 2, none⟩) (v := .int .i64 x2) (by first | assumption | exact ((show Below w3.heap.size w3 _ by (repeat (first | assumption | exact Below.refl _ _ | refine belowDN ?_ _ | refine Below.drew ?_ | refine Below.setCell ?_ (by first | omega | (simp <;> omega)) _ | refine Below.alloc ?_ (by first | omega | (simp <;> omega)) _ | refine belowCall ?_ (by assumption)))).cell (p := ⟨wr.heap.size, 2, none⟩) qbl).trans q2) (fun e => hfar _ e.symm (Nat.le_refl _)); have c72 := hgrow7.cell c62 (by simp; omega); have c63 := hg6.cell (a := ⟨wr.heap.size, 3, none⟩) (v := .int .i64 x3) (by first | assumption | exact ((show Below w3.heap.size w3 _ by (repeat (first | assumption | exact Below.refl _ _ | refine belowDN ?_ _ | refine Below.drew ?_ | refine Below.setCell ?_ (by first | omega | (simp <;> omega)) _ | refine Below.alloc ?_ (by first | omega | (simp <;> omega)) _ | refine belowCall ?_ (by assumption)))).cell (p := ⟨wr.heap.size, 3, none⟩) qbl).trans q3) (fun e => hfar _ e.symm (Nat.le_refl _)); have c73 := hgrow7.cell c63 (by simp; omega); have c64 := hg6.cell (a := ⟨wr.heap.size, 4, none⟩) (v := .int .i64 x4) (by first | assumption | exact ((show Below w3.heap.size w3 _ by (repeat (first | assumption | exact Below.refl _ _ | refine belowDN ?_ _ | refine Below.drew ?_ | refine Below.setCell ?_ (by first | omega | (simp <;> omega)) _ | refine Below.alloc ?_ (by first | omega | (simp <;> omega)) _ | refine belowCall ?_ (by assumption)))).cell (p := ⟨wr.heap.size, 4, none⟩) qbl).trans q4) (fun e => hfar _ e.symm (Nat.le_refl _)); have c74 := hgrow7.cell c64 (by simp; omega); have hz7 : w2.heap.size + 1 ≤ w7.heap.size := Nat.le_trans (Nat.le_of_lt (Nat.lt_of_le_of_lt (hown6.lt g6 rfl).1 hlt6)) hgrow7.size; clear hback hback' hat hat' hoi hoi' ho5 ho6 hoi6 hown6 hg6 hgg) | (refine Go.step_append_lies _ rfl _ _ 34 rfl (w2.heap.size + 1) 2 i0 (.int .i64 0) 1 8 Tryz.underlying34 hi hz0 hz1 hz2 rfl (by decide) u ys.length (ys.map (Value.int .i64)) rfl hoi'.1 ⟨w5.heap.size, 0, none⟩ 1 1 [.int .i64 (k : Nat)] rfl rfl (by intro j y hj; match j, hj with | 0, hj => (simp at hj; subst hj; rw [Go.WideShapes.add_plain]; first | exact cellNew (by first | rfl | (simp; done)) | (rw [hb5.cell (by first | (simp; done) | (simp; omega))]; exact cellNew (by first | rfl | (simp; done))) | (rw [hb5.cell (by first | (simp; done) | (simp; omega)), hb4.cell (by first | (simp; done) | (simp; omega))]; exact cellNew (by first | rfl | (simp; done)))) | (j + 1), hj => simp at hj) (by intro u hu; simp at hu; subst hu; rfl) (by decide) (by unfold maxLen; omega) (by omega) (by first | (simp; omega) | omega) _ rfl ?_; intro g6 c6 w6 hown6 hg6 hgg hlt6; have hzs := Lib.hid (gD_row (m := x4 - x3) hat' hoi'); have hoi6 := hoi'.appended (x := (k : Nat)) hown6 (WalkArith.wf_i64 (by omega)); obtain ⟨w7, hrun7, hown7, hgrow7⟩ := hback' w6 _ _ hg6 hoi6 (by simp; omega) (hgg.imp (fun h => h.symm) (fun h => ⟨g6, rfl, by rw [h]; first | exact Nat.le_refl _ | (simp; done) | (simp; omega)⟩)); have hB7 : Below w2.heap.size w2 w7 := ((belowCall hB3 (hB5.alloc z35 _)).groups hoi' hg6 hgrow7 (by first | (simp; omega) | omega) (Nat.le_succ _) (Nat.le_refl _)); rw [hoi6.datum_pos (by simp), hzs.out] at hown7; have c60 := hg6.cell (a := ⟨wr.heap.size, 0, none⟩) (v := .string nx) (by first | assumption | exact ((show Below w3.heap.size w3 _ by (repeat (first | assumption | exact Below.refl _ _ | refine belowDN ?_ _ | refine Below.drew ?_ | refine Below.setCell ?_ (by first | omega | (simp <;> omega)) _ | refine Below.alloc ?_ (by first | omega | (simp <;> omega)) _ | refine belowCall ?_ (by assumption)))).cell (p := ⟨wr.heap.size, 0, none⟩) qbl).trans q0) (fun e => hfar' _ e.symm (Nat.le_refl _)); have c70 := hgrow7.cell c60 (by simp; omega); have c61 := hg6.cell (a := ⟨wr.heap.size, 1, none⟩) (v := .int .i64 x1) (by first | assumption | exact ((show Below w3.heap.size w3 _ by (repeat (first | assumption | exact Below.refl _ _ | refine belowDN ?_ _ | refine Below.drew ?_ | refine Below.setCell ?_ (by first | omega | (simp <;> omega)) _ | refine Below.alloc ?_ (by first | omega | (simp <;> omega)) _ | refine belowCall ?_ (by assumption)))).cell (p := ⟨wr.heap.size, 1, none⟩) qbl).trans q1) (fun e => hfar' _ e.symm (Nat.le_refl _)); have c71 := hgrow7.cell c61 (by simp; omega); have c62 := hg6.cell (a := ⟨wr.heap.size, 2, none⟩) (v := .int .i64 x2) (by first | assumption | exact ((show Below w3.heap.size w3 _ by (repeat (first | assumption | exact Below.refl _ _ | refine belowDN ?_ _ | refine Below.drew ?_ | refine Below.setCell ?_ (by first | omega | (simp <;> omega)) _ | refine Below.alloc ?_ (by first | omega | (simp <;> omega)) _ | refine belowCall ?_ (by assumption)))).cell (p := ⟨wr.heap.size, 2, none⟩) qbl).trans q2) (fun e => hfar' _ e.symm (Nat.le_refl _)); have c72 := hgrow7.cell c62 (by simp; omega); have c63 := hg6.cell (a := ⟨wr.heap.size, 3, none⟩) (v := .int .i64 x3) (by first | assumption | exact ((show Below w3.heap.size w3 _ by (repeat (first | assumption | exact Below.refl _ _ | refine belowDN ?_ _ | refine Below.drew ?_ | refine Below.setCell ?_ (by first | omega | (simp <;> omega)) _ | refine Below.alloc ?_ (by first | omega | (simp <;> omega)) _ | refine belowCall ?_ (by assumption)))).cell (p := ⟨wr.heap.size, 3, none⟩) qbl).trans q3) (fun e => hfar' _ e.symm (Nat.le_refl _)); have c73 := hgrow7.cell c63 (by simp; omega); have c64 := hg6.cell (a := ⟨wr.heap.size, 4, none⟩) (v := .int .i64 x4) (by first | assumption | exact ((show Below w3.heap.size w3 _ by (repeat (first | assumption | exact Below.refl _ _ | refine belowDN ?_ _ | refine Below.drew ?_ | refine Below.setCell ?_ (by first | omega | (simp <;> omega)) _ | refine Below.alloc ?_ (by first | omega | (simp <;> omega)) _ | refine belowCall ?_ (by assumption)))).cell (p := ⟨wr.heap.size, 4, none⟩) qbl).trans q4) (fun e => hfar' _ e.symm (Nat.le_refl _)); have c74 := hgrow7.cell c64 (by simp; omega); have hz7 : w2.heap.size + 1 ≤ w7.heap.size := Nat.le_trans (Nat.le_of_lt (Nat.lt_of_le_of_lt (hown6.lt g6 rfl).1 hlt6)) hgrow7.size; clear hback hback' hat hat' hoi hoi' ho5 ho6 hoi6 hown6 hg6 hgg) | (refine Go.step_append_lies _ rfl _ _ 34 rfl (w2.heap.size + 1) 2 i0 (.int .i64 0) 1 8 Tryz.underlying34 hi hz0 hz1 hz2 rfl (by decide) v zs.length (zs.map (Value.int .i64)) rfl hoi.1 ⟨w4.heap.size, 0, none⟩ 1 1 [.int .i64 (k : Nat)] rfl rfl (by intro j y hj; match j, hj with | 0, hj => (simp at hj; subst hj; rw [Go.WideShapes.add_plain]; first | exact cellNew (by first | rfl | (simp; done)) | (rw [hb5.cell (by first | (simp; done) | (simp; omega))]; exact cellNew (by first | rfl | (simp; done))) | (rw [hb5.cell (by first | (simp; done) | (simp; omega)), hb4.cell (by first | (simp; done) | (simp; omega))]; exact cellNew (by first | rfl | (simp; done)))) | (j + 1), hj => simp at hj) (by intro u hu; simp at hu; subst hu; rfl) (by decide) (by unfold maxLen; omega) (by omega) (by first | (simp; omega) | omega) _ rfl ?_; intro g6 c6 w6 hown6 hg6 hgg hlt6; have hzs := Lib.hid (gD_row (m := x4 - x3) hat hoi); have hoi6 := hoi.appended (x := (k : Nat)) hown6 (WalkArith.wf_i64 (by omega)); obtain ⟨w7, hrun7, hown7, hgrow7⟩ := hback w6 _ _ hg6 hoi6 (by simp; omega) (hgg.imp (fun h => h.symm) (fun h => ⟨g6, rfl, by rw [h]; first | exact Nat.le_refl _ | (simp; done) | (simp; omega)⟩)); have hB7 : Below w2.heap.size w2 w7 := ((belowCall hB3 hB5).groups hoi hg6 hgrow7 (by first | (simp; omega) | omega) (Nat.le_succ _) (Nat.le_refl _)); rw [hoi6.datum_pos (by simp), hzs.out] at hown7; have c60 := hg6.cell (a := ⟨wr.heap.size, 0, none⟩) (v := .string nx) (by first | assumption | exact ((show Below w3.heap.size w3 _ by (repeat (first | assumption | exact Below.refl _ _ | refine belowDN ?_ _ | refine Below.drew ?_ | refine Below.setCell ?_ (by first | omega | (simp <;> omega)) _ | refine Below.alloc ?_ (by first | omega | (simp <;> omega)) _ | refine belowCall ?_ (by assumption)))).cell (p := ⟨wr.heap.size, 0, none⟩) qbl).trans q0) (fun e => hfar _ e.symm (Nat.le_refl _)); have c70 := hgrow7.cell c60 (by simp; omega); have c61 := hg6.cell (a := ⟨wr.heap.size, 1, none⟩) (v := .int .i64 x1) (by first | assumption | exact ((show Below w3.heap.size w3 _ by (repeat (first | assumption | exact Below.refl _ _ | refine belowDN ?_ _ | refine Below.drew ?_ | refine Below.setCell ?_ (by first | omega | (simp <;> omega)) _ | refine Below.alloc ?_ (by first | omega | (simp <;> omega)) _ | refine belowCall ?_ (by assumption)))).cell (p := ⟨wr.heap.size, 1, none⟩) qbl).trans q1) (fun e => hfar _ e.symm (Nat.le_refl _)); have c71 := hgrow7.cell c61 (by simp; omega); have c62 := hg6.cell (a := ⟨wr.heap.size, 2, none⟩) (v := .int .i64 x2) (by first | assumption | exact ((show Below w3.heap.size w3 _ by (repeat (first | assumption | exact Below.refl _ _ | refine belowDN ?_ _ | refine Below.drew ?_ | refine Below.setCell ?_ (by first | omega | (simp <;> omega)) _ | refine Below.alloc ?_ (by first | omega | (simp <;> omega)) _ | refine belowCall ?_ (by assumption)))).cell (p := ⟨wr.heap.size, 2, none⟩) qbl).trans q2) (fun e => hfar _ e.symm (Nat.le_refl _)); have c72 := hgrow7.cell c62 (by simp; omega); have c63 := hg6.cell (a := ⟨wr.heap.size, 3, none⟩) (v := .int .i64 x3) (by first | assumption | exact ((show Below w3.heap.size w3 _ by (repeat (first | assumption | exact Below.refl _ _ | refine belowDN ?_ _ | refine Below.drew ?_ | refine Below.setCell ?_ (by first | omega | (simp <;> omega)) _ | refine Below.alloc ?_ (by first | omega | (simp <;> omega)) _ | refine belowCall ?_ (by assumption)))).cell (p := ⟨wr.heap.size, 3, none⟩) qbl).trans q3) (fun e => hfar _ e.symm (Nat.le_refl _)); have c73 := hgrow7.cell c63 (by simp; omega); have c64 := hg6.cell (a := ⟨wr.heap.size, 4, none⟩) (v := .int .i64 x4) (by first | assumption | exact ((show Below w3.heap.size w3 _ by (repeat (first | assumption | exact Below.refl _ _ | refine belowDN ?_ _ | refine Below.drew ?_ | refine Below.setCell ?_ (by first | omega | (simp <;> omega)) _ | refine Below.alloc ?_ (by first | omega | (simp <;> omega)) _ | refine belowCall ?_ (by assumption)))).cell (p := ⟨wr.heap.size, 4, none⟩) qbl).trans q4) (fun e => hfar _ e.symm (Nat.le_refl _)); have c74 := hgrow7.cell c64 (by simp; omega); have hz7 : w2.heap.size + 1 ≤ w7.heap.size := Nat.le_trans (Nat.le_of_lt (Nat.lt_of_le_of_lt (hown6.lt g6 rfl).1 hlt6)) hgrow7.size; clear hback hback' hat hat' hoi hoi' ho5 ho6 hoi6 hown6 hg6 hgg) | (refine Go.step_append_lies _ rfl _ _ 34 rfl (w2.heap.size + 1) 2 i0 (.int .i64 0) 1 8 Tryz.underlying34 hi hz0 hz1 hz2 rfl (by decide) v zs.length (zs.map (Value.int .i64)) rfl hoi.1 ⟨w3.heap.size, 0, none⟩ 1 1 [.int .i64 (k : Nat)] rfl rfl (by intro j y hj; match j, hj with | 0, hj => (simp at hj; subst hj; rw [Go.WideShapes.add_plain]; first | exact cellNew (by first | rfl | (simp; done)) | (rw [hb5.cell (by first | (simp; done) | (simp; omega))]; exact cellNew (by first | rfl | (simp; done))) | (rw [hb5.cell (by first | (simp; done) | (simp; omega)), hb4.cell (by first | (simp; done) | (simp; omega))]; exact cellNew (by first | rfl | (simp; done)))) | (j + 1), hj => simp at hj) (by intro u hu; simp at hu; subst hu; rfl) (by decide) (by unfold maxLen; omega) (by omega) (by first | (simp; omega) | omega) _ rfl ?_; intro g6 c6 w6 hown6 hg6 hgg hlt6; have hzs := Lib.hid (gD_row (m := x4 - x3) hat hoi); have hoi6 := hoi.appended (x := (k : Nat)) hown6 (WalkArith.wf_i64 (by omega)); obtain ⟨w7, hrun7, hown7, hgrow7⟩ := hback w6 _ _ hg6 hoi6 (by simp; omega) (hgg.imp (fun h => h.symm) (fun h => ⟨g6, rfl, by rw [h]; first | exact Nat.le_refl _ | (simp; done) | (simp; omega)⟩)); have hB7 : Below w2.heap.size w2 w7 := ((belowCall hB3 hB5).groups hoi hg6 hgrow7 (by first | (simp; omega) | omega) (Nat.le_succ _) (Nat.le_refl _)); rw [hoi6.datum_pos (by simp), hzs.out] at hown7; have c60 := hg6.cell (a := ⟨wr.heap.size, 0, none⟩) (v := .string nx) (by first | assumption | exact ((show Below w3.heap.size w3 _ by (repeat (first | assumption | exact Below.refl _ _ | refine belowDN ?_ _ | refine Below.drew ?_ | refine Below.setCell ?_ (by first | omega | (simp <;> omega)) _ | refine Below.alloc ?_ (by first | omega | (simp <;> omega)) _ | refine belowCall ?_ (by assumption)))).cell (p := ⟨wr.heap.size, 0, none⟩) qbl).trans q0) (fun e => hfar _ e.symm (Nat.le_refl _)); have c70 := hgrow7.cell c60 (by simp; omega); have c61 := hg6.cell (a := ⟨wr.heap.size, 1, none⟩) (v := .int .i64 x1) (by first | assumption | exact ((show Below w3.heap.size w3 _ by (repeat (first | assumption | exact Below.refl _ _ | refine belowDN ?_ _ | refine Below.drew ?_ | refine Below.setCell ?_ (by first | omega | (simp <;> omega)) _ | refine Below.alloc ?_ (by first | omega | (simp <;> omega)) _ | refine belowCall ?_ (by assumption)))).cell (p := ⟨wr.heap.size, 1, none⟩) qbl).trans q1) (fun e => hfar _ e.symm (Nat.le_refl _)); have c71 := hgrow7.cell c61 (by simp; omega); have c62 := hg6.cell (a := ⟨wr.heap.size, 2, none⟩) (v := .int .i64 x2) (by first | assumption | exact ((show Below w3.heap.size w3 _ by (repeat (first | assumption | exact Below.refl _ _ | refine belowDN ?_ _ | refine Below.drew ?_ | refine Below.setCell ?_ (by first | omega | (simp <;> omega)) _ | refine Below.alloc ?_ (by first | omega | (simp <;> omega)) _ | refine belowCall ?_ (by assumption)))).cell (p := ⟨wr.heap.size, 2, none⟩) qbl).trans q2) (fun e => hfar _ e.symm (Nat.le_refl _)); have c72 := hgrow7.cell c62 (by simp; omega); have c63 := hg6.cell (a := ⟨wr.heap.size, 3, none⟩) (v := .int .i64 x3) (by first | assumption | exact ((show Below w3.heap.size w3 _ by (repeat (first | assumption | exact Below.refl _ _ | refine belowDN ?_ _ | refine Below.drew ?_ | refine Below.setCell ?_ (by first | omega | (simp <;> omega)) _ | refine Below.alloc ?_ (by first | omega | (simp <;> omega)) _ | refine belowCall ?_ (by assumption)))).cell (p := ⟨wr.heap.size, 3, none⟩) qbl).trans q3) (fun e => hfar _ e.symm (Nat.le_refl _)); have c73 := hgrow7.cell c63 (by simp; omega); have c64 := hg6.cell (a := ⟨wr.heap.size, 4, none⟩) (v := .int .i64 x4) (by first | assumption | exact ((show Below w3.heap.size w3 _ by (repeat (first | assumption | exact Below.refl _ _ | refine belowDN ?_ _ | refine Below.drew ?_ | refine Below.setCell ?_ (by first | omega | (simp <;> omega)) _ | refine Below.alloc ?_ (by first | omega | (simp <;> omega)) _ | refine belowCall ?_ (by assumption)))).cell (p := ⟨wr.heap.size, 4, none⟩) qbl).trans q4) (fun e => hfar _ e.symm (Nat.le_refl _)); have c74 := hgrow7.cell c64 (by simp; omega); have hz7 : w2.heap.size + 1 ≤ w7.heap.size := Nat.le_trans (Nat.le_of_lt (Nat.lt_of_le_of_lt (hown6.lt g6 rfl).1 hlt6)) hgrow7.size; clear hback hback' hat hat' hoi hoi' ho5 ho6 hoi6 hown6 hg6 hgg))
      all_goals
        go_wp2
        go_roundw
        case rel => exact ⟨k + 1, by omega, by go_num, by rw [gD, idxL_yes rfl, HA.out]; exact hown7, hB7, hz7⟩
        case measure => simp [Go.RowKit.intOf]; omega
    · obtain rfl : n = k := by omega
      have hB1 := belowCall b2 hB
      have hmp := groups_map hown
      have hc1 := hmp.lt
      have hwr := hB1.size
      clear hown hB
      have HB1 := Lib.hid hB1
      clear hB1
      obtain ⟨w1, rfl⟩ : ∃ w1, w1 = wr := ⟨wr, rfl⟩
      go_wp2_with (at_make; refine wpList_make_own _ rfl _ _ 34 rfl w1.heap.size 2 i0 _ 1 Tryz.underlying34 hi hz0 hz1 .i64 .i64 _ n rfl rfl rfl (by rw [hz2]; omega) (by unfold maxLen; omega) (Nat.le_refl _) ?_; intro w6 hord hg6)
      have hB6 : Below w.heap.size w w6 := HB1.out.grown hg6 hwr (fun j e => by cases e)
      have HAM : Hid (∀ j, j < n → 0 ≤ ampV xs j ∧ ampV xs j ≤ 22000) := Lib.hid (fun j hj => by
        have hst := HST.out j hj
        obtain ⟨⟨nx, x1, x2, x3, x4⟩, hx⟩ : ∃ x, xs[j]?.getD st0 = x := ⟨_, rfl⟩
        rw [hx] at hst
        obtain ⟨-, -, -, -, -, s1, s2, s3⟩ := star_bd hst
        rw [ampV, hx]
        show 0 ≤ x4 - x3 ∧ x4 - x3 ≤ 22000
        omega)
      go_loopw [7, 8] (fun o _ wr => ∃ (t : Int) (D : DataW Unit) (g c' : Nat), o = .slice (some ⟨g, 0, none⟩) (ordL xs n t).length c' ∧ wr.ownsRow w1.heap.size 2 1 o (ordL xs n t).length ((ordL xs n t).map (Value.int .i64)) ∧ wr.ownsMap Tryz.prog 2 (rowElem w1 (w2.heap.size + 1) 2 .i64) w2.heap.size n D ∧ (∀ m, Maps.has D (.int .i64 m) = (decide (m < t) && Maps.has (gD xs n) (.int .i64 m))) ∧ (∀ m, m < t → D.atKey (.int .i64 m) .nil = (gD xs n).atKey (.int .i64 m) .nil) ∧ w1.grownBy wr (some w2.heap.size) ∧ Below w.heap.size w wr) (fun o _ _ => n - lenOf o)
      case atStart =>
        have h0 : ordL xs n 30000 = [] := ordL_none (fun j hj => by have := HAM.out j hj; omega)
        exact ⟨30000, gD xs n, w1.heap.size, n, by rw [h0]; rfl, by rw [h0]; exact hord, hmp.kept hg6 (by simp), fun m => by
          by_cases hm : m < 30000
          · simp [hm]
          · rw [decide_eq_false hm, Bool.false_and, gD_has]
            simp only [decide_eq_false_iff_not]
            intro h1
            obtain ⟨j, hj, e⟩ := idxL_ne.1 h1
            have := HAM.out j hj
            omega, fun m _ => rfl, grown_far (w := w1) (World.grownBy.refl _ _) hg6 (fun j e => by cases e), hB6⟩
      case round =>
        obtain ⟨t, D, g, c', rfl, hord, hmap, hhas, hat, hgl, hBl⟩ := hrel
        clear hg6 hB6
        have hsl := hmap.size_le
        have HHAS := Lib.hid hhas
        have HAT := Lib.hid hat
        clear hhas hat
        by_cases hsz : 0 < Maps.size D
        · have hsz' : (0 : Int) < (Maps.size D : Int) := by omega
          have hIM := hmap.isMap
          go_wp2_with (first | (at_len; refine wpList_len_own _ rfl _ 60 rfl 2 34 Tryz.underlying60 _ w2.heap.size n D rfl hmap ?_))
          refine (keys_any w2.heap.size wr).mono ?_
          rintro e w8 ⟨rfl, rfl⟩
          have hmap8 := hmap.alloc (.cells #[.map (some w2.heap.size)] 60)
          have hc8 : (wr.alloc (.cells #[.map (some w2.heap.size)] 60)).cell? ⟨wr.heap.size, 0, none⟩ = some (.map (some w2.heap.size)) := by rw [World.cell?_alloc_new]; rfl
          have hord8 := hord.alloc (.cells #[.map (some w2.heap.size)] 60)
          have hgl8 := grown_far hgl (World.grownBy_alloc wr (.cells #[.map (some w2.heap.size)] 60) none) (fun j e => by cases e)
          have hB8 := hBl.alloc hBl.size (.cells #[.map (some w2.heap.size)] 60)
          have hgs := hgl.size
          go_wp2_with fail
          refine (coll_any wr.heap.size w2.heap.size n D _ _ hc8 hmap8 (by omega)).mono ?_
          rintro e w9 ⟨v9, ss, rfl, hperm, hown9, hb9⟩
          have hlen : ss.length = Maps.size D := by rw [hperm.length_eq, keys_len hIM]
          obtain ⟨a9, c9, rfl, hL9⟩ := own_lst hown9 rfl
          have hmap9 := hmap8.kept (grown_of_below hb9) (by simp)
          have hord9 := hord8.kept (grown_of_below hb9) (.inr (by simp [Value.ownBlock]))
          have hgl9 := grown_far hgl8 (grown_of_below hb9) (fun j e => by cases e)
          have hB9 := belowCall hB8 hb9
          have hss1 : 1 ≤ ss.length := by omega
          have hss2 : ss.length ≤ 1048576 := by omega
          have HMX := Lib.hid (mxTo_max (xs := ss) hss1)
          have HKEYS := Lib.hid (fun x => (hperm.mem_iff (a := x)).trans (mem_keys hmap x))
          have HMAP9 := Lib.hid hmap9
          have HORD9 := Lib.hid hord9
          have HGL9 := Lib.hid hgl9
          clear hc8 hmap8 hord8 hgl8 hB8 hown9 hb9 hperm hlen hmap9 hord9 hgl9 hmap hord hgl hBl hsz hsz' hIM
          go_wp2_with fail
          refine (max_any a9 ss.length c9 ss w9 hL9 hss1 hss2).mono ?_
          rintro e w9' ⟨rfl, rfl⟩
          obtain ⟨m, hm⟩ : ∃ m, mxTo ss ss.length = m := ⟨_, rfl⟩
          have hmap9 := HMAP9.out
          have hord9 := HORD9.out
          have hgl9 := HGL9.out
          have hmx := HMX.out
          have hkeys := HKEYS.out
          clear HMX HKEYS HMAP9 HORD9 HGL9
          rw [hm] at hmx ⊢
          have hmD := (hkeys m).1 hmx.1
          have hle : ∀ x, Maps.has D (.int .i64 x) = true → x ≤ m := fun x hx => hmx.2 x ((hkeys x).2 hx)
          have hmt : m < t ∧ idxL xs n m ≠ [] := by
            rw [HHAS.out m, Bool.and_eq_true, decide_eq_true_eq, gD_has, decide_eq_true_eq] at hmD
            exact hmD
          obtain ⟨j0, hj0, ej0⟩ := idxL_ne.1 hmt.2
          have hmb := HAM.out j0 hj0
          rw [ej0] at hmb
          have hkey := keyA (x := m) (by omega) (by omega)
          obtain ⟨v, ps, hrun, hR⟩ := hmap9.lookup lawA Tryz.underlying60 (zeroSl _) (rowElem_mk (World.ownsInts_nil w1 (w2.heap.size + 1) 2 .i64)) hkey
          obtain ⟨zs, hoi, heq⟩ := rowElem_inv hR
          have hat' : (gD xs n).atKey (.int .i64 m) .nil = rowDatum .i64 v zs := by rw [← HAT.out m hmt.1]; exact (Prod.mk.inj heq).1
          have hzs := gD_row hat' hoi
          have hzl : zs.length ≤ n := by rw [hzs]; exact idxL_len _ _ _
          have hz0' : 0 < zs.length := List.length_pos_iff.2 (by rw [hzs]; exact hmt.2)
          rcases hoi.1.2 with ⟨rfl, h0⟩ | ⟨g2, c2, cur, rfl, hBg, _⟩
          · omega
          have hnews : ∀ (j : Nat) (u : Value), (zs.map (Value.int .i64))[j]? = some u → w9.cell? ((⟨g2, 0, none⟩ : Addr).add j) = some u := fun j u hj => hgl9.cell (hoi.1.cells (g := g2) rfl j u hj) (by rw [Go.WideShapes.add_plain]; simp; omega)
          have hgB := (hord9.lt g rfl).1
          have hz9 := hgl9.size
          have hneB : some w2.heap.size ≠ (Value.slice (some ⟨g, 0, none⟩) (ordL xs n t).length c').ownBlock := fun e => absurd (Option.some.inj (show some w2.heap.size = some g from e)) (by omega)
          have hol := ordL_len xs n t
          have hno : ∀ j, j < n → ampV xs j ≤ m ∨ t ≤ ampV xs j := fun j hj => by
            by_cases h1 : t ≤ ampV xs j
            · exact .inr h1
            · refine .inl (hle _ ?_)
              rw [HHAS.out, decide_eq_true (by omega), Bool.true_and, gD_has, decide_eq_true_eq]
              exact idxL_ne.2 ⟨j, hj, rfl⟩
          have HSTEP := Lib.hid (ordL_step hmt.1 hno)
          have HZS := Lib.hid hzs
          have HLE := Lib.hid hle
          have HMT := Lib.hid hmt
          have HBC := Lib.hid hmb
          clear hmx hkeys hmD hle hmt hmb hR heq hat' hzs hno ej0 hm hL9 hoi hss1 hss2
          go_wp2_with (first | (at_builtin; refine wpList_append_own _ rfl _ _ 34 rfl w1.heap.size 2 i0 (.int .i64 0) 1 8 Tryz.underlying34 hi hz0 hz1 hz2 rfl (by decide) _ _ _ rfl hord9 ⟨g2, 0, none⟩ zs.length c2 (zs.map (Value.int .i64)) rfl (by simp) hnews (ints_oneCell .i64 zs) (by unfold maxLen; omega) (by omega) (by omega) ?_; intro v' w10 hord10 hg10 hnil; have hmap10 := hmap9.kept hg10 hneB) | (at_delete; refine wpList_delete_own _ rfl _ _ 60 2 rfl 34 lawA Tryz.underlying60 _ w2.heap.size n D rfl hmap10 _ _ rfl hkey ?_; intro w11 hmap11 hturn11; go_frame))
          have hord11 := hord10.kept hturn11.grown (.inr (fun e => by have := (hord10.lt _ e).1; omega))
          have hB10 := hB9.grown hg10 hB9.size (fun j e => by have : g = j := Option.some.inj e; omega)
          have hB11 := hB10.grown hturn11.grown hB10.size (fun j e => by have : w2.heap.size = j := Option.some.inj e; omega)
          have hgl11 := World.grownBy.trans (grown_far hgl9 hg10 (fun j e => by have : g = j := Option.some.inj e; omega)) hturn11.grown
          have hN : ordL xs n m = ordL xs n t ++ zs := by rw [HSTEP.out, HZS.out]
          have hNl : (ordL xs n m).length = (ordL xs n t).length + zs.length := by rw [hN, List.length_append]
          have hNn := ordL_len xs n m
          have hHAS : ∀ m', Maps.has (D.del (.int .i64 m)) (.int .i64 m') = (decide (m' < m) && Maps.has (gD xs n) (.int .i64 m')) := fun m' => by
            by_cases e : m' = m
            · subst e
              rw [has_del_same]
              simp
            · rw [has_del_other (int_ne e), HHAS.out m']
              by_cases hlt : m' < m
              · rw [decide_eq_true hlt, decide_eq_true (by have := HMT.out.1; omega)]
              · rw [decide_eq_false hlt, Bool.false_and, ← HHAS.out m']
                cases hh : Maps.has D (.int .i64 m')
                · rfl
                · have := HLE.out m' hh; omega
          have hAT : ∀ m', m' < m → (D.del (.int .i64 m)).atKey (.int .i64 m') .nil = (gD xs n).atKey (.int .i64 m') .nil := fun m' hlt => by
            rw [atKey_del_other (int_ne (by omega))]
            exact HAT.out m' (by have := HMT.out.1; omega)
          rcases hord11.2 with ⟨h0, _⟩ | ⟨g', c'', cur', hv', _⟩
          · exact absurd h0 (fun e => by have := (hnil.1 e).2; omega)
          · subst hv'
            have hord12 : w11.ownsRow w1.heap.size 2 1 (.slice (some ⟨g', 0, none⟩) (ordL xs n m).length c'') (ordL xs n m).length ((ordL xs n m).map (Value.int .i64)) := by rw [hN]; simpa using hord11
            clear hord11 hord10 hg10 hnil hN
            go_roundw
            case rel => exact ⟨m, D.del (.int .i64 m), g', c'', by rw [hNl], by rw [← hNl]; exact hord12, hmap11, hHAS, hAT, hgl11, hB11⟩
            case measure => simp [lenOf]; omega
        · have h0 : Maps.size D = 0 := by omega
          have hsz' : ¬ (0 : Int) < (Maps.size D : Int) := by omega
          have hall : ordL xs n t = ampL xs n := ordL_all (fun j hj => by
            have h1 := size_zero hmap.isMap h0 (.int .i64 (ampV xs j))
            rw [HHAS.out, gD_has, decide_eq_true (idxL_ne.2 ⟨j, hj, rfl⟩), Bool.and_true] at h1
            have := of_decide_eq_false h1
            omega)
          rw [hall] at hord ⊢
          go_wp2_with (first | (at_len; refine wpList_len_own _ rfl _ 60 rfl 2 34 Tryz.underlying60 _ w2.heap.size n D rfl hmap ?_))
          go_ret2
          exact ⟨.inl ⟨rfl, _, rfl, own_low hord hwr⟩, hBl⟩
end Go.Proofs.YtfnjndbnogeddaaGreatDoor
