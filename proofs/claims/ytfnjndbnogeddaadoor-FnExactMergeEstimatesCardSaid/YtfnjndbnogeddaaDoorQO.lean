/- MergeEstimates, the program's: mergeOrdered at estimates. -/
import Derived.Test.YtfnjndbnogeddaaDoorQM
import Derived.Test.YtfnjndbnogeddaaDoorQN
import Derived.Test.YtfnjndbnogeddaaDoorE3
import Derived.Test.YtfnjndbnogeddaaDoorIS
import Derived.Deep.RegionHeld3
import Derived.Deep.RegionLaw
import Derived.Deep.AppendLies
import Derived.OwnWalk
import Derived.Maps.RangeWalk
namespace Go.Proofs.YtfnjndbnogeddaaDoor
open Go.ChangeShapes Go.WideShapes Go.ChangeAt Go.RowKit Go.Deep

theorem eql_Es (x0 : Int) (x1 : ByteArray) (x2 : ByteArray) (x3 : Int) (x4 : Bool) (y0 : Int) (y1 : ByteArray) (y2 : ByteArray) (y3 : Int) (y4 : Bool) (w : World) :
    (binOp .eql 37 (.agg #[.int .i64 x0, .string x1, .string x2, .int .i64 x3, .bool x4]) (.agg #[.int .i64 y0, .string y1, .string y2, .int .i64 y3, .bool y4])).run Tryd.prog w = .ok (.bool (EsE (x0, x1, x2, x3, x4) (y0, y1, y2, y3, y4))) w := by
  rw [run_eql_struct]
  cases h0 : (x0 == y0)
  · simp [go_sem, h0, EsE]
  cases h1 : (x1.toList == y1.toList)
  · simp [go_sem, h0, h1, EsE]
  cases h2 : (x2.toList == y2.toList)
  · simp [go_sem, h0, h1, h2, EsE]
  cases h3 : (x3 == y3)
  · simp [go_sem, h0, h1, h2, h3, EsE]
  cases h4 : (x4 == y4)
  · simp [go_sem, h0, h1, h2, h3, h4, EsE]
  · simp [go_sem, h0, h1, h2, h3, h4, EsE]
def slLen : Value → Nat | .slice _ n _ => n | _ => 0
/-- the sentinel -/
def Errt (w : World) (a : Addr) : Prop := 0 < w.heap.size ∧ w.cell? ⟨0, 0, none⟩ = some (.iface 113 (.pointer (some a)))
theorem Errt.mono {w w' : World} {a : Addr} (h : Errt w a) (hb : Below w.heap.size w w') : Errt w' a := ⟨Nat.lt_of_lt_of_le h.1 hb.size, (hb.cell (p := ⟨0, 0, none⟩) h.1).trans h.2⟩
/-- what the program's merge hands back -/
def MgP (B : Nat) (ea : Addr) (r : Option (List Es)) (w : World) (x : Ending) : Prop :=
  (∃ T v, r = some T ∧ x = .returned (.tuple #[v, .nilIface]) ∧ (∃ g c, v = .slice (some ⟨g, 0, none⟩) T.length c) ∧ w.ownsRow B 37 5 v T.length (flatEs T)) ∨ (r = none ∧ x = .returned (.tuple #[.slice none 0 0, .iface 113 (.pointer (some ea))]))
theorem EsL.tail {w : World} {b o n : Nat} {x : Es} {xs : List Es} (h : EsL w (some ⟨b, o, none⟩) n (x :: xs)) (hn : 0 < n) : EsL w (some ⟨b, o + 5, none⟩) (n - 1) xs := by
  have := h.drop (k := 1) (by omega)
  simpa using this
theorem EsL.tail0 {w : World} {b o n : Nat} {x : Es} {xs : List Es} (h : EsL w (some ⟨b, o, none⟩) n (x :: xs)) (hn : n = 1) : EsL w (some ⟨b, o, none⟩) (n - 1) xs := by
  subst hn
  exact ⟨by have := h.1; simpa using this, fun i hi => absurd hi (by omega)⟩
theorem EsL.head {w : World} {b o n : Nat} {x0 : Int} {x1 x2 : ByteArray} {x3 : Int} {x4 : Bool} {xs : List Es} (h : EsL w (some ⟨b, o, none⟩) n ((x0, x1, x2, x3, x4) :: xs)) (hn : 0 < n) : EsC w b o (x0, x1, x2, x3, x4) := by
  obtain ⟨b', o', e, hc⟩ := h.2 0 hn
  cases e
  simpa using hc
set_option maxRecDepth 100000 in
set_option maxHeartbeats 4000000 in
theorem mergeE_any (ba oa n ca bb ob m cb : Nat) (A B : List Es) (ea : Addr) (w : World) (hA : EsL w (some ⟨ba, oa, none⟩) n A) (hB : EsL w (some ⟨bb, ob, none⟩) m B) (hn : n ≤ 100) (hm : m ≤ 100) (hna : n ≤ ca) (hmb : m ≤ cb) (hE : Errt w ea) :
    Calls Tryd.prog 26 #[.slice (some ⟨ba, oa, none⟩) n ca, .slice (some ⟨bb, ob, none⟩) m cb, .func (.func 27) #[] #[]] w fun x w' => MgP w.heap.size ea (mrg A B) w' x ∧ Below w.heap.size w w' := by
  obtain ⟨i0, hi, hz0, hz1, hz2⟩ := info_parts Es_info
  have hnz : (n : Int) ≤ 100 := by omega
  have hmz : (m : Int) ≤ 100 := by omega
  go_enter Tryd.func26, Tryd.ntmps26
  go_wp2_with (at_make; refine wpList_make_own _ rfl _ _ 25 rfl w.heap.size 37 i0 _ 5 Tryd.underlying25 hi hz0 hz1 .i64 .i64 _ (n + m) rfl rfl (by omega) (by rw [hz2]; omega) (by unfold maxLen; omega) (Nat.le_refl _) ?_; intro w1 hown1 hg1)
  have bb1 : Below w.heap.size w w1 := (Below.refl _ w).grown hg1 (Nat.le_refl _) (fun k hk => by cases hk)
  clear hg1
  go_wp2
  go_loopw [0, 1, 8] (fun sa sb so wr => ∃ (oa' na ca' ob' nb cb' g cL : Nat) (a b L : List Es), sa = .slice (some ⟨ba, oa', none⟩) na ca' ∧ sb = .slice (some ⟨bb, ob', none⟩) nb cb' ∧ so = .slice (some ⟨g, 0, none⟩) L.length cL ∧ EsL w (some ⟨ba, oa', none⟩) na a ∧ EsL w (some ⟨bb, ob', none⟩) nb b ∧ na ≤ ca' ∧ nb ≤ cb' ∧ na ≤ n ∧ nb ≤ m ∧ L.length + na + nb ≤ n + m ∧ wr.ownsRow w.heap.size 37 5 (.slice (some ⟨g, 0, none⟩) L.length cL) L.length (flatEs L) ∧ mrg A B = (mrg a b).map (L ++ ·) ∧ Below w.heap.size w wr) (fun sa sb _ _ => slLen sa + slLen sb)
  case atStart => exact ⟨oa, n, ca, ob, m, cb, _, _, A, B, [], rfl, rfl, rfl, hA, hB, hna, hmb, Nat.le_refl _, Nat.le_refl _, by simp, hown1, by cases mrg A B <;> rfl, bb1⟩
  case round =>
    obtain ⟨oa', na, ca', ob', nb, cb', g, cL, a, b, L, rfl, rfl, rfl, hA', hB', hca, hcb, han, hbm, hLl, hown, hmr, hBw⟩ := hrel
    clear hown1 bb1
    have HOW := Lib.hid hown
    have HMR := Lib.hid hmr
    have hsz := hBw.size
    have hbz := fun j (h : (some g : Option Nat) = some j) => (hown.lt j h).1
    have hcaz : (na : Int) ≤ (ca' : Int) := by omega
    have hcbz : (nb : Int) ≤ (cb' : Int) := by omega
    clear hmr hown
    by_cases h0 : na = 0 ∨ nb = 0
    · have HT : Hid (mrg A B = some (L ++ a ++ b)) := Lib.hid (by
        rw [HMR.out]
        rcases h0 with h0 | h0
        · obtain rfl : a = [] := List.length_eq_zero_iff.1 (by rw [hA'.1]; exact h0)
          rw [mrg_nil]; simp
        · obtain rfl : b = [] := List.length_eq_zero_iff.1 (by rw [hB'.1]; exact h0)
          rw [mrg_nil2]; simp)
      have ha5 := flatEs_cells (hA'.mono hBw)
      have HAL := Lib.hid hA'.1
      have HBL := Lib.hid hB'.1
      have hnn : (0 : Int) ≤ (na : Int) := by omega
      have hnn2 : (0 : Int) ≤ (nb : Int) := by omega
      rcases Nat.eq_zero_or_pos na with hz | hz
      case' inl =>
        have hz9 : ¬ (0 : Int) < (na : Int) := by omega
        clear hz
      case' inr =>
        have hz9 : (0 : Int) < (na : Int) := by omega
        have hz8 : ¬ (0 : Int) < (nb : Int) := by omega
      all_goals
        go_wp2_with (at_builtin; refine wpList_append_own _ rfl _ _ 25 rfl w.heap.size 37 i0 _ 5 56 Tryd.underlying25 hi hz0 hz1 hz2 rfl (by decide) _ _ (flatEs L) rfl HOW.out ⟨ba, oa', none⟩ _ ca' (flatEs a) rfl (by rw [flatEs_len, HAL.out]) ha5 (flatEs_one a) (by unfold maxLen; omega) (by omega) hsz ?_)
        intro v2 w2 hown2 hg2 hnil2
        have b2 : Below w.heap.size w w2 := hBw.grown hg2 hsz (fun j hj => hbz j (by simpa [Value.ownBlock] using hj))
        have hb5 := flatEs_cells (hB'.mono b2)
        have hsz2 := b2.size
        obtain ⟨g2, c2, rfl, hgc2⟩ := own_shape5 hown2 hnil2
        clear hg2 hnil2
        go_wp2_with (at_builtin; refine wpList_append_own _ rfl _ _ 25 rfl w.heap.size 37 i0 _ 5 56 Tryd.underlying25 hi hz0 hz1 hz2 rfl (by decide) _ _ _ rfl hown2 ⟨bb, ob', none⟩ _ cb' (flatEs b) rfl (by rw [flatEs_len, HBL.out]) hb5 (flatEs_one b) (by unfold maxLen; omega) (by omega) hsz2 ?_)
        intro v3 w3 hown3 hg3 hnil3
        have b3 : Below w.heap.size w w3 := b2.grown hg3 hsz2 (fun j hj => (hown2.lt j (by simpa [Value.ownBlock] using hj)).1)
        obtain ⟨g3, c3, rfl, hgc3⟩ := own_shape5 hown3 hnil3
        have hlT : (L ++ a ++ b).length = L.length + a.length + b.length := by rw [List.length_append, List.length_append]
        have hO : w3.ownsRow w.heap.size 37 5 (.slice (some ⟨g3, 0, none⟩) (L ++ a ++ b).length c3) (L ++ a ++ b).length (flatEs (L ++ a ++ b)) := by
          rw [hlT, HAL.out, HBL.out, flatEs_app, flatEs_app, List.append_assoc]; exact hown3
        have HO := Lib.hid hO
        have HLT := Lib.hid hlT
        clear hg3 hnil3 hown3 hown2 hO hlT
        go_wp2
        go_ret2
        exact ⟨.inl ⟨_, _, HT.out, by rw [HLT.out, HAL.out, HBL.out]; rfl, ⟨g3, c3, rfl⟩, HO.out⟩, b3⟩
    have hna0 : 0 < na := by omega
    have hnb0 : 0 < nb := by omega
    have hzA : (0 : Int) < (na : Int) := by omega
    have hzB : (0 : Int) < (nb : Int) := by omega
    have hoA : (1 : Int) ≤ (na : Int) := by omega
    have hoB : (1 : Int) ≤ (nb : Int) := by omega
    obtain ⟨x, a, rfl⟩ : ∃ x a9, a = x :: a9 := by
      cases a with
      | nil => have := hA'.1; simp at this; omega
      | cons x a => exact ⟨x, a, rfl⟩
    obtain ⟨y, b, rfl⟩ : ∃ y b9, b = y :: b9 := by
      cases b with
      | nil => have := hB'.1; simp at this; omega
      | cons y b => exact ⟨y, b, rfl⟩
    obtain ⟨x0, x1, x2, x3, x4⟩ := x
    obtain ⟨y0, y1, y2, y3, y4⟩ := y
    obtain ⟨hb1, p0, p1, p2, p3, p4⟩ := ((hA'.head hna0).mono hBw).parts
    obtain ⟨hb2, q0, q1, q2, q3, q4⟩ := ((hB'.head hnb0).mono hBw).parts
    clear h0
    obtain ⟨r, hr⟩ : ∃ r, cmpE (x0, x1, x2, x3, x4) (y0, y1, y2, y3, y4) = r := ⟨_, rfl⟩
    have HR := Lib.hid hr
    clear hr
    by_cases hlt : r < 0
    · have HM : Hid (mrg A B = (mrg a ((y0, y1, y2, y3, y4) :: b)).map ((L ++ [(x0, x1, x2, x3, x4)]) ++ ·)) := Lib.hid (by
        rw [HMR.out, mrg_lt (by rw [HR.out]; exact hlt), Option.map_map]; congr 1; funext T; simp)
      have HL1 : Hid ((L ++ [(x0, x1, x2, x3, x4)]).length = L.length + 1) := Lib.hid (by simp)
      rcases Nat.decEq ca' 1 with hc1 | hc1
      case' isTrue =>
        have hn1 : na = 1 := by omega
        have HTL := Lib.hid (hA'.tail0 hn1)
        subst hc1 hn1
      case' isFalse => have HTL := Lib.hid (hA'.tail hna0)
      all_goals
        go_wp2_with fail
        go_region_held3 (fun W' => W'.cell? ⟨ba, oa', none⟩ = some (.int .i64 x0) ∧ W'.cell? ⟨ba, oa' + 1, none⟩ = some (.string x1) ∧ W'.cell? ⟨ba, oa' + 2, none⟩ = some (.string x2) ∧ W'.cell? ⟨ba, oa' + 3, none⟩ = some (.int .i64 x3) ∧ W'.cell? ⟨ba, oa' + 4, none⟩ = some (.bool x4) ∧ W'.cell? ⟨bb, ob', none⟩ = some (.int .i64 y0) ∧ W'.cell? ⟨bb, ob' + 1, none⟩ = some (.string y1) ∧ W'.cell? ⟨bb, ob' + 2, none⟩ = some (.string y2) ∧ W'.cell? ⟨bb, ob' + 3, none⟩ = some (.int .i64 y3) ∧ W'.cell? ⟨bb, ob' + 4, none⟩ = some (.bool y4)) (refine ⟨?_, ?_, ?_, ?_, ?_, ?_, ?_, ?_, ?_, ?_⟩ <;> first | assumption | exact ((show Below wr.heap.size wr _ by (repeat (first | assumption | exact Below.refl _ _ | refine belowDN ?_ _ | refine Below.drew ?_ | refine Below.setCell ?_ (by first | omega | (simp <;> omega)) _ | refine Below.alloc ?_ (by first | omega | (simp <;> omega)) _ | refine belowCall ?_ (by assumption)))).cell (p := ⟨ba, oa', none⟩) hb1).trans p0 | exact ((show Below wr.heap.size wr _ by (repeat (first | assumption | exact Below.refl _ _ | refine belowDN ?_ _ | refine Below.drew ?_ | refine Below.setCell ?_ (by first | omega | (simp <;> omega)) _ | refine Below.alloc ?_ (by first | omega | (simp <;> omega)) _ | refine belowCall ?_ (by assumption)))).cell (p := ⟨ba, oa' + 1, none⟩) hb1).trans p1 | exact ((show Below wr.heap.size wr _ by (repeat (first | assumption | exact Below.refl _ _ | refine belowDN ?_ _ | refine Below.drew ?_ | refine Below.setCell ?_ (by first | omega | (simp <;> omega)) _ | refine Below.alloc ?_ (by first | omega | (simp <;> omega)) _ | refine belowCall ?_ (by assumption)))).cell (p := ⟨ba, oa' + 2, none⟩) hb1).trans p2 | exact ((show Below wr.heap.size wr _ by (repeat (first | assumption | exact Below.refl _ _ | refine belowDN ?_ _ | refine Below.drew ?_ | refine Below.setCell ?_ (by first | omega | (simp <;> omega)) _ | refine Below.alloc ?_ (by first | omega | (simp <;> omega)) _ | refine belowCall ?_ (by assumption)))).cell (p := ⟨ba, oa' + 3, none⟩) hb1).trans p3 | exact ((show Below wr.heap.size wr _ by (repeat (first | assumption | exact Below.refl _ _ | refine belowDN ?_ _ | refine Below.drew ?_ | refine Below.setCell ?_ (by first | omega | (simp <;> omega)) _ | refine Below.alloc ?_ (by first | omega | (simp <;> omega)) _ | refine belowCall ?_ (by assumption)))).cell (p := ⟨ba, oa' + 4, none⟩) hb1).trans p4 | exact ((show Below wr.heap.size wr _ by (repeat (first | assumption | exact Below.refl _ _ | refine belowDN ?_ _ | refine Below.drew ?_ | refine Below.setCell ?_ (by first | omega | (simp <;> omega)) _ | refine Below.alloc ?_ (by first | omega | (simp <;> omega)) _ | refine belowCall ?_ (by assumption)))).cell (p := ⟨bb, ob', none⟩) hb2).trans q0 | exact ((show Below wr.heap.size wr _ by (repeat (first | assumption | exact Below.refl _ _ | refine belowDN ?_ _ | refine Below.drew ?_ | refine Below.setCell ?_ (by first | omega | (simp <;> omega)) _ | refine Below.alloc ?_ (by first | omega | (simp <;> omega)) _ | refine belowCall ?_ (by assumption)))).cell (p := ⟨bb, ob' + 1, none⟩) hb2).trans q1 | exact ((show Below wr.heap.size wr _ by (repeat (first | assumption | exact Below.refl _ _ | refine belowDN ?_ _ | refine Below.drew ?_ | refine Below.setCell ?_ (by first | omega | (simp <;> omega)) _ | refine Below.alloc ?_ (by first | omega | (simp <;> omega)) _ | refine belowCall ?_ (by assumption)))).cell (p := ⟨bb, ob' + 2, none⟩) hb2).trans q2 | exact ((show Below wr.heap.size wr _ by (repeat (first | assumption | exact Below.refl _ _ | refine belowDN ?_ _ | refine Below.drew ?_ | refine Below.setCell ?_ (by first | omega | (simp <;> omega)) _ | refine Below.alloc ?_ (by first | omega | (simp <;> omega)) _ | refine belowCall ?_ (by assumption)))).cell (p := ⟨bb, ob' + 3, none⟩) hb2).trans q3 | exact ((show Below wr.heap.size wr _ by (repeat (first | assumption | exact Below.refl _ _ | refine belowDN ?_ _ | refine Below.drew ?_ | refine Below.setCell ?_ (by first | omega | (simp <;> omega)) _ | refine Below.alloc ?_ (by first | omega | (simp <;> omega)) _ | refine belowCall ?_ (by assumption)))).cell (p := ⟨bb, ob' + 4, none⟩) hb2).trans q4) (first | (go_at_call 27; refine (esCmp_val _ _ _ _ _ _ _ _ _ _ r _ HR.out).mono ?_; rintro e w6 ⟨rfl, hbel2⟩; have hB6 : Below wr.heap.size wr w6 := belowCall (by (repeat (first | assumption | exact Below.refl _ _ | refine belowDN ?_ _ | refine Below.drew ?_ | refine Below.setCell ?_ (by first | omega | (simp <;> omega)) _ | refine Below.alloc ?_ (by first | omega | (simp <;> omega)) _ | refine belowCall ?_ (by assumption)))) hbel2))
        all_goals
          have hown6 := ownKeep5 HOW.out hB6
          have hs6 := hB6.size
          have b6 : Below w.heap.size w w6 := hBw.trans (hB6.mono hsz)
          obtain ⟨-, e0, e1, e2, e3, e4⟩ := ((hA'.head hna0).mono b6).parts
          clear p0 p1 p2 p3 p4 q0 q1 q2 q3 q4 hb2
          go_wp2
          go_region_law (refine Go.step_append_lies _ rfl _ _ 25 rfl w.heap.size 37 i0 _ 5 56 Tryd.underlying25 hi hz0 hz1 hz2 rfl (by decide) (.slice (some ⟨g, 0, none⟩) L.length cL) L.length (flatEs L) rfl (show (w6.alloc (.cells #[.int .i64 x0, .string x1, .string x2, .int .i64 x3, .bool x4] 37)).drew.ownsRow _ _ _ _ _ _ from hown6.alloc _) ⟨w6.heap.size, 0, none⟩ 1 1 [.int .i64 x0, .string x1, .string x2, .int .i64 x3, .bool x4] rfl rfl (cellsEs w6 _ _ _ _ _ _) (by intro u hu; simp at hu; rcases hu with rfl | rfl | rfl | rfl | rfl <;> rfl) (by decide) (by unfold maxLen; omega) (by omega) (by simp; omega) _ rfl ?_; intro g7 c7 w7 hown7 hg7 hat7 hlt7; have hB7 : Below w.heap.size w w7 := (show Below w.heap.size w (w6.alloc (.cells #[.int .i64 x0, .string x1, .string x2, .int .i64 x3, .bool x4] 37)).drew from Below.drew (b6.alloc (by omega) _)).grown hg7 (by simp; omega) (fun j hj => (hown6.lt j hj).1))
          all_goals
            go_wp2
            simp only [Act.put, List.getElem_toArray, List.getElem_cons_succ, List.getElem_cons_zero, List.setIfInBounds_toArray, List.set_cons_succ, List.set_cons_zero]
            go_roundw
            case rel => exact ⟨_, _, _, ob', nb, cb', g7, c7, a, _, L ++ [(x0, x1, x2, x3, x4)], rfl, rfl, by rw [HL1.out], HTL.out, hB', by omega, hcb, by omega, hbm, by rw [HL1.out]; omega, by rw [HL1.out, flatEs_snoc]; exact hown7, HM.out, hB7⟩
            case measure => simp [slLen] <;> omega
    have HLT := Lib.hid hlt
    have hlt9 : ¬ r < 0 := hlt
    by_cases hgt : 0 < r
    · have HM : Hid (mrg A B = (mrg ((x0, x1, x2, x3, x4) :: a) b).map ((L ++ [(y0, y1, y2, y3, y4)]) ++ ·)) := Lib.hid (by
        rw [HMR.out, mrg_gt (by rw [HR.out]; exact hlt) (by rw [HR.out]; exact hgt), Option.map_map]; congr 1; funext T; simp)
      have HL1 : Hid ((L ++ [(y0, y1, y2, y3, y4)]).length = L.length + 1) := Lib.hid (by simp)
      rcases Nat.decEq cb' 1 with hc1 | hc1
      case' isTrue =>
        have hn1 : nb = 1 := by omega
        have HTL := Lib.hid (hB'.tail0 hn1)
        subst hc1 hn1
      case' isFalse => have HTL := Lib.hid (hB'.tail hnb0)
      all_goals
        go_wp2_with fail
        go_region_held3 (fun W' => W'.cell? ⟨ba, oa', none⟩ = some (.int .i64 x0) ∧ W'.cell? ⟨ba, oa' + 1, none⟩ = some (.string x1) ∧ W'.cell? ⟨ba, oa' + 2, none⟩ = some (.string x2) ∧ W'.cell? ⟨ba, oa' + 3, none⟩ = some (.int .i64 x3) ∧ W'.cell? ⟨ba, oa' + 4, none⟩ = some (.bool x4) ∧ W'.cell? ⟨bb, ob', none⟩ = some (.int .i64 y0) ∧ W'.cell? ⟨bb, ob' + 1, none⟩ = some (.string y1) ∧ W'.cell? ⟨bb, ob' + 2, none⟩ = some (.string y2) ∧ W'.cell? ⟨bb, ob' + 3, none⟩ = some (.int .i64 y3) ∧ W'.cell? ⟨bb, ob' + 4, none⟩ = some (.bool y4)) (refine ⟨?_, ?_, ?_, ?_, ?_, ?_, ?_, ?_, ?_, ?_⟩ <;> first | assumption | exact ((show Below wr.heap.size wr _ by (repeat (first | assumption | exact Below.refl _ _ | refine belowDN ?_ _ | refine Below.drew ?_ | refine Below.setCell ?_ (by first | omega | (simp <;> omega)) _ | refine Below.alloc ?_ (by first | omega | (simp <;> omega)) _ | refine belowCall ?_ (by assumption)))).cell (p := ⟨ba, oa', none⟩) hb1).trans p0 | exact ((show Below wr.heap.size wr _ by (repeat (first | assumption | exact Below.refl _ _ | refine belowDN ?_ _ | refine Below.drew ?_ | refine Below.setCell ?_ (by first | omega | (simp <;> omega)) _ | refine Below.alloc ?_ (by first | omega | (simp <;> omega)) _ | refine belowCall ?_ (by assumption)))).cell (p := ⟨ba, oa' + 1, none⟩) hb1).trans p1 | exact ((show Below wr.heap.size wr _ by (repeat (first | assumption | exact Below.refl _ _ | refine belowDN ?_ _ | refine Below.drew ?_ | refine Below.setCell ?_ (by first | omega | (simp <;> omega)) _ | refine Below.alloc ?_ (by first | omega | (simp <;> omega)) _ | refine belowCall ?_ (by assumption)))).cell (p := ⟨ba, oa' + 2, none⟩) hb1).trans p2 | exact ((show Below wr.heap.size wr _ by (repeat (first | assumption | exact Below.refl _ _ | refine belowDN ?_ _ | refine Below.drew ?_ | refine Below.setCell ?_ (by first | omega | (simp <;> omega)) _ | refine Below.alloc ?_ (by first | omega | (simp <;> omega)) _ | refine belowCall ?_ (by assumption)))).cell (p := ⟨ba, oa' + 3, none⟩) hb1).trans p3 | exact ((show Below wr.heap.size wr _ by (repeat (first | assumption | exact Below.refl _ _ | refine belowDN ?_ _ | refine Below.drew ?_ | refine Below.setCell ?_ (by first | omega | (simp <;> omega)) _ | refine Below.alloc ?_ (by first | omega | (simp <;> omega)) _ | refine belowCall ?_ (by assumption)))).cell (p := ⟨ba, oa' + 4, none⟩) hb1).trans p4 | exact ((show Below wr.heap.size wr _ by (repeat (first | assumption | exact Below.refl _ _ | refine belowDN ?_ _ | refine Below.drew ?_ | refine Below.setCell ?_ (by first | omega | (simp <;> omega)) _ | refine Below.alloc ?_ (by first | omega | (simp <;> omega)) _ | refine belowCall ?_ (by assumption)))).cell (p := ⟨bb, ob', none⟩) hb2).trans q0 | exact ((show Below wr.heap.size wr _ by (repeat (first | assumption | exact Below.refl _ _ | refine belowDN ?_ _ | refine Below.drew ?_ | refine Below.setCell ?_ (by first | omega | (simp <;> omega)) _ | refine Below.alloc ?_ (by first | omega | (simp <;> omega)) _ | refine belowCall ?_ (by assumption)))).cell (p := ⟨bb, ob' + 1, none⟩) hb2).trans q1 | exact ((show Below wr.heap.size wr _ by (repeat (first | assumption | exact Below.refl _ _ | refine belowDN ?_ _ | refine Below.drew ?_ | refine Below.setCell ?_ (by first | omega | (simp <;> omega)) _ | refine Below.alloc ?_ (by first | omega | (simp <;> omega)) _ | refine belowCall ?_ (by assumption)))).cell (p := ⟨bb, ob' + 2, none⟩) hb2).trans q2 | exact ((show Below wr.heap.size wr _ by (repeat (first | assumption | exact Below.refl _ _ | refine belowDN ?_ _ | refine Below.drew ?_ | refine Below.setCell ?_ (by first | omega | (simp <;> omega)) _ | refine Below.alloc ?_ (by first | omega | (simp <;> omega)) _ | refine belowCall ?_ (by assumption)))).cell (p := ⟨bb, ob' + 3, none⟩) hb2).trans q3 | exact ((show Below wr.heap.size wr _ by (repeat (first | assumption | exact Below.refl _ _ | refine belowDN ?_ _ | refine Below.drew ?_ | refine Below.setCell ?_ (by first | omega | (simp <;> omega)) _ | refine Below.alloc ?_ (by first | omega | (simp <;> omega)) _ | refine belowCall ?_ (by assumption)))).cell (p := ⟨bb, ob' + 4, none⟩) hb2).trans q4) (first | (go_at_call 27; refine (esCmp_val _ _ _ _ _ _ _ _ _ _ r _ HR.out).mono ?_; rintro e w6 ⟨rfl, hbel2⟩; have hB6 : Below wr.heap.size wr w6 := belowCall (by (repeat (first | assumption | exact Below.refl _ _ | refine belowDN ?_ _ | refine Below.drew ?_ | refine Below.setCell ?_ (by first | omega | (simp <;> omega)) _ | refine Below.alloc ?_ (by first | omega | (simp <;> omega)) _ | refine belowCall ?_ (by assumption)))) hbel2))
        all_goals
          have hown6 := ownKeep5 HOW.out hB6
          have hs6 := hB6.size
          have b6 : Below w.heap.size w w6 := hBw.trans (hB6.mono hsz)
          obtain ⟨-, e0, e1, e2, e3, e4⟩ := ((hB'.head hnb0).mono b6).parts
          clear p0 p1 p2 p3 p4 q0 q1 q2 q3 q4 hb1
          go_wp2
          go_region_law (refine Go.step_append_lies _ rfl _ _ 25 rfl w.heap.size 37 i0 _ 5 56 Tryd.underlying25 hi hz0 hz1 hz2 rfl (by decide) (.slice (some ⟨g, 0, none⟩) L.length cL) L.length (flatEs L) rfl (show (w6.alloc (.cells #[.int .i64 y0, .string y1, .string y2, .int .i64 y3, .bool y4] 37)).drew.ownsRow _ _ _ _ _ _ from hown6.alloc _) ⟨w6.heap.size, 0, none⟩ 1 1 [.int .i64 y0, .string y1, .string y2, .int .i64 y3, .bool y4] rfl rfl (cellsEs w6 _ _ _ _ _ _) (by intro u hu; simp at hu; rcases hu with rfl | rfl | rfl | rfl | rfl <;> rfl) (by decide) (by unfold maxLen; omega) (by omega) (by simp; omega) _ rfl ?_; intro g7 c7 w7 hown7 hg7 hat7 hlt7; have hB7 : Below w.heap.size w w7 := (show Below w.heap.size w (w6.alloc (.cells #[.int .i64 y0, .string y1, .string y2, .int .i64 y3, .bool y4] 37)).drew from Below.drew (b6.alloc (by omega) _)).grown hg7 (by simp; omega) (fun j hj => (hown6.lt j hj).1))
          all_goals
            go_wp2
            simp only [Act.put, List.getElem_toArray, List.getElem_cons_succ, List.getElem_cons_zero, List.setIfInBounds_toArray, List.set_cons_succ, List.set_cons_zero]
            go_roundw
            case rel => exact ⟨oa', na, ca', _, _, _, g7, c7, _, b, L ++ [(y0, y1, y2, y3, y4)], rfl, rfl, by rw [HL1.out], hA', HTL.out, hca, by omega, han, by omega, by rw [HL1.out]; omega, by rw [HL1.out, flatEs_snoc]; exact hown7, HM.out, hB7⟩
            case measure => simp [slLen] <;> omega
    have heq := eql_Es x0 x1 x2 x3 x4 y0 y1 y2 y3 y4
    have hgt9 : ¬ 0 < r := hgt
    cases hq : EsE (x0, x1, x2, x3, x4) (y0, y1, y2, y3, y4)
    · have HM : Hid (mrg A B = none) := Lib.hid (by
        rw [HMR.out, mrg_ne (by rw [HR.out]; exact hlt) (by rw [HR.out]; exact hgt) hq]; rfl)
      rw [hq] at heq
      obtain ⟨hEl, hEc⟩ := hE.mono hBw
      go_wp2_with fail
      go_region_held3 (fun W' => W'.cell? ⟨ba, oa', none⟩ = some (.int .i64 x0) ∧ W'.cell? ⟨ba, oa' + 1, none⟩ = some (.string x1) ∧ W'.cell? ⟨ba, oa' + 2, none⟩ = some (.string x2) ∧ W'.cell? ⟨ba, oa' + 3, none⟩ = some (.int .i64 x3) ∧ W'.cell? ⟨ba, oa' + 4, none⟩ = some (.bool x4) ∧ W'.cell? ⟨bb, ob', none⟩ = some (.int .i64 y0) ∧ W'.cell? ⟨bb, ob' + 1, none⟩ = some (.string y1) ∧ W'.cell? ⟨bb, ob' + 2, none⟩ = some (.string y2) ∧ W'.cell? ⟨bb, ob' + 3, none⟩ = some (.int .i64 y3) ∧ W'.cell? ⟨bb, ob' + 4, none⟩ = some (.bool y4)) (refine ⟨?_, ?_, ?_, ?_, ?_, ?_, ?_, ?_, ?_, ?_⟩ <;> first | assumption | exact ((show Below wr.heap.size wr _ by (repeat (first | assumption | exact Below.refl _ _ | refine belowDN ?_ _ | refine Below.drew ?_ | refine Below.setCell ?_ (by first | omega | (simp <;> omega)) _ | refine Below.alloc ?_ (by first | omega | (simp <;> omega)) _ | refine belowCall ?_ (by assumption)))).cell (p := ⟨ba, oa', none⟩) hb1).trans p0 | exact ((show Below wr.heap.size wr _ by (repeat (first | assumption | exact Below.refl _ _ | refine belowDN ?_ _ | refine Below.drew ?_ | refine Below.setCell ?_ (by first | omega | (simp <;> omega)) _ | refine Below.alloc ?_ (by first | omega | (simp <;> omega)) _ | refine belowCall ?_ (by assumption)))).cell (p := ⟨ba, oa' + 1, none⟩) hb1).trans p1 | exact ((show Below wr.heap.size wr _ by (repeat (first | assumption | exact Below.refl _ _ | refine belowDN ?_ _ | refine Below.drew ?_ | refine Below.setCell ?_ (by first | omega | (simp <;> omega)) _ | refine Below.alloc ?_ (by first | omega | (simp <;> omega)) _ | refine belowCall ?_ (by assumption)))).cell (p := ⟨ba, oa' + 2, none⟩) hb1).trans p2 | exact ((show Below wr.heap.size wr _ by (repeat (first | assumption | exact Below.refl _ _ | refine belowDN ?_ _ | refine Below.drew ?_ | refine Below.setCell ?_ (by first | omega | (simp <;> omega)) _ | refine Below.alloc ?_ (by first | omega | (simp <;> omega)) _ | refine belowCall ?_ (by assumption)))).cell (p := ⟨ba, oa' + 3, none⟩) hb1).trans p3 | exact ((show Below wr.heap.size wr _ by (repeat (first | assumption | exact Below.refl _ _ | refine belowDN ?_ _ | refine Below.drew ?_ | refine Below.setCell ?_ (by first | omega | (simp <;> omega)) _ | refine Below.alloc ?_ (by first | omega | (simp <;> omega)) _ | refine belowCall ?_ (by assumption)))).cell (p := ⟨ba, oa' + 4, none⟩) hb1).trans p4 | exact ((show Below wr.heap.size wr _ by (repeat (first | assumption | exact Below.refl _ _ | refine belowDN ?_ _ | refine Below.drew ?_ | refine Below.setCell ?_ (by first | omega | (simp <;> omega)) _ | refine Below.alloc ?_ (by first | omega | (simp <;> omega)) _ | refine belowCall ?_ (by assumption)))).cell (p := ⟨bb, ob', none⟩) hb2).trans q0 | exact ((show Below wr.heap.size wr _ by (repeat (first | assumption | exact Below.refl _ _ | refine belowDN ?_ _ | refine Below.drew ?_ | refine Below.setCell ?_ (by first | omega | (simp <;> omega)) _ | refine Below.alloc ?_ (by first | omega | (simp <;> omega)) _ | refine belowCall ?_ (by assumption)))).cell (p := ⟨bb, ob' + 1, none⟩) hb2).trans q1 | exact ((show Below wr.heap.size wr _ by (repeat (first | assumption | exact Below.refl _ _ | refine belowDN ?_ _ | refine Below.drew ?_ | refine Below.setCell ?_ (by first | omega | (simp <;> omega)) _ | refine Below.alloc ?_ (by first | omega | (simp <;> omega)) _ | refine belowCall ?_ (by assumption)))).cell (p := ⟨bb, ob' + 2, none⟩) hb2).trans q2 | exact ((show Below wr.heap.size wr _ by (repeat (first | assumption | exact Below.refl _ _ | refine belowDN ?_ _ | refine Below.drew ?_ | refine Below.setCell ?_ (by first | omega | (simp <;> omega)) _ | refine Below.alloc ?_ (by first | omega | (simp <;> omega)) _ | refine belowCall ?_ (by assumption)))).cell (p := ⟨bb, ob' + 3, none⟩) hb2).trans q3 | exact ((show Below wr.heap.size wr _ by (repeat (first | assumption | exact Below.refl _ _ | refine belowDN ?_ _ | refine Below.drew ?_ | refine Below.setCell ?_ (by first | omega | (simp <;> omega)) _ | refine Below.alloc ?_ (by first | omega | (simp <;> omega)) _ | refine belowCall ?_ (by assumption)))).cell (p := ⟨bb, ob' + 4, none⟩) hb2).trans q4) (first | (go_at_call 27; refine (esCmp_val _ _ _ _ _ _ _ _ _ _ r _ HR.out).mono ?_; rintro e w6 ⟨rfl, hbel2⟩; have hB6 : Below wr.heap.size wr w6 := belowCall (by (repeat (first | assumption | exact Below.refl _ _ | refine belowDN ?_ _ | refine Below.drew ?_ | refine Below.setCell ?_ (by first | omega | (simp <;> omega)) _ | refine Below.alloc ?_ (by first | omega | (simp <;> omega)) _ | refine belowCall ?_ (by assumption)))) hbel2))
      all_goals
        have b6 : Below w.heap.size w w6 := hBw.trans (hB6.mono hsz)
        obtain ⟨-, e0, e1, e2, e3, e4⟩ := ((hA'.head hna0).mono b6).parts
        obtain ⟨-, f0, f1, f2, f3, f4⟩ := ((hB'.head hnb0).mono b6).parts
        obtain ⟨hEl6, hEc6⟩ := hE.mono b6
        clear p0 p1 p2 p3 p4 q0 q1 q2 q3 q4 hb1 hb2 hEl hEc
        go_wp2
        go_big_quiet (fail)
        go_wp2
        go_big_quiet (fail)
        go_wp2
        go_ret2
        exact ⟨.inr ⟨HM.out, rfl⟩, b6.trans (by have := b6.size; (repeat (first | assumption | exact Below.refl _ _ | refine belowDN ?_ _ | refine Below.drew ?_ | refine Below.setCell ?_ (by first | omega | (simp <;> omega)) _ | refine Below.alloc ?_ (by first | omega | (simp <;> omega)) _ | refine belowCall ?_ (by assumption))))⟩
    · have HM : Hid (mrg A B = (mrg a ((y0, y1, y2, y3, y4) :: b)).map (L ++ ·)) := Lib.hid (by
        rw [HMR.out, mrg_eq (by rw [HR.out]; exact hlt) (by rw [HR.out]; exact hgt) hq])
      rw [hq] at heq
      rcases Nat.decEq ca' 1 with hc1 | hc1
      case' isTrue =>
        have hn1 : na = 1 := by omega
        have HTL := Lib.hid (hA'.tail0 hn1)
        subst hc1 hn1
      case' isFalse => have HTL := Lib.hid (hA'.tail hna0)
      all_goals
        go_wp2_with fail
        go_region_held3 (fun W' => W'.cell? ⟨ba, oa', none⟩ = some (.int .i64 x0) ∧ W'.cell? ⟨ba, oa' + 1, none⟩ = some (.string x1) ∧ W'.cell? ⟨ba, oa' + 2, none⟩ = some (.string x2) ∧ W'.cell? ⟨ba, oa' + 3, none⟩ = some (.int .i64 x3) ∧ W'.cell? ⟨ba, oa' + 4, none⟩ = some (.bool x4) ∧ W'.cell? ⟨bb, ob', none⟩ = some (.int .i64 y0) ∧ W'.cell? ⟨bb, ob' + 1, none⟩ = some (.string y1) ∧ W'.cell? ⟨bb, ob' + 2, none⟩ = some (.string y2) ∧ W'.cell? ⟨bb, ob' + 3, none⟩ = some (.int .i64 y3) ∧ W'.cell? ⟨bb, ob' + 4, none⟩ = some (.bool y4)) (refine ⟨?_, ?_, ?_, ?_, ?_, ?_, ?_, ?_, ?_, ?_⟩ <;> first | assumption | exact ((show Below wr.heap.size wr _ by (repeat (first | assumption | exact Below.refl _ _ | refine belowDN ?_ _ | refine Below.drew ?_ | refine Below.setCell ?_ (by first | omega | (simp <;> omega)) _ | refine Below.alloc ?_ (by first | omega | (simp <;> omega)) _ | refine belowCall ?_ (by assumption)))).cell (p := ⟨ba, oa', none⟩) hb1).trans p0 | exact ((show Below wr.heap.size wr _ by (repeat (first | assumption | exact Below.refl _ _ | refine belowDN ?_ _ | refine Below.drew ?_ | refine Below.setCell ?_ (by first | omega | (simp <;> omega)) _ | refine Below.alloc ?_ (by first | omega | (simp <;> omega)) _ | refine belowCall ?_ (by assumption)))).cell (p := ⟨ba, oa' + 1, none⟩) hb1).trans p1 | exact ((show Below wr.heap.size wr _ by (repeat (first | assumption | exact Below.refl _ _ | refine belowDN ?_ _ | refine Below.drew ?_ | refine Below.setCell ?_ (by first | omega | (simp <;> omega)) _ | refine Below.alloc ?_ (by first | omega | (simp <;> omega)) _ | refine belowCall ?_ (by assumption)))).cell (p := ⟨ba, oa' + 2, none⟩) hb1).trans p2 | exact ((show Below wr.heap.size wr _ by (repeat (first | assumption | exact Below.refl _ _ | refine belowDN ?_ _ | refine Below.drew ?_ | refine Below.setCell ?_ (by first | omega | (simp <;> omega)) _ | refine Below.alloc ?_ (by first | omega | (simp <;> omega)) _ | refine belowCall ?_ (by assumption)))).cell (p := ⟨ba, oa' + 3, none⟩) hb1).trans p3 | exact ((show Below wr.heap.size wr _ by (repeat (first | assumption | exact Below.refl _ _ | refine belowDN ?_ _ | refine Below.drew ?_ | refine Below.setCell ?_ (by first | omega | (simp <;> omega)) _ | refine Below.alloc ?_ (by first | omega | (simp <;> omega)) _ | refine belowCall ?_ (by assumption)))).cell (p := ⟨ba, oa' + 4, none⟩) hb1).trans p4 | exact ((show Below wr.heap.size wr _ by (repeat (first | assumption | exact Below.refl _ _ | refine belowDN ?_ _ | refine Below.drew ?_ | refine Below.setCell ?_ (by first | omega | (simp <;> omega)) _ | refine Below.alloc ?_ (by first | omega | (simp <;> omega)) _ | refine belowCall ?_ (by assumption)))).cell (p := ⟨bb, ob', none⟩) hb2).trans q0 | exact ((show Below wr.heap.size wr _ by (repeat (first | assumption | exact Below.refl _ _ | refine belowDN ?_ _ | refine Below.drew ?_ | refine Below.setCell ?_ (by first | omega | (simp <;> omega)) _ | refine Below.alloc ?_ (by first | omega | (simp <;> omega)) _ | refine belowCall ?_ (by assumption)))).cell (p := ⟨bb, ob' + 1, none⟩) hb2).trans q1 | exact ((show Below wr.heap.size wr _ by (repeat (first | assumption | exact Below.refl _ _ | refine belowDN ?_ _ | refine Below.drew ?_ | refine Below.setCell ?_ (by first | omega | (simp <;> omega)) _ | refine Below.alloc ?_ (by first | omega | (simp <;> omega)) _ | refine belowCall ?_ (by assumption)))).cell (p := ⟨bb, ob' + 2, none⟩) hb2).trans q2 | exact ((show Below wr.heap.size wr _ by (repeat (first | assumption | exact Below.refl _ _ | refine belowDN ?_ _ | refine Below.drew ?_ | refine Below.setCell ?_ (by first | omega | (simp <;> omega)) _ | refine Below.alloc ?_ (by first | omega | (simp <;> omega)) _ | refine belowCall ?_ (by assumption)))).cell (p := ⟨bb, ob' + 3, none⟩) hb2).trans q3 | exact ((show Below wr.heap.size wr _ by (repeat (first | assumption | exact Below.refl _ _ | refine belowDN ?_ _ | refine Below.drew ?_ | refine Below.setCell ?_ (by first | omega | (simp <;> omega)) _ | refine Below.alloc ?_ (by first | omega | (simp <;> omega)) _ | refine belowCall ?_ (by assumption)))).cell (p := ⟨bb, ob' + 4, none⟩) hb2).trans q4) (first | (go_at_call 27; refine (esCmp_val _ _ _ _ _ _ _ _ _ _ r _ HR.out).mono ?_; rintro e w6 ⟨rfl, hbel2⟩; have hB6 : Below wr.heap.size wr w6 := belowCall (by (repeat (first | assumption | exact Below.refl _ _ | refine belowDN ?_ _ | refine Below.drew ?_ | refine Below.setCell ?_ (by first | omega | (simp <;> omega)) _ | refine Below.alloc ?_ (by first | omega | (simp <;> omega)) _ | refine belowCall ?_ (by assumption)))) hbel2))
        all_goals
          have b6 : Below w.heap.size w w6 := hBw.trans (hB6.mono hsz)
          obtain ⟨-, e0, e1, e2, e3, e4⟩ := ((hA'.head hna0).mono b6).parts
          obtain ⟨-, f0, f1, f2, f3, f4⟩ := ((hB'.head hnb0).mono b6).parts
          clear p0 p1 p2 p3 p4 q0 q1 q2 q3 q4 hb1 hb2
          go_wp2
          go_big_quiet (fail)
          go_wp2
          go_roundw
          case rel => exact ⟨_, _, _, ob', nb, cb', g, cL, a, _, L, rfl, rfl, rfl, HTL.out, hB', by omega, hcb, by omega, hbm, by omega, ownKeep5 HOW.out (hB6.trans (by (repeat (first | assumption | exact Below.refl _ _ | refine belowDN ?_ _ | refine Below.drew ?_ | refine Below.setCell ?_ (by first | omega | (simp <;> omega)) _ | refine Below.alloc ?_ (by first | omega | (simp <;> omega)) _ | refine belowCall ?_ (by assumption))))), HM.out, by (repeat (first | assumption | exact Below.refl _ _ | refine belowDN ?_ _ | refine Below.drew ?_ | refine Below.setCell ?_ (by first | omega | (simp <;> omega)) _ | refine Below.alloc ?_ (by first | omega | (simp <;> omega)) _ | refine belowCall ?_ (by assumption)))⟩
          case measure => simp [slLen] <;> omega
end Go.Proofs.YtfnjndbnogeddaaDoor
