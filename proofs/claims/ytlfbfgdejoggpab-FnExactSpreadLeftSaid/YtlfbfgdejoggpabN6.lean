/- MedianDiff, the program's. -/
import Derived.Test.YtlfbfgdejoggpabN4
import Derived.Test.YtlfbfgdejoggpabN5
namespace Go.Proofs.Ytlfbfgdejoggpab
open Go.ChangeShapes Go.WideShapes Go.ChangeAt Go.RowKit Go.Shelf
attribute [local go_sem] Oper.semAt_some

/-- what comes of a list of estimates for b against a -/
def selD (a b : Int) (ys : List Cm) : List Int := (ys.filter (isAB a b)).map fun x => x.2.2
theorem selD_yes {a b : Int} (ys : List Cm) {x0 x1 x2 : Int} (h : isAB a b (x0, x1, x2) = true) : selD a b (ys ++ [(x0, x1, x2)]) = selD a b ys ++ [x2] := by simp [selD, List.filter_append, h]
theorem selD_no {a b : Int} (ys : List Cm) {x0 x1 x2 : Int} (h : isAB a b (x0, x1, x2) = false) : selD a b (ys ++ [(x0, x1, x2)]) = selD a b ys := by simp [selD, List.filter_append, h]
theorem selD_len (a b : Int) (ys : List Cm) : (selD a b ys).length ≤ ys.length := by rw [selD, List.length_map]; exact List.length_filter_le _ _
theorem selD_both (a b : Int) (xs : List Cm) : selD a b (bothL xs) = difL a b xs := rfl
/-- a box of a common estimate -/
def CmBox (T : TypeId) (W : World) (B : Nat) (x : Cm) : Prop := W.heap[B]? = some (.cells #[.int .i64 x.1, .int .i64 x.2.1, .int .i64 x.2.2] T (0, 0))
theorem CmBox.cells {T : TypeId} {W : World} {B : Nat} {x0 x1 x2 : Int} (h : CmBox T W B (x0, x1, x2)) : W.cell? ⟨B, 0, none⟩ = some (.int .i64 x0) ∧ W.cell? ⟨B, 1, none⟩ = some (.int .i64 x1) ∧ W.cell? ⟨B, 2, none⟩ = some (.int .i64 x2) :=
  ⟨cell_of_row W B 0 _ _ _ h, cell_of_row W B 1 _ _ _ h, cell_of_row W B 2 _ _ _ h⟩
theorem cmBox_own (T : TypeId) (D B : Nat) (x : Cm) : OwnFrom D (fun (_ : Unit) W => CmBox T W B x) := fun _ X Y row hs hg hr => by
  refine (hg.block B (Array.getElem?_eq_some_iff.1 hs).1 (fun e => ?_)).trans hs
  obtain ⟨_, o, ho, hc⟩ := hr B e.symm
  rw [show X.heap[B]? = _ from hs] at ho; cases ho; cases hc
theorem KpC.appended {n₀ B base : Nat} {T t e : TypeId} {size k : Nat} {W w1 : World} {v v' : Value} {xs : List Value} {tmp : Obj} (hn : n₀ ≤ W.heap.size) (hb : n₀ ≤ base) (hB : n₀ ≤ B) (hv1 : Boxed w1 B t v) (ht : t ≠ T) (he : e ≠ T)
    (hrow : W.ownsRow base e size v k xs) (hgrow : (W.alloc tmp).grownBy w1 v.ownBlock) : KpC n₀ T W (w1.setCell ⟨B, 0, none⟩ v') := by
  have h1 : KpC n₀ T (W.alloc tmp) w1 := KpC.grown (by simp; omega) hgrow (fun g e' => by
    rcases (hrow.alloc tmp).2 with ⟨rfl, _⟩ | ⟨g', cap, cur, rfl, hb', hgb, _⟩
    · simp [Value.ownBlock] at e'
    · obtain rfl : g' = g := by simpa [Value.ownBlock] using e'
      exact ⟨by omega, fun cs fz e'' => by rw [hgb] at e''; cases e''; exact he rfl⟩)
  have hs := hgrow.size
  simp at hs
  exact ((KpC.alloc hn tmp).trans h1).trans (KpC.set (by omega) hB hv1 ht v')
theorem own_form1 {w : World} {B T n : Nat} {v : Value} {xs : List Value} (h : w.ownsRow B T 1 v n xs) : (n = 0 ∧ v = .slice none 0 0) ∨ ∃ g c, v = .slice (some ⟨g, 0, none⟩) n c := by
  rcases h.2 with ⟨hv, h0⟩ | ⟨g, cap, cur, hv, _⟩
  · exact .inl ⟨h0, hv⟩
  · exact .inr ⟨g, cap, hv⟩
set_option maxRecDepth 100000 in
set_option maxHeartbeats 4000000 in
theorem iMedianDiff_any (cn a b : Int) (s : Option Addr) (n c : Nat) (xs : List Cm) (w : World) (h : CmL w s n xs) (hn : n ≤ 1048576) :
    Calls Try.prog 11 #[.int .i64 cn, .slice s n c, .int .i64 a, .int .i64 b] w fun e w' => (∃ v, e = .returned v ∧ mdS cn a b xs v) ∧ Below w.heap.size w w' := by
  have B1 : Below w.heap.size w ((w.alloc (.cells #[.int .i64 a] 2)).alloc (.cells #[.int .i64 b] 2)) := by (repeat (first | assumption | exact Below.refl _ _ | refine belowDN ?_ _ | refine Below.drew ?_ | refine Below.setCell ?_ (by first | omega | (simp <;> omega)) _ | refine Below.alloc ?_ (by first | omega | (simp <;> omega)) _ | refine belowCall ?_ (by assumption)))
  have h1 := h.mono B1
  have hck : ∀ W (hW : CmL W s n xs), Calls Try.prog 36 #[.int .i64 cn, .slice s n c, .int .i64 a] W fun e w' => e = .returned (.int .i64 (ckC cn a xs)) ∧ Below W.heap.size W w' := fun W hW => check_any cn a s n c xs W hW hn
  have HCK := Lib.hid hck
  clear hck
  cases hv : cmsB cn xs
  · have HS := Lib.hid (mdS_bad (mdC_1 (a := a) (b := b) hv) (by decide))
    have hk : ckC cn a xs = 1 := by simp [ckC, hv]
    rw [hk] at HCK
    go_enter Try.func11, Try.ntmps11
    go_wp2_with fail
    refine (HCK.out _ h1).mono ?_
    rintro e w2 ⟨rfl, b2⟩
    go_wp2
    go_ret2
    exact ⟨⟨_, rfl, HS.out⟩, belowCall B1 b2⟩
  cases g1 : inB a 0 (cn - 1)
  · have HS := Lib.hid (mdS_bad (mdC_2a (b := b) hv g1) (by decide))
    have hk : ckC cn a xs = 2 := by simp [ckC, hv, g1]
    rw [hk] at HCK
    go_enter Try.func11, Try.ntmps11
    go_wp2_with fail
    refine (HCK.out _ h1).mono ?_
    rintro e w2 ⟨rfl, b2⟩
    go_wp2
    go_ret2
    exact ⟨⟨_, rfl, HS.out⟩, belowCall B1 b2⟩
  have hk : ckC cn a xs = 0 := by simp [ckC, hv, g1]
  rw [hk] at HCK
  clear hk
  obtain ⟨c1, c2, c60, call⟩ := cms_parts hv
  have ha0 : ((w.alloc (.cells #[.int .i64 a] 2)).alloc (.cells #[.int .i64 b] 2)).cell? ⟨w.heap.size, 0, none⟩ = some (.int .i64 a) := by go_keep
  have hb0 : ((w.alloc (.cells #[.int .i64 a] 2)).alloc (.cells #[.int .i64 b] 2)).cell? ⟨w.heap.size + 1, 0, none⟩ = some (.int .i64 b) := by go_keep
  cases g2 : inB b 0 (cn - 1)
  · have HS := Lib.hid (mdS_bad (mdC_2b hv g1 g2) (by decide))
    go_enter Try.func11, Try.ntmps11
    go_wp2_with fail
    refine (HCK.out _ h1).mono ?_
    rintro e w2 ⟨rfl, b2⟩
    have ka := (b2.cell (p := ⟨w.heap.size, 0, none⟩) (by simp; omega)).trans ha0
    have kb := (b2.cell (p := ⟨w.heap.size + 1, 0, none⟩) (by simp)).trans hb0
    go_wp2_with (go_at_call 37; refine (isObs_any _ _ _ (by omega) (by omega)).mono ?_; rintro e w' ⟨rfl, rfl⟩)
    go_ret2
    exact ⟨⟨_, rfl, HS.out⟩, belowCall B1 b2⟩
  cases g3 : (a == b)
  rotate_left
  · have HS := Lib.hid (mdS_bad (mdC_2c hv g1 g2 g3) (by decide))
    go_enter Try.func11, Try.ntmps11
    go_wp2_with fail
    refine (HCK.out _ h1).mono ?_
    rintro e w2 ⟨rfl, b2⟩
    have ka := (b2.cell (p := ⟨w.heap.size, 0, none⟩) (by simp; omega)).trans ha0
    have kb := (b2.cell (p := ⟨w.heap.size + 1, 0, none⟩) (by simp)).trans hb0
    go_wp2_with (go_at_call 37; refine (isObs_any _ _ _ (by omega) (by omega)).mono ?_; rintro e w' ⟨rfl, rfl⟩)
    go_ret2
    exact ⟨⟨_, rfl, HS.out⟩, belowCall B1 b2⟩
  obtain ⟨i0, hi, hz0, hz1, hz2⟩ := info_parts A_info
  refine (callsIn_wide (n := 5)).1 ?_
  refine callsIn_of_wp_marks Try.func11 rfl trivial ?_ rfl
  simp only [Try.ntmps11, List.size_toArray, List.length_cons, List.length_nil, Nat.reduceAdd, Nat.reduceSub, Array.replicate_succ, Array.replicate_zero, List.push_toArray, List.append_toArray, List.nil_append, List.cons_append]
  gi_wp2_with (first | ((try refine ⟨trivial, ?_⟩); gi_at_call 36; refine (callsIn_wide.2 (HCK.out _ h1)).mono ?_; rintro e w2 ⟨rfl, b2⟩; have ka := (b2.cell (p := ⟨w.heap.size, 0, none⟩) (by simp; omega)).trans ha0; have kb := (b2.cell (p := ⟨w.heap.size + 1, 0, none⟩) (by simp)).trans hb0) | ((try refine ⟨trivial, ?_⟩); gi_at_call 37; refine (callsIn_wide.2 (isObs_any _ _ _ (by omega) (by omega))).mono ?_; rintro e w' ⟨rfl, rfl⟩) | ((try refine ⟨trivial, ?_⟩); gi_at_call 38; refine (callsIn_wide.2 (bothWays_any _ _ _ _)).mono ?_; rintro e W0 ⟨rfl, b4, c4⟩))
  have hA2 : Boxed w2 w.heap.size 2 (.int .i64 a) := ((b2.block w.heap.size (by simp; omega)).trans ((Boxed.new w 2 (.int .i64 a)).alloc (.cells #[.int .i64 b] 2)))
  have hB2 : Boxed w2 (w.heap.size + 1) 2 (.int .i64 b) := ((b2.block (w.heap.size + 1) (by simp)).trans (by have := Boxed.new (w.alloc (.cells #[.int .i64 a] 2)) 2 (.int .i64 b); rw [World.size_alloc] at this; exact this))
  have hs2 := b2.size
  have hs0 := b4.size
  simp only [World.size_alloc] at hs2 hs0 c4
  have hA0 : Boxed W0 w.heap.size 2 (.int .i64 a) := (b4.block _ (by simp; omega)).trans (hA2.alloc _)
  have hB0 : Boxed W0 (w.heap.size + 1) 2 (.int .i64 b) := (b4.block _ (by simp; omega)).trans (hB2.alloc _)
  have hD0 : Boxed W0 w2.heap.size 30 (.slice none 0 0) := (b4.block _ (by simp)).trans (Boxed.new w2 30 (.slice none 0 0))
  have hbel : Below w.heap.size w W0 := belowCall (Below.alloc (belowCall B1 b2) (by omega) _) b4
  clear ka kb ha0 hb0 hA2 hB2 B1 h1
  generalize hBd : w2.heap.size = Bd at *
  have hn' : (n : Nat) ≤ 60 := by rw [← h.1]; exact c60
  have HD := Lib.hid (difL_bd (a := a) (b := b) call)
  have hdl := difL_len a b xs
  rw [h.1] at hdl
  have H3 := Lib.hid (mdC_3 hv g1 g2 g3)
  have H0 := Lib.hid (mdC_0 hv g1 g2 g3)
  refine wpIn_rangeFunc_ownH rfl (by omega) (gf := 61) (lb := #[.pointer (some ⟨Bd + 1, 0, none⟩)]) rfl trivial (enters_of Try.func61 (by kernel_rfl) rfl)
    (both1_any (Bd + 1) s n c xs cn w W0 h hbel hn call c4) KpC.trans (kpc_b (by omega)) (Below.refl _ _) (fun _ => rfl)
    (fun pre W => (((∃ v, Boxed W Bd 30 v ∧ W.ownsRow Bd 2 1 v (selD a b pre).length ((selD a b pre).map (Value.int .i64)) ∧ True) ∧ Boxed W w.heap.size 2 (.int .i64 a)) ∧ Boxed W (w.heap.size + 1) 2 (.int .i64 b)) ∧ Below w.heap.size w W)
    (fun _ _ _ => False)
    (OwnFrom.and (OwnFrom.and (OwnFrom.and (Own.from (holdsRow_own Bd Bd 30 2 1 (fun pre : List Cm => (selD a b pre).length) (fun pre => (selD a b pre).map (Value.int .i64)) (fun _ _ => True)) _) (Own.from (boxed_own _ _ _) _)) (Own.from (boxed_own _ _ _) _)) (ownFrom_below (Nat.le_refl _) (by omega)))
    (fun _ _ _ _ _ hs _ _ => hs)
    ⟨⟨⟨⟨_, hD0, World.ownsRow_nil _ _ _ _, trivial⟩, hA0⟩, hB0⟩, hbel⟩
    (fun x a' W => ∃ Bx, Bd < Bx ∧ CmBox 54 W Bx x ∧ a' = { tmps := #[Value.int .i64 cn, .slice s n c, .int .i64 a, .int .i64 b, undef, undef, .pointer (some ⟨w.heap.size, 0, none⟩), .pointer (some ⟨w.heap.size + 1, 0, none⟩), .int .i64 0, .int .i64 0, .int .i64 0, .pointer (some ⟨Bd, 0, none⟩), .pointer (some ⟨Bx, 0, none⟩), .int .i64 cn, .slice s n c, .int .i64 a, .int .i64 0, .int .i64 0, .bool false, undef, .int .i64 cn, .int .i64 b, .bool true, .bool false, .bool false, .int .i64 a, .int .i64 b, .bool false, .bool false, .slice s n c, .func (.func 61) #[] #[.pointer (some ⟨Bd + 1, 0, none⟩)], .agg #[.int .i64 x.1, .int .i64 x.2.1, .int .i64 x.2.2], undef, undef, undef, undef, undef, undef, undef, undef, undef, undef, undef, undef, undef, undef, undef, undef, undef, undef, undef, undef], defers := [] })
    (fun x a' _ X Y row hs hg hr => by obtain ⟨Bx, h1, h2, h3⟩ := hs; exact ⟨Bx, h1, cmBox_own _ _ Bx x () X Y row h2 hg hr, h3⟩)
    ?assign ?body ?done ?stop
  case assign =>
    rintro l pre ⟨x0, x1, x2⟩ W K ⟨⟨⟨⟨v, hvv, hrow, _⟩, hA⟩, hBb⟩, hB⟩ hK
    gi_wp2
    exact hK _ _ ((KeepsOthers.alloc _ _).from _) (KpC.alloc hB.size _) ⟨⟨⟨⟨v, hvv.alloc _, hrow.alloc _, trivial⟩, hA.alloc _⟩, hBb.alloc _⟩, hB.alloc hB.size _⟩ ⟨W.heap.size, hvv.lt, World.alloc_heap_new W _, rfl⟩
  case body =>
    rintro l pre ⟨x0, x1, x2⟩ a' W hl ⟨r, hr⟩ ⟨⟨⟨⟨v, hvv, hrow, _⟩, hA⟩, hBb⟩, hB⟩ ⟨Bx, hBx, bX, rfl⟩ hlt
    obtain ⟨p0, p1, p2⟩ := bX.cells
    have ka := hA.cell
    have kb := hBb.cell
    have kv := hvv.cell
    have hbd := hvv.lt
    have hle := selD_len a b pre
    have HN := Lib.hid (@selD_no a b pre x0 x1 x2)
    have HY := Lib.hid (@selD_yes a b pre x0 x1 x2)
    cases f1 : (x0 == a)
    · have HS := Lib.hid (HN.out (by simp [isAB, f1]))
      gi_wp2
      exact ⟨KeepsFrom.refl _ _, KpC.refl _ _ _, ⟨⟨⟨_, hvv, by rw [HS.out]; exact hrow, trivial⟩, hA⟩, hBb⟩, hB⟩
    cases f2 : (x1 == b)
    · have HS := Lib.hid (HN.out (by simp [isAB, f2]))
      gi_wp2
      exact ⟨KeepsFrom.refl _ _, KpC.refl _ _ _, ⟨⟨⟨_, hvv, by rw [HS.out]; exact hrow, trivial⟩, hA⟩, hBb⟩, hB⟩
    · have HS := Lib.hid (HY.out (by simp [isAB, f1, f2]))
      generalize selD a b pre = L at hrow hle HS
      gi_wp2_with (gi_at_builtin; refine wpListIn_append_own _ rfl _ _ 30 rfl Bd 2 i0 (.int .i64 0) 1 8 Try.underlying30 hi hz0 hz1 hz2 rfl (by decide) _ _ _ rfl (hrow.alloc _) ⟨W.heap.size, 0, none⟩ 1 1 [.int .i64 x2] rfl rfl (cell_one_new _ _ _) (by simp [Value.oneCell']) (by unfold maxLen; omega) (by omega) (by simp; omega) ?_; intro v' w1 hown' hgrow _; obtain ⟨g', cap', rfl⟩ := ownsRow_succ hown'; obtain ⟨hv1, hv2, hr2, hk2, hb2⟩ := hvv.appended (by decide) hrow (Nat.le_of_lt hbd) (Nat.le_refl _) hown' hgrow; have hc1 := hv1.cell; have hf1 := hv1.frozen)
      exact ⟨hk2.from _, KpC.appended hB.size (by omega) (by omega) hv1 (by decide) (by decide) hrow hgrow, ⟨⟨⟨_, hv2, by rw [HS.out]; simpa using hr2, trivial⟩, (hb2.block _ (by omega)).trans hA⟩, (hb2.block _ (by omega)).trans hBb⟩, hB.trans (hb2.mono (by omega))⟩
  case done =>
    rintro D ys W hD rfl ⟨⟨⟨⟨v, hvv, hrow, _⟩, hA⟩, hBb⟩, hB⟩ hK
    rw [selD_both] at hrow
    have kv := hvv.cell
    have hfv := hvv.frozen
    by_cases h0 : (difL a b xs).length = 0
    · have HS := Lib.hid (mdS_bad (H3.out h0) (by decide))
      rw [h0] at hrow
      rcases own_form1 hrow with ⟨_, rfl⟩ | ⟨g, c', rfl⟩
      all_goals
        gi_wp2
        refine ⟨by simp, .inl ⟨_, _, rfl, run_takeDeferred hK, ?_⟩⟩
        refine ⟨_, results_tmp2 rfl _ _ _, ?_⟩
        exact ⟨⟨_, rfl, HS.out⟩, hB.trans (belowK_b (w := w) (Nat.le_refl _) W D _ _ (by omega) hK rfl rfl)⟩
    · rcases own_form1 hrow with ⟨h9, _⟩ | ⟨g, c', rfl⟩
      · exact absurd h9 h0
      have HC := Lib.hid (H0.out h0)
      have hL : Lst W (some ⟨g, 0, none⟩) (difL a b xs).length (difL a b xs) := Lst.of_own hrow
      have hd : ((difL a b xs).length : Int) ≠ 0 := by omega
      clear hrow
      generalize hLL : difL a b xs = L at hL HD hdl h0 hd hvv kv ⊢
      have HLL := Lib.hid hLL
      clear hLL
      have hd' : ((L.length : Int) == 0) = false := by simpa using hd
      gi_wp2_with ((try refine ⟨trivial, ?_⟩); gi_at_call 39; refine (callsIn_wide.2 (middle_any (some ⟨g, 0, none⟩) L.length c' L W hL (by omega) (by omega) (fun x hx => by have := HD.out x hx; omega))).mono ?_; rintro e w4 ⟨ys, hr, hp, rfl, b4'⟩; have HR := Lib.hid hr; have HP := Lib.hid hp; clear hr hp)
      have hK4 := (b4'.block D (Array.getElem?_eq_some_iff.1 hK).1).trans hK
      refine ⟨by simp, .inl ⟨_, _, rfl, run_takeDeferred hK4, ?_⟩⟩
      refine ⟨_, results_tmp2 rfl _ _ _, ?_⟩
      exact ⟨⟨_, rfl, .inl ⟨HC.out, ys, HR.out, by rw [HLL.out]; exact HP.out, rfl⟩⟩, (belowCall hB b4').trans (belowK_b (w := w) (Nat.le_refl _) w4 D _ _ (by omega) hK4 rfl rfl)⟩
  case stop =>
    rintro D c pre W _ _ h _
    exact h.elim
end Go.Proofs.Ytlfbfgdejoggpab
