/- linkedShifts, the program's. UNFINISHED: the first loop is walked whole; behind it a sorry (case done). -/
import Derived.Test.YtfnjndbnogeddaaL9
import Derived.Test.YtfnjndbnogeddaaLO
import Derived.Test.YtfnjndbnogeddaaLQ
import Derived.Test.YtfnjndbnogeddaaLR
import Derived.Deep.LoopGhost
import Derived.Outline
namespace Go.Proofs.Ytfnjndbnogeddaa
open Go.ChangeShapes Go.WideShapes Go.ChangeAt Go.RowKit Go.Shelf Go.Deep Go.Maps
attribute [local go_sem] Oper.semAt_some

theorem CmL.back {w w' : World} {a : Option Addr} {n : Nat} {xs : List Cm} (h : CmL w' a n xs) (hb : Below w.heap.size w w') (hg : ∀ g o, a = some ⟨g, o, none⟩ → g < w.heap.size) : CmL w a n xs :=
  ⟨h.1, fun i hi => by
    obtain ⟨b, off, e, hc⟩ := h.2 i hi
    exact ⟨b, off, e, hg b off e, fun f hf => (hb.cell (p := ⟨b, off + i * 3 + f, none⟩) (hg b off e)).symm.trans (hc.2 f hf)⟩⟩
theorem own_form3 {w : World} {B T n : Nat} {v : Value} {xs : List Cm} (h : w.ownsRow B T 3 v n (flatCm xs)) (hn : xs.length = n) : ∃ a c, v = .slice a n c ∧ CmL w a n xs ∧ ∀ g o, a = some ⟨g, o, none⟩ → v.ownBlock = some g := by
  rcases h.2 with ⟨hv, h0⟩ | ⟨g, cap, cur, hv, _⟩
  · subst h0
    exact ⟨none, 0, hv, ⟨hn, fun i hi => absurd hi (by omega)⟩, fun g o e => by cases e⟩
  · subst hv
    exact ⟨_, cap, rfl, CmL.of_own h hn, fun g' o e => by cases e; rfl⟩
theorem own_lstN {w : World} {B T : Nat} {v : Value} {xs : List Nat} (h : w.ownsRow B T 1 v xs.length ((xs.map fun b : Nat => (b : Int)).map (Value.int .i64))) : ∃ a c, v = .slice a xs.length c ∧ Lst w a xs.length (xs.map fun b : Nat => (b : Int)) ∧ ∀ g o, a = some ⟨g, o, none⟩ → B ≤ g := by
  rcases h.2 with ⟨hv, h0⟩ | ⟨g, cap, cur, hv, hB, _⟩
  · exact ⟨none, 0, by rw [hv, h0], ⟨by simp, fun i hi => absurd hi (by omega)⟩, fun g o e => by cases e⟩
  · subst hv
    exact ⟨some ⟨g, 0, none⟩, cap, rfl, Lst.of_own h, fun g' o e => by cases e; exact hB⟩
theorem _root_.Go.World.grownBy.thenSame {a b c d : World} {row : Option Nat} (h : a.grownBy b row) (k : b.grownBy c none) (l : c.grownBy d row) : a.grownBy d row :=
  ⟨l.os.trans (k.os.trans h.os), l.tape.trans (k.tape.trans h.tape), l.output.trans (k.output.trans h.output), Nat.le_trans h.size (Nat.le_trans k.size l.size), fun i hi hr => (l.block i (Nat.lt_of_lt_of_le (Nat.lt_of_lt_of_le hi h.size) k.size) hr).trans ((k.block i (Nat.lt_of_lt_of_le hi h.size) (by simp)).trans (h.block i hi hr))⟩
theorem offP_s (xs : List Cm) (kn : Kn) (Q : List Nat) (s t : Int) : (fun b => offP xs kn Q s [] b) = fun b => offP xs kn Q t [] b := by
  funext b
  unfold offP
  cases kn b <;> simp
/-- a new map of the shifts -/
def LnE (B : Nat) (kn : Kn) (w' : World) (e : Ending) : Prop := ∃ bS n, e = .returned (.map (some bS)) ∧ B ≤ bS ∧ n ≤ 100000 ∧ ShM w' bS n kn
set_option maxRecDepth 100000 in
set_option maxHeartbeats 8000000 in
theorem linked_any (c first : Nat) (s : Option Addr) (n cap : Nat) (xs : List Cm) (w : World) (h : CmL w s n xs) (hn : n ≤ 60) (hc : c ≤ 40) (hf : first < c) (hall : xs.all (cmB c) = true) :
    Calls Try.prog 44 #[.slice s n cap, .int .i64 first] w fun e w' => LnE w.heap.size (finK xs c first) w' e ∧ Below w.heap.size w w' := by
  have hmm := @run_makeMap Try.prog
  obtain ⟨i0, hi, hz0, hz1, hz2⟩ := info_parts C_info
  obtain ⟨i1, hi1, hy0, hy1, hy2⟩ := info_parts A_info
  have HL := Lib.hid h.1
  refine (callsIn_wide (n := 5)).1 ?_
  refine callsIn_of_wp_marks Try.func44 rfl trivial ?_ rfl
  simp only [Try.ntmps44, List.size_toArray, List.length_cons, List.length_nil, Nat.reduceAdd, Nat.reduceSub, Array.replicate_succ, Array.replicate_zero, List.push_toArray, List.append_toArray, List.nil_append, List.cons_append]
  gi_wp2_with ((try refine ⟨trivial, ?_⟩); gi_at_call 68; refine (callsIn_wide.2 (bothWays_any _ _ _ _)).mono ?_; rintro e W0 ⟨rfl, b4, c4⟩)
  have hs0 := b4.size
  simp only [World.size_alloc] at hs0 c4
  have hM0 : AgM (w.alloc (.map #[] 0)) w.heap.size (w.heap.size + 1 + 1) [] := agM_made w (by omega)
  have hA0 : AgM W0 w.heap.size (w.heap.size + 1 + 1) [] := (hM0.kept (World.grownBy_alloc _ (.cells #[.map (some w.heap.size)] 93) none) (fun g e => by cases e)).kept (grown_of_below5 b4) (fun g e => by cases e)
  have hN0 : ∀ i, ¬ RowOf W0 w.heap.size i := fun i hi => by
    have h1 := RowOf.same (b4.block w.heap.size (by simp; omega)) hi
    have h2 := RowOf.same (((Below.refl _ (w.alloc (.map #[] 0))).alloc (Nat.le_refl _) (.cells #[.map (some w.heap.size)] 93)).block w.heap.size (by simp)) h1
    obtain ⟨es, clock, hb, x, hx, _⟩ := h2
    rw [World.alloc_heap_new] at hb
    cases hb
    simp at hx
  have hB0 : Boxed W0 (w.heap.size + 1) 93 (.map (some w.heap.size)) := (b4.block _ (by simp)).trans (by have := Boxed.new (w.alloc (.map #[] 0)) 93 (.map (some w.heap.size)); rw [World.size_alloc] at this; exact this)
  have hbel : Below w.heap.size w W0 := belowCall (Below.alloc (Below.alloc (Below.refl _ w) (Nat.le_refl _) _) (by simp) _) b4
  clear hM0 b4
  have hs0' : w.heap.size < W0.heap.size := by omega
  have hmx : Try.prog.follows .mixedOrders = true := by kernel_rfl
  have HALL := Lib.hid hall
  clear hall
  refine wpIn_rangeFunc_ownH rfl (by omega) (gf := 87) (lb := #[.pointer (some ⟨w.heap.size + 1 + 1, 0, none⟩)]) rfl trivial (enters_of Try.func87 (by kernel_rfl) rfl)
    (both1M_any w.heap.size (w.heap.size + 1 + 1) s n cap xs c w W0 hN0 (by omega) h hbel (by omega) HALL.out c4) KpM.trans (kpm_b (by omega) (by omega)) (Below.refl _ _) (fun _ => rfl)
    (fun pre W => ((AgM W w.heap.size (w.heap.size + 1 + 1) (pre.map Subtype.val) ∧ RowsIn' W w.heap.size) ∧ Boxed W (w.heap.size + 1) 93 (.map (some w.heap.size))) ∧ Below w.heap.size w W)
    (fun _ _ _ => False)
    (OwnFrom.and (OwnFrom.and (fun s A B row hs hg hr => ⟨AgM.kept2 hs.1 hg (fun g e => ⟨fun e' => by have := (hr g e).1; omega, (hr g e).2⟩), fun i hi => Nat.lt_of_lt_of_le (hs.2 i (rowOf_turn hs.1.lt hs0' hg (fun g e => (hr g e).1) hi)) hg.size⟩) (Own.from (boxed_own _ _ _) _)) (ownFrom_below (Nat.le_refl _) (by omega)))
    (fun _ _ _ _ _ hs _ _ => hs)
    ⟨⟨⟨hA0, fun i hi => absurd hi (hN0 i)⟩, hB0⟩, hbel⟩
    (fun x a' W => ∃ Bx, w.heap.size + 1 < Bx ∧ CmBox 67 W Bx x.1 ∧ ¬ RowOf W w.heap.size Bx ∧ a' = { tmps := #[Value.slice s n cap, .int .i64 first, undef, undef, .map none, .pointer (some ⟨w.heap.size + 1, 0, none⟩), .pointer (some ⟨Bx, 0, none⟩), undef, undef, undef, undef, undef, undef, undef, undef, undef, undef, undef, .map (some w.heap.size), .slice s n cap, .func (.func 87) #[] #[.pointer (some ⟨w.heap.size + 1 + 1, 0, none⟩)], .agg #[.int .i64 x.1.1, .int .i64 x.1.2.1, .int .i64 x.1.2.2], undef, undef, undef, undef, undef, undef, undef, undef, undef, undef, undef, undef, undef, undef, undef, undef, undef, undef, undef, undef, undef, undef, undef, undef, undef, undef, undef, undef, undef, undef, undef, undef, undef, undef, undef, undef, undef, undef, undef, undef, undef, undef, undef, undef, undef, undef, undef, undef, undef, undef, undef, undef, undef, undef, undef, undef, undef, undef, undef, undef, undef, undef, undef, undef, undef, undef, undef, undef, undef, undef, undef, undef, undef, undef, undef, undef], defers := [] })
    (fun x a' _ X Y row hs hg hr => by obtain ⟨Bx, h1, h2, h2', h3⟩ := hs; exact ⟨Bx, h1, cmBox_own _ _ Bx x.1 () X Y row h2 hg hr, fun hi => h2' (rowOf_turn (by have := (Array.getElem?_eq_some_iff.1 h2).1; omega) hs0' hg (fun g e => (hr g e).1) hi), h3⟩)
    ?assign ?body ?done ?stop
  case assign =>
    rintro l pre ⟨⟨x0, x1, x2⟩, hcm⟩ W K ⟨⟨⟨hA, hRI⟩, hBb⟩, hB⟩ hK
    have hlt := hBb.lt
    have hg1 := World.grownBy_alloc W (.cells #[.int .i64 x0, .int .i64 x1, .int .i64 x2] 67) none
    have hA' := hA.kept hg1 (fun g e => by cases e)
    gi_wp2
    exact hK _ _ ((KeepsOthers.alloc _ _).from _) (KpM.alloc hB.size (by omega) _) ⟨⟨⟨hA', hRI.alloc (by omega) _⟩, hBb.alloc _⟩, hB.alloc hB.size _⟩ ⟨W.heap.size, hlt, World.alloc_heap_new W _, hRI.fresh (by omega) _, rfl⟩
  case body =>
    rintro l pre ⟨⟨x0, x1, x2⟩, hcm⟩ a' W hl ⟨r, hr⟩ ⟨⟨⟨hA, hRI⟩, hBb⟩, hB⟩ ⟨Bx, hBx, bX, hNR, rfl⟩ hlt
    obtain ⟨p0, p1, p2⟩ := bX.cells
    have hBxl : Bx < W.heap.size := (Array.getElem?_eq_some_iff.1 bX).1
    have kM := hBb.cell
    have hlb := hBb.lt
    obtain ⟨i1, i2, i3, i4, -, d1, d2⟩ := cm_bd hcm
    have hpl : (pre.map Subtype.val).length < 1048576 := by rw [List.length_map]; omega
    have hD : AgM W.drew w.heap.size (w.heap.size + 1 + 1) (pre.map Subtype.val) := hA
    obtain ⟨v, hr1, hw1, ro1, bk1⟩ := hD.at hpl (a := x0) (by omega) (by omega)
    gi_wp2
    refine region_in_round hmx (by kernel_rfl) ?_
    change wpAny _ _ _ _ _ _ _ W.drew
    have hOB : Below W.heap.size W (W.alloc (.cells #[.int .i64 x0, .int .i64 x1, .int .i64 x2] 67)) := (Below.refl _ W).alloc (Nat.le_refl _) _
    have hD2 : AgM (W.alloc (.cells #[.int .i64 x0, .int .i64 x1, .int .i64 x2] 67)).drew w.heap.size (w.heap.size + 1 + 1) (pre.map Subtype.val) := (show AgM (W.alloc (.cells #[.int .i64 x0, .int .i64 x1, .int .i64 x2] 67)) w.heap.size (w.heap.size + 1 + 1) (pre.map Subtype.val) from hA.kept (World.grownBy_alloc W _ none) (fun g e => by cases e))
    obtain ⟨v2, hr2, hw2, ro2, bk2⟩ := hD2.at hpl (a := x0) (by omega) (by omega)
    have ne1 : some Bx ≠ v.ownBlock := fun e => hNR (ro1 Bx e.symm)
    have ne2 : some Bx ≠ v2.ownBlock := fun e => by
      have h9 := ro2 Bx e.symm
      exact hNR (RowOf.same (W := W) (hOB.block w.heap.size (by omega)) h9)
    have nm1 : some (w.heap.size + 1) ≠ v.ownBlock := fun e => by have := (hw1.lt _ e.symm).1; omega
    have nm2 : some (w.heap.size + 1) ≠ v2.ownBlock := fun e => by have := (hw2.lt _ e.symm).1; omega
    have o0 := (hOB.cell (p := ⟨Bx, 0, none⟩) hBxl).trans p0
    have o1 := (hOB.cell (p := ⟨Bx, 1, none⟩) hBxl).trans p1
    have o2 := (hOB.cell (p := ⟨Bx, 2, none⟩) hBxl).trans p2
    have oM := (hOB.cell (p := ⟨w.heap.size + 1, 0, none⟩) hlb).trans kM
    generalize hyy : pre.map Subtype.val = ys at *
    have hal : (agL ys x0).length ≤ 1048576 := by
      have := List.length_filter_le (fun x : Cm => x.1 == x0) ys
      unfold agL; omega
    have nb1 : some Bx ≠ some w.heap.size := fun e => by cases e; omega
    have nb2 : some (w.heap.size + 1) ≠ some w.heap.size := fun e => by have := Option.some.inj e; omega
    have hHeld : ((fun W' => W'.cell? ⟨Bx, 0, none⟩ = some (.int .i64 x0) ∧ W'.cell? ⟨Bx, 1, none⟩ = some (.int .i64 x1) ∧ W'.cell? ⟨Bx, 2, none⟩ = some (.int .i64 x2) ∧ W'.cell? ⟨w.heap.size + 1, 0, none⟩ = some (.map (some w.heap.size)))) W.drew := ⟨p0, p1, p2, kM⟩
    refine wpAny_of_held (S := (fun W' => W'.cell? ⟨Bx, 0, none⟩ = some (.int .i64 x0) ∧ W'.cell? ⟨Bx, 1, none⟩ = some (.int .i64 x1) ∧ W'.cell? ⟨Bx, 2, none⟩ = some (.int .i64 x2) ∧ W'.cell? ⟨w.heap.size + 1, 0, none⟩ = some (.map (some w.heap.size)))) _ _ _ _ ?_
    walk_held ((refine ⟨?_, ?_, ?_, ?_⟩ <;> first | exact r0 | exact r1 | exact r2 | exact rM | exact q0 | exact q1 | exact q2 | exact qM | exact o0 | exact o1 | exact o2 | exact oM | exact p0 | exact p1 | exact p2 | exact kM)) (first | (refine Go.step_append_lies _ rfl _ _ 41 rfl (w.heap.size + 1 + 1) 67 i0 _ 3 24 Try.underlying41 hi hz0 hz1 hz2 rfl (by decide) v (agL ys x0).length (flatCm (agL ys x0)) rfl (show (W.alloc (.cells #[.int .i64 x0, .int .i64 x1, .int .i64 x2] 67)).drew.ownsRow _ _ _ _ _ _ from hw1.alloc _) ⟨W.heap.size, 0, none⟩ 1 1 [.int .i64 x0, .int .i64 x1, .int .i64 x2] rfl rfl (cellsCm W _ _ _ _) (by intro u hu; simp at hu; rcases hu with rfl | rfl | rfl <;> rfl) (by decide) (by unfold maxLen; omega) (by omega) (by simp; omega) _ rfl ?_; intro g7 cc7 wb hownb hgb hlies hglt; have q0 := hgb.cell (a := ⟨Bx, 0, none⟩) o0 ne1; have q1 := hgb.cell (a := ⟨Bx, 1, none⟩) o1 ne1; have q2 := hgb.cell (a := ⟨Bx, 2, none⟩) o2 ne1; have qM := hgb.cell (a := ⟨w.heap.size + 1, 0, none⟩) oM nm1; obtain ⟨w2, hrun2, hA2, hg2, hRW⟩ := bk1 wb (.slice (some ⟨g7, 0, none⟩) ((agL ys x0).length + 1) cc7) (x0, x1, x2) rfl (gtr (show W.drew.grownBy (W.drew.alloc (.cells #[.int .i64 x0, .int .i64 x1, .int .i64 x2] 67)) _ from World.grownBy_alloc W.drew _ _) ⟨hgb.os, hgb.tape, hgb.output, hgb.size, hgb.block⟩) (by rw [flatCm_snoc]; exact hownb) (hlies.elim (fun h => .inl h.symm) (fun h => .inr ⟨g7, rfl, by rw [h]; simp⟩)); have r0 := hg2.cell (a := ⟨Bx, 0, none⟩) q0 nb1; have r1 := hg2.cell (a := ⟨Bx, 1, none⟩) q1 nb1; have r2 := hg2.cell (a := ⟨Bx, 2, none⟩) q2 nb1; have rM := hg2.cell (a := ⟨w.heap.size + 1, 0, none⟩) qM nb2) | (refine Go.step_append_lies _ rfl _ _ 41 rfl (w.heap.size + 1 + 1) 67 i0 _ 3 24 Try.underlying41 hi hz0 hz1 hz2 rfl (by decide) v2 (agL ys x0).length (flatCm (agL ys x0)) rfl hw2 ⟨W.heap.size, 0, none⟩ 1 1 [.int .i64 x0, .int .i64 x1, .int .i64 x2] rfl rfl (cellsCm W _ _ _ _) (by intro u hu; simp at hu; rcases hu with rfl | rfl | rfl <;> rfl) (by decide) (by unfold maxLen; omega) (by omega) (by simp; omega) _ rfl ?_; intro g7 cc7 wb hownb hgb hlies hglt; have q0 := hgb.cell (a := ⟨Bx, 0, none⟩) o0 ne2; have q1 := hgb.cell (a := ⟨Bx, 1, none⟩) o1 ne2; have q2 := hgb.cell (a := ⟨Bx, 2, none⟩) o2 ne2; have qM := hgb.cell (a := ⟨w.heap.size + 1, 0, none⟩) oM nm2; obtain ⟨w2, hrun2, hA2, hg2, hRW⟩ := bk2 wb (.slice (some ⟨g7, 0, none⟩) ((agL ys x0).length + 1) cc7) (x0, x1, x2) rfl hgb (by rw [flatCm_snoc]; exact hownb) (hlies.elim (fun h => .inl h.symm) (fun h => .inr ⟨g7, rfl, by rw [h]; exact Nat.le_refl _⟩)); have r0 := hg2.cell (a := ⟨Bx, 0, none⟩) q0 nb1; have r1 := hg2.cell (a := ⟨Bx, 1, none⟩) q1 nb1; have r2 := hg2.cell (a := ⟨Bx, 2, none⟩) q2 nb1; have rM := hg2.cell (a := ⟨w.heap.size + 1, 0, none⟩) qM nb2))
    all_goals
      have hmp := hA.map
      refine ⟨rfl, ?_⟩
      simp only [Exit.inBlock]
      go_at_K
    · obtain ⟨k1, k2, k3, k4⟩ := ag_round (n₀ := w.heap.size) (D := W0.heap.size) (T := 67) (Nat.le_refl _) (by omega) hs0' hmp (show Below W.heap.size W (W.alloc (.cells #[.int .i64 x0, .int .i64 x1, .int .i64 x2] 67)).drew from Below.drew hOB) hgb hg2 (fun g hg => ⟨ro1 g hg, (hw1.lt g hg).1⟩) (own_cells (show (W.alloc (.cells #[.int .i64 x0, .int .i64 x1, .int .i64 x2] 67)).drew.ownsRow _ _ _ _ _ _ from hw1.alloc _)) hglt hlies (fun i hi => (hRW i hi).imp id (fun e => by simpa [Value.ownBlock] using e)) hRI
      exact ⟨k1, k2, ⟨⟨by rw [List.map_append, hyy]; exact hA2, k3⟩, (k4 _ (by omega) (by omega) (by omega)).trans hBb⟩, hB.trans k2.1⟩
    · obtain ⟨k1, k2, k3, k4⟩ := ag_round (n₀ := w.heap.size) (D := W0.heap.size) (T := 67) (Nat.le_refl _) (by omega) hs0' hmp (show Below W.heap.size W (W.alloc (.cells #[.int .i64 x0, .int .i64 x1, .int .i64 x2] 67)).drew from Below.drew hOB) hgb hg2 (fun g hg => ⟨RowOf.same (W := W) (hOB.block w.heap.size (by omega)) (ro2 g hg), (hw2.lt g hg).1⟩) (own_cells hw2) hglt hlies (fun i hi => (hRW i hi).imp (fun h => RowOf.same (W := W) (hOB.block w.heap.size (by omega)) h) (fun e => by simpa [Value.ownBlock] using e)) hRI
      exact ⟨k1, k2, ⟨⟨by rw [List.map_append, hyy]; exact hA2, k3⟩, (k4 _ (by omega) (by omega) (by omega)).trans hBb⟩, hB.trans k2.1⟩
  case done =>
    rintro D ys W hD hys ⟨⟨⟨hA, hRI⟩, hBb⟩, hB⟩ hK
    rw [hys] at hA
    have kM := hBb.cell
    have hlbM := hBb.lt
    have hS0 : ShM (W.alloc (.map #[] 0)) W.heap.size 0 (fun _ => none) := ⟨.map [], World.ownsMap_made _ _ _ _, fun z h => by simp [Maps.has] at h, fun z => ⟨by simp [Maps.has], fun s h => by cases h⟩⟩
    obtain ⟨W1, hrun1, hS1, hg1⟩ := hS0.put (z := first) (s := 0) (by omega) (by omega) (by omega) (by omega)
    have hS1 : ShM W1 W.heap.size 1 (kn0 first) := hS1
    have bW1 : Below W.heap.size W W1 := ((Below.refl _ W).alloc (Nat.le_refl _) _).grown hg1 (by simp) (fun g e => by cases e; exact Nat.le_refl _)
    have z1 := hg1.size
    have hz1 : W.heap.size < W1.heap.size := by simp at z1; omega
    have hq1 := lst_one W1 (first : Nat) 2
    have bW2 : Below W.heap.size W (W1.alloc (.cells #[.int .i64 (first : Nat)] 2)) := bW1.alloc (by omega) _
    have hS2 : ShM (W1.alloc (.cells #[.int .i64 (first : Nat)] 2)) W.heap.size 1 (kn0 first) := hS1.kept (World.grownBy_alloc W1 _ none) (by simp)
    have hck := knC0 hf
    gi_wp2
    clear hg1 hS1 hS0 hrun1 bW1
    refine wpIn_wide.2 ?_
    go_loopg [8] c (fun k q wr => ∃ (i n : Nat) (a : Option Addr) (cq : Nat) (Q : List Nat), q = .slice a Q.length cq ∧ Lst wr a Q.length (Q.map fun x : Nat => (x : Int)) ∧ QInv xs c (itK xs c (kn0 first) i) Q ∧ BndK i (itK xs c (kn0 first) i) ∧ (Q ≠ [] → c < k + knC c (itK xs c (kn0 first) i)) ∧ i + k = c ∧ n ≤ 1 + 40 * i ∧ ShM wr W.heap.size n (itK xs c (kn0 first) i) ∧ Below W.heap.size W wr ∧ W.heap.size < wr.heap.size)
    case atStart => exact ⟨0, 1, _, _, [first], rfl, hq1, qinv0 hf, bnd0 first, fun _ => by show c < c + knC c (kn0 first); omega, by omega, by omega, hS2, bW2, by simp; omega⟩
    case round =>
      obtain ⟨i, nS, a, cq, Q, rfl, hLq, hQI, hBd, hcnt, hik, hnS, hSh, hBw, hbs⟩ := hrel
      obtain ⟨kn, hkn⟩ : ∃ kn, itK xs c (kn0 first) i = kn := ⟨_, rfl⟩
      rw [hkn] at hQI hBd hcnt hSh
      have HKN := Lib.hid hkn
      have HQI := Lib.hid hQI
      have HBD := Lib.hid hBd
      have HCNT := Lib.hid hcnt
      clear hkn hQI hBd hcnt
      by_cases hQ : Q = []
      · subst hQ
        have HF : Hid (kn = finK xs c first) := Lib.hid (by rw [← HKN.out]; exact finK_of (by rw [HKN.out]; exact queue_end HQI.out))
        have hDl := (Array.getElem?_eq_some_iff.1 hK).1
        have hK9 := (hBw.block D (Array.getElem?_eq_some_iff.1 hK).1).trans hK
        go_wp2
        gi_wp2
        refine ⟨by simp, .inl ⟨_, _, rfl, run_takeDeferred hK9, ?_⟩⟩
        refine ⟨_, results_tmp rfl _ _ _, ?_⟩
        exact ⟨⟨W.heap.size, nS, rfl, hB.size, by omega, by rw [← HF.out]; exact hSh.kept (grownBy_putObj' wr D _) (fun e => by have := Option.some.inj e; omega)⟩, (hB.trans (hBw.mono hB.size)).trans (belowK_b (w := w) (Nat.le_refl _) wr D _ _ (by omega) hK9 rfl rfl)⟩
      have hQl : 0 < Q.length := List.length_pos_iff.2 hQ
      have hQz : (0 : Int) < (Q.length : Int) := by omega
      have hQ40 : Q.length ≤ 40 := by
        have h1 := filter_sorted c Q HQI.out.1 (fun a ha => (HQI.out.2.1 a ha).1)
        have h2 := List.length_filter_le (fun a => decide (a ∈ Q)) (List.range c)
        rw [h1, List.length_range] at h2; omega
      have hO0 : OfM (wr.alloc (.map #[] 0)) wr.heap.size (wr.heap.size + 1) 0 (fun b => offP xs kn (Q.take 0) 0 [] b) := by rw [List.take_zero, offP_take0]; exact ofM_made wr (by omega)
      have HQ := Lib.hid hQ
      clear hQ
      obtain ⟨wo, rfl⟩ : ∃ wo, wo = wr := ⟨wr, rfl⟩
      go_wp2
      go_loopw [43] (fun jv wq => ∃ (j nO : Nat), j ≤ Q.length ∧ jv = .int .i64 j ∧ nO ≤ 120 * j ∧ OfM wq wo.heap.size (wo.heap.size + 1) nO (fun b => offP xs kn (Q.take j) 0 [] b) ∧ Below wo.heap.size wo wq ∧ wo.heap.size < wq.heap.size) (fun jv _ => Q.length - (Go.RowKit.intOf jv).toNat)
      case atStart => exact ⟨0, 0, by omega, rfl, by omega, hO0, (Below.refl _ wo).alloc (Nat.le_refl _) _, by simp⟩
      case round =>
        obtain ⟨j, nO, hj, rfl, hnO, hOf, hBq, hbq⟩ := hrel
        obtain ⟨wq, rfl⟩ : ∃ wq, wq = wr := ⟨wr, rfl⟩
        have hs1 := hBw.size
        have bWq : Below W.heap.size W wq := hBw.trans (hBq.mono hs1)
        by_cases hjl : j < Q.length
        · obtain ⟨aj, haj⟩ : ∃ x, Q[j]? = some x := ⟨Q[j], by simp [hjl]⟩
          have hajQ : aj ∈ Q := List.mem_of_getElem? haj
          obtain ⟨hac, has⟩ := HQI.out.2.1 aj hajQ
          obtain ⟨s', hs'⟩ := Option.isSome_iff_exists.1 has
          obtain ⟨bq, oq, rfl, hbl, hcell⟩ := hLq.2 j hjl
          have hv9 : (Q.map fun x : Nat => (x : Int))[j]?.getD 0 = (aj : Int) := by rw [List.getElem?_map, haj]; rfl
          rw [hv9] at hcell
          have hcq := (hBq.cell (p := ⟨bq, oq + j, none⟩) hbl).trans hcell
          have hkMq := (bWq.cell (p := ⟨w.heap.size + 1, 0, none⟩) hlbM).trans kM
          have hAq : AgM wq w.heap.size (w.heap.size + 1 + 1) (bothL xs) := hA.kept (grown_of_below5 bWq) (fun g e => by cases e)
          obtain ⟨v, hr1, hw1, ro1, -⟩ := hAq.at (a := aj) (by rw [bothL_len, HL.out]; omega) (by omega) (by omega)
          obtain ⟨av, cv, rfl, hLv, hav⟩ := own_form3 hw1 rfl
          have hCv : CmL wo av (agL (bothL xs) aj).length (agL (bothL xs) aj) := hLv.back hBq (fun g o e => by
            have h1 := ro1 g (hav g o e)
            have h2 := hRI g (RowOf.same (bWq.block w.heap.size (by omega)) h1)
            omega)
          have hyl : (agL (bothL xs) aj).length ≤ 120 := by
            have := List.length_filter_le (fun x : Cm => x.1 == (aj : Int)) (bothL xs)
            rw [bothL_len, HL.out] at this
            unfold agL; omega
          have hOf0 : OfM wq wo.heap.size (wo.heap.size + 1) nO (fun b => offP xs kn (Q.take j) s' ((agL (bothL xs) aj).take 0) b) := by rw [List.take_zero, offP_s xs kn (Q.take j) s' 0]; exact hOf
          have HTK : Hid (Q.take (j + 1) = Q.take j ++ [aj]) := Lib.hid (by rw [List.take_add_one, haj]; rfl)
          have hjz : (j : Int) < (Q.length : Int) := by omega
          clear hv9 haj hw1 ro1 hav hLv hcell has
          obtain ⟨ys', hys'⟩ : ∃ l, agL (bothL xs) aj = l := ⟨_, rfl⟩
          rw [hys'] at hCv hyl hOf0 hr1
          have HYS := Lib.hid hys'
          clear hys'
          go_wp2
          go_loopw [51] (fun mv wz => ∃ (m nP : Nat), m ≤ ys'.length ∧ mv = .int .i64 m ∧ nP ≤ 120 * j + m ∧ OfM wz wo.heap.size (wo.heap.size + 1) nP (fun b => offP xs kn (Q.take j) s' (ys'.take m) b) ∧ Below wo.heap.size wo wz ∧ wo.heap.size < wz.heap.size) (fun mv _ => ys'.length - (Go.RowKit.intOf mv).toNat)
          case atStart => exact ⟨0, nO, by omega, rfl, by omega, hOf0, hBq, hbq⟩
          case round =>
            obtain ⟨m, nP, hm, rfl, hnP, hOfm, hBz, hbz⟩ := hrel
            obtain ⟨wz, rfl⟩ : ∃ wz, wz = wr := ⟨wr, rfl⟩
            by_cases hml : m < ys'.length
            · obtain ⟨b1, o1, rfl, hc1⟩ := hCv.2 m hml
              obtain ⟨⟨x0, x1, x2⟩, hx⟩ : ∃ x, ys'[m]?.getD cm0 = x := ⟨_, rfl⟩
              rw [hx] at hc1
              have hmem : (x0, x1, x2) ∈ bothL xs := by
                have h1 : (x0, x1, x2) ∈ ys' := by rw [← hx, List.getElem?_eq_getElem hml]; exact List.getElem_mem _
                rw [← HYS.out] at h1
                exact (agL_mem h1).1
              have hcm : cmB c (x0, x1, x2) = true := by
                rw [← hys] at hmem
                obtain ⟨y, _, hy⟩ := List.mem_map.1 hmem
                rw [← hy]; exact y.2
              obtain ⟨-, -, i3, i4, -, d1, d2⟩ := cm_bd hcm
              obtain ⟨b0, rfl⟩ : ∃ b0 : Nat, x1 = b0 := ⟨x1.toNat, by omega⟩
              obtain ⟨-, p0, p1, p2⟩ := (hc1.mono hBz).parts
              have HT1 : Hid (ys'.take (m + 1) = ys'.take m ++ [(x0, (b0 : Int), x2)]) := Lib.hid (by
                rw [List.take_add_one]
                rw [List.getElem?_eq_getElem hml, Option.getD_some] at hx
                rw [List.getElem?_eq_getElem hml, hx]; rfl)
              have hmz : (m : Int) < (ys'.length : Int) := by omega
              clear hx hc1 hmem hcm
              have hB5 : Below wo.heap.size wo (wz.alloc (.cells #[.int .i64 x0, .int .i64 (b0 : Nat), .int .i64 x2] 67)) := hBz.alloc (by omega) _
              have hcq5 := CmC.fresh wz 67 x0 (b0 : Nat) x2
              have hOf5 : OfM (wz.alloc (.cells #[.int .i64 x0, .int .i64 (b0 : Nat), .int .i64 x2] 67)) wo.heap.size (wo.heap.size + 1) nP (fun b => offP xs kn (Q.take j) s' (ys'.take m) b) := hOfm.kept (World.grownBy_alloc wz _ none) (fun g e => by cases e)
              have hSh5 : ShM (wz.alloc (.cells #[.int .i64 x0, .int .i64 (b0 : Nat), .int .i64 x2] 67)) W.heap.size nS kn := hSh.kept (grown_of_below5 hB5) (by simp)
              obtain ⟨cf, hrF⟩ := hSh5.found (z := b0) (by omega)
              have hz5 : wz.heap.size < (wz.alloc (.cells #[.int .i64 x0, .int .i64 (b0 : Nat), .int .i64 x2] 67)).heap.size := by simp
              cases hkb : kn b0 with
              | some sb =>
                rw [hkb] at hrF
                have hnew : OfM (wz.alloc (.cells #[.int .i64 x0, .int .i64 (b0 : Nat), .int .i64 x2] 67)) wo.heap.size (wo.heap.size + 1) nP (fun b => offP xs kn (Q.take j) s' (ys'.take (m + 1)) b) := by
                  rw [HT1.out, offP_skip (b0 := b0) rfl (by rw [hkb]; rfl)]; exact hOf5
                go_wp2
                go_roundw
                case rel => exact ⟨m + 1, nP, by omega, by go_num, by omega, hnew, hB5, by omega⟩
                case measure => simp [Go.RowKit.intOf]; omega
              | none =>
                rw [hkb] at hrF
                have hbx5 := World.alloc_heap_new wz (.cells #[.int .i64 x0, .int .i64 (b0 : Nat), .int .i64 x2] 67)
                go_wp2
                generalize wz.alloc (.cells #[.int .i64 x0, .int .i64 (b0 : Nat), .int .i64 x2] 67) = w5 at hB5 hcq5 hOf5 hSh5 hrF hz5 hbx5 ⊢
                obtain ⟨-, -, k1, k2⟩ := hcq5.parts
                rw [Nat.zero_add] at k1 k2
                obtain ⟨f, hf'⟩ : ∃ f, (fun b => offP xs kn (Q.take j) s' (ys'.take m) b) = f := ⟨_, rfl⟩
                rw [hf'] at hOf5
                have hsb := HBD.out aj s' hs'
                have hwrp : IntKind.i64.wrap (s' - x2) = s' - x2 := IntWalk.i64_in _ (by omega)
                have hzz5 := hB5.size
                have hoB : Below w5.heap.size w5 (w5.alloc (.cells #[.int .i64 (s' - x2)] 2)) := (Below.refl _ w5).alloc (Nat.le_refl _) _
                have o1 := (hoB.cell (p := ⟨wz.heap.size, 1, none⟩) hz5).trans k1
                have o2 := (hoB.cell (p := ⟨wz.heap.size, 2, none⟩) hz5).trans k2
                obtain ⟨v, hr1', hw1, hle1, bk1⟩ := (show OfM w5.drew wo.heap.size (wo.heap.size + 1) nP f from hOf5).at (y := b0) (by omega) (by omega)
                obtain ⟨v2, hr2', hw2, hle2, bk2⟩ := (show OfM (w5.alloc (.cells #[.int .i64 (s' - x2)] 2)).drew wo.heap.size (wo.heap.size + 1) nP f from (show OfM (w5.alloc (.cells #[.int .i64 (s' - x2)] 2)) wo.heap.size (wo.heap.size + 1) nP f from hOf5.kept (World.grownBy_alloc w5 _ none) (fun g e => by cases e))).at (y := b0) (by omega) (by omega)
                have hs1' := (show ShM w5.drew W.heap.size nS kn from hSh5).look (z := aj) (by omega) hs'
                have hs2' := (show ShM (w5.alloc (.cells #[.int .i64 (s' - x2)] 2)).drew W.heap.size nS kn from (show ShM (w5.alloc (.cells #[.int .i64 (s' - x2)] 2)) W.heap.size nS kn from hSh5.kept (World.grownBy_alloc w5 _ none) (by simp))).look (z := aj) (by omega) hs'
                have ne1 : some wz.heap.size ≠ v.ownBlock := own_other (g := wz.heap.size) hw1 hbx5 (by decide)
                have ne2 : some wz.heap.size ≠ v2.ownBlock := own_other (g := wz.heap.size) hw2 ((hoB.block _ hz5).trans hbx5) (by decide)
                have ng2 : some wz.heap.size ≠ some wo.heap.size := fun e => by have := Option.some.inj e; omega
                have HFF : Hid ((fun b => if b = b0 then f b0 ++ [s' - x2] else f b) = fun b => offP xs kn (Q.take j) s' (ys'.take (m + 1)) b) := Lib.hid (by rw [HT1.out, offP_put (b0 := b0) rfl hkb, ← hf'])
                clear hf' hcq5
                go_region_held3 (fun W' => W'.cell? ⟨wz.heap.size, 1, none⟩ = some (.int .i64 (b0 : Nat)) ∧ W'.cell? ⟨wz.heap.size, 2, none⟩ = some (.int .i64 x2)) (refine ⟨?_, ?_⟩ <;> first | exact r1 | exact r2 | exact q1 | exact q2 | exact o1 | exact o2 | exact k1 | exact k2) (first | (refine Go.step_append_lies _ rfl _ _ 38 rfl (wo.heap.size + 1) 2 i1 (.int .i64 0) 1 8 Try.underlying38 hi1 hy0 hy1 hy2 rfl (by decide) v (f b0).length ((f b0).map (Value.int .i64)) rfl (show (w5.alloc (.cells #[.int .i64 (s' - x2)] 2)).drew.ownsRow _ _ _ _ _ _ from hw1.alloc _) ⟨w5.heap.size, 0, none⟩ 1 1 [.int .i64 (s' - x2)] rfl rfl (cell_one_new w5 _ _) (by simp [Value.oneCell']) (by decide) (by unfold maxLen; omega) (by omega) (by simp; omega) _ rfl ?_; intro g7 cc7 wb hownb hgb hlies hglt; have q1 := hgb.cell (a := ⟨wz.heap.size, 1, none⟩) o1 ne1; have q2 := hgb.cell (a := ⟨wz.heap.size, 2, none⟩) o2 ne1; obtain ⟨w2, hrun2, hO2, hg2⟩ := bk1 wb (.slice (some ⟨g7, 0, none⟩) ((f b0).length + 1) cc7) (s' - x2) (gtr (show w5.drew.grownBy (w5.drew.alloc (.cells #[.int .i64 (s' - x2)] 2)) _ from World.grownBy_alloc w5.drew _ _) ⟨hgb.os, hgb.tape, hgb.output, hgb.size, hgb.block⟩) (by rw [List.map_append]; exact hownb) (hlies.elim (fun h => .inl h.symm) (fun h => .inr ⟨g7, rfl, by rw [h]; simp⟩)); have r1 := hg2.cell (a := ⟨wz.heap.size, 1, none⟩) q1 ng2; have r2 := hg2.cell (a := ⟨wz.heap.size, 2, none⟩) q2 ng2; have hB7 : Below wo.heap.size wo w2 := (((show Below wo.heap.size wo (w5.alloc (.cells #[.int .i64 (s' - x2)] 2)).drew from Below.drew (hB5.alloc (by omega) _)).grown hgb (by simp; omega) (fun g e => by have := (hw1.lt g e).1; omega)).grown hg2 (by have := hgb.size; simp at this; omega) (fun g e => by cases e; exact Nat.le_refl _)); have hz7 : wo.heap.size < w2.heap.size := (by have h1 := hgb.size; have h2 := hg2.size; simp at h1; omega)) | (refine Go.step_append_lies _ rfl _ _ 38 rfl (wo.heap.size + 1) 2 i1 (.int .i64 0) 1 8 Try.underlying38 hi1 hy0 hy1 hy2 rfl (by decide) v2 (f b0).length ((f b0).map (Value.int .i64)) rfl hw2 ⟨w5.heap.size, 0, none⟩ 1 1 [.int .i64 (s' - x2)] rfl rfl (cell_one_new w5 _ _) (by simp [Value.oneCell']) (by decide) (by unfold maxLen; omega) (by omega) (by simp; omega) _ rfl ?_; intro g7 cc7 wb hownb hgb hlies hglt; have q1 := hgb.cell (a := ⟨wz.heap.size, 1, none⟩) o1 ne2; have q2 := hgb.cell (a := ⟨wz.heap.size, 2, none⟩) o2 ne2; obtain ⟨w2, hrun2, hO2, hg2⟩ := bk2 wb (.slice (some ⟨g7, 0, none⟩) ((f b0).length + 1) cc7) (s' - x2) hgb (by rw [List.map_append]; exact hownb) (hlies.elim (fun h => .inl h.symm) (fun h => .inr ⟨g7, rfl, by rw [h]; exact Nat.le_refl _⟩)); have r1 := hg2.cell (a := ⟨wz.heap.size, 1, none⟩) q1 ng2; have r2 := hg2.cell (a := ⟨wz.heap.size, 2, none⟩) q2 ng2; have hB7 : Below wo.heap.size wo w2 := (((show Below wo.heap.size wo (w5.alloc (.cells #[.int .i64 (s' - x2)] 2)).drew from Below.drew (hB5.alloc (by omega) _)).grown hgb (by simp; omega) (fun g e => by have := (hw2.lt g e).1; omega)).grown hg2 (by have := hgb.size; simp at this; omega) (fun g e => by cases e; exact Nat.le_refl _)); have hz7 : wo.heap.size < w2.heap.size := (by have h1 := hgb.size; have h2 := hg2.size; simp at h1; omega)))
                all_goals
                  have hnew : OfM w2 wo.heap.size (wo.heap.size + 1) (nP + 1) (fun b => offP xs kn (Q.take j) s' (ys'.take (m + 1)) b) := by rw [← HFF.out]; exact hO2
                  go_wp2
                  go_roundw
                  case rel => exact ⟨m + 1, nP + 1, by omega, by go_num, by omega, hnew, hB7, hz7⟩
                  case measure => simp [Go.RowKit.intOf]; omega
            · obtain rfl : m = ys'.length := by omega
              have hnext : OfM wz wo.heap.size (wo.heap.size + 1) nP (fun b => offP xs kn (Q.take (j + 1)) 0 [] b) := by
                rw [List.take_length] at hOfm
                rw [HTK.out, show (fun b => offP xs kn (Q.take j ++ [aj]) 0 [] b) = fun b => offP xs kn (Q.take j) s' ys' b from funext fun b => by rw [← HYS.out]; exact (offP_end hs' 0 b).symm]
                exact hOfm
              go_wp2
              go_roundw
              case rel => exact ⟨j + 1, nP, by omega, by go_num, by omega, hnext, hBz, hbz⟩
              case measure => simp [Go.RowKit.intOf]; omega
        · obtain rfl : j = Q.length := by omega
          rw [List.take_length] at hOf
          have hOf1 := hOf
          obtain ⟨Dm, V, -, hmapO, -, -, -, -, hhas, -⟩ := hOf1
          have hB7 : Below wo.heap.size wo (wq.alloc (.cells #[.map (some wo.heap.size)] 97)) := hBq.alloc (by omega) _
          have hmap7 := hmapO.kept (World.grownBy_alloc wq (.cells #[.map (some wo.heap.size)] 97) none) (by simp)
          have hOf7 := hOf.kept (World.grownBy_alloc wq (.cells #[.map (some wo.heap.size)] 97) none) (fun g e => by cases e)
          have hc7 : (wq.alloc (.cells #[.map (some wo.heap.size)] 97)).cell? ⟨wq.heap.size, 0, none⟩ = some (.map (some wo.heap.size)) := by rw [World.cell?_alloc_new]; rfl
          have hjz : ¬ ((Q.length : Int) < (Q.length : Int)) := by omega
          clear hmapO
          go_wp2_with fail
          refine (keysO_any wo.heap.size wq).mono ?_
          rintro e w7 ⟨rfl, rfl⟩
          go_wp2_with fail
          refine (sortedO_any wq.heap.size wo.heap.size nO Dm _ _ hc7 hmap7 (by have := hmap7.size_le; omega)).mono ?_
          rintro e w8 ⟨v8, ss, rfl, hperm, hown8, -, b8⟩
          obtain ⟨hsrt, hsm, hsl⟩ := sorted_keysD hmap7 hperm
          have hLQ : (ss.mergeSort fun x y => decide (x ≤ y)) = (newQ xs c kn).map fun b : Nat => (b : Int) := queue_is hsrt (fun z => by
            rw [hsm, hhas]
            constructor
            · rintro ⟨y, rfl, hy⟩; exact ⟨y, (new_iff HALL.out rfl HQI.out y).1 hy, rfl⟩
            · rintro ⟨y, hy, rfl⟩; exact ⟨y, rfl, (new_iff HALL.out rfl HQI.out y).2 hy⟩)
          rw [← hsl, hLQ, List.length_map] at hown8
          obtain ⟨a8, c8, rfl, hL8, hab8⟩ := own_lstN (xs := newQ xs c kn) (show w8.ownsRow _ _ _ _ _ (((newQ xs c kn).map fun b : Nat => (b : Int)).map (Value.int .i64)) from hown8)
          have hab8 : ∀ g o, a8 = some ⟨g, o, none⟩ → W.heap.size < g := fun g o e => by have := hab8 g o e; simp at this; omega
          have hq40 : (newQ xs c kn).length ≤ c := by
            have := List.length_filter_le (fun b => (kn b).isNone && !(offL xs kn (List.range c) b).isEmpty) (List.range c)
            rw [List.length_range] at this; exact this
          have hB8 := belowCall hB7 b8
          have hz8 := hB8.size
          have hSh8 : ShM w8 W.heap.size nS kn := hSh.kept (grown_of_below5 hB8) (by simp)
          have hOf8 := hOf7.kept (grown_of_below5 b8) (fun g e => by cases e)
          have bW8 : Below W.heap.size W w8 := hBw.trans (hB8.mono hs1)
          have HLN := Lib.hid (show ∀ k, k < (newQ xs c kn).length → ∃ b, (newQ xs c kn)[k]? = some b from fun k hk => ⟨_, List.getElem?_eq_getElem hk⟩)
          clear hhas hc7 hmap7 hOf7 hsrt hsm hsl hLQ hown8 hperm b8 hB7 hOf
          go_wp2
          go_loopw [86] (fun kv wz => ∃ k : Nat, k ≤ (newQ xs c kn).length ∧ kv = .int .i64 k ∧ ShM wz W.heap.size (nS + k) (medK xs c kn k) ∧ w8.grownBy wz (some W.heap.size) ∧ Below W.heap.size W wz) (fun kv _ => (newQ xs c kn).length - (Go.RowKit.intOf kv).toNat)
          case atStart => exact ⟨0, by omega, rfl, by rw [medK_zero]; exact hSh8, World.grownBy.refl _ _, bW8⟩
          case round =>
            obtain ⟨k, hk, rfl, hShk, hgk, hBk⟩ := hrel
            obtain ⟨wk, rfl⟩ : ∃ wk, wk = wr := ⟨wr, rfl⟩
            have hzk := hgk.size
            by_cases hkl : k < (newQ xs c kn).length
            · obtain ⟨b, hb⟩ := HLN.out k hkl
              obtain ⟨hof, hone, hbc, hrb⟩ := off_new HQI.out (List.mem_of_getElem? hb)
              obtain ⟨bq8, oq8, rfl, hbl8, hcell8⟩ := hL8.2 k hkl
              have hv9 : ((newQ xs c kn).map fun x : Nat => (x : Int))[k]?.getD 0 = (b : Int) := by rw [List.getElem?_map, hb]; rfl
              rw [hv9] at hcell8
              have hq8l : bq8 ≠ W.heap.size := fun e => by have := hab8 bq8 oq8 rfl; omega
              have hcq8 := (hgk.cell (a := ⟨bq8, oq8 + k, none⟩) hcell8 (fun e => hq8l (Option.some.inj e)))
              have hOfk := hOf8.kept hgk (fun g e => ⟨by have := Option.some.inj e; omega, .inl (by have := Option.some.inj e; omega)⟩)
              obtain ⟨v, hr1, hw1, hle1, -⟩ := hOfk.at (y := b) (by omega) (by omega)
              rw [hof] at hw1 hle1
              have hone' : 0 < (offL xs kn (List.range c) b).length := List.length_pos_iff.2 hone
              have hbd := offL_bd HALL.out HBD.out (List.range c) b
              obtain ⟨LL, hLL⟩ : ∃ LL, offL xs kn (List.range c) b = LL := ⟨_, rfl⟩
              rw [hLL] at hw1 hle1 hone' hbd hrb
              obtain ⟨av, cv, rfl, hLv⟩ : ∃ a9 c9, v = .slice a9 LL.length c9 ∧ Lst wk a9 LL.length LL := by
                rcases hw1.2 with ⟨hv, h0⟩ | ⟨g, cap, cur, hv, _⟩
                · omega
                · subst hv
                  exact ⟨_, cap, rfl, Lst.of_own hw1⟩
              have hMS := Lib.hid (fun (s : Int) h1 h2 => @medK_put xs c k kn b s h1 h2)
              have HB := Lib.hid hb
              have HRB := Lib.hid hrb
              have hkz : (k : Int) < ((newQ xs c kn).length : Int) := by omega
              clear hof hone hb hv9 hcell8 hLL hw1 hrb
              go_wp2_with fail
              refine (middle_any av LL.length cv LL wk hLv (by omega) hone' (fun x hx => by have := hbd x hx; omega)).mono ?_
              rintro e w9 ⟨ys9, hri, hpm, rfl, b9⟩
              have hmed : medP ys9 = medN LL := medN_of hri hpm
              have hLL0 : LL ≠ [] := List.length_pos_iff.1 hone'
              have hmb := medN_bd (B := 2000 * ((i + 1 : Nat) : Int)) hLL0 hbd
              rw [hmed]
              obtain ⟨w2, hrun2, hS2, hg2⟩ := (hShk.kept (grown_of_below5 b9) (by simp)).put (z := b) (s := medN LL) (by omega) (by omega) (by omega) (by omega)
              have hS3 : ShM w2 W.heap.size (nS + k + 1) (medK xs c kn (k + 1)) := by
                have := hMS.out _ HB.out HRB.out
                rw [← this]; exact hS2
              have hg3 : w8.grownBy w2 (some W.heap.size) := hgk.thenSame (grown_of_below5 b9) hg2
              have hB3 : Below W.heap.size W w2 := (belowCall hBk b9).grown hg2 (belowCall hBk b9).size (fun g e => by cases e; exact Nat.le_refl _)
              clear hri hpm hS2
              go_wp2
              go_roundw
              case rel => exact ⟨k + 1, by omega, by go_num, hS3, hg3, hB3⟩
              case measure => simp [Go.RowKit.intOf]; omega
            · obtain rfl : k = (newQ xs c kn).length := by omega
              have hkz : ¬ (((newQ xs c kn).length : Int) < ((newQ xs c kn).length : Int)) := by omega
              rw [medK_end (Nat.le_refl _)] at hShk
              have HK1 : itK xs c (kn0 first) (i + 1) = rndK xs c kn := by show rndK xs c (itK xs c (kn0 first) i) = _; rw [HKN.out]
              have hcn := HCNT.out HQ.out
              have hkc := knC_le c kn
              have hL9 : Lst wk a8 (newQ xs c kn).length ((newQ xs c kn).map fun x : Nat => (x : Int)) := ⟨hL8.1, fun t ht => by
                obtain ⟨bb, oo, e1, e2, e3⟩ := hL8.2 t ht
                exact ⟨bb, oo, e1, by omega, hgk.cell e3 (fun e => by have h1 := hab8 bb oo e1; have h2 : bb = W.heap.size := (Option.some.inj e); omega)⟩⟩
              go_wp2
              go_roundg (gk - 1)
              case measure => omega
              case rel => exact ⟨i + 1, nS + (newQ xs c kn).length, a8, c8, newQ xs c kn, rfl, hL9, by rw [HK1]; exact QInv.next HALL.out rfl, by rw [HK1]; exact BndK.next HALL.out HBD.out, fun hne => by rw [HK1]; have := knC_next hne; omega, by omega, by omega, by rw [HK1]; exact hShk, hBk, by omega⟩
  case stop =>
    rintro D c pre W _ _ h _
    exact h.elim
end Go.Proofs.Ytfnjndbnogeddaa
