/- FnExactAddStar: for every slice of stars and every star (that hold no more than the law's bounds) the program's AddStar (slices.Clone, append, slices.SortFunc) answers as the model's, writes into no argument, and its answer owns its memory: it holds the law's marks through another call. The card: the program's sentinel errNoName stands as its initialiser lays it. -/
import Derived.Test.YtiogffjhhhpolabDoorB1
import Derived.Test.YtiogffjhhhpolabDoorS6
import Derived.Test.YtiogffjhhhpolabDoorS9
import Derived.Test.YtiogffjhhhpolabDoorV5
import Derived.Test.YtiogffjhhhpolabDoorCards
import Derived.Test.YtiogffjhhhpolabDoorTie
import Derived.Deep.DeepHandedRow
import Derived.Lib.LaidTab
import Derived.OpenVars
import Derived.ChangeVars
import Derived.ChangeOld
import Derived.Lib.SmallJoins
import Derived.LaidSub
import Derived.Stop.LaidErr
namespace Go.Proofs.YtiogffjhhhpolabDoor.fnExactAddStar
open Go.ChangeShapes Go.WideShapes Go.ChangeAt Go.RowKit
open Go.ChangeMaps (open_string shut_string)
set_option linter.unusedVariables false

theorem own : ownKnob Tryd.prog.godebug = none := by kernel_rfl
theorem laidOut : laidOutB Tryd.prog = true := by kernel_rfl
theorem star : "*" ++ "errors.errorString" = "*errors.errorString" := by decide
theorem rowStar (u : TypeId) (h : Tryd.prog.typeName? 3 u = some "*errors.errorString") : u = 106 :=
  typeName_ptr_named (nm := "errors.errorString") (by rw [star]; kernel_rfl) (by kernel_rfl) (by decide) u (by rw [star]; exact h)
theorem nnm_global : Tryd.prog.globalNamed "loop.example/g01026/impl.errNoName" = some 0 := by kernel_rfl
theorem errn_of {W : World} (h : laidMetH Tryd.prog [("loop.example/g01026/impl.errNoName", Rows.laid_loop_example_g01026_impl_errNoName)] W) : ∃ a, Errn W a := by
  obtain ⟨a0, s0, hv0, -, -, -⟩ := laid_sentinel (r := []) h nnm_global (show (Tryd.prog.globals[0]?).map (·.type) = some 52 by kernel_rfl) Tryd.underlying52 rowStar Tryd.underlying106 Tryd.underlying132 rfl rfl Tryd.underlying9 (by kernel_rfl) (by kernel_rfl)
  have hc := World.var?_cell nnm_global hv0 0
  exact ⟨a0, World.block_lt_of_cell? W _ (show W.cell? ⟨0, 0, none⟩ = some _ from by simpa using hc), by simpa using hc⟩
theorem sumB {xs : List St} {l : Int} (h : ¬ l < totS xs) (hl : l ≤ 1048576) {n : Nat} (hn : xs.length = n) : n ≤ 1048576 := by have h1 := totS_nonneg xs; omega
set_option maxHeartbeats 8000000 in

theorem walk (a0 : Option Addr) (len0 cap0 : Nat) (z0 : List St) (a1_0 : ByteArray) (a1_1 a1_2 a1_3 a1_4 : Int) (w : World) (w0 : IsStars w a0 len0 cap0 z0) (w1_0 : a1_0.size ≤ maxLen) (w1_1 : (Lit.int .i64 a1_1).wf = true) (w1_2 : (Lit.int .i64 a1_2).wf = true) (w1_3 : (Lit.int .i64 a1_3).wf = true) (w1_4 : (Lit.int .i64 a1_4).wf = true) (hL : laidMetH Tryd.prog Rows.fnExactAddStarRow.laid w) (hSh : w.ShapedOpen Tryd.prog) :
    Calls Tryd.prog 3 #[.slice a0 len0 cap0, .agg #[.string a1_0, .int .i64 a1_1, .int .i64 a1_2, .int .i64 a1_3, .int .i64 a1_4]] w fun e w' => e = .returned (.bool true) ∧ Below w.heap.size w w' := by
  obtain ⟨ea, hE⟩ := errn_of (laidMetH.filter (fun x => x.1 == "loop.example/g01026/impl.errNoName") hL)
  clear hL
  have hsw : w.heap.size < (w.alloc (.cells #[.string a1_0, .int .i64 a1_1, .int .i64 a1_2, .int .i64 a1_3, .int .i64 a1_4] 24)).heap.size := by simp
  have hbx := StC.fresh w 24 a1_0 a1_1 a1_2 a1_3 a1_4
  have BW : Below w.heap.size w (w.alloc (.cells #[.string a1_0, .int .i64 a1_1, .int .i64 a1_2, .int .i64 a1_3, .int .i64 a1_4] 24)) := (Below.refl _ w).alloc (Nat.le_refl _) _
  have v0 := w0.mono BW
  by_cases hbig : (1048576 : Int) < totS z0
  · have HZ := Lib.hid (szR_no hbig)
    go_enter Tryd.func3, Tryd.ntmps3
    go_wp2_with fail
    refine (szStarS_any _ _ _ z0 1048576 _ v0 (by omega) (by omega)).mono ?_
    rintro e w2 ⟨rfl, b2⟩
    rw [HZ.out]
    go_wp2
    go_ret
    exact ⟨rfl, belowCall BW b2⟩
  have HZ := Lib.hid (szR_yes hbig)
  have hn : len0 ≤ 1048576 := sumB hbig (by omega) w0.1.1
  have hn0 : ¬ (1048576 : Int) - totS z0 < 0 := by omega
  have htp := totS_nonneg z0
  have hz00 : 0 ≤ (1048576 : Int) - totS z0 := by omega
  have hz01 : (1048576 : Int) - totS z0 ≤ 1048576 := by omega
  by_cases hbig2 : (1048576 : Int) - totS z0 < (a1_0.size : Int)
  · have HS := Lib.hid (szR_no hbig2)
    clear hbig hbig2 htp
    go_enter Tryd.func3, Tryd.ntmps3
    go_wp2_with fail
    refine (szStarS_any _ _ _ z0 1048576 _ v0 (by omega) (by omega)).mono ?_
    rintro e w2 ⟨rfl, b2⟩
    rw [HZ.out]
    obtain ⟨q2lt, q20, q21, q22, q23, q24⟩ := (hbx.mono b2).parts
    rw [Nat.zero_add] at q21 q22 q23 q24
    go_wp2_with fail
    refine (szStar_any _ _ _ _ _ _ _ w1_0 hz00 hz01).mono ?_
    rintro e w2' ⟨rfl, b2'⟩
    rw [HS.out]
    go_wp2
    go_ret
    exact ⟨rfl, belowCall (belowCall BW b2) b2'⟩
  have HS := Lib.hid (szR_yes hbig2)
  have hn2 : ¬ (1048576 : Int) - totS z0 - (a1_0.size : Int) < 0 := by omega
  clear hbig hbig2 htp
  go_enter Tryd.func3, Tryd.ntmps3
  go_wp2_with fail
  refine (szStarS_any _ _ _ z0 1048576 _ v0 (by omega) (by omega)).mono ?_
  rintro e w2a ⟨rfl, b2a⟩
  rw [HZ.out]
  obtain ⟨q2lt, q20, q21, q22, q23, q24⟩ := (hbx.mono b2a).parts
  rw [Nat.zero_add] at q21 q22 q23 q24
  go_wp2_with fail
  refine (szStar_any _ _ _ _ _ _ _ w1_0 hz00 hz01).mono ?_
  rintro e w2 ⟨rfl, b2b⟩
  rw [HS.out]
  have b2 := belowCall b2a b2b
  clear q2lt q20 q21 q22 q23 q24 b2a b2b
  have C2 := belowCall BW b2
  have hbx2 := hbx.mono b2
  have hv2 := v0.1.mono b2
  have hg2 : w.heap.size < w2.heap.size := Nat.lt_of_lt_of_le hsw b2.size
  clear hbx BW v0 b2 hsw
  obtain ⟨q2lt, q20, q21, q22, q23, q24⟩ := hbx2.parts
  rw [Nat.zero_add] at q21 q22 q23 q24
  go_wp2_with fail
  go_region_with (first | (go_at_call 8; refine (toStarS_any _ _ _ z0 _ (hv2.mono (Below.drew (Below.refl _ _))) hn).mono ?_; rintro e w3 ⟨g3, rfl, -, hr3, b3⟩; obtain ⟨_, q30, q31, q32, q33, q34⟩ := ((hbx2.mono (Below.drew (Below.refl _ _))).mono b3).parts; rw [Nat.zero_add] at q31 q32 q33 q34) | (go_at_call 9; refine (toStar_any _ _ _ _ _ _).mono ?_; rintro e w3b ⟨rfl, b3b⟩) | (go_at_call 7; refine (sAddStar_any ⟨g3, 0, none⟩ len0 len0 z0 a1_0 a1_1 a1_2 a1_3 a1_4 w3b ((StL.of_row w0.1.1 hr3).mono b3b) hn (Nat.le_refl _)).mono ?_; rintro e w4 ⟨hch4, b4⟩; obtain ⟨aw, cw, rfl, hLw⟩ := hch4.opened (m := 1)))
  all_goals
    have D4 : Below w2.heap.size w2 w4 := belowCall (belowCall (belowCall (Below.drew (Below.refl _ _)) b3) b3b) b4
    have B4 : Below w.heap.size w w4 := belowCall C2 D4
    have hLn : (selA z0 (a1_0, a1_1, a1_2, a1_3, a1_4)).length ≤ 1048576 := selA_len
    go_wp2_with fail
    refine (toStarS_any _ _ _ z0 w4 (w0.1.mono B4) hn).mono ?_
    rintro e w5 ⟨g5, rfl, hg5, hr5, b5⟩
    have hg5l := hr5.lt
    have hs5 := StL.of_row w0.1.1 hr5
    have D5 := belowCall D4 b5
    obtain ⟨q5lt, q50, q51, q52, q53, q54⟩ := (hbx2.mono D5).parts
    rw [Nat.zero_add] at q51 q52 q53 q54
    go_wp2_with fail
    refine (toStar_any _ _ _ _ _ _).mono ?_
    rintro e w5b ⟨rfl, b5b⟩
    have z5b := b5b.size
    replace hg5l : g5 < w5b.heap.size := by omega
    go_wp2_with fail
    refine (iAddStar_any _ _ _ z0 a1_0 a1_1 a1_2 a1_3 a1_4 ea w5b (hs5.mono b5b) hn w1_0 (hE.mono (belowCall (belowCall B4 b5) b5b))).mono ?_
    rintro e w6 ⟨hch6, b6'⟩
    have z6' := b6'.size
    have b6 := belowCall b5b b6'
    obtain ⟨ag, cg, rfl, hMg⟩ := hch6.opened (m := 1)
    clear hch4 hch6
    have B6 : Below w.heap.size w w6 := belowCall (belowCall B4 b5) b6
    have hLw4 := hLw.stl.toB
    have hLw6 := hLw4.below (belowCall b5 b6) (Nat.le_refl _)
    have z45 := b5.size
    have z56 := b6.size
    go_wp2_with fail
    refine (eqStarS_self ag aw _ _ _ (selA z0 (a1_0, a1_1, a1_2, a1_3, a1_4)) w6 hMg.stl hLw6.toS hLn).mono ?_
    rintro e w7 ⟨rfl, b7⟩
    have z67 := b7.size
    have B7 : Below w.heap.size w w7 := belowCall B6 b7
    go_wp2_with fail
    refine (toStarS_any _ _ _ z0 w7 (w0.1.mono B7) hn).mono ?_
    rintro e w8 ⟨g8, rfl, -, hr8, b8⟩
    have z78 := b8.size
    have hs8 := StL.of_row w0.1.1 hr8
    go_wp2_with fail
    refine (eqStarS_self _ _ _ _ _ z0 w8 (((hs5.mono b6).mono b7).mono b8) hs8 hn).mono ?_
    rintro e w9 ⟨rfl, b9⟩
    have z89 := b9.size
    have hr9 := row_below (row_below (row_below (row_below hr5 b6) b7) b8) b9
    have hM9 := ((hMg.below b7).below b8).below b9
    have hLw9 := hLw4.below (belowCall (belowCall (belowCall (belowCall b5 b6) b7) b8) b9) (Nat.le_refl _)
    have B9 : Below w.heap.size w w9 := belowCall (belowCall B7 b8) b9
    go_wp2_with fail
    refine (markStarS_any g5 _ 1 _ _ w9 hr9 hn (by omega) (by omega)).mono ?_
    rintro e wa ⟨rfl, ba⟩
    have z9a := ba.size
    have hMa := hM9.far ba hg5l
    have hLwa := hLw9.grown ba hg5
    have hka : ¬ ((1 + 5 * len0 : Nat) : Int) < 0 := by omega
    have za0 := B4.size
    have Ba : Below w.heap.size w wa := B9.grown ba B9.size (fun k e => by cases e; omega)
    go_wp2_with fail
    refine (eqStarS_self ag aw _ _ _ (selA z0 (a1_0, a1_1, a1_2, a1_3, a1_4)) wa hMa.stl hLwa.toS hLn).mono ?_
    rintro e wb ⟨rfl, bb⟩
    have zab := bb.size
    have hMb := hMa.below bb
    go_wp2_with fail
    refine (markStarS_o ag _ 1 _ _ _ wb wb (Below.refl _ _) (by omega) hMb hLn (by omega) (by omega)).mono ?_
    rintro e wc ⟨rfl, hMc, bc⟩
    have zbc := bc.size
    have Bc : Below w.heap.size w wc := (belowCall Ba bb).trans (bc.mono (by omega))
    have hLwc := (hLwa.below bb (by omega)).below bc (by omega)
    go_wp2_with fail
    refine (heldStarS_o ag _ 1 _ _ _ wc hMc hLn (by omega) (by omega)).mono ?_
    rintro e wd ⟨rfl, bd⟩
    have zcd := bd.size
    have hMd := hMc.below bd
    have hq0 : ¬ ((1 + 5 * (selA z0 (a1_0, a1_1, a1_2, a1_3, a1_4)).length : Nat) : Int) < 0 := by omega
    have Bd : Below w.heap.size w wd := belowCall Bc bd
    have zd4 := D4.size
    have D9 := belowCall (belowCall (belowCall (belowCall D5 b6) b7) b8) b9
    have Da := D9.grown ba D9.size (fun k e => by cases e; omega)
    have Dc := (belowCall Da bb).trans (bc.mono (by omega))
    have Dd := hbx2.mono (belowCall Dc bd)
    obtain ⟨qdlt, qd0, qd1, qd2, qd3, qd4⟩ := Dd.parts
    rw [Nat.zero_add] at qd1 qd2 qd3 qd4
    go_wp2_with fail
    go_region_with (first | (go_at_call 8; refine (toStarS_any _ _ _ z0 _ (w0.1.mono (Below.drew Bd)) hn).mono ?_; rintro e w12 ⟨g12, rfl, -, hr12, b12⟩; obtain ⟨_, qe0, qe1, qe2, qe3, qe4⟩ := ((Dd.mono (Below.drew (Below.refl _ _))).mono b12).parts; rw [Nat.zero_add] at qe1 qe2 qe3 qe4) | (go_at_call 9; refine (toStar_any _ _ _ _ _ _).mono ?_; rintro e w12b ⟨rfl, b12b⟩) | (go_at_call 10; refine (iAddStar_any _ _ _ z0 a1_0 a1_1 a1_2 a1_3 a1_4 ea w12b ((StL.of_row w0.1.1 hr12).mono b12b) hn w1_0 (hE.mono (belowCall (belowCall (Below.drew Bd) b12) b12b))).mono ?_; rintro e w13 ⟨hch13, b13⟩; obtain ⟨ah, ch, rfl, hMh⟩ := hch13.opened (m := 1)))
    all_goals
      have zd2 : w4.heap.size ≤ wd.drew.heap.size := by show w4.heap.size ≤ wd.heap.size; omega
      have zde : wd.heap.size ≤ w12.heap.size := b12.size
      have zdf := b12b.size
      have hM13 := (((hMd.below (Below.drew (Below.refl _ _))).below b12).below b12b).below b13
      have zef := b13.size
      have hLw13 := ((((hLwc.below bd (by omega)).below (Below.drew (Below.refl _ _)) (by omega)).below b12 zd2).below b12b (by omega)).below b13 (by omega)
      go_wp2_with fail
      refine (eqStarS_self ah aw _ _ _ (selA z0 (a1_0, a1_1, a1_2, a1_3, a1_4)) w13 hMh.stl hLw13.toS hLn).mono ?_
      rintro e w14 ⟨rfl, b14⟩
      go_wp2_with fail
      refine (heldStarS_o ag _ 1 _ _ _ w14 (hM13.below b14) hLn (by omega) (by omega)).mono ?_
      rintro e w15 ⟨rfl, b15⟩
      go_wp2_with fail
      go_ret
      exact ⟨rfl, belowCall (belowCall (belowCall (belowCall (belowCall (Below.drew Bd) b12) b12b) b13) b14) b15⟩

set_option maxRecDepth 100000 in
theorem contract (H : Type) (enc : TypeId × Value → H) (W : World) (base : Nat) (args : Array Value) (ds gs : List (DataW H)) (before : List MemPlace)
    (hval : ∀ (j : Nat) t v, Tryd.f3.params[j]? = some t → args[j]? = some v → Value.okWide Tryd.prog W .any base t v)
    (hW : DataW.Whole enc Tryd.prog Tryd.f3.params.toList Rows.fnExactAddStarSpec.vars false W args.toList ds gs before) (hL : laidMetH Tryd.prog Rows.fnExactAddStarRow.laid W) (hSh : W.ShapedOpen Tryd.prog) :
    Calls Tryd.prog 3 args W fun e W' => ∃ v, e = .returned v ∧ Rows.fnExactAddStarSpec.post enc Tryd.prog Tryd.f3 false true false false W args v W' := by
  have hW' := hW
  obtain ⟨p, q, hA0, hV, rfl, hfz, hnd⟩ := hW
  have hA : DataW.TrodAll enc Tryd.prog W 0 (fun _ => true) true Tryd.f3.params.toList args.toList ds p := hA0
  rw [Tryd.params3] at hA hval
  obtain ⟨v0, vs0, d0, ds0, p0, q0, hargs, rfl, rfl, h0, r0⟩ := trodAll_cons hA
  obtain ⟨v1, vs1, d1, ds1, p1, q1, rfl, rfl, rfl, h1, r1⟩ := trodAll_cons r0
  obtain ⟨rfl, rfl, rfl⟩ := trodAll_nil r1
  obtain rfl : args = #[v0, v1] := by cases args; simp_all
  have hV2 := hV
  obtain ⟨gN, tN, csN, fuN, dN, pN, rfl, _, _, _, _, _⟩ := trodVars_one hV
  have k0 := h0
  have lt0 : ∀ x ∈ p0, x.block < W.heap.size := by obtain ⟨m, hm⟩ := k0; exact DataW.trod_lt m _ _ _ hm
  obtain ⟨a0, len0, cap0, rfl⟩ := okWide_slice Tryd.underlying22 (hval 0 22 v0 rfl rfl)
  obtain ⟨z0, w0⟩ : ∃ zs, IsStars W a0 len0 cap0 zs := by
    obtain ⟨fuel, hf⟩ := h0
    exact stars_of Tryd.underlying22 Tryd.underlying24 (by kernel_rfl) (show Tryd.prog.cellsOf 24 = 5 by kernel_rfl) Tryd.underlying9 Tryd.underlying2 Tryd.underlying2 Tryd.underlying2 Tryd.underlying2 (by simpa [Value.cells] using hf)
  have k1 := h1
  have lt1 : ∀ x ∈ p1, x.block < W.heap.size := by obtain ⟨m, hm⟩ := k1; exact DataW.trod_lt m _ _ _ hm
  obtain ⟨a1_0, a1_1, a1_2, a1_3, a1_4, rfl, w1_0, w1_1, w1_2, w1_3, w1_4⟩ := open_star Tryd.underlying24 (by kernel_rfl) (show Tryd.prog.cellsOf 24 = 5 by kernel_rfl) Tryd.underlying9 Tryd.underlying2 Tryd.underlying2 Tryd.underlying2 Tryd.underlying2 (hval 1 24 v1 rfl rfl) h1
  clear hA0
  refine (walk a0 len0 cap0 z0 a1_0 a1_1 a1_2 a1_3 a1_4 W w0 w1_0 w1_1 w1_2 w1_3 w1_4 hL hSh).mono fun e W' ⟨he, bel⟩ => ?_
  subst he
  exact ⟨_, rfl, _, _, _, [], _, _, hW', trodAll_mk1 (shut_bool Tryd.underlying4 _), (trodAll_cons_mk (Below.trod laidOut (by kernel_rfl) (of_decide_eq_true (by kernel_rfl)) k0 bel lt0) (trodAll_cons_mk (Below.trod laidOut (by kernel_rfl) (of_decide_eq_true (by kernel_rfl)) k1 bel lt1) trodAll_mk0)), Below.trodVars laidOut bel (by kernel_rfl) hV2, bel.frame _, fun h => by cases h⟩
noncomputable def low : Nat := (World.holding Tryd.prog default ⟨#[], #[], []⟩).heap.size
/-- a world for the witness: the settled one, the listed variables holding what their initialisers lay -/
noncomputable def laidCells : Nat → Obj → Obj
  | 0, .cells _ t frozen => .cells #[.iface 106 (.pointer (some ⟨low + 0, 0, none⟩))] t frozen
  | _, o => o
noncomputable def laidWorld (os : Os) : World :=
  { World.holding Tryd.prog os ⟨#[.cells #[.string ⟨#[110, 111, 32, 101, 110, 116, 114, 121, 32, 104, 97, 115, 32, 116, 104, 101, 32, 110, 97, 109, 101]⟩] 132], #[], []⟩ with heap := (World.holding Tryd.prog os ⟨#[.cells #[.string ⟨#[110, 111, 32, 101, 110, 116, 114, 121, 32, 104, 97, 115, 32, 116, 104, 101, 32, 110, 97, 109, 101]⟩] 132], #[], []⟩).heap.mapIdx laidCells }
set_option maxRecDepth 100000 in
theorem laid_met (os : Os) : laidMet Tryd.prog Rows.fnExactAddStarRow.laid ((laidWorld os).forCall (fun _ _ => 0) ⟨#[], #[.slice none 0 0, .agg #[.string ByteArray.empty, .int .i64 0, .int .i64 0, .int .i64 0, .int .i64 0]], []⟩).memory :=
  laidMet_of_run' 8 (by kernel_rfl) (by kernel_rfl)
set_option maxRecDepth 100000 in
theorem reads (os : Os) {H : Type} (enc : TypeId × Value → H) : ∃ places, DataW.whole enc Tryd.prog ((laidWorld os).forCall (fun _ _ => 0) ⟨#[], #[.slice none 0 0, .agg #[.string ByteArray.empty, .int .i64 0, .int .i64 0, .int .i64 0, .int .i64 0]], []⟩).memory Tryd.f3.params.toList Rows.fnExactAddStarSpec.vars false (#[.slice none 0 0, .agg #[.string ByteArray.empty, .int .i64 0, .int .i64 0, .int .i64 0, .int .i64 0]] : Array Value).toList 8 = some ([.nil, .agg [.lit (.string []), .lit (.int .i64 0), .lit (.int .i64 0), .lit (.int .i64 0), .lit (.int .i64 0)]], [.held (enc (106, .pointer (some ⟨low + 0, 0, none⟩)))], places) :=
  ⟨((DataW.whole enc Tryd.prog ((laidWorld os).forCall (fun _ _ => 0) ⟨#[], #[.slice none 0 0, .agg #[.string ByteArray.empty, .int .i64 0, .int .i64 0, .int .i64 0, .int .i64 0]], []⟩).memory Tryd.f3.params.toList Rows.fnExactAddStarSpec.vars false (#[.slice none 0 0, .agg #[.string ByteArray.empty, .int .i64 0, .int .i64 0, .int .i64 0, .int .i64 0]] : Array Value).toList 8).getD ([], [], [])).2.2, by kernel_rfl⟩
set_option maxRecDepth 100000 in
theorem lifted (os : Os) (started : os.Started) (H : Type) (enc : TypeId × Value → H) (F : Stop.Interp) :
    ReturnsInHanded {} Tryd.checked os 3 .any ((OpenSpec.ofChange Rows.fnExactAddStarSpec).preRow enc Tryd.prog Tryd.f3 Rows.fnExactAddStarRow.domain false Rows.fnExactAddStarRow.laid) (((OpenSpec.ofChange Rows.fnExactAddStarSpec).at F).post enc Tryd.prog Tryd.f3 false true false false) := by
  obtain ⟨places, hx⟩ := reads os enc
  refine returnsInHanded_of_row (C := Tryd.checked) (s := OpenSpec.ofChange Rows.fnExactAddStarSpec) own started (by kernel_rfl) Tryd.func3
    (witness_row_at (enc := enc) (C := Tryd.checked) false (laidWorld os) #[.slice none 0 0, .agg #[.string ByteArray.empty, .int .i64 0, .int .i64 0, .int .i64 0, .int .i64 0]] rfl (by kernel_rfl) (by kernel_rfl) (by kernel_rfl)
      (OpenSpec.preRow_of_cond 8 hx (by kernel_rfl) (fun k hk => by cases hk) (by kernel_rfl) (laid_met os))) ?_
  intro W base args ds gs before hval hW _ _ _ hL hSh _
  exact contract H enc W base args ds gs before hval hW hL hSh
theorem said : Rows.FnExactAddStarSaid :=
  OpenClaim.holds_of_cond 3 Tryd.f3 rfl rfl rfl rfl rfl rfl rfl ⟨rfl, rfl, rfl, rfl, rfl⟩ rfl rfl rfl rfl rfl (by kernel_rfl) Tryd.func3 (by kernel_rfl)
    (of_decide_eq_true (by kernel_rfl)) (by unfold Func.isWrapper; first | (rw [if_pos (by decide +kernel)]; kernel_rfl) | (rw [if_neg (by decide +kernel)]; exact ⟨rfl, rfl⟩))
    (fun os started H enc _ F => by rw [OpenClaim.pre_eq_preRow]; exact lifted os started H enc F)
theorem plain (f : FuncId) (fn : Func) (hf : Tryd.pinned.checked.prog.funcNamed "loop.example/g01026/laws.FnExactAddStar" = some f) (hfn : Tryd.pinned.checked.prog.funcs[f]? = some fn) :
    true = Tryd.pinned.checked.prog.looks [] ∧ ∀ (j : Nat) t, fn.params[j]? = some t → Tryd.pinned.checked.prog.wantsStandIn t = false := by
  obtain rfl : f = 3 := Option.some.inj ((show Tryd.prog.funcNamed "loop.example/g01026/laws.FnExactAddStar" = some 3 by kernel_rfl).symm.trans hf) |>.symm
  obtain rfl : fn = Tryd.f3 := (Option.some.inj (Tryd.func3.symm.trans hfn)).symm
  refine ⟨by kernel_rfl, fun j t ht => ?_⟩
  rw [Tryd.params3] at ht
  have hm := Array.mem_of_getElem? ht
  simp at hm
  rcases hm with rfl | rfl
  · exact (show Tryd.prog.wantsStandIn 22 = false by kernel_rfl)
  · exact (show Tryd.prog.wantsStandIn 24 = false by kernel_rfl)
theorem proved : Rows.FnExactAddStarCardSaid :=
  Claim7.holds_tied_plain_at .later [] _ _ _ _ said (fun _ h => by cases h) (by kernel_rfl) (fun _ h => by cases h) fnExactAddStar_row_tie rfl ⟨rfl, rfl⟩ (by kernel_rfl) rfl plain (by kernel_rfl)
#print axioms proved
end Go.Proofs.YtiogffjhhhpolabDoor.fnExactAddStar
