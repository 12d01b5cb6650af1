/- FnExactStarNamed: for every slice of stars and every string (that hold no more than the law's bounds) the program's StarNamed (a map by names) answers as the model's, and writes into no argument. The card: the program's sentinel errNoName stands as its initialiser lays it. -/
import Derived.Test.YtiogffjhhhpolabDoorB1
import Derived.Test.YtiogffjhhhpolabDoorS6
import Derived.Test.YtiogffjhhhpolabDoorSP
import Derived.Test.YtiogffjhhhpolabDoorCards
import Derived.Test.YtiogffjhhhpolabDoorTie
import Derived.Deep.DeepHandedRow
import Derived.Lib.LaidTab
import Derived.OpenVars
import Derived.ChangeVars
import Derived.ChangeOld
import Derived.Lib.SmallJoins
import Derived.LaidSub
import Derived.Stop.LaidErr
namespace Go.Proofs.YtiogffjhhhpolabDoor.fnExactStarNamed
open Go.ChangeShapes Go.WideShapes Go.ChangeAt Go.RowKit
open Go.ChangeMaps (open_string shut_string)
set_option linter.unusedVariables false

theorem own : ownKnob Tryd.prog.godebug = none := by kernel_rfl
theorem laidOut : laidOutB Tryd.prog = true := by kernel_rfl
theorem star : "*" ++ "errors.errorString" = "*errors.errorString" := by decide
theorem rowStar (u : TypeId) (h : Tryd.prog.typeName? 3 u = some "*errors.errorString") : u = 106 :=
  typeName_ptr_named (nm := "errors.errorString") (by rw [star]; kernel_rfl) (by kernel_rfl) (by decide) u (by rw [star]; exact h)
theorem nnm_global : Tryd.prog.globalNamed "loop.example/g01026/impl.errNoName" = some 0 := by kernel_rfl
theorem errn_of {W : World} (h : laidMetH Tryd.prog [("loop.example/g01026/impl.errNoName", Rows.laid_loop_example_g01026_impl_errNoName)] W) : ∃ a, Errn W a := by
  obtain ⟨a0, s0, hv0, -, -, -⟩ := laid_sentinel (r := []) h nnm_global (show (Tryd.prog.globals[0]?).map (·.type) = some 52 by kernel_rfl) Tryd.underlying52 rowStar Tryd.underlying106 Tryd.underlying132 rfl rfl Tryd.underlying9 (by kernel_rfl) (by kernel_rfl)
  have hc := World.var?_cell nnm_global hv0 0
  exact ⟨a0, World.block_lt_of_cell? W _ (show W.cell? ⟨0, 0, none⟩ = some _ from by simpa using hc), by simpa using hc⟩
theorem sumB {xs : List St} {l : Int} (h : ¬ l < totS xs) (hl : l ≤ 1048576) {n : Nat} (hn : xs.length = n) : n ≤ 1048576 := by have h1 := totS_nonneg xs; omega

theorem walk (a0 : Option Addr) (len0 cap0 : Nat) (z0 : List St) (a1 : ByteArray) (w : World) (w0 : IsStars w a0 len0 cap0 z0) (w1 : a1.size ≤ maxLen) (hL : laidMetH Tryd.prog Rows.fnExactStarNamedRow.laid w) (hSh : w.ShapedOpen Tryd.prog) :
    Calls Tryd.prog 4 #[.slice a0 len0 cap0, .string a1] w fun e w' => e = .returned (.bool true) ∧ Below w.heap.size w w' := by
  obtain ⟨ea, hE⟩ := errn_of (laidMetH.filter (fun x => x.1 == "loop.example/g01026/impl.errNoName") hL)
  clear hL
  by_cases hlong : (1048576 : Int) < (a1.size : Int)
  · go_enter Tryd.func4, Tryd.ntmps4
    go_wp2
    go_ret
    exact ⟨rfl, Below.refl _ _⟩
  have hdec : decide ((1048576 : Int) < (a1.size : Int)) = false := by simpa using hlong
  clear hlong
  by_cases hbig : (1048576 : Int) < totS z0
  · have HZ := Lib.hid (szR_no hbig)
    go_enter Tryd.func4, Tryd.ntmps4
    go_wp2_with fail
    refine (szStarS_any _ _ _ z0 1048576 _ w0 (by omega) (by omega)).mono ?_
    rintro e w2 ⟨rfl, b2⟩
    rw [HZ.out]
    go_wp2
    go_ret
    exact ⟨rfl, b2⟩
  have HZ := Lib.hid (szR_yes hbig)
  have hn : len0 ≤ 1048576 := sumB hbig (by omega) w0.1.1
  have hn0 : ¬ (1048576 : Int) - totS z0 < 0 := by omega
  obtain ⟨m, k, hv⟩ := snV_form z0 a1
  have HV := Lib.hid hv
  clear hv
  go_enter Tryd.func4, Tryd.ntmps4
  go_wp2_with fail
  refine (szStarS_any _ _ _ z0 1048576 _ w0 (by omega) (by omega)).mono ?_
  rintro e w2 ⟨rfl, b2⟩
  rw [HZ.out]
  go_wp2_with fail
  refine (toStarS_any _ _ _ z0 w2 (w0.1.mono b2) hn).mono ?_
  rintro e w3 ⟨g3, rfl, -, hr3, b3⟩
  have hs3 := StL.of_row w0.1.1 hr3
  go_wp2_with fail
  refine (sStarNamed_any _ _ _ z0 a1 w3 hs3 hn).mono ?_
  rintro e w4 ⟨rfl, b4⟩
  rw [HV.out]
  have B4 : Below w.heap.size w w4 := belowCall (belowCall b2 b3) b4
  go_wp2_with fail
  refine (toStarS_any _ _ _ z0 w4 (w0.1.mono B4) hn).mono ?_
  rintro e w5 ⟨g5, rfl, -, hr5, b5⟩
  have hs5 := StL.of_row w0.1.1 hr5
  go_wp2_with fail
  refine (iStarNamed_any _ _ _ z0 a1 ea w5 hs5 hn w1 (hE.mono (belowCall B4 b5))).mono ?_
  rintro e w6 ⟨rfl, b6⟩
  rw [HV.out]
  have B6 : Below w.heap.size w w6 := belowCall (belowCall B4 b5) b6
  go_wp2_with fail
  refine (toStarS_any _ _ _ z0 w6 (w0.1.mono B6) hn).mono ?_
  rintro e w7 ⟨g7, rfl, -, hr7, b7⟩
  have hs7 := StL.of_row w0.1.1 hr7
  go_wp2_with fail
  refine (eqStarS_self _ _ _ _ _ z0 w7 ((hs5.mono b6).mono b7) hs7 hn).mono ?_
  rintro e w8 ⟨rfl, b8⟩
  go_wp2
  go_ret
  exact ⟨rfl, belowCall (belowCall B6 b7) b8⟩

set_option maxRecDepth 100000 in
theorem contract (H : Type) (enc : TypeId × Value → H) (W : World) (base : Nat) (args : Array Value) (ds gs : List (DataW H)) (before : List MemPlace)
    (hval : ∀ (j : Nat) t v, Tryd.f4.params[j]? = some t → args[j]? = some v → Value.okWide Tryd.prog W .any base t v)
    (hW : DataW.Whole enc Tryd.prog Tryd.f4.params.toList Rows.fnExactStarNamedSpec.vars false W args.toList ds gs before) (hL : laidMetH Tryd.prog Rows.fnExactStarNamedRow.laid W) (hSh : W.ShapedOpen Tryd.prog) :
    Calls Tryd.prog 4 args W fun e W' => ∃ v, e = .returned v ∧ Rows.fnExactStarNamedSpec.post enc Tryd.prog Tryd.f4 false true false false W args v W' := by
  have hW' := hW
  obtain ⟨p, q, hA0, hV, rfl, hfz, hnd⟩ := hW
  have hA : DataW.TrodAll enc Tryd.prog W 0 (fun _ => true) true Tryd.f4.params.toList args.toList ds p := hA0
  rw [Tryd.params4] at hA hval
  obtain ⟨v0, vs0, d0, ds0, p0, q0, hargs, rfl, rfl, h0, r0⟩ := trodAll_cons hA
  obtain ⟨v1, vs1, d1, ds1, p1, q1, rfl, rfl, rfl, h1, r1⟩ := trodAll_cons r0
  obtain ⟨rfl, rfl, rfl⟩ := trodAll_nil r1
  obtain rfl : args = #[v0, v1] := by cases args; simp_all
  have hV2 := hV
  obtain ⟨gN, tN, csN, fuN, dN, pN, rfl, _, _, _, _, _⟩ := trodVars_one hV
  have k0 := h0
  have lt0 : ∀ x ∈ p0, x.block < W.heap.size := by obtain ⟨m, hm⟩ := k0; exact DataW.trod_lt m _ _ _ hm
  obtain ⟨a0, len0, cap0, rfl⟩ := okWide_slice Tryd.underlying22 (hval 0 22 v0 rfl rfl)
  obtain ⟨z0, w0⟩ : ∃ zs, IsStars W a0 len0 cap0 zs := by
    obtain ⟨fuel, hf⟩ := h0
    exact stars_of Tryd.underlying22 Tryd.underlying24 (by kernel_rfl) (show Tryd.prog.cellsOf 24 = 5 by kernel_rfl) Tryd.underlying9 Tryd.underlying2 Tryd.underlying2 Tryd.underlying2 Tryd.underlying2 (by simpa [Value.cells] using hf)
  obtain ⟨a1, rfl, rfl, rfl, w1⟩ := open_string Tryd.underlying9 (hval 1 9 v1 rfl rfl) h1
  clear hA0
  refine (walk a0 len0 cap0 z0 a1 W w0 w1 hL hSh).mono fun e W' ⟨he, bel⟩ => ?_
  subst he
  exact ⟨_, rfl, _, _, _, [], _, _, hW', trodAll_mk1 (shut_bool Tryd.underlying4 _), (trodAll_cons_mk (Below.trod laidOut (by kernel_rfl) (of_decide_eq_true (by kernel_rfl)) k0 bel lt0) (trodAll_cons_mk (shut_string Tryd.underlying9 w1) trodAll_mk0)), Below.trodVars laidOut bel (by kernel_rfl) hV2, bel.frame _, fun h => by cases h⟩
noncomputable def low : Nat := (World.holding Tryd.prog default ⟨#[], #[], []⟩).heap.size
/-- a world for the witness: the settled one, the listed variables holding what their initialisers lay -/
noncomputable def laidCells : Nat → Obj → Obj
  | 0, .cells _ t frozen => .cells #[.iface 106 (.pointer (some ⟨low + 0, 0, none⟩))] t frozen
  | _, o => o
noncomputable def laidWorld (os : Os) : World :=
  { World.holding Tryd.prog os ⟨#[.cells #[.string ⟨#[110, 111, 32, 101, 110, 116, 114, 121, 32, 104, 97, 115, 32, 116, 104, 101, 32, 110, 97, 109, 101]⟩] 132], #[], []⟩ with heap := (World.holding Tryd.prog os ⟨#[.cells #[.string ⟨#[110, 111, 32, 101, 110, 116, 114, 121, 32, 104, 97, 115, 32, 116, 104, 101, 32, 110, 97, 109, 101]⟩] 132], #[], []⟩).heap.mapIdx laidCells }
set_option maxRecDepth 100000 in
theorem laid_met (os : Os) : laidMet Tryd.prog Rows.fnExactStarNamedRow.laid ((laidWorld os).forCall (fun _ _ => 0) ⟨#[], #[.slice none 0 0, .string ByteArray.empty], []⟩).memory :=
  laidMet_of_run' 8 (by kernel_rfl) (by kernel_rfl)
set_option maxRecDepth 100000 in
theorem reads (os : Os) {H : Type} (enc : TypeId × Value → H) : ∃ places, DataW.whole enc Tryd.prog ((laidWorld os).forCall (fun _ _ => 0) ⟨#[], #[.slice none 0 0, .string ByteArray.empty], []⟩).memory Tryd.f4.params.toList Rows.fnExactStarNamedSpec.vars false (#[.slice none 0 0, .string ByteArray.empty] : Array Value).toList 8 = some ([.nil, .lit (.string [])], [.held (enc (106, .pointer (some ⟨low + 0, 0, none⟩)))], places) :=
  ⟨((DataW.whole enc Tryd.prog ((laidWorld os).forCall (fun _ _ => 0) ⟨#[], #[.slice none 0 0, .string ByteArray.empty], []⟩).memory Tryd.f4.params.toList Rows.fnExactStarNamedSpec.vars false (#[.slice none 0 0, .string ByteArray.empty] : Array Value).toList 8).getD ([], [], [])).2.2, by kernel_rfl⟩
set_option maxRecDepth 100000 in
theorem lifted (os : Os) (started : os.Started) (H : Type) (enc : TypeId × Value → H) (F : Stop.Interp) :
    ReturnsInHanded {} Tryd.checked os 4 .any ((OpenSpec.ofChange Rows.fnExactStarNamedSpec).preRow enc Tryd.prog Tryd.f4 Rows.fnExactStarNamedRow.domain false Rows.fnExactStarNamedRow.laid) (((OpenSpec.ofChange Rows.fnExactStarNamedSpec).at F).post enc Tryd.prog Tryd.f4 false true false false) := by
  obtain ⟨places, hx⟩ := reads os enc
  refine returnsInHanded_of_row (C := Tryd.checked) (s := OpenSpec.ofChange Rows.fnExactStarNamedSpec) own started (by kernel_rfl) Tryd.func4
    (witness_row_at (enc := enc) (C := Tryd.checked) false (laidWorld os) #[.slice none 0 0, .string ByteArray.empty] rfl (by kernel_rfl) (by kernel_rfl) (by kernel_rfl)
      (OpenSpec.preRow_of_cond 8 hx (by kernel_rfl) (fun k hk => by cases hk) (by kernel_rfl) (laid_met os))) ?_
  intro W base args ds gs before hval hW _ _ _ hL hSh _
  exact contract H enc W base args ds gs before hval hW hL hSh
theorem said : Rows.FnExactStarNamedSaid :=
  OpenClaim.holds_of_cond 4 Tryd.f4 rfl rfl rfl rfl rfl rfl rfl ⟨rfl, rfl, rfl, rfl, rfl⟩ rfl rfl rfl rfl rfl (by kernel_rfl) Tryd.func4 (by kernel_rfl)
    (of_decide_eq_true (by kernel_rfl)) (by unfold Func.isWrapper; first | (rw [if_pos (by decide +kernel)]; kernel_rfl) | (rw [if_neg (by decide +kernel)]; exact ⟨rfl, rfl⟩))
    (fun os started H enc _ F => by rw [OpenClaim.pre_eq_preRow]; exact lifted os started H enc F)
theorem plain (f : FuncId) (fn : Func) (hf : Tryd.pinned.checked.prog.funcNamed "loop.example/g01026/laws.FnExactStarNamed" = some f) (hfn : Tryd.pinned.checked.prog.funcs[f]? = some fn) :
    true = Tryd.pinned.checked.prog.looks [] ∧ ∀ (j : Nat) t, fn.params[j]? = some t → Tryd.pinned.checked.prog.wantsStandIn t = false := by
  obtain rfl : f = 4 := Option.some.inj ((show Tryd.prog.funcNamed "loop.example/g01026/laws.FnExactStarNamed" = some 4 by kernel_rfl).symm.trans hf) |>.symm
  obtain rfl : fn = Tryd.f4 := (Option.some.inj (Tryd.func4.symm.trans hfn)).symm
  refine ⟨by kernel_rfl, fun j t ht => ?_⟩
  rw [Tryd.params4] at ht
  have hm := Array.mem_of_getElem? ht
  simp at hm
  rcases hm with rfl | rfl
  · exact (show Tryd.prog.wantsStandIn 22 = false by kernel_rfl)
  · exact (show Tryd.prog.wantsStandIn 9 = false by kernel_rfl)
theorem proved : Rows.FnExactStarNamedCardSaid :=
  Claim7.holds_tied_plain_at .later [] _ _ _ _ said (fun _ h => by cases h) (by kernel_rfl) (fun _ h => by cases h) fnExactStarNamed_row_tie rfl ⟨rfl, rfl⟩ (by kernel_rfl) rfl plain (by kernel_rfl)
#print axioms proved
end Go.Proofs.YtiogffjhhhpolabDoor.fnExactStarNamed
