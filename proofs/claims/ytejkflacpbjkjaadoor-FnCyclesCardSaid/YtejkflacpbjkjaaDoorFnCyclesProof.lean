/- FnCycles: for every input the law returns true: cycles and phases give a time again, the next extremum is the next, and TimesIn lists 20 or 21 of them. The card: the library's table that its road names stands as its initialiser lays it. -/
import Derived.Test.YtejkflacpbjkjaaDoorB1
import Derived.Test.YtejkflacpbjkjaaDoorB7
import Derived.Test.YtejkflacpbjkjaaDoorFW
import Derived.Test.YtejkflacpbjkjaaDoorF3
import Derived.Test.YtejkflacpbjkjaaDoorFT
import Derived.Test.YtejkflacpbjkjaaDoorFV
import Derived.Test.YtejkflacpbjkjaaDoorCards
import Derived.Test.YtejkflacpbjkjaaDoorTie
import Derived.Deep.DeepHandedRow
import Derived.Lib.LaidTab
import Derived.ChangeOld
import Derived.Lib.SmallJoins
import Derived.LaidSub
import Derived.Deep.Quiet
namespace Go.Proofs.YtejkflacpbjkjaaDoor.fnCycles
open Go.ChangeShapes Go.WideShapes Go.ChangeAt Go.RowKit
open Go.ChangeMaps (open_string shut_string)
set_option linter.unusedVariables false

theorem own : ownKnob Tryd.prog.godebug = none := by kernel_rfl
theorem laidOut : laidOutB Tryd.prog = true := by kernel_rfl
theorem cy_facts {e p t : Int} (h1 : 0 ≤ e) (h2 : e ≤ 19900) (h3 : 1 ≤ p) (h4 : p ≤ 9000) (h5 : 0 ≤ t) (h6 : t ≤ 38399) :
    ephB e p = true ∧ tmB t = true ∧ tmB (t + 20 * p) = true ∧ cyc e p t * p + e + phs e p t = t ∧ -30000 ≤ cyc e p t * p ∧ cyc e p t * p ≤ 40000 := by
  have hb := cyc_bd (e := e) (t := t) h3
  have hq := phs_eq e p t
  exact ⟨ephB_iff.2 ⟨⟨h1, by omega⟩, h3, by omega⟩, tmB_iff.2 ⟨h5, by omega⟩, tmB_iff.2 ⟨by omega, by omega⟩, by omega, by omega, by omega⟩
theorem phtL_ne {e p t : Int} (h1 : ephB e p = true) (h2 : tmB t = true) : 1 ≤ (⟨(phtL e p t).toArray⟩ : ByteArray).size := by
  rw [phtL_yes h1 h2]
  show 1 ≤ (List.toArray _).size
  simp
theorem ephS_ne {e p : Int} (h1 : ephB e p = true) : 1 ≤ (ephS e p).size := by
  rw [ephS_yes h1]
  simp only [ByteArray.size_append]
  show 1 ≤ _ + 4
  omega
set_option maxRecDepth 100000 in
set_option maxHeartbeats 8000000 in

theorem walk (a0 : Option Addr) (len0 cap0 : Nat) (z0 : List Int) (a1 : Option Addr) (len1 cap1 : Nat) (z1 : List Int) (w : World) (w0 : IsRow .u8 w a0 len0 cap0 z0) (w1 : IsRow .u8 w a1 len1 cap1 z1) (hL : laidMetH Tryd.prog Rows.fnCyclesRow.laid w) (hSh : w.ShapedOpen Tryd.prog) :
    Calls Tryd.prog 3 #[.slice a0 len0 cap0, .slice a1 len1 cap1] w fun e w' => e = .returned (.bool true) ∧ Below w.heap.size w w' := by
  have hp := powE_laid (laidMetH.filter (fun x => x.1 == "internal/strconv.uint64pow10") hL)
  clear hL
  have hb0 := LstB.of_row w0
  have hb1 := LstB.of_row w1
  clear w0 w1
  cases hlong : (decide (3000 < (len0 : Int)) || decide (3000 < (len1 : Int)))
  case true =>
    have HL := Lib.hid hlong
    clear hlong
    go_enter Tryd.func3, Tryd.ntmps3
    go_wp2_with fail
    refine (a2Long_any _ _ _ _ _ _ _).mono ?_
    rintro e w' ⟨rfl, rfl⟩
    rw [HL.out]
    go_wp2
    go_ret
    exact ⟨rfl, Below.refl _ _⟩
  have HL := Lib.hid hlong
  have hl0 : len0 ≤ 3000 := by simp at hlong; omega
  have hl1 : len1 ≤ 3000 := by simp at hlong; omega
  clear hlong
  go_enter Tryd.func3, Tryd.ntmps3
  go_wp2_with fail
  refine (a2Long_any _ _ _ _ _ _ _).mono ?_
  rintro e w' ⟨rfl, rfl⟩
  rw [HL.out]
  go_wp2_with fail
  refine (A2Eph_any a0 len0 cap0 w hb0 (by omega)).mono ?_
  rintro e w1 ⟨ee, pp, rfl, e1, e2, p1, p2, hB1⟩
  have hbx := PtC.fresh w1 25 ee pp
  have BV : Below w.heap.size w (w1.alloc (.cells #[.int .i64 ee, .int .i64 pp] 25)) := hB1.alloc hB1.size _
  have hb1V := hb1.below BV
  clear hb0 hb1
  go_wp2_with fail
  generalize w1.alloc (.cells #[.int .i64 ee, .int .i64 pp] 25) = V at hbx BV hb1V ⊢
  refine (a2At_any _ a1 len1 cap1 0 256 V hb1V (by omega) (by decide) (by decide)).mono ?_
  rintro e w2 ⟨v, rfl, v0, v1, rfl⟩
  go_wp2_with fail
  refine (a2At_any _ a1 len1 cap1 1 150 V hb1V (by omega) (by decide) (by decide)).mono ?_
  rintro e w2 ⟨u, rfl, u0, u1, rfl⟩
  obtain ⟨t, ht⟩ : ∃ t, 150 * v + u = t := ⟨_, rfl⟩
  have ht0 : 0 ≤ t := by omega
  have ht1 : t ≤ 38399 := by omega
  obtain ⟨hE, hT, hT2, hq, hm1, hm2⟩ := cy_facts e1 e2 p1 p2 ht0 ht1
  obtain ⟨hf0, hf1⟩ := phs_bd (e := ee) (t := t) p1
  obtain ⟨hn0, hn1⟩ := nxt_bd (e := ee) (t := t) p1
  have hmod := nxt_mod (e := ee) (t := t) p1
  have HCY := Lib.hid (show cycV ee pp t = .tuple #[.int .i64 (cyc ee pp t), .int .i64 0] from cyV_0 hE hT)
  have HPH := Lib.hid (show phsV ee pp t = .tuple #[.int .i64 (phs ee pp t), .int .i64 0] from phV_0 hE hT)
  have HNX := Lib.hid (show nxtV ee pp t = .tuple #[.int .i64 (nxt ee pp t), .int .i64 0] from nxV_0 hE hT)
  have HTI := Lib.hid (ti_law hE hT hT2)
  obtain ⟨n, hn⟩ : ∃ n, tiN ee pp t (t + 20 * pp) = n := ⟨_, rfl⟩
  have hnn := tiN_20 (e := ee) (t := t) p1
  rw [hn] at HTI hnn
  have HLN := Lib.hid (tiAll_len ee pp t n)
  have HAT := Lib.hid (fun k (hk : k < n) => tiAll_at (e := ee) (p := pp) (t := t) hk)
  have hs1 := empty_facts (phtL_ne hE hT)
  have hs2 := empty_facts (ephS_ne hE)
  obtain ⟨S1, hS1⟩ : ∃ s, (⟨(phtL ee pp t).toArray⟩ : ByteArray) = s := ⟨_, rfl⟩
  obtain ⟨S2, hS2⟩ : ∃ s, ephS ee pp = s := ⟨_, rfl⟩
  rw [hS1] at hs1
  rw [hS2] at hs2
  have HS1 := Lib.hid hS1
  have HS2 := Lib.hid hS2
  obtain ⟨c, hc⟩ : ∃ c, cyc ee pp t = c := ⟨_, rfl⟩
  obtain ⟨f, hf⟩ : ∃ c, phs ee pp t = c := ⟨_, rfl⟩
  obtain ⟨nx, hnx⟩ : ∃ c, nxt ee pp t = c := ⟨_, rfl⟩
  rw [hc] at HCY hq hm1 hm2
  rw [hf] at HPH hq hf0 hf1
  rw [hnx] at HNX hn0 hn1 hmod HAT
  have wcp : IntKind.i64.wrap (c * pp) = c * pp := IntWalk.i64_in _ (by omega)
  obtain ⟨m, hm⟩ : ∃ m, c * pp = m := ⟨_, rfl⟩
  rw [hm] at hq hm1 hm2
  have wcm : IntKind.i64.wrap (c * pp) = m := by rw [wcp, hm]
  have hq2 : ee + m + f = t := by omega
  have hppne : ¬ pp = 0 := by omega
  have htop : ¬ 10000000 < t + 20 * pp := by omega
  have HT := Lib.hid ht
  clear hS1 hS2 hc hf hnx hE hT hT2 hn hq ht hm wcp
  obtain ⟨hltV, k0, k1⟩ := hbx.parts
  rw [Nat.zero_add] at k1
  go_wp2_with fail
  (try rw [HT.out])
  refine (iCycOf_any ee pp t V).mono ?_
  rintro e w2 ⟨rfl, b2⟩
  rw [HCY.out]
  have hbx2 := hbx.mono b2
  have D2 := belowCall BV b2
  clear k0 k1
  obtain ⟨hlt2, k0, k1⟩ := hbx2.parts
  rw [Nat.zero_add] at k1
  go_wp2_with fail
  refine (iPhsOf_any ee pp t w2).mono ?_
  rintro e w3 ⟨rfl, b3⟩
  rw [HPH.out]
  have hbx3 := hbx2.mono b3
  have D3 := belowCall D2 b3
  clear k0 k1
  obtain ⟨hlt3, k0, k1⟩ := hbx3.parts
  rw [Nat.zero_add] at k1
  go_wp2_with fail
  refine (iNxtOf_any ee pp t w3).mono ?_
  rintro e w4 ⟨rfl, b4⟩
  rw [HNX.out]
  have hbx4 := hbx3.mono b4
  have D4 := belowCall D3 b4
  clear k0 k1
  obtain ⟨hlt4, k0, k1⟩ := hbx4.parts
  rw [Nat.zero_add] at k1
  go_wp2_with fail
  refine (iTi_any ee pp t (t + 20 * pp) w4).mono ?_
  rintro e w5 ⟨⟨la, lc, rfl, hO⟩, b5⟩
  rw [HTI.out.1]
  have hL := (hO 1).toL
  rw [HTI.out.2] at hL ⊢
  rw [HLN.out] at hL ⊢
  have hbx5 := hbx4.mono b5
  have D5 := belowCall D4 b5
  clear k0 k1 hO
  generalize tiAll ee pp t n = L at hL HLN HAT HTI ⊢
  have hnz1 : 20 ≤ (n : Int) := by omega
  have hnz2 : (n : Int) ≤ 21 := by omega
  go_wp2_with fail
  go_loopw [16] (fun i wr => ∃ k : Nat, k ≤ n ∧ i = .int .i64 (k : Int) ∧ Below w5.heap.size w5 wr) (fun i _ => n - (Go.RowKit.intOf i).toNat)
  case atStart => exact ⟨0, Nat.zero_le _, rfl, Below.refl _ _⟩
  case round =>
    obtain ⟨k, hk, rfl, hB⟩ := hrel
    have hLr := hL.mono hB
    obtain ⟨hltr, k0, k1⟩ := (hbx5.mono hB).parts
    rw [Nat.zero_add] at k1
    have DR := belowCall D5 hB
    by_cases hlt : k < n
    · obtain ⟨lb, lo, rfl, hlb, hlc⟩ := hLr.2 k hlt
      have hkk : (k : Int) < (n : Int) := by omega
      have hkp1 := Int.mul_le_mul_of_nonneg_right (show (k : Int) ≤ 21 by omega) (show 0 ≤ pp by omega)
      have hkp0 := Int.mul_nonneg (show 0 ≤ (k : Int) by omega) (show 0 ≤ pp by omega)
      rw [HAT.out k hlt] at hlc
      have wkp0 : IntKind.i64.wrap ((k : Int) * pp) = (k : Int) * pp := IntWalk.i64_in _ (by omega)
      obtain ⟨kp, hkp⟩ : ∃ m, (k : Int) * pp = m := ⟨_, rfl⟩
      rw [hkp] at hlc hkp0 hkp1
      have wkp : IntKind.i64.wrap ((k : Int) * pp) = kp := by rw [wkp0, hkp]
      clear wkp0 hkp
      go_wp2_with fail
      go_quiet (fail)
      have hBn := belowDN hB nq
      generalize wr.drewN nq = w9 at hBn ⊢
      go_wp2
      go_roundw
      case rel => exact ⟨k + 1, by omega, by go_num, hBn⟩
      case measure => simp [Go.RowKit.intOf]; omega
    · obtain rfl : k = n := by omega
      go_wp2_with fail
      refine (iPhText_any ee pp t wr (hp.mono DR)).mono ?_
      rintro e w7 ⟨rfl, b7⟩
      rw [HS1.out]
      have D7 := belowCall DR b7
      obtain ⟨hlt7, k0', k1'⟩ := ((hbx5.mono hB).mono b7).parts
      rw [Nat.zero_add] at k1'
      go_wp2_with fail
      refine (iEphText_any ee pp w7 (hp.mono D7)).mono ?_
      rintro e w8 ⟨rfl, b8⟩
      rw [HS2.out]
      go_wp2
      go_ret
      exact ⟨rfl, belowCall D7 b8⟩

set_option maxRecDepth 100000 in
theorem contract (H : Type) (enc : TypeId × Value → H) (W : World) (base : Nat) (args : Array Value) (ds gs : List (DataW H)) (before : List MemPlace)
    (hval : ∀ (j : Nat) t v, Tryd.f3.params[j]? = some t → args[j]? = some v → Value.okWide Tryd.prog W .any base t v)
    (hW : DataW.Whole enc Tryd.prog Tryd.f3.params.toList Rows.fnCyclesSpec.vars false W args.toList ds gs before) (hL : laidMetH Tryd.prog Rows.fnCyclesRow.laid W) (hSh : W.ShapedOpen Tryd.prog) :
    Calls Tryd.prog 3 args W fun e W' => ∃ v, e = .returned v ∧ Rows.fnCyclesSpec.post enc Tryd.prog Tryd.f3 false true false false W args v W' := by
  have hW' := hW
  obtain ⟨p, q, hA0, hV, rfl, hfz, hnd⟩ := hW
  have hA : DataW.TrodAll enc Tryd.prog W 0 (fun _ => true) true Tryd.f3.params.toList args.toList ds p := hA0
  rw [Tryd.params3] at hA hval
  obtain ⟨v0, vs0, d0, ds0, p0, q0, hargs, rfl, rfl, h0, r0⟩ := trodAll_cons hA
  obtain ⟨v1, vs1, d1, ds1, p1, q1, rfl, rfl, rfl, h1, r1⟩ := trodAll_cons r0
  obtain ⟨rfl, rfl, rfl⟩ := trodAll_nil r1
  obtain rfl : args = #[v0, v1] := by cases args; simp_all
  obtain ⟨rfl, rfl⟩ := trodVars_none hV
  have k0 := h0
  have lt0 : ∀ x ∈ p0, x.block < W.heap.size := by obtain ⟨m, hm⟩ := k0; exact DataW.trod_lt m _ _ _ hm
  obtain ⟨a0, len0, cap0, rfl⟩ := okWide_slice Tryd.underlying22 (hval 0 22 v0 rfl rfl)
  obtain ⟨z0, w0⟩ : ∃ zs, IsRow .u8 W a0 len0 cap0 zs := by
    obtain ⟨fuel, hf⟩ := h0
    rcases open_ints Tryd.underlying22 Tryd.underlying5 (by kernel_rfl) hf with ⟨hcs, _⟩ | ⟨x, l, c, zs, hcs, _, hl, hm, hz, _, hcell, hwz⟩
    · simp [Value.cells] at hcs
      obtain ⟨rfl, rfl, rfl⟩ := hcs
      exact ⟨[], .inl ⟨rfl, rfl, rfl, rfl⟩⟩
    · simp [Value.cells] at hcs
      obtain ⟨rfl, rfl, rfl⟩ := hcs
      exact ⟨zs, .inr ⟨_, rfl, hl, hm, by simpa using hz, hcell, hwz⟩⟩
  have k1 := h1
  have lt1 : ∀ x ∈ p1, x.block < W.heap.size := by obtain ⟨m, hm⟩ := k1; exact DataW.trod_lt m _ _ _ hm
  obtain ⟨a1, len1, cap1, rfl⟩ := okWide_slice Tryd.underlying22 (hval 1 22 v1 rfl rfl)
  obtain ⟨z1, w1⟩ : ∃ zs, IsRow .u8 W a1 len1 cap1 zs := by
    obtain ⟨fuel, hf⟩ := h1
    rcases open_ints Tryd.underlying22 Tryd.underlying5 (by kernel_rfl) hf with ⟨hcs, _⟩ | ⟨x, l, c, zs, hcs, _, hl, hm, hz, _, hcell, hwz⟩
    · simp [Value.cells] at hcs
      obtain ⟨rfl, rfl, rfl⟩ := hcs
      exact ⟨[], .inl ⟨rfl, rfl, rfl, rfl⟩⟩
    · simp [Value.cells] at hcs
      obtain ⟨rfl, rfl, rfl⟩ := hcs
      exact ⟨zs, .inr ⟨_, rfl, hl, hm, by simpa using hz, hcell, hwz⟩⟩
  clear hA0
  refine (walk a0 len0 cap0 z0 a1 len1 cap1 z1 W w0 w1 hL hSh).mono fun e W' ⟨he, bel⟩ => ?_
  subst he
  exact ⟨_, rfl, _, _, _, [], _, [], hW', trodAll_mk1 (shut_bool Tryd.underlying4 _), (trodAll_cons_mk (Below.trod laidOut (by kernel_rfl) (of_decide_eq_true (by kernel_rfl)) k0 bel lt0) (trodAll_cons_mk (Below.trod laidOut (by kernel_rfl) (of_decide_eq_true (by kernel_rfl)) k1 bel lt1) trodAll_mk0)), rfl, bel.frame _, fun h => by cases h⟩
noncomputable def low : Nat := (World.holding Tryd.prog default ⟨#[], #[], []⟩).heap.size
/-- a world for the witness: the settled one, the listed variables holding what their initialisers lay -/
noncomputable def laidCells : Nat → Obj → Obj
  | 1, .cells _ t frozen => .cells #[.int .u8 0, .int .u8 1, .int .u8 28, .int .u8 2, .int .u8 29, .int .u8 14, .int .u8 24, .int .u8 3, .int .u8 30, .int .u8 22, .int .u8 20, .int .u8 15, .int .u8 25, .int .u8 17, .int .u8 4, .int .u8 8, .int .u8 31, .int .u8 27, .int .u8 13, .int .u8 23, .int .u8 21, .int .u8 19, .int .u8 16, .int .u8 7, .int .u8 26, .int .u8 12, .int .u8 18, .int .u8 6, .int .u8 11, .int .u8 5, .int .u8 10, .int .u8 9] t frozen
  | 2, .cells _ t frozen => .cells #[.int .u8 0, .int .u8 1, .int .u8 56, .int .u8 2, .int .u8 57, .int .u8 49, .int .u8 28, .int .u8 3, .int .u8 61, .int .u8 58, .int .u8 42, .int .u8 50, .int .u8 38, .int .u8 29, .int .u8 17, .int .u8 4, .int .u8 62, .int .u8 47, .int .u8 59, .int .u8 36, .int .u8 45, .int .u8 43, .int .u8 51, .int .u8 22, .int .u8 53, .int .u8 39, .int .u8 33, .int .u8 30, .int .u8 24, .int .u8 18, .int .u8 12, .int .u8 5, .int .u8 63, .int .u8 55, .int .u8 48, .int .u8 27, .int .u8 60, .int .u8 41, .int .u8 37, .int .u8 16, .int .u8 46, .int .u8 35, .int .u8 44, .int .u8 21, .int .u8 52, .int .u8 32, .int .u8 23, .int .u8 11, .int .u8 54, .int .u8 26, .int .u8 40, .int .u8 15, .int .u8 34, .int .u8 20, .int .u8 31, .int .u8 10, .int .u8 25, .int .u8 14, .int .u8 19, .int .u8 9, .int .u8 13, .int .u8 8, .int .u8 7, .int .u8 6] t frozen
  | 0, .cells _ t frozen => .cells #[.int .u64 1, .int .u64 10, .int .u64 100, .int .u64 1000, .int .u64 10000, .int .u64 100000, .int .u64 1000000, .int .u64 10000000, .int .u64 100000000, .int .u64 1000000000, .int .u64 10000000000, .int .u64 100000000000, .int .u64 1000000000000, .int .u64 10000000000000, .int .u64 100000000000000, .int .u64 1000000000000000, .int .u64 10000000000000000, .int .u64 100000000000000000, .int .u64 1000000000000000000, .int .u64 10000000000000000000] t frozen
  | _, o => o
noncomputable def laidWorld (os : Os) : World :=
  { World.holding Tryd.prog os ⟨#[], #[], []⟩ with heap := (World.holding Tryd.prog os ⟨#[], #[], []⟩).heap.mapIdx laidCells }
set_option maxRecDepth 100000 in
theorem laid_met (os : Os) : laidMet Tryd.prog Rows.fnCyclesRow.laid ((laidWorld os).forCall (fun _ _ => 0) ⟨#[], #[.slice none 0 0, .slice none 0 0], []⟩).memory :=
  laidMet_of_run' 8 (by kernel_rfl) (by kernel_rfl)
set_option maxRecDepth 100000 in
theorem reads (os : Os) {H : Type} (enc : TypeId × Value → H) : ∃ places, DataW.whole enc Tryd.prog ((laidWorld os).forCall (fun _ _ => 0) ⟨#[], #[.slice none 0 0, .slice none 0 0], []⟩).memory Tryd.f3.params.toList Rows.fnCyclesSpec.vars false (#[.slice none 0 0, .slice none 0 0] : Array Value).toList 8 = some ([.nil, .nil], [], places) :=
  ⟨((DataW.whole enc Tryd.prog ((laidWorld os).forCall (fun _ _ => 0) ⟨#[], #[.slice none 0 0, .slice none 0 0], []⟩).memory Tryd.f3.params.toList Rows.fnCyclesSpec.vars false (#[.slice none 0 0, .slice none 0 0] : Array Value).toList 8).getD ([], [], [])).2.2, by kernel_rfl⟩
set_option maxRecDepth 100000 in
theorem lifted (os : Os) (started : os.Started) (H : Type) (enc : TypeId × Value → H) (F : Stop.Interp) :
    ReturnsInHanded {} Tryd.checked os 3 .any ((OpenSpec.ofChange Rows.fnCyclesSpec).preRow enc Tryd.prog Tryd.f3 Rows.fnCyclesRow.domain false Rows.fnCyclesRow.laid) (((OpenSpec.ofChange Rows.fnCyclesSpec).at F).post enc Tryd.prog Tryd.f3 false true false false) := by
  obtain ⟨places, hx⟩ := reads os enc
  refine returnsInHanded_of_row (C := Tryd.checked) (s := OpenSpec.ofChange Rows.fnCyclesSpec) own started (by kernel_rfl) Tryd.func3
    (witness_row_at (enc := enc) (C := Tryd.checked) false (laidWorld os) #[.slice none 0 0, .slice none 0 0] rfl (by kernel_rfl) (by kernel_rfl) (by kernel_rfl)
      (OpenSpec.preRow_of_cond 8 hx (by kernel_rfl) (fun k hk => by cases hk) (by kernel_rfl) (laid_met os))) ?_
  intro W base args ds gs before hval hW _ _ _ hL hSh _
  exact contract H enc W base args ds gs before hval hW hL hSh
theorem said : Rows.FnCyclesSaid :=
  OpenClaim.holds_of_cond 3 Tryd.f3 rfl rfl rfl rfl rfl rfl rfl ⟨rfl, rfl, rfl, rfl, rfl⟩ rfl rfl rfl rfl rfl (by kernel_rfl) Tryd.func3 (by kernel_rfl)
    (of_decide_eq_true (by kernel_rfl)) (by unfold Func.isWrapper; first | (rw [if_pos (by decide +kernel)]; kernel_rfl) | (rw [if_neg (by decide +kernel)]; exact ⟨rfl, rfl⟩))
    (fun os started H enc _ F => by rw [OpenClaim.pre_eq_preRow]; exact lifted os started H enc F)
theorem plain (f : FuncId) (fn : Func) (hf : Tryd.pinned.checked.prog.funcNamed "loop.example/g01026/laws.FnCycles" = some f) (hfn : Tryd.pinned.checked.prog.funcs[f]? = some fn) :
    false = Tryd.pinned.checked.prog.looks [] ∧ ∀ (j : Nat) t, fn.params[j]? = some t → Tryd.pinned.checked.prog.wantsStandIn t = false := by
  obtain rfl : f = 3 := Option.some.inj ((show Tryd.prog.funcNamed "loop.example/g01026/laws.FnCycles" = some 3 by kernel_rfl).symm.trans hf) |>.symm
  obtain rfl : fn = Tryd.f3 := (Option.some.inj (Tryd.func3.symm.trans hfn)).symm
  refine ⟨by kernel_rfl, fun j t ht => ?_⟩
  rw [Tryd.params3] at ht
  have hm := Array.mem_of_getElem? ht
  simp at hm
  subst hm
  exact (show Tryd.prog.wantsStandIn 22 = false by kernel_rfl)
theorem proved : Rows.FnCyclesCardSaid :=
  Claim7.holds_tied_plain_at .later [] _ _ _ _ said (fun _ h => by cases h) (by kernel_rfl) (fun _ h => by cases h) fnCycles_row_tie rfl ⟨rfl, rfl⟩ (by kernel_rfl) rfl plain (by kernel_rfl)
#print axioms proved
end Go.Proofs.YtejkflacpbjkjaaDoor.fnCycles
