/- bothWays, the program's iterator: its contract; checkFirst. -/
import Derived.Test.YtfnjndbnogeddaaN3
import Derived.Below
import Derived.RangeFuncNested
import Derived.RangeFuncBox
import Derived.RangeFuncBound
import Derived.RangeFuncCalls
import Derived.RangeFuncLeaves
import Derived.Shelf.Abstract
import Derived.WalkKit
import Derived.OwnWalkIn
import Derived.TacticsInMore
import Derived.LoopNIn
import Derived.LoopIn
import Derived.Maps.AppendAt
namespace Go.Proofs.Ytfnjndbnogeddaa
open Go.ChangeShapes Go.WideShapes Go.ChangeAt Go.RowKit Go.Shelf
attribute [local go_sem] Oper.semAt_some

/-- what lay below n₀ lies as it lay; so does every block of type T -/
def KpC (n₀ : Nat) (T : TypeId) (W W' : World) : Prop := Below n₀ W W' ∧ ∀ (i : Nat) (cs : Array Value) (fz : Nat × Nat), W.heap[i]? = some (.cells cs T fz) → W'.heap[i]? = W.heap[i]?
theorem KpC.refl (n₀ : Nat) (T : TypeId) (W : World) : KpC n₀ T W W := ⟨Below.refl _ _, fun _ _ _ _ => rfl⟩
theorem KpC.trans {n₀ : Nat} {T : TypeId} {A B C : World} (h : KpC n₀ T A B) (k : KpC n₀ T B C) : KpC n₀ T A C :=
  ⟨h.1.trans k.1, fun i cs fz e => by
    have h1 := h.2 i cs fz e
    exact (k.2 i cs fz (h1.trans e)).trans h1⟩
theorem KpC.grown {n₀ : Nat} {T : TypeId} {W W' : World} {row : Option Nat} (hn : n₀ ≤ W.heap.size) (h : W.grownBy W' row) (hr : ∀ g, row = some g → n₀ ≤ g ∧ ∀ cs fz, W.heap[g]? ≠ some (.cells cs T fz)) : KpC n₀ T W W' :=
  ⟨(Below.refl n₀ W).grown h hn (fun k e => (hr k e).1), fun i cs fz e => h.block i (Array.getElem?_eq_some_iff.1 e).1 (fun e' => (hr i e'.symm).2 cs fz e)⟩
theorem KpC.alloc {n₀ : Nat} {T : TypeId} {W : World} (hn : n₀ ≤ W.heap.size) (o : Obj) : KpC n₀ T W (W.alloc o) := KpC.grown hn (World.grownBy_alloc W o none) (fun g e => by cases e)
theorem kpc_b {n₀ : Nat} {T : TypeId} {w : World} (hn : n₀ ≤ w.heap.size) (W : World) (l : Nat) (o o' : Obj) (hl : w.heap.size ≤ l) (h : W.heap[l]? = some o) (hc : o.isCells = false) (_ : o.isWalk = false) : KpC n₀ T W (W.putObj l o') :=
  KpC.grown (by have := (Array.getElem?_eq_some_iff.1 h).1; omega) (grownBy_putObj' W l o') (fun g e => by cases e; exact ⟨by omega, fun cs fz e => by rw [h] at e; cases e; cases hc⟩)
theorem KpC.set {n₀ : Nat} {T t : TypeId} {W : World} {B : Nat} {v : Value} (hn : n₀ ≤ W.heap.size) (hB : n₀ ≤ B) (hb : Boxed W B t v) (ht : t ≠ T) (u : Value) : KpC n₀ T W (W.setCell ⟨B, 0, none⟩ u) :=
  KpC.grown hn (grownBy_setCell' W B u) (fun g e => by cases e; exact ⟨hB, fun cs fz e => by rw [show W.heap[B]? = _ from hb] at e; cases e; exact ht rfl⟩)
theorem KpC.cm {n₀ : Nat} {T : TypeId} {W W' : World} {i : Nat} {cs : Array Value} {fz : Nat × Nat} {x : Cm} (h : KpC n₀ T W W') (hi : W.heap[i]? = some (.cells cs T fz)) (hc : CmC W i 0 x) : CmC W' i 0 x := hc.of_block h.1.size (h.2 i cs fz hi)
theorem bothL_step {xs : List Cm} {k : Nat} {x : Cm} (hk : k < xs.length) (hx : xs[k]?.getD cm0 = x) : bothL (xs.take (k + 1)) = (bothL (xs.take k) ++ [x]) ++ [turnC x] := by
  rw [List.take_succ_eq_append_getElem hk, bothL_app]
  have e : xs[k] = x := by simpa [hk] using hx
  rw [e, bothL_one]; simp
theorem bothL_upto {xs : List Cm} {k n : Nat} (hn : xs.length = n) (hk : k ≤ n) : (bothL (xs.take k)).length = 2 * k := by
  rw [bothL_len, List.length_take, hn, Nat.min_eq_left hk]
theorem grown_of_below5 {w w' : World} (h : Below w.heap.size w w') : w.grownBy w' none := ⟨h.os, h.tape, h.output, h.size, fun i hi _ => h.block i hi⟩
theorem abides_below5 {β : Type} {B : Nat} {J : β → World → Prop} (h : AbidesFrom B J) {s : β} {w w' : World} (hs : J s w) (hb : Below w.heap.size w w') : J s w' :=
  h s w w' none hs (grown_of_below5 hb) (fun r e => by cases e)
theorem turned_any (a b d : Int) (w : World) (h1 : -2000 ≤ d) (h2 : d ≤ 2000) :
    Calls Try.prog 88 #[.agg #[.int .i64 a, .int .i64 b, .int .i64 d]] w fun e w' => e = .returned (.agg #[.int .i64 b, .int .i64 a, .int .i64 (-d)]) ∧ Below w.heap.size w w' := by
  have hneg : IntKind.i64.wrap (-d) = -d := IntWalk.i64_in _ (by omega)
  go_enter Try.func88, Try.ntmps88
  go_wp2
  exact bodyPost_ret (v := .agg #[.int .i64 b, .int .i64 a, .int .i64 (-d)]) (by simp [results, Try.results88, go_sem]) rfl ⟨rfl, by (repeat (first | assumption | exact Below.refl _ _ | refine belowDN ?_ _ | refine Below.drew ?_ | refine Below.setCell ?_ (by first | omega | (simp <;> omega)) _ | refine Below.alloc ?_ (by first | omega | (simp <;> omega)) _ | refine belowCall ?_ (by assumption)))⟩
set_option maxRecDepth 100000 in
set_option maxHeartbeats 4000000 in
theorem both1_any (Bl : Nat) (a : Option Addr) (n c : Nat) (xs : List Cm) (cc : Int) (wb w0 : World) (hL : CmL wb a n xs) (hwb : Below wb.heap.size wb w0) (hn : n ≤ 1048576) (hall : xs.all (cmB cc) = true)
    (c1 : w0.cell? ⟨Bl, 0, none⟩ = some (.slice a n c)) :
    SeqStopsK Fence.wide 4 Try.prog 87 #[.pointer (some ⟨Bl, 0, none⟩)] (fun x : Cm => #[.agg #[.int .i64 x.1, .int .i64 x.2.1, .int .i64 x.2.2]]) (KpC wb.heap.size 67) (fun ys => ys = bothL xs) (fun _ => True) (2 * n) w0 := fun l J Jx W hW hJ hJx hY h0 => by
  have hlt1 := World.block_lt_of_cell? w0 _ c1
  dsimp only at hlt1
  have d1 := (hW.cell (p := ⟨Bl, 0, none⟩) hlt1).trans c1
  have HL := Lib.hid hL.1
  have HB := Lib.hid hall
  clear hall
  refine callsIn_of_wp Try.func87 rfl trivial ?_ rfl
  simp only [Try.ntmps87, List.size_toArray, List.length_cons, List.length_nil, Nat.reduceAdd, Nat.reduceSub, Array.replicate_succ, Array.replicate_zero, List.push_toArray, List.append_toArray, List.nil_append, List.cons_append]
  gi_wp2
  gi_loopw [7] (fun i wr => ∃ k : Nat, k ≤ n ∧ i = .int .i64 k ∧ J (bothL (xs.take k)) wr ∧ Below wb.heap.size wb wr) (fun i _ => n - (intOf i).toNat)
  case atStart => exact ⟨0, Nat.zero_le _, rfl, h0, belowCall hwb hW⟩
  case round =>
    obtain ⟨k, hk, rfl, hJs, hB⟩ := hrel
    have hle := bothL_upto HL.out hk
    have hsz := hB.size
    by_cases hlt : k < n
    · obtain ⟨b1, o1, rfl, hc⟩ := hL.2 k hlt
      obtain ⟨⟨x0, x1, x2⟩, hx⟩ : ∃ x, xs[k]?.getD cm0 = x := ⟨_, rfl⟩
      rw [hx] at hc
      obtain ⟨p, p0, p1, p2⟩ := (hc.mono hB).parts
      have hbd := cm_all HB.out HL.out hlt
      rw [hx] at hbd
      obtain ⟨-, -, -, -, -, hd1, hd2⟩ := cm_bd hbd
      have HS := Lib.hid (bothL_step (by rw [HL.out]; exact hlt) hx)
      clear hx hc hbd
      have hkk : (k : Int) < (n : Int) := by omega
      generalize bothL (xs.take k) = L at hJs hle HS
      have hlen1 : L.length < 2 * n := by omega
      have hlen2 : (L ++ [(x0, x1, x2)]).length < 2 * n := by simp; omega
      have B1 : Below wr.heap.size wr (wr.alloc (.cells #[.int .i64 x0, .int .i64 x1, .int .i64 x2] 67)) := (Below.refl _ wr).alloc (Nat.le_refl _) _
      have hJ1 := abides_below5 hJ hJs B1
      obtain ⟨fn, tmps, assign, body, hy, hR⟩ := hY _ (x0, x1, x2) _ hJ1 hlen1
      dsimp only at hy
      have hq := World.alloc_heap_new wr (.cells #[.int .i64 x0, .int .i64 x1, .int .i64 x2] 67)
      have hcq := CmC.fresh wr 67 x0 x1 x2
      gi_wp2
      refine hR.mono ?_
      rintro e W4 (⟨rfl, hJ4, hk4⟩ | ⟨rfl, hJx4⟩)
      · obtain ⟨q, q0, q1, q2⟩ := (hk4.cm hq hcq).parts
        clear hy hR
        gi_wp2_with ((try refine ⟨trivial, ?_⟩); gi_at_call 88; refine (callsIn_wide.2 (turned_any _ _ _ _ hd1 hd2)).mono ?_; rintro e w5 ⟨rfl, hb5⟩; have hJ5 := abides_below5 hJ hJ4 hb5; obtain ⟨fn2, tmps2, assign2, body2, hy2, hR2⟩ := hY _ (turnC (x0, x1, x2)) w5 hJ5 hlen2; dsimp only [turnC] at hy2)
        refine hR2.mono ?_
        rintro e W6 (⟨rfl, hJ6, hk6⟩ | ⟨rfl, hJx6⟩)
        · gi_wp2
          go_roundw
          case rel => exact ⟨k + 1, by omega, by go_num, by rw [HS.out]; exact hJ6, (((belowCall hB B1).trans hk4.1).trans (hb5.mono (by have := hk4.1.size; have := B1.size; omega))).trans hk6.1⟩
          case measure => simp [intOf]; omega
        · gi_wp2
          refine bodyPost_ret (results_none rfl _ _ _) rfl ?_
          exact ⟨⟨_, rfl⟩, .inr ⟨_, trivial, hJx6⟩⟩
      · gi_wp2_with (first | refine ⟨trivial, ?_⟩ | refine ⟨(by intro f h; simp only [reduceCtorEq] at h), ?_⟩)
        refine bodyPost_ret (results_none rfl _ _ _) rfl ?_
        exact ⟨⟨_, rfl⟩, .inr ⟨_, trivial, hJx4⟩⟩
    · obtain rfl : k = n := by omega
      have htk : xs.take k = xs := List.take_of_length_le (by rw [HL.out]; exact Nat.le_refl _)
      rw [htk] at hJs
      clear htk
      gi_wp2
      go_end0
      exact ⟨⟨_, rfl⟩, .inl ⟨_, rfl, hJs⟩⟩
set_option maxHeartbeats 1000000 in
theorem bothWays_any (a : Option Addr) (n c : Nat) (w : World) :
    Calls Try.prog 68 #[.slice a n c] w fun e w' => e = .returned (.func (.func 87) #[] #[.pointer (some ⟨w.heap.size, 0, none⟩)]) ∧
      Below w.heap.size w w' ∧ w'.cell? ⟨w.heap.size, 0, none⟩ = some (.slice a n c) := by
  go_enter Try.func68, Try.ntmps68
  go_wp2
  go_ret
  exact ⟨rfl, by (repeat (first | assumption | exact Below.refl _ _ | refine belowDN ?_ _ | refine Below.drew ?_ | refine Below.setCell ?_ (by first | omega | (simp <;> omega)) _ | refine Below.alloc ?_ (by first | omega | (simp <;> omega)) _ | refine belowCall ?_ (by assumption))), by go_keep⟩
/-- the code for common estimates and one of the observers -/
def ckC (c first : Int) (xs : List Cm) : Int := if cmsB c xs = false then 1 else if inB first 0 (c - 1) = false then 2 else 0
theorem check_any (c first : Int) (a : Option Addr) (n cap : Nat) (xs : List Cm) (w : World) (h : CmL w a n xs) (hn : n ≤ 1048576) :
    Calls Try.prog 41 #[.int .i64 c, .slice a n cap, .int .i64 first] w fun e w' => e = .returned (.int .i64 (ckC c first xs)) ∧ Below w.heap.size w w' := by
  cases hv : cmsB c xs
  · go_enter Try.func41, Try.ntmps41
    go_wp2_with fail
    refine (iCommons_any c a n cap xs w h hn).mono ?_
    rintro e w2 ⟨rfl, b2⟩
    rw [hv]
    go_wp2
    go_ret
    exact ⟨by simp [ckC, hv], b2⟩
  obtain ⟨c1, c2, c60, call⟩ := cms_parts hv
  cases g1 : inB first 0 (c - 1)
  all_goals
    go_enter Try.func41, Try.ntmps41
    go_wp2_with fail
    refine (iCommons_any c a n cap xs w h hn).mono ?_
    rintro e w2 ⟨rfl, b2⟩
    rw [hv]
    go_wp2_with (go_at_call 64; refine (isObs_any _ _ _ (by omega) (by omega)).mono ?_; rintro e w' ⟨rfl, rfl⟩)
    go_ret
    exact ⟨by simp [ckC, hv, g1], b2⟩
end Go.Proofs.Ytfnjndbnogeddaa
