/- bothWays' contract for a body that fills a map of slices of common estimates; what such a body keeps. -/
import Derived.Test.YtfnjndbnogeddaaL7
import Derived.Test.YtfnjndbnogeddaaN7
namespace Go.Proofs.Ytfnjndbnogeddaa
open Go.ChangeShapes Go.WideShapes Go.ChangeAt Go.RowKit Go.Shelf
attribute [local go_sem] Oper.semAt_some

def RowsIn' (W : World) (b : Nat) : Prop := ∀ i, RowOf W b i → i < W.heap.size
theorem RowsIn'.below {W W' : World} {b : Nat} (h : RowsIn' W b) (hb : b < W.heap.size) (hB : Below W.heap.size W W') : RowsIn' W' b := fun i hi =>
  Nat.lt_of_lt_of_le (h i (hi.same (hB.block b hb))) hB.size
theorem RowsIn'.alloc {W : World} {b : Nat} (h : RowsIn' W b) (hb : b < W.heap.size) (o : Obj) : RowsIn' (W.alloc o) b := h.below hb ((Below.refl _ W).alloc (Nat.le_refl _) o)
theorem RowsIn'.fresh {W : World} {b : Nat} (h : RowsIn' W b) (hb : b < W.heap.size) (o : Obj) : ¬ RowOf (W.alloc o) b W.heap.size := fun hi => by
  have := h _ (hi.same (((Below.refl _ W).alloc (Nat.le_refl _) o).block b hb))
  omega
theorem rowsIn_none {w W : World} {b : Nat} (h : ∀ i, ¬ RowOf w b i) (hb : b < w.heap.size) (hB : Below w.heap.size w W) : RowsIn' W b := fun i hi => absurd (hi.same (hB.block b hb)) (h i)
/-- what lay below n₀ lies as it lay; so does every block of type T that is no row of the map in block b; and no old block becomes a row -/
def KpM (n₀ : Nat) (T : TypeId) (b : Nat) (W W' : World) : Prop := Below n₀ W W' ∧ (RowsIn' W b → RowsIn' W' b) ∧ (∀ i, i < W.heap.size → RowOf W' b i → RowOf W b i) ∧ ∀ (i : Nat) (cs : Array Value) (fz : Nat × Nat), W.heap[i]? = some (.cells cs T fz) → ¬ RowOf W b i → W'.heap[i]? = W.heap[i]?
theorem KpM.refl (n₀ : Nat) (T : TypeId) (b : Nat) (W : World) : KpM n₀ T b W W := ⟨Below.refl _ _, id, fun _ _ h => h, fun _ _ _ _ _ => rfl⟩
theorem KpM.trans {n₀ : Nat} {T : TypeId} {b : Nat} {A B C : World} (h : KpM n₀ T b A B) (k : KpM n₀ T b B C) : KpM n₀ T b A C :=
  ⟨h.1.trans k.1, fun e => k.2.1 (h.2.1 e), fun i hi e => h.2.2.1 i hi (k.2.2.1 i (Nat.lt_of_lt_of_le hi h.1.size) e), fun i cs fz e hn => by
    have h1 := h.2.2.2 i cs fz e hn
    have hi := (Array.getElem?_eq_some_iff.1 e).1
    exact (k.2.2.2 i cs fz (h1.trans e) (fun hr => hn (h.2.2.1 i hi hr))).trans h1⟩
theorem kpm_b {n₀ : Nat} {T : TypeId} {b : Nat} {w : World} (hn : n₀ ≤ w.heap.size) (hb : b < w.heap.size) (W : World) (l : Nat) (o o' : Obj) (hl : w.heap.size ≤ l) (h : W.heap[l]? = some o) (hc : o.isCells = false) (_ : o.isWalk = false) : KpM n₀ T b W (W.putObj l o') := by
  have hlt := (Array.getElem?_eq_some_iff.1 h).1
  have hg := grownBy_putObj' W l o'
  have eb : (W.putObj l o').heap[b]? = W.heap[b]? := hg.block b (by omega) (fun e => by cases e; omega)
  refine ⟨(Below.refl n₀ W).grown hg (by omega) (fun k e => by cases e; omega), fun hr i hi => Nat.lt_of_lt_of_le (hr i (hi.same eb)) hg.size, fun i _ hi => hi.same eb, fun i cs fz e _ => hg.block i (Array.getElem?_eq_some_iff.1 e).1 (fun e' => ?_)⟩
  cases e'
  rw [h] at e; cases e; cases hc
theorem KpM.cm {n₀ : Nat} {T : TypeId} {b : Nat} {W W' : World} {i : Nat} {cs : Array Value} {fz : Nat × Nat} {x : Cm} (h : KpM n₀ T b W W') (hi : W.heap[i]? = some (.cells cs T fz)) (hn : ¬ RowOf W b i) (hc : CmC W i 0 x) : CmC W' i 0 x := hc.of_block h.1.size (h.2.2.2 i cs fz hi hn)
set_option maxRecDepth 100000 in
set_option maxHeartbeats 4000000 in
theorem both1M_any (bm Bl : Nat) (a : Option Addr) (n c : Nat) (xs : List Cm) (cc : Int) (wb w0 : World) (hm0 : ∀ i, ¬ RowOf w0 bm i) (hbm : bm < w0.heap.size) (hL : CmL wb a n xs) (hwb : Below wb.heap.size wb w0) (hn : n ≤ 1048576) (hall : xs.all (cmB cc) = true)
    (c1 : w0.cell? ⟨Bl, 0, none⟩ = some (.slice a n c)) :
    SeqStopsK Fence.wide 4 Try.prog 87 #[.pointer (some ⟨Bl, 0, none⟩)] (fun x : Cs cc => #[.agg #[.int .i64 x.1.1, .int .i64 x.1.2.1, .int .i64 x.1.2.2]]) (KpM wb.heap.size 67 bm) (fun ys => ys.map Subtype.val = bothL xs) (fun _ => True) (2 * n) w0 := fun l J Jx W hW hJ hJx hY h0 => by
  have hlt1 := World.block_lt_of_cell? w0 _ c1
  dsimp only at hlt1
  have d1 := (hW.cell (p := ⟨Bl, 0, none⟩) hlt1).trans c1
  have HL := Lib.hid hL.1
  have HB := Lib.hid hall
  clear hall
  refine callsIn_of_wp Try.func87 rfl trivial ?_ rfl
  simp only [Try.ntmps87, List.size_toArray, List.length_cons, List.length_nil, Nat.reduceAdd, Nat.reduceSub, Array.replicate_succ, Array.replicate_zero, List.push_toArray, List.append_toArray, List.nil_append, List.cons_append]
  gi_wp2
  gi_loopw [7] (fun i wr => ∃ (k : Nat) (L : List (Cs cc)), k ≤ n ∧ i = .int .i64 k ∧ L.map Subtype.val = bothL (xs.take k) ∧ J L wr ∧ Below wb.heap.size wb wr ∧ RowsIn' wr bm ∧ bm < wr.heap.size) (fun i _ => n - (intOf i).toNat)
  case atStart => exact ⟨0, [], Nat.zero_le _, rfl, rfl, h0, belowCall hwb hW, (rowsIn_none hm0 hbm hW), Nat.lt_of_lt_of_le hbm hW.size⟩
  case round =>
    obtain ⟨k, L, hk, rfl, hL', hJs, hB, hWF, hbw⟩ := hrel
    have hle := bothL_upto HL.out hk
    have hsz := hB.size
    by_cases hlt : k < n
    · obtain ⟨b1, o1, rfl, hc⟩ := hL.2 k hlt
      obtain ⟨⟨x0, x1, x2⟩, hx⟩ : ∃ x, xs[k]?.getD cm0 = x := ⟨_, rfl⟩
      rw [hx] at hc
      obtain ⟨p, p0, p1, p2⟩ := (hc.mono hB).parts
      have hcm := cm_all HB.out HL.out hlt
      rw [hx] at hcm
      obtain ⟨-, -, -, -, -, hd1, hd2⟩ := cm_bd hcm
      have HS := Lib.hid (bothL_step (by rw [HL.out]; exact hlt) hx)
      have HL' := Lib.hid hL'
      have hkk : (k : Int) < (n : Int) := by omega
      have hlen1 : L.length < 2 * n := by have := congrArg List.length hL'; rw [List.length_map] at this; omega
      have hlen2 : (L ++ [(⟨(x0, x1, x2), hcm⟩ : Cs cc)]).length < 2 * n := by have := congrArg List.length hL'; rw [List.length_map] at this; simp; omega
      clear hx hc hL'
      have B1 : Below wr.heap.size wr (wr.alloc (.cells #[.int .i64 x0, .int .i64 x1, .int .i64 x2] 67)) := (Below.refl _ wr).alloc (Nat.le_refl _) _
      have hJ1 := abides_below5 hJ hJs B1
      obtain ⟨fn, tmps, assign, body, hy, hR⟩ := hY _ ⟨(x0, x1, x2), hcm⟩ _ hJ1 hlen1
      dsimp only at hy
      have hq := World.alloc_heap_new wr (.cells #[.int .i64 x0, .int .i64 x1, .int .i64 x2] 67)
      have hcq := CmC.fresh wr 67 x0 x1 x2
      gi_wp2
      refine hR.mono ?_
      rintro e W4 (⟨rfl, hJ4, hk4⟩ | ⟨rfl, hJx4⟩)
      · obtain ⟨q, q0, q1, q2⟩ := (hk4.cm hq (hWF.fresh hbw _) hcq).parts
        have hWF4 := hk4.2.1 (hWF.alloc hbw _)
        have hbw4 : bm < W4.heap.size := Nat.lt_of_lt_of_le (Nat.lt_of_lt_of_le hbw B1.size) hk4.1.size
        clear hy hR
        gi_wp2_with ((try refine ⟨trivial, ?_⟩); gi_at_call 88; refine (callsIn_wide.2 (turned_any _ _ _ _ hd1 hd2)).mono ?_; rintro e w5 ⟨rfl, hb5⟩; have hJ5 := abides_below5 hJ hJ4 hb5; obtain ⟨fn2, tmps2, assign2, body2, hy2, hR2⟩ := hY _ ⟨turnC (x0, x1, x2), cmB_turn hcm⟩ w5 hJ5 hlen2; dsimp only [turnC] at hy2)
        refine hR2.mono ?_
        rintro e W6 (⟨rfl, hJ6, hk6⟩ | ⟨rfl, hJx6⟩)
        · gi_wp2
          go_roundw
          case rel => exact ⟨k + 1, _, by omega, by go_num, by rw [HS.out, ← HL'.out]; simp, hJ6, (((belowCall hB B1).trans hk4.1).trans (hb5.mono (by have := hk4.1.size; have := B1.size; omega))).trans hk6.1, hk6.2.1 (hWF4.below hbw4 hb5), Nat.lt_of_lt_of_le (Nat.lt_of_lt_of_le hbw4 hb5.size) hk6.1.size⟩
          case measure => simp [intOf]; omega
        · gi_wp2
          refine bodyPost_ret (results_none rfl _ _ _) rfl ?_
          exact ⟨⟨_, rfl⟩, .inr ⟨_, trivial, hJx6⟩⟩
      · gi_wp2_with (first | refine ⟨trivial, ?_⟩ | refine ⟨(by intro f h; simp only [reduceCtorEq] at h), ?_⟩)
        refine bodyPost_ret (results_none rfl _ _ _) rfl ?_
        exact ⟨⟨_, rfl⟩, .inr ⟨_, trivial, hJx4⟩⟩
    · obtain rfl : k = n := by omega
      have htk : xs.take k = xs := List.take_of_length_le (by rw [HL.out]; exact Nat.le_refl _)
      rw [htk] at hL'
      have HL' := Lib.hid hL'
      clear htk hL'
      gi_wp2
      go_end0
      exact ⟨⟨_, rfl⟩, .inl ⟨_, HL'.out, hJs⟩⟩
end Go.Proofs.Ytfnjndbnogeddaa
