/- starsThat over the test of VisibleAt: the iterator's contract. -/
import Derived.Test.YtfnjndbnogeddaaGreatDoorI1
import Derived.Test.YtfnjndbnogeddaaGreatDoorS7
import Derived.Test.YtfnjndbnogeddaaGreatDoorSE
import Derived.Stop.RegionWithIn
namespace Go.Proofs.YtfnjndbnogeddaaGreatDoor
open Go.ChangeShapes Go.WideShapes Go.ChangeAt Go.RowKit Go.Shelf
attribute [local go_sem] Oper.semAt_some

theorem grown_of_below {w w' : World} (h : Below w.heap.size w w') : w.grownBy w' none := ⟨h.os, h.tape, h.output, h.size, fun i hi _ => h.block i hi⟩
theorem abides_below {β : Type} {B : Nat} {J : β → World → Prop} (h : AbidesFrom B J) {s : β} {w w' : World} (hs : J s w) (hb : Below w.heap.size w w') : J s w' :=
  h s w w' none hs (grown_of_below hb) (fun r e => by cases e)
set_option maxHeartbeats 2000000 in
theorem vis1_any (Bm : Nat) (m : Int) (nm : ByteArray) (a d u v : Int) (w : World) (hm : w.cell? ⟨Bm, 0, none⟩ = some (.int .i64 m)) :
    Calls Tryz.prog 38 #[.agg #[.string nm, .int .i64 a, .int .i64 d, .int .i64 u, .int .i64 v], .pointer (some ⟨Bm, 0, none⟩)] w fun e w' => e = .returned (.bool (visP m (nm, a, d, u, v))) ∧ Below w.heap.size w w' := by
  have hlt := World.block_lt_of_cell? w _ hm
  go_enter Tryz.func38, Tryz.ntmps38
  go_wp2_with (go_at_call 39; refine (inRange_any _ _ _ _).mono ?_; rintro e w' ⟨rfl, rfl⟩)
  go_ret
  exact ⟨rfl, by (repeat (first | assumption | exact Below.refl _ _ | refine belowDN ?_ _ | refine Below.drew ?_ | refine Below.setCell ?_ (by first | omega | (simp <;> omega)) _ | refine Below.alloc ?_ (by first | omega | (simp <;> omega)) _ | refine belowCall ?_ (by assumption)))⟩
set_option maxRecDepth 100000 in
set_option maxHeartbeats 4000000 in
theorem stars1_vis (Bl Bh Bm : Nat) (a : Option Addr) (n c : Nat) (xs : List St) (m : Int) (w0 : World) (hL : StL w0 a n xs) (hn : n ≤ 1048576)
    (c1 : w0.cell? ⟨Bl, 0, none⟩ = some (.slice a n c)) (c2 : w0.cell? ⟨Bh, 0, none⟩ = some (.func (.func 38) #[] #[.pointer (some ⟨Bm, 0, none⟩)])) (c3 : w0.cell? ⟨Bm, 0, none⟩ = some (.int .i64 m)) :
    SeqStopsK Fence.wide 4 Tryz.prog 69 #[.pointer (some ⟨Bl, 0, none⟩), .pointer (some ⟨Bh, 0, none⟩)] (fun x : Int => #[.int .i64 x]) (Below w0.heap.size) (fun ys => ys = selL (visP m) xs n) (fun _ => True) n w0 := fun l J Jx W hW hJ hJx hY h0 => by
  have hlt1 := World.block_lt_of_cell? w0 _ c1
  have hlt2 := World.block_lt_of_cell? w0 _ c2
  have hlt3 := World.block_lt_of_cell? w0 _ c3
  dsimp only at hlt1 hlt2 hlt3
  have d1 := (hW.cell (p := ⟨Bl, 0, none⟩) hlt1).trans c1
  refine callsIn_of_wp Tryz.func69 rfl trivial ?_ rfl
  simp only [Tryz.ntmps69, List.size_toArray, List.length_cons, List.length_nil, Nat.reduceAdd, Nat.reduceSub, Array.replicate_succ, Array.replicate_zero, List.push_toArray, List.append_toArray, List.nil_append, List.cons_append]
  gi_wp2
  gi_loopw [8] (fun i wr => ∃ k : Nat, k ≤ n ∧ i = .int .i64 k ∧ J (selL (visP m) xs k) wr ∧ Below w0.heap.size w0 wr) (fun i _ => n - (intOf i).toNat)
  case atStart => exact ⟨0, Nat.zero_le _, rfl, h0, hW⟩
  case round =>
    obtain ⟨k, hk, rfl, hJs, hB⟩ := hrel
    have hle := selL_len (visP m) xs k
    have hsz := hB.size
    by_cases hlt : k < n
    · obtain ⟨b1, o1, rfl, hc⟩ := hL.2 k hlt
      obtain ⟨⟨nm, x1, x2, x3, x4⟩, hx⟩ : ∃ x, xs[k]?.getD st0 = x := ⟨_, rfl⟩
      rw [hx] at hc
      obtain ⟨p, p0, p1, p2, p3, p4⟩ := (hc.mono hB).parts
      have hp := hc.1
      have HX := Lib.hid hx
      clear hx hc
      have d2 := (hB.cell (p := ⟨Bh, 0, none⟩) hlt2).trans c2
      have d3 := (hB.cell (p := ⟨Bm, 0, none⟩) hlt3).trans c3
      have hkk : (k : Int) < (n : Int) := by omega
      have hBh : Bh < wr.heap.size := by omega
      have hBm : Bm < wr.heap.size := by omega
      have hBx : b1 ≠ wr.heap.size := by omega
      have hm2 : (wr.alloc (.cells #[.string nm, .int .i64 x1, .int .i64 x2, .int .i64 x3, .int .i64 x4] 27)).cell? ⟨Bm, 0, none⟩ = some (.int .i64 m) := by go_keep
      have B1 : Below wr.heap.size wr (wr.alloc (.cells #[.string nm, .int .i64 x1, .int .i64 x2, .int .i64 x3, .int .i64 x4] 27)) := (Below.refl _ wr).alloc (Nat.le_refl _) _
      cases hv : visP m (nm, x1, x2, x3, x4)
      · have HS := Lib.hid (selL_no (p := visP m) HX.out hv)
        gi_wp2_with (first | (refine ⟨trivial, ?_⟩; gi_at_call 38; refine (callsIn_wide.2 (vis1_any Bm m _ _ _ _ _ _ hm2)).mono ?_; rintro e w3 ⟨rfl, hb3⟩; rw [hv]; have hb4 := belowCall B1 hb3; have hJ3 : J _ w3 := abides_below hJ hJs hb4; obtain ⟨fn, tmps, assign, body, hy, hR⟩ := hY _ (k : Int) w3 hJ3 (by omega)) | (refine ⟨(by intro f h; simp only [reduceCtorEq] at h), ?_⟩))
        go_roundw
        case rel => exact ⟨k + 1, by omega, by go_num, by rw [HS.out]; exact hJ3, belowCall hB hb4⟩
        case measure => simp [intOf]; omega
      · have HS := Lib.hid (selL_yes (p := visP m) HX.out hv)
        gi_wp2_with (first | (refine ⟨trivial, ?_⟩; gi_at_call 38; refine (callsIn_wide.2 (vis1_any Bm m _ _ _ _ _ _ hm2)).mono ?_; rintro e w3 ⟨rfl, hb3⟩; rw [hv]; have hb4 := belowCall B1 hb3; have hJ3 : J _ w3 := abides_below hJ hJs hb4; obtain ⟨fn, tmps, assign, body, hy, hR⟩ := hY _ (k : Int) w3 hJ3 (by omega)))
        refine hR.mono ?_
        rintro e W3 (⟨rfl, hJ4, hk4⟩ | ⟨rfl, hJx4⟩)
        · gi_wp2
          go_roundw
          case rel => exact ⟨k + 1, by omega, by go_num, by rw [HS.out]; exact hJ4, (belowCall hB hb4).trans hk4⟩
          case measure => simp [intOf]; omega
        · gi_wp2
          refine bodyPost_ret (results_none rfl _ _ _) rfl ?_
          exact ⟨⟨_, rfl⟩, .inr ⟨_, trivial, hJx4⟩⟩
    · obtain rfl : k = n := by omega
      gi_wp2
      go_end0
      exact ⟨⟨_, rfl⟩, .inl ⟨_, rfl, hJs⟩⟩
set_option maxHeartbeats 1000000 in
theorem starsThat_any (a : Option Addr) (n c : Nat) (fv : Fn) (b1 b2 : Array Value) (w : World) :
    Calls Tryz.prog 40 #[.slice a n c, .func fv b1 b2] w fun e w' => e = .returned (.func (.func 69) #[] #[.pointer (some ⟨w.heap.size, 0, none⟩), .pointer (some ⟨w.heap.size + 1, 0, none⟩)]) ∧
      Below w.heap.size w w' ∧ w'.cell? ⟨w.heap.size, 0, none⟩ = some (.slice a n c) ∧ w'.cell? ⟨w.heap.size + 1, 0, none⟩ = some (.func fv b1 b2) := by
  go_enter Tryz.func40, Tryz.ntmps40
  go_wp2
  go_ret
  exact ⟨rfl, by (repeat (first | assumption | exact Below.refl _ _ | refine belowDN ?_ _ | refine Below.drew ?_ | refine Below.setCell ?_ (by first | omega | (simp <;> omega)) _ | refine Below.alloc ?_ (by first | omega | (simp <;> omega)) _ | refine belowCall ?_ (by assumption))), by go_keep, by go_keep⟩
end Go.Proofs.YtfnjndbnogeddaaGreatDoor
