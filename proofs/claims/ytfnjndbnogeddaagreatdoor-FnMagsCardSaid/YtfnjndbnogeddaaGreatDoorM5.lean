/- The program's median: slices.Clone, sort.Slice with its closure, medianOf, MedianMag. -/
import Derived.Test.YtfnjndbnogeddaaGreatDoorM4
import Derived.Test.YtfnjndbnogeddaaGreatDoorGg
import Derived.Shelf.GgSortFunc.Whole
import Derived.Shelf.GgSortFunc.Tiny
import Derived.Lib.RowBridge
import Derived.Lib.SortBridge
import Derived.Lib.OwnBridge
import Derived.Sort.LotA
import Derived.Sort.OwnSortedInts
import Derived.Lib.SliceRun
namespace Go.Proofs.YtfnjndbnogeddaaGreatDoor
open Go.ChangeShapes Go.WideShapes Go.ChangeAt Go.RowKit
open Go.Sort (grow putRow Holds ltInt PermIn SortedIn swo_ltInt)

set_option maxRecDepth 100000 in
set_option maxHeartbeats 1000000 in
theorem clone_any (g o n c : Nat) (xs : List Int) (w : World) (h : Lst w (some ⟨g, o, none⟩) n xs) (hn : n ≤ 1048576) :
    Calls Tryz.prog 77 #[.slice (some ⟨g, o, none⟩) n c] w fun e w' => ∃ g' c', e = .returned (.slice (some ⟨g', 0, none⟩) n c') ∧ w'.ownsRow w.heap.size 2 1 (.slice (some ⟨g', 0, none⟩) n c') n (xs.map (Value.int .i64)) ∧ Below w.heap.size w w' := by
  obtain ⟨i0, hi, hz0, hz1, hz2⟩ := info_parts A_info
  have hB0 : Below w.heap.size w (w.alloc (.cells #[] 2)) := (Below.refl _ _).alloc (Nat.le_refl _) _
  have h1 := h.mono hB0
  have hl := h.1
  have hq : ∀ (w : World) (a : Option Addr) (n c n' c' : Nat), (binOp .eql 34 (.slice a n c) (.slice none n' c')).run Tryz.prog w = .ok (.bool a.isNone) w := fun w a n c n' c' => Lib.run_eql_slice_nil w _ _ a n c n' c' Tryz.underlying34
  go_enter Tryz.func77, Tryz.ntmps77
  go_wp2_with (at_builtin; refine wpList_append_own _ rfl _ _ 34 rfl w.heap.size 2 i0 (.int .i64 0) 1 8 Tryz.underlying34 hi hz0 hz1 hz2 rfl (by decide) _ 0 [] rfl ?c0 ⟨g, o, none⟩ n c (xs.map (Value.int .i64)) rfl ?cl ?c1 ?c2 ?c3 ?c4 ?c5 ?_)
  case c0 => exact World.ownsRow_lit w #[] 0 (Nat.le_refl _) (by unfold maxLen; omega) rfl
  case cl => simp [hl]
  case c1 =>
    intro j u hj
    have hjn : j < n := by
      have := (List.getElem?_eq_some_iff.1 hj).1
      simpa [hl] using this
    obtain ⟨b, off, e, _, hc⟩ := h1.2 j hjn
    injection e with e
    injection e with e1 e2
    subst e1 e2
    rw [Go.WideShapes.add_plain, hc, ← hj, List.getElem?_map, List.getElem?_eq_getElem (by omega)]
    rfl
  case c2 => intro u hu; obtain ⟨b, _, rfl⟩ := List.mem_map.1 hu; rfl
  case c3 => unfold maxLen; omega
  case c4 => omega
  case c5 => simp
  intro v' wb hownb hgb hnil
  have hBb : Below w.heap.size w wb := hB0.grown hgb (by simp) (fun k hk => by simp [Value.ownBlock] at hk; omega)
  rcases hownb.2 with ⟨hv, _⟩ | ⟨g', c', cur, hv', _⟩
  · exact absurd hv hnil
  · subst hv'
    clear hnil hgb
    go_wp2
    go_ret
    exact ⟨g', c', rfl, hownb, hBb⟩
theorem less_any (blk off c Bs size : Nat) (W : World) (G : Nat → Int) (hs : W.cell? ⟨Bs, 0, none⟩ = some (.slice (some ⟨blk, off, none⟩) size c))
    (hc : ∀ t, t < size → W.cell? ⟨blk, off + t, none⟩ = some (.int .i64 (G t))) (i j : Nat) (hi : i < size) (hj : j < size) :
    Calls Tryz.prog 79 #[.int .i64 i, .int .i64 j, .pointer (some ⟨Bs, 0, none⟩)] W fun e w' => e = .returned (.bool (decide (G i < G j))) ∧ ∃ q, w' = W.drewN q := by
  have ci := hc i hi
  have cj := hc j hj
  have hii : (i : Int) < (size : Int) := by omega
  have hjj : (j : Int) < (size : Int) := by omega
  go_enter Tryz.func79, Tryz.ntmps79
  go_wp2
  go_big_quiet (fail)
  go_wp2
  go_ret
  exact ⟨rfl, nq, rfl⟩
noncomputable def siT : TypeInfo := (Tryz.prog.info? 34).get (by kernel_rfl)
noncomputable def siE : TypeInfo := (Tryz.prog.info? 2).get (by kernel_rfl)
theorem siK (n : Nat) (h2 : 2 ≤ n) : Lib.swapperK n siE 6 = 5 := by
  have a : siE.hasPointers = false := by kernel_rfl
  have b : siE.bytes = 8 := by kernel_rfl
  have c : (n == 0) = false := by simp; omega
  have d : (n == 1) = false := by simp; omega
  simp [Lib.swapperK, a, b, c, d]
theorem ys_facts {xs : List Int} {n : Nat} {d' : Array Int} (hn : xs.length = n) (hp : PermIn 0 n xs.toArray d') (hs : SortedIn ltInt 0 n d') : d'.toList.length = n ∧ d'.toList.Perm xs ∧ Rising d'.toList := by
  have hsz : d'.size = n := by rw [hp.1]; simpa using hn
  refine ⟨by simpa using hsz, ?_, ?_⟩
  · have h := hp.2.2
    have e1 : d'.extract 0 n = d' := by rw [← hsz]; exact Array.extract_size
    have e2 : xs.toArray.extract 0 n = xs.toArray := by
      have h3 : xs.toArray.size = n := by simpa using hn
      rw [← h3]; exact Array.extract_size
    rw [e1, e2] at h
    simpa using h
  · unfold Rising
    rw [List.pairwise_iff_getElem]
    intro i j hi hj hij
    have hi' : i < d'.size := by simpa using hi
    have hj' : j < d'.size := by simpa using hj
    have h := hs i j (Nat.zero_le _) hij (by omega)
    simp only [ltInt, decide_eq_false_iff_not] at h
    rw [getElem!_pos d' i hi', getElem!_pos d' j hj'] at h
    simp only [Array.getElem_toList]
    omega
end Go.Proofs.YtfnjndbnogeddaaGreatDoor
