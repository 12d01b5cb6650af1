/- StarsIn, both sides. -/
import Derived.Test.YtichcfahmdlndabP2
import Derived.Test.YtichcfahmdlndabE5
import Derived.Shelf.SortM.Plain
import Derived.Shelf.SlicesE.Compact
import Derived.Shelf.SlGeneric
import Derived.Ground.SlgmProg
import Derived.Ground.SlgnProg
namespace Go.Proofs.Ytichcfahmdlndab
open Go.ChangeShapes Go.WideShapes Go.ChangeAt Go.RowKit Go.Deep Go.Shelf
open Go.Sort (grow putRow putCells Holds)

shelf_lay_g SlLaysM.n6 Slgm 6 at Try 42 as Try.sortStr
shelf_lay_g SlLaysE.n43 Slgn 43 at Try 43 as Try.cmpStr
theorem sortStr_any (g n c B : Nat) (ps : List ByteArray) (w : World) (hown : w.ownsRow B 9 1 (.slice (some ⟨g, 0, none⟩) n c) n (ps.map Value.string)) (hl : ps.length = n) (hn : n ≤ 1048576) :
    Calls Try.prog 42 #[.slice (some ⟨g, 0, none⟩) n c] w fun e w' => e = .returned (.tuple #[]) ∧ w'.ownsRow B 9 1 (.slice (some ⟨g, 0, none⟩) n c) n ((srtN ps).map Value.string) ∧ w.grownBy w' (some g) := by
  rcases hown.2 with ⟨h0, _⟩ | ⟨g', cap, cur, hv, hbase, hb, h1, h2, h3, h4⟩
  · cases h0
  cases hv
  have hsl : (ps.map (·.data.toList)).length = n := by simpa using hl
  have hH : Holds encStr w g 0 (ps.map (·.data.toList)).toArray := Go.holds_of_block hb (by rw [hsl, ← Go.Joins.strings_enc]; simpa using h4)
  have hcon := AnyM.slices_Sort_string Try.sortStr g 0 c (ps.map (·.data.toList)) w hH (Array.getElem?_eq_some_iff.1 hb).1 (by rw [hsl]; omega)
  change Calls Try.prog 42 _ _ _ at hcon
  rw [hsl] at hcon
  refine hcon.mono ?_
  rintro e w' ⟨rfl, q, os, rfl⟩
  have ho := Go.ownsRow_sorted (n := q) (os := os) (ss := ps.map (·.data.toList)) (ts := (ps.map (·.data.toList)).mergeSort fun x y => decide (x ≤ y)) (by simp) hbase hb (by rw [hsl]; exact h1) h2 h3
  rw [hsl] at ho
  exact ⟨rfl, by rw [srtN_enc]; exact ho, Go.grownBy_sorted _⟩
theorem eqD (P : Program) (T : TypeId) : EqlAt P T Value.string (fun x y => decide (x = y)) := by
  have h : (fun x y : ByteArray => decide (x = y)) = (fun x y : ByteArray => x.toList == y.toList) := by
    funext x y
    by_cases e : x = y
    · subst e; simp
    · rw [decide_eq_false e]; symm; simpa using fun h => e (ba_eq.1 h)
  rw [h]; exact EqlAt.string P T
theorem neD (P : Program) (T : TypeId) : NeqAt P T Value.string (fun x y => decide (x = y)) := by
  have h : (fun x y : ByteArray => decide (x = y)) = (fun x y : ByteArray => x.toList == y.toList) := by
    funext x y
    by_cases e : x = y
    · subst e; simp
    · rw [decide_eq_false e]; symm; simpa using fun h => e (ba_eq.1 h)
  rw [h]; exact NeqAt.string P T
theorem heap_put1 {w : World} {g n : Nat} {cur : Array Value} {e : TypeId} {fr : Nat × Nat} (d : Array ByteArray) (hb : w.heap[g]? = some (.cells cur e fr)) :
    (putRow Value.string (Go.Sort.ahead w n) g 0 d).heap[g]? = some (.cells (putCells Value.string 0 d cur) e fr) := by
  simp [putRow, Go.Sort.mapBlock, Go.Sort.ahead, Array.getElem?_modify, hb, Go.Sort.onCells]
theorem grown_put1 {w : World} {g n : Nat} (d : Array ByteArray) : w.grownBy (putRow Value.string (Go.Sort.ahead w n) g 0 d) (some g) := by
  refine ⟨rfl, rfl, rfl, by simp, fun k hk hne => ?_⟩
  have : g ≠ k := fun e => hne (by rw [e])
  simp [putRow, Go.Sort.mapBlock, Go.Sort.ahead, Array.getElem?_modify, this]
theorem take_put1 (cur : Array Value) (ts : List ByteArray) (h : ts.length ≤ cur.size) : (putCells Value.string 0 ts.toArray cur).toList.take ts.length = ts.map Value.string := by
  apply List.ext_getElem?
  intro j
  by_cases hj : j < ts.length
  · rw [List.getElem?_take_of_lt hj, Array.getElem?_toList]
    simp [putCells, hj, show j < cur.size by omega]
  · rw [List.getElem?_take_eq_none (by omega), List.getElem?_eq_none (by simp; omega)]
theorem cmpStr_any (g n c B : Nat) (ps : List ByteArray) (w : World) (hown : w.ownsRow B 9 1 (.slice (some ⟨g, 0, none⟩) n c) n (ps.map Value.string)) (hl : ps.length = n) (hn : n ≤ 1048576) :
    Calls Try.prog 43 #[.slice (some ⟨g, 0, none⟩) n c] w fun e w' => e = .returned (.slice (some ⟨g, 0, none⟩) (cpN ps).length c) ∧ w'.ownsRow B 9 1 (.slice (some ⟨g, 0, none⟩) (cpN ps).length c) (cpN ps).length ((cpN ps).map Value.string) ∧ w.grownBy w' (some g) := by
  rcases hown.2 with ⟨h0, _⟩ | ⟨g', cap, cur, hv, hbase, hb, h1, h2, h3, h4⟩
  · cases h0
  cases hv
  have hsz : ps.toArray.size = n := by simpa using hl
  have hH : Holds Value.string w g 0 ps.toArray := by
    intro j hj
    have hj' : j < ps.length := by simpa using hj
    have hc := hown.cells (g := g) rfl j (.string ps[j]) (by simp [hj'])
    rw [Go.WideShapes.add_plain] at hc
    refine ⟨?_, by rw [Nat.zero_add]; exact hown.frozenAt j⟩
    rw [hc, getI ps hj']
  have hcon := AnyE.slices_Compact Try.cmpStr Value.string (fun _ => rfl) (eqD _ _) (neD _ _) ⟨#[]⟩ (fun _ => by kernel_rfl) g 0 c ps.toArray w hH (by omega) (by omega)
  change Calls Try.prog 43 _ _ _ at hcon
  have e1 : (Lib.compactUpTo ps.toArray ps.toArray.size) = cpN ps := rfl
  rw [e1, hsz] at hcon
  have hcl := cpN_len ps
  refine hcon.mono ?_
  rintro e w' ⟨rfl, q, rfl⟩
  have hlen : (cpN ps ++ List.replicate (n - (cpN ps).length) (⟨#[]⟩ : ByteArray)).length = n := by simp; omega
  have ho : (putRow Value.string (Go.Sort.ahead w q) g 0 (cpN ps ++ List.replicate (n - (cpN ps).length) (⟨#[]⟩ : ByteArray)).toArray).ownsRow B 9 1 (.slice (some ⟨g, 0, none⟩) n c) n ((cpN ps ++ List.replicate (n - (cpN ps).length) (⟨#[]⟩ : ByteArray)).map Value.string) := by
    refine ⟨by rw [List.length_map, hlen, Nat.mul_one], .inr ⟨g, c, _, rfl, hbase, heap_put1 _ hb, h1, h2, by simp [putCells, h3], ?_⟩⟩
    have h9 := take_put1 cur (cpN ps ++ List.replicate (n - (cpN ps).length) (⟨#[]⟩ : ByteArray)) (by rw [hlen]; omega)
    rw [hlen] at h9
    rw [Nat.mul_one]
    exact h9
  have hc := own_cut ho (show (cpN ps).length ≤ n by omega)
  refine ⟨rfl, ?_, grown_put1 _⟩
  have e2 : ((cpN ps ++ List.replicate (n - (cpN ps).length) (⟨#[]⟩ : ByteArray)).map Value.string).take (cpN ps).length = (cpN ps).map Value.string := by
    rw [List.map_append, List.take_append_of_le_length (by simp), List.take_of_length_le (by simp)]
  rw [e2] at hc
  exact hc
set_option maxRecDepth 100000 in
set_option maxHeartbeats 2000000 in
theorem iStarsIn_any (a : Option Addr) (n c : Nat) (xs : List Es) (w : World) (h : EsL w a n xs) (hn : n ≤ 1048576) :
    Calls Try.prog 10 #[.slice a n c] w fun e w' => SsRes w.heap.size (siL xs) (.int .i64 (siC xs)) w' e ∧ Below w.heap.size w w' := by
  have HL := Lib.hid h.1
  have hl : (n : Int) ≤ 1048576 := by omega
  obtain ⟨i0, hi, hz0, hz1, hz2⟩ := info_parts S_info
  have hb : n ≤ maxLen := by unfold maxLen; omega
  cases hok : okE xs
  · have HC := Lib.hid (si_1 hok)
    go_enter Try.func10, Try.ntmps10
    go_wp2_with fail
    refine (iValidEs_any a n c xs w h hn).mono ?_
    rintro e w2 ⟨rfl, b2⟩
    rw [hok]
    go_wp2
    go_ret2
    exact ⟨by rw [HC.out.1, HC.out.2]; exact SsRes.nil _ _ _, b2⟩
  have HC := Lib.hid (si_0 hok)
  go_enter Try.func10, Try.ntmps10
  go_wp2_with fail
  refine (iValidEs_any a n c xs w h hn).mono ?_
  rintro e w2 ⟨rfl, b2⟩
  rw [hok]
  have h2 := h.mono b2
  have zz2 := b2.size
  go_wp2_with (at_make; refine wpList_make_full _ rfl _ _ 26 rfl w2.heap.size 9 i0 _ 1 Try.underlying26 hi hz0 hz1 .i64 .i64 n n n rfl rfl rfl rfl (by rw [hz2]; omega) hb (Nat.le_refl _) ?_; intro w3 hown hgrow)
  have hown3 : w3.ownsRow w2.heap.size 9 1 (.slice (some ⟨w2.heap.size, 0, none⟩) n n) n ((nmK xs 0 n).map Value.string) := by rw [← nmK_zero]; exact hown
  have hB3 : Below w2.heap.size w2 w3 := (Below.refl _ _).grown hgrow (Nat.le_refl _) (fun k hk => by cases hk)
  clear hown hgrow
  go_loopw [15] (fun i wr => ∃ k : Nat, k ≤ n ∧ i = .int .i64 k ∧ wr.ownsRow w2.heap.size 9 1 (.slice (some ⟨w2.heap.size, 0, none⟩) n n) n ((nmK xs k n).map Value.string) ∧ Below w2.heap.size w2 wr) (fun i _ => n - (Go.RowKit.intOf i).toNat)
  case atStart => exact ⟨0, Nat.zero_le _, rfl, hown3, hB3⟩
  case round =>
    obtain ⟨k, hk, rfl, hown, hB⟩ := hrel
    clear hown3 hB3
    have hzr := hB.size
    by_cases hlt : k < n
    · obtain ⟨b1, o1, rfl, hc⟩ := h2.2 k hlt
      obtain ⟨⟨x0, x1, x2, x3, x4⟩, hx⟩ : ∃ x, xs[k]?.getD es0 = x := ⟨_, rfl⟩
      rw [hx] at hc
      obtain ⟨p, p0, p1, p2, p3, p4⟩ := (hc.mono hB).parts
      have hkk : (k : Int) < (n : Int) := by omega
      have hk0 : (0 : Int) ≤ (k : Int) := by omega
      have hownA : (wr.alloc (.cells #[.int .i64 x0, .string x1, .string x2, .int .i64 x3, .bool x4] 32)).ownsRow w2.heap.size 9 1 (.slice (some ⟨w2.heap.size, 0, none⟩) n n) n ((nmK xs k n).map Value.string) := hown.alloc _
      have hat := nmK_at hlt HL.out
      have d1 : (wr.alloc (.cells #[.int .i64 x0, .string x1, .string x2, .int .i64 x3, .bool x4] 32)).cell? ⟨w2.heap.size, k, none⟩ = some (.string ⟨#[]⟩) := by rw [hownA.cellAt k (by omega), hat]
      have f1 := hownA.frozenAt k
      obtain ⟨hs1, hs3⟩ := hownA.stored k (.string x1)
      rw [nmK_set hlt HL.out hx] at hs1
      have HOWN := Lib.hid hs1
      have HG := Lib.hid hs3
      have hBA : Below w2.heap.size w2 (wr.alloc (.cells #[.int .i64 x0, .string x1, .string x2, .int .i64 x3, .bool x4] 32)) := by (repeat (first | assumption | exact Below.refl _ _ | refine belowDN ?_ _ | refine Below.drew ?_ | refine Below.setCell ?_ (by first | omega | (simp <;> omega)) _ | refine Below.alloc ?_ (by first | omega | (simp <;> omega)) _ | refine belowCall ?_ (by assumption)))
      clear hx hc hat hs1 hs3 hownA hown
      go_wp2
      go_roundw
      case rel => exact ⟨k + 1, by omega, by go_num, HOWN.out, hBA.grown HG.out hBA.size (fun j e => by cases e; exact Nat.le_refl _)⟩
      case measure => simp [Go.RowKit.intOf]; omega
    · obtain rfl : k = n := by omega
      rw [nmK_full HL.out] at hown
      have HCP := Lib.hid (stars_cp xs)
      have hln : (xs.map fun x => x.2.1).length = k := by rw [List.length_map, HL.out]
      go_wp2_with fail
      refine (sortStr_any _ _ _ _ (xs.map fun x => x.2.1) wr hown hln hn).mono ?_
      rintro e w4 ⟨rfl, hown4, hg4⟩
      have hB4 : Below w2.heap.size w2 w4 := hB.grown hg4 hB.size (fun j e => by cases e; exact Nat.le_refl _)
      go_wp2_with fail
      refine (cmpStr_any _ _ _ _ (srtN (xs.map fun x => x.2.1)) w4 hown4 (by rw [srtN_len, hln]) hn).mono ?_
      rintro e w5 ⟨rfl, hown5, hg5⟩
      rw [HCP.out] at hown5 ⊢
      have hB5 : Below w2.heap.size w2 w5 := hB4.grown hg5 hB4.size (fun j e => by cases e; exact Nat.le_refl _)
      have HOWN := Lib.hid (ownLow hown5 zz2)
      clear hown hown4 hown5 hg4 hg5
      go_wp2
      go_ret2
      exact ⟨by rw [HC.out.1, HC.out.2]; exact SsRes.own HOWN.out, b2.trans (hB5.mono zz2)⟩
end Go.Proofs.Ytichcfahmdlndab
