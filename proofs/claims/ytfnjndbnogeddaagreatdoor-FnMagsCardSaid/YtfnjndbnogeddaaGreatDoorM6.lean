/- The program's MedianMag: medianOf by sort.Slice. -/
import Derived.Test.YtfnjndbnogeddaaGreatDoorM5
import Derived.StillTailTactics
namespace Go.Proofs.YtfnjndbnogeddaaGreatDoor
open Go.ChangeShapes Go.WideShapes Go.ChangeAt Go.RowKit
open Go.Sort (grow putRow Holds ltInt PermIn SortedIn swo_ltInt)

/-- what the sort leaves: the same slice with rising numbers, the boxed slice as it was, nothing older turned -/
def Sorted (B g n c Bs : Nat) (xs : List Int) (w0 w' : World) : Prop := ∃ ys, ys.length = n ∧ Rising ys ∧ ys.Perm xs ∧ w'.ownsRow B 2 1 (.slice (some ⟨g, 0, none⟩) n c) n (ys.map (Value.int .i64)) ∧ w'.cell? ⟨Bs, 0, none⟩ = some (.slice (some ⟨g, 0, none⟩) n c) ∧ Below B w0 w'
set_option maxHeartbeats 2000000 in
theorem sort_any (g n c Bs B : Nat) (xs : List Int) (w0 w : World) (hB : Below B w0 w) (hbs : B ≤ w.heap.size) (hown : w.ownsRow B 2 1 (.slice (some ⟨g, 0, none⟩) n c) n (xs.map (Value.int .i64))) (hne : Bs ≠ g) (hlt : Bs < w.heap.size) (hbox : w.cell? ⟨Bs, 0, none⟩ = some (.slice (some ⟨g, 0, none⟩) n c)) (h2 : 2 ≤ n) (hn : n ≤ 1048576) :
    Calls Tryz.prog 78 #[.iface 34 (.slice (some ⟨g, 0, none⟩) n c), .func (.func 79) #[] #[.pointer (some ⟨Bs, 0, none⟩)]] w fun e w' => e = .returned (.tuple #[]) ∧ Sorted B g n c Bs xs w0 w' := by
  have hxl : xs.length = n := by have := hown.1; simpa using this
  have hsz : xs.toArray.size = n := by simpa using hxl
  have hg := (hown.lt g rfl).2
  have hgB := (hown.lt g rfl).1
  have hH : Holds (Value.int .i64) w g 0 xs.toArray := fun j hj => by
    have hj' : j < n := by omega
    refine ⟨?_, by rw [Nat.zero_add]; exact hown.frozenAt j⟩
    rw [Nat.zero_add, hown.cellAt j (by omega), List.getElem?_map, List.getElem?_eq_getElem (by omega), getElem!_pos xs.toArray j hj]
    simp
  have hless : Go.Proofs.LessReads Tryz.prog 79 #[.pointer (some ⟨Bs, 0, none⟩)] (Value.int .i64) ltInt g 0 xs.toArray.size w := by
    intro m os dk hs i j hi hj
    have e : Go.Proofs.sortWorld (Value.int .i64) w g 0 m dk os = putRow (Value.int .i64) (grow (Go.Sort.ahead w m) os) g 0 dk := by
      unfold Go.Proofs.sortWorld; rw [Go.Sort.putRow_grow _ (Go.Sort.ahead w m) _ g 0 _ hg]
    have hHg : Holds (Value.int .i64) (grow (Go.Sort.ahead w m) os) g 0 xs.toArray := Go.Sort.holds_grow _ _ _ g 0 xs.toArray hg (Go.Sort.holds_ahead _ _ _ _ _ _ hH)
    rw [hsz] at hi hj
    refine less_any g 0 c Bs n _ (fun t => dk[t]!) ?_ (fun t ht => ?_) i j hi hj
    · rw [e, Go.Sort.cell?_putRow_other _ _ g 0 dk _ (Or.inl hne), Go.Sort.cell?_grow _ _ _ hlt]
      exact hbox
    · rw [e]; exact Go.Sort.cell?_putRow _ _ g 0 xs.toArray dk hHg hs t (by omega)
  have hS := Go.Proofs.Any.sort_Slice_sorted Tryz.sa6 34 2 siT siE (by kernel_rfl) (by kernel_rfl) (by kernel_rfl) (by kernel_rfl) 6 (fun _ => by kernel_rfl) (by kernel_rfl) (fun _ => by kernel_rfl) (Value.int .i64) (fun _ => rfl) ltInt swo_ltInt 79 _
    (Go.Proofs.enters_of Tryz.func79 (by kernel_rfl) rfl) g 0 c xs.toArray (by omega) (by omega) 132 (by rw [siK _ (by omega)]; kernel_rfl) true
    (fun args W => run_callFunc_extern Tryz.func132 (by kernel_rfl) (by kernel_rfl) (by kernel_rfl) (e := Extern.ReflectliteSwapper.swap true) (by kernel_rfl) args W) _ hless hH hg
  change Calls Tryz.prog 78 _ _ _ at hS
  rw [hsz] at hS
  refine hS.mono ?_
  rintro e w' ⟨rfl, d', q, os, hp, hso, rfl⟩
  obtain ⟨f1, f2, f3⟩ := ys_facts hxl hp hso
  refine ⟨rfl, d'.toList, f1, f3, f2, ?_, ?_, ?_⟩
  · rcases hown.2 with ⟨h0, _⟩ | ⟨g', cap, cur, hv, hb, hheap, hnc, hcm, hcs, _⟩
    · cases h0
    · cases hv
      have := Go.ownsRow_sortedI (n := q) (os := os) (ss := xs) (ts := d'.toList) (by rw [f1, hxl]) hb hheap (by omega) hcm hcs
      rw [hxl] at this
      simpa using this
  · rw [Go.Sort.cell?_grow _ _ _ (by simpa using hlt), Go.Sort.cell?_putRow_other _ _ g 0 d' _ (Or.inl hne)]
    exact hbox
  · exact hB.grown (Go.grownBy_sortedI d') hbs (fun k hk => by cases hk; exact hgB)
end Go.Proofs.YtfnjndbnogeddaaGreatDoor
