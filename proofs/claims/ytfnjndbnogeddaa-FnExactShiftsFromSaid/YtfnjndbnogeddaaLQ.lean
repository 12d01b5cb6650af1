/- The sorted keys of a map of numbers: maps.Keys, slices.Sorted. -/
import Derived.Test.YtfnjndbnogeddaaLO
import Derived.Shelf.SlIterI.Sorted
import Derived.Shelf.SortM.Plain
import Derived.Shelf.SortM.SortNone
import Derived.Ground.GgzProg
import Derived.Ground.SlgmProg
namespace Go.Proofs.Ytfnjndbnogeddaa
open Go.ChangeShapes Go.WideShapes Go.ChangeAt Go.RowKit Go.Deep Go.Maps Go.Shelf Go.Sort

theorem mem_keysD {H : Type} {b nn : Nat} {D0 : DataW H} {R : Value → Option (DataW H × List MemPlace)} {W : World} (hown : W.ownsMap Try.prog 2 R b nn D0) (x : Int) : x ∈ intKeys D0 ↔ Maps.has D0 (.int .i64 x) = true := by
  obtain ⟨es, hD, hko⟩ := hown.keysOf
  have hk : ∀ p ∈ es, ∃ x, p.1 = .int .i64 x := fun p hp => by
    obtain ⟨v, hv⟩ := hko p hp
    obtain ⟨y, _, hy, _⟩ := Maps.keyOf_i64 Try.underlying2 hv
    exact ⟨y, hy⟩
  subst hD
  rw [has_eq, List.any_eq_true]
  show x ∈ es.map (fun p => Go.intOf p.1) ↔ _
  rw [List.mem_map]
  constructor
  · rintro ⟨p, hp, rfl⟩
    obtain ⟨a, ha⟩ := hk p hp
    exact ⟨p, hp, by rw [ha]; simp [Lit.sameKey, Go.intOf]⟩
  · rintro ⟨p, hp', hs⟩
    obtain ⟨a, ha⟩ := hk p hp'
    rw [ha] at hs
    exact ⟨p, hp', by rw [ha]; simpa [Lit.sameKey, Go.intOf] using hs⟩
shelf_lay_g SlLaysZI.n7 Ggz 7 at Try 69 as Try.keysO
shelf_lay_g SlLaysZI.n6 Ggz 6 at Try 42 as Try.sortedO
shelf_lay_g SlLaysM.n5 Slgm 5 at Try 66 as Try.sortO
theorem sortsO (m : Nat) : AnyZI.SortsIn Try.prog Try.sortedO_ren Fence.wide m :=
  ⟨fun blk off cap ss W hH hblk hsz => callsIn_wide.2 (AnyM.slices_Sort_int Try.sortO blk off cap ss W hH hblk hsz),
   fun p cap W => callsIn_wide.2 (AnyM.slices_Sort_int_none Try.sortO p cap W)⟩
theorem keysO_any (b : Nat) (W : World) :
    Calls Try.prog 69 #[.map (some b)] W fun e w' => e = .returned (.func (.func 89) #[] #[.pointer (some ⟨W.heap.size, 0, none⟩)]) ∧ w' = W.alloc (.cells #[.map (some b)] 97) :=
  callsIn_wide.1 (AnyZI.keys_in Try.keysO Fence.wide 5 trivial rfl (some b) W)
/-- slices.Sorted over the keys of the map in the box Bm -/
theorem sortedO_any {H : Type} (Bm b nn : Nat) (D0 : DataW H) (R : Value → Option (DataW H × List MemPlace)) (W : World) (hc : W.cell? ⟨Bm, 0, none⟩ = some (.map (some b))) (hown : W.ownsMap Try.prog 2 R b nn D0) (hs : Maps.size D0 ≤ 1048576) :
    Calls Try.prog 42 #[.func (.func 89) #[] #[.pointer (some ⟨Bm, 0, none⟩)]] W fun e w' => ∃ (v : Value) (ss : List Int), e = .returned v ∧ ss.Perm (intKeys D0) ∧
      w'.ownsRow W.heap.size 2 1 v ss.length ((ss.mergeSort (fun x y => decide (x ≤ y))).map encZ) ∧ (v = .slice none 0 0 ↔ ss = []) ∧ Below W.heap.size W w' := by
  have hseq : SeqGives Fence.wide 2 Try.prog 89 #[.pointer (some ⟨Bm, 0, none⟩)] encZ (fun ss => ss.Perm (intKeys D0)) (Maps.size D0) W :=
    AnyZI.keys_gives (ρ := Try.keysO_ren) { Try.keysO with } Fence.wide _ trivial rfl (by omega) Bm b nn D0 _ (World.block_lt_of_cell? W _ hc) hc hown
  have cS := AnyZI.sorted_in Try.sortedO Fence.wide 5 trivial trivial trivial trivial rfl (by omega) (sortsO _) (enters_of Try.func66 (by kernel_rfl) rfl) 89 #[.pointer (some ⟨Bm, 0, none⟩)] trivial (enters_of Try.func89 (by kernel_rfl) rfl) _ (Maps.size D0) (by unfold maxLen; omega) (by omega) _ hseq
  exact callsIn_wide.1 cS
shelf_lay_g SlLaysZI.n7 Ggz 7 at Try 43 as Try.keysP
theorem keysP_any (b : Nat) (W : World) :
    Calls Try.prog 43 #[.map (some b)] W fun e w' => e = .returned (.func (.func 67) #[] #[.pointer (some ⟨W.heap.size, 0, none⟩)]) ∧ w' = W.alloc (.cells #[.map (some b)] 74) :=
  callsIn_wide.1 (AnyZI.keys_in Try.keysP Fence.wide 5 trivial rfl (some b) W)
theorem sortedP_any {H : Type} (Bm b nn : Nat) (D0 : DataW H) (R : Value → Option (DataW H × List MemPlace)) (W : World) (hc : W.cell? ⟨Bm, 0, none⟩ = some (.map (some b))) (hown : W.ownsMap Try.prog 2 R b nn D0) (hs : Maps.size D0 ≤ 1048576) :
    Calls Try.prog 42 #[.func (.func 67) #[] #[.pointer (some ⟨Bm, 0, none⟩)]] W fun e w' => ∃ (v : Value) (ss : List Int), e = .returned v ∧ ss.Perm (intKeys D0) ∧
      w'.ownsRow W.heap.size 2 1 v ss.length ((ss.mergeSort (fun x y => decide (x ≤ y))).map encZ) ∧ (v = .slice none 0 0 ↔ ss = []) ∧ Below W.heap.size W w' := by
  have hseq : SeqGives Fence.wide 2 Try.prog 67 #[.pointer (some ⟨Bm, 0, none⟩)] encZ (fun ss => ss.Perm (intKeys D0)) (Maps.size D0) W :=
    AnyZI.keys_gives (ρ := Try.keysP_ren) { Try.keysP with } Fence.wide _ trivial rfl (by omega) Bm b nn D0 _ (World.block_lt_of_cell? W _ hc) hc hown
  have cS := AnyZI.sorted_in Try.sortedO Fence.wide 5 trivial trivial trivial trivial rfl (by omega) (sortsO _) (enters_of Try.func66 (by kernel_rfl) rfl) 67 #[.pointer (some ⟨Bm, 0, none⟩)] trivial (enters_of Try.func67 (by kernel_rfl) rfl) _ (Maps.size D0) (by unfold maxLen; omega) (by omega) _ hseq
  exact callsIn_wide.1 cS
end Go.Proofs.Ytfnjndbnogeddaa
