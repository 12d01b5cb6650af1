/- ByAmplitude: the keys of a map of numbers, collected; a star's range. -/
import Derived.Test.YtfnjndbnogeddaaGreatDoorA1
import Derived.Shelf.SlIterI.Collect
import Derived.Shelf.SlGeneric
import Derived.Ground.GgzProg
namespace Go.Proofs.YtfnjndbnogeddaaGreatDoor
open Go.ChangeShapes Go.WideShapes Go.ChangeAt Go.RowKit Go.Deep Go.Maps Go.Shelf

shelf_lay_g SlLaysZI.n7 Ggz 7 at Tryz 37 as Tryz.keysX
shelf_lay_g SlLaysZI.n8 Ggz 8 at Tryz 36 as Tryz.collX
theorem keys_any (b : Nat) (W : World) :
    Calls Tryz.prog 37 #[.map (some b)] W fun e w' => e = .returned (.func (.func 68) #[] #[.pointer (some ⟨W.heap.size, 0, none⟩)]) ∧ w' = W.alloc (.cells #[.map (some b)] 60) :=
  callsIn_wide.1 (AnyZI.keys_in Tryz.keysX Fence.wide 5 trivial rfl (some b) W)
theorem coll_any {H : Type} (Bm b nn : Nat) (D0 : DataW H) (R : Value → Option (DataW H × List MemPlace)) (W : World) (hc : W.cell? ⟨Bm, 0, none⟩ = some (.map (some b))) (hown : W.ownsMap Tryz.prog 2 R b nn D0) (hs : Maps.size D0 ≤ 1048576) :
    Calls Tryz.prog 36 #[.func (.func 68) #[] #[.pointer (some ⟨Bm, 0, none⟩)]] W fun e w' => ∃ (v : Value) (ss : List Int), e = .returned v ∧ ss.Perm (intKeys D0) ∧ w'.ownsRow W.heap.size 2 1 v ss.length (ss.map (Value.int .i64)) ∧ Below W.heap.size W w' := by
  have hseq : SeqGives Fence.wide 2 Tryz.prog 68 #[.pointer (some ⟨Bm, 0, none⟩)] encZ (fun ss => ss.Perm (intKeys D0)) (Maps.size D0) W :=
    AnyZI.keys_gives (ρ := Tryz.keysX_ren) { Tryz.keysX with } Fence.wide _ trivial rfl (by omega) Bm b nn D0 _ (World.block_lt_of_cell? W _ hc) hc hown
  refine (callsIn_wide.1 (AnyZI.collect_in Tryz.collX Fence.wide 4 trivial trivial rfl (by omega) 68 #[.pointer (some ⟨Bm, 0, none⟩)] trivial (enters_of Tryz.func68 (by kernel_rfl) rfl) _ (Maps.size D0) (by unfold maxLen; omega) (by omega) W hseq)).mono ?_
  rintro e w' ⟨v, ss, rfl, hS, hrow, _, hb⟩
  exact ⟨v, ss, rfl, hS, hrow, hb⟩
theorem mem_keys {H : Type} {b nn : Nat} {D0 : DataW H} {R : Value → Option (DataW H × List MemPlace)} {W : World} (hown : W.ownsMap Tryz.prog 2 R b nn D0) (x : Int) : x ∈ intKeys D0 ↔ Maps.has D0 (.int .i64 x) = true := by
  obtain ⟨es, hD, hko⟩ := hown.keysOf
  have hk : ∀ p ∈ es, ∃ x, p.1 = .int .i64 x := fun p hp => by
    obtain ⟨v, hv⟩ := hko p hp
    obtain ⟨y, _, hy, _⟩ := Maps.keyOf_i64 Tryz.underlying2 hv
    exact ⟨y, hy⟩
  subst hD
  rw [has_eq, List.any_eq_true]
  show x ∈ es.map (fun p => Go.intOf p.1) ↔ _
  rw [List.mem_map]
  constructor
  · rintro ⟨p, hp, rfl⟩
    obtain ⟨a, ha⟩ := hk p hp
    exact ⟨p, hp, by rw [ha]; simp [Lit.sameKey, Go.intOf]⟩
  · rintro ⟨p, hp', hs⟩
    obtain ⟨a, ha⟩ := hk p hp'
    rw [ha] at hs
    exact ⟨p, hp', by rw [ha]; simpa [Lit.sameKey, Go.intOf] using hs⟩
theorem amp_any (nm : ByteArray) (a d u v : Int) (w : World) (h : starB (nm, a, d, u, v) = true) :
    Calls Tryz.prog 34 #[.agg #[.string nm, .int .i64 a, .int .i64 d, .int .i64 u, .int .i64 v]] w fun e w' => e = .returned (.int .i64 (v - u)) ∧ Below w.heap.size w w' := by
  obtain ⟨-, -, -, -, -, s1, s2, s3⟩ := star_bd h
  go_enter Tryz.func34, Tryz.ntmps34
  go_wp2
  go_ret
  exact ⟨ret_int (by omega), by (repeat (first | assumption | exact Below.refl _ _ | refine belowDN ?_ _ | refine Below.drew ?_ | refine Below.setCell ?_ (by first | omega | (simp <;> omega)) _ | refine Below.alloc ?_ (by first | omega | (simp <;> omega)) _ | refine belowCall ?_ (by assumption)))⟩
end Go.Proofs.YtfnjndbnogeddaaGreatDoor
