/- Slices of stars: what a law is told of one that came in; the laws' sizes, copying and comparing. -/
import Derived.Test.YtiogffjhhhpolabDoorST
import Derived.Deep.Slices
import Derived.Deep.Fields
import Derived.Deep.OwnRows
import Derived.ChangeSame
import Derived.OwnWalk
import Derived.Lib.SmallJoins
namespace Go.Proofs.YtiogffjhhhpolabDoor
open Go.ChangeShapes Go.WideShapes Go.ChangeAt Go.RowKit Go.Deep

section
variable {H : Type} {enc : TypeId × Value → H} {P : Program} {w : World} {base : Nat} {spare : Nat → Bool} {held : Bool}
/-- five one-cell fields, a string and four numbers: the cells of a star -/
theorem star_of {e : TypeId} {f0 f1 f2 f3 f4 : Field} {k : Nat} {cs : List Value} {x : DataW H × List MemPlace} (hs : P.underlying e = some (.struct #[f0, f1, f2, f3, f4])) (hone : oneCellFields P #[f0, f1, f2, f3, f4] = true) (hC : P.cellsOf e = 5)
    (u0 : P.underlying f0.type = some .string) (u1 : P.underlying f1.type = some (.int .i64)) (u2 : P.underlying f2.type = some (.int .i64)) (u3 : P.underlying f3.type = some (.int .i64)) (u4 : P.underlying f4.type = some (.int .i64))
    (h : DataW.trod enc P w base spare held k e cs = some x) : ∃ nm a d u v, cs = [.string nm, .int .i64 a, .int .i64 d, .int .i64 u, .int .i64 v] ∧ nm.size ≤ maxLen ∧ (Lit.int .i64 a).wf = true ∧ (Lit.int .i64 d).wf = true ∧ (Lit.int .i64 u).wf = true ∧ (Lit.int .i64 v).wf = true := by
  obtain ⟨xs, k', _, _, hcl, hxl, hf⟩ := DataW.trod_struct hs h
  rw [hC] at hcl
  obtain ⟨o0, k0⟩ := hone_of hone 0 f0 rfl
  obtain ⟨o1, k1⟩ := hone_of hone 1 f1 rfl
  obtain ⟨o2, k2⟩ := hone_of hone 2 f2 rfl
  obtain ⟨o3, k3⟩ := hone_of hone 3 f3 rfl
  obtain ⟨o4, k4⟩ := hone_of hone 4 f4 rfl
  have t0 := hf 0 f0 rfl
  have t1 := hf 1 f1 rfl
  have t2 := hf 2 f2 rfl
  have t3 := hf 3 f3 rfl
  have t4 := hf 4 f4 rfl
  rw [o0, k0] at t0
  rw [o1, k1] at t1
  rw [o2, k2] at t2
  rw [o3, k3] at t3
  rw [o4, k4] at t4
  match cs, hcl, xs, hxl with
  | [c0, c1, c2, c3, c4], _, [y0, y1, y2, y3, y4], _ =>
    simp at t0 t1 t2 t3 t4
    obtain ⟨nm, e0, _, w0⟩ := DataW.trod_string u0 t0
    obtain ⟨a, e1, _, w1⟩ := DataW.trod_int u1 t1
    obtain ⟨d, e2, _, w2⟩ := DataW.trod_int u2 t2
    obtain ⟨u, e3, _, w3⟩ := DataW.trod_int u3 t3
    obtain ⟨v, e4, _, w4⟩ := DataW.trod_int u4 t4
    simp only [List.cons.injEq, and_true] at e0 e1 e2 e3 e4
    subst e0 e1 e2 e3 e4
    exact ⟨nm, a, d, u, v, rfl, w0, w1, w2, w3, w4⟩
/-- a star by value -/
theorem open_star {r : Reach} {b0 : Nat} {e : TypeId} {f0 f1 f2 f3 f4 : Field} {v : Value} {dd : DataW H} {p : List MemPlace} (hs : P.underlying e = some (.struct #[f0, f1, f2, f3, f4])) (hone : oneCellFields P #[f0, f1, f2, f3, f4] = true) (hC : P.cellsOf e = 5)
    (u0 : P.underlying f0.type = some .string) (u1 : P.underlying f1.type = some (.int .i64)) (u2 : P.underlying f2.type = some (.int .i64)) (u3 : P.underlying f3.type = some (.int .i64)) (u4 : P.underlying f4.type = some (.int .i64))
    (hv : Value.okWide P w r b0 e v) (h : DataW.Trod enc P w base spare held e v dd p) : ∃ nm a d u z, v = .agg #[.string nm, .int .i64 a, .int .i64 d, .int .i64 u, .int .i64 z] ∧ nm.size ≤ maxLen ∧ (Lit.int .i64 a).wf = true ∧ (Lit.int .i64 d).wf = true ∧ (Lit.int .i64 u).wf = true ∧ (Lit.int .i64 z).wf = true := by
  obtain ⟨cs, rfl, _⟩ := okWide_struct hs hv
  obtain ⟨k, hk⟩ := h
  obtain ⟨nm, a, d, u, z, hcs, rest⟩ := star_of hs hone hC u0 u1 u2 u3 u4 (show DataW.trod enc P w base spare held k e cs.toList = some (dd, p) from hk)
  refine ⟨nm, a, d, u, z, ?_, rest⟩
  congr 1
  apply Array.toList_inj.1
  rw [hcs]
end

/-- the slice 'a, n' reads as the stars xs -/
def StL (w : World) (a : Option Addr) (n : Nat) (xs : List St) : Prop :=
  xs.length = n ∧ ∀ i, i < n → ∃ b off, a = some ⟨b, off, none⟩ ∧ StC w b (off + i * 5) (xs[i]?.getD st0)
theorem StL.mono {w w' : World} {a : Option Addr} {n : Nat} {xs : List St} (h : StL w a n xs) (hb : Below w.heap.size w w') : StL w' a n xs :=
  ⟨h.1, fun i hi => by
    obtain ⟨b, off, e, hc⟩ := h.2 i hi
    exact ⟨b, off, e, hc.mono hb⟩⟩
/-- what a walk is told of a slice of stars that came in -/
def IsStars (w : World) (a : Option Addr) (n cap : Nat) (xs : List St) : Prop := StL w a n xs ∧ n ≤ maxLen ∧ cap ≤ maxLen ∧ ∀ x ∈ xs, x.1.size ≤ maxLen
theorem cell_lt' {w : World} {a : Addr} {v : Value} (h : w.cell? a = some v) : a.block < w.heap.size := World.block_lt_of_cell? w a h
theorem stars_of {H : Type} {enc : TypeId × Value → H} {P : Program} {w : World} {base : Nat} {spare : Nat → Bool} {held : Bool} {t e : TypeId} {f0 f1 f2 f3 f4 : Field} {k : Nat} {a : Option Addr} {n cap : Nat} {x : DataW H × List MemPlace}
    (ht : P.underlying t = some (.slice e)) (hs : P.underlying e = some (.struct #[f0, f1, f2, f3, f4])) (hone : oneCellFields P #[f0, f1, f2, f3, f4] = true) (hC : P.cellsOf e = 5)
    (u0 : P.underlying f0.type = some .string) (u1 : P.underlying f1.type = some (.int .i64)) (u2 : P.underlying f2.type = some (.int .i64)) (u3 : P.underlying f3.type = some (.int .i64)) (u4 : P.underlying f4.type = some (.int .i64))
    (h : DataW.trod enc P w base spare held k t [.slice a n cap] = some x) : ∃ xs, IsStars w a n cap xs := by
  rcases open_slice ht h with ⟨hc, _⟩ | ⟨y, len, cap', m, k', D, Pl, hc, _, hl, hm, hmm, _, hi⟩
  · simp at hc
    obtain ⟨rfl, rfl, rfl⟩ := hc
    exact ⟨[], ⟨rfl, fun i hi => absurd hi (by omega)⟩, by unfold maxLen; omega, by unfold maxLen; omega, by simp⟩
  · simp at hc
    obtain ⟨rfl, rfl, rfl⟩ := hc
    have hlm : n ≤ m := by rw [hmm]; split <;> omega
    by_cases hn0 : n = 0
    · subst hn0
      exact ⟨[], ⟨rfl, fun i hi => absurd hi (by omega)⟩, by unfold maxLen; omega, hm, by simp⟩
    obtain ⟨b, off, spot⟩ := y
    obtain rfl : spot = none := by
      obtain ⟨cs, hcs, htr⟩ := hi 0 (by omega)
      rw [hC] at hcs
      obtain ⟨_, _, hat⟩ := World.cells?_some hcs
      obtain ⟨nm, a, d, u, v, rfl, _⟩ := star_of hs hone hC u0 u1 u2 u3 u4 htr
      simpa [Addr.add] using World.cell?_spot (hat 0 (by omega))
    have each : ∀ i, i < n → ∃ q : St, StC w b (off + i * 5) q ∧ q.1.size ≤ maxLen := by
      intro i hin
      obtain ⟨cs, hcs, htr⟩ := hi i (by omega)
      rw [hC] at hcs
      obtain ⟨_, _, hat⟩ := World.cells?_some hcs
      obtain ⟨nm, a, d, u, v, rfl, hnm, _⟩ := star_of hs hone hC u0 u1 u2 u3 u4 htr
      have hat' : ∀ f, f < 5 → w.cell? ⟨b, off + i * 5 + f, none⟩ = [Value.string nm, .int .i64 a, .int .i64 d, .int .i64 u, .int .i64 v][f]? := fun f hf => by
        have := hat f hf
        rwa [Go.WideShapes.add_plain, Go.WideShapes.add_plain] at this
      refine ⟨(nm, a, d, u, v), ⟨cell_lt' (hat' 0 (by omega)), fun f hf => ?_⟩, hnm⟩
      rw [hat' f hf]
      match f, hf with
      | 0, _ => rfl
      | 1, _ => rfl
      | 2, _ => rfl
      | 3, _ => rfl
      | 4, _ => rfl
    obtain ⟨q, hq⟩ := choose_lt each
    refine ⟨(List.range n).map q, ⟨by simp, fun i hi => ⟨b, off, rfl, ?_⟩⟩, by omega, hm, fun x hx => ?_⟩
    · have := (hq i hi).1
      simpa [hi] using this
    · obtain ⟨i, hi, rfl⟩ := List.mem_map.1 hx
      exact (hq i (by simpa using hi)).2
def sumN (xs : List St) : Int := (xs.map fun x => (x.1.size : Int)).sum
def totS (xs : List St) : Int := xs.length + sumN xs
theorem sumN_nonneg (xs : List St) : 0 ≤ sumN xs := by
  induction xs with
  | nil => simp [sumN]
  | cons x xs ih => simp only [sumN, List.map_cons, List.sum_cons] at *; omega
theorem sumN_app (xs ys : List St) : sumN (xs ++ ys) = sumN xs + sumN ys := by simp [sumN]
theorem sumN_step {xs : List St} {k : Nat} (hk : k < xs.length) : sumN (xs.take (k + 1)) = sumN (xs.take k) + ((xs[k]?.getD st0).1.size : Int) := by
  rw [List.take_succ_eq_append_getElem hk, sumN_app]
  simp [sumN, hk]
theorem sumN_take (xs : List St) (k : Nat) : sumN (xs.take k) ≤ sumN xs := by
  have h := sumN_app (xs.take k) (xs.drop k)
  rw [List.take_append_drop] at h
  have := sumN_nonneg (xs.drop k)
  omega
theorem totS_nonneg (xs : List St) : (xs.length : Int) ≤ totS xs := by have := sumN_nonneg xs; unfold totS; omega
set_option maxHeartbeats 1000000 in
theorem szStarS_any (a : Option Addr) (n c : Nat) (xs : List St) (left : Int) (w : World) (h : IsStars w a n c xs) (h1 : 0 ≤ left) (h2 : left ≤ 1048576) :
    Calls Tryd.prog 5 #[.slice a n c, .int .i64 left] w fun e w' => e = .returned (.int .i64 (szR (totS xs) left)) ∧ Below w.heap.size w w' := by
  have hnm : (n : Int) ≤ 9223372036854775807 := by have := h.2.1; unfold maxLen at this; omega
  have hl := h.1.1
  have hpos := totS_nonneg xs
  by_cases hn : left < (n : Int)
  · have HS := Lib.hid (szR_no (show left < totS xs by omega))
    have hneg : left - (n : Int) < 0 := by omega
    clear hpos
    go_enter Tryd.func5, Tryd.ntmps5
    go_wp2
    go_ret
    exact ⟨by rw [HS.out]; rfl, by (repeat (first | assumption | exact Below.refl _ _ | refine belowDN ?_ _ | refine Below.drew ?_ | refine Below.setCell ?_ (by first | omega | (simp <;> omega)) _ | refine Below.alloc ?_ (by first | omega | (simp <;> omega)) _ | refine belowCall ?_ (by assumption)))⟩
  have hneg : ¬ left - (n : Int) < 0 := by omega
  have HL := Lib.hid hl
  clear hpos hl
  go_enter Tryd.func5, Tryd.ntmps5
  go_wp2
  go_loopw [1, 5] (fun l i wr => ∃ k : Nat, k ≤ n ∧ i = .int .i64 k ∧ l = .int .i64 (left - n - sumN (xs.take k)) ∧ 0 ≤ left - n - sumN (xs.take k) ∧ Below w.heap.size w wr) (fun _ i _ => n - (intOf i).toNat)
  case atStart => exact ⟨0, Nat.zero_le _, rfl, by simp [sumN], by simp [sumN]; omega, Below.refl _ _⟩
  case round =>
    obtain ⟨k, hk, rfl, rfl, h0, hB⟩ := hrel
    obtain ⟨s, hs⟩ : ∃ s, left - n - sumN (xs.take k) = s := ⟨_, rfl⟩
    rw [hs] at h0 ⊢
    have hs2 : s ≤ 1048576 := by have := sumN_nonneg (xs.take k); omega
    have HS := Lib.hid hs
    clear hs
    by_cases hlt : k < n
    · obtain ⟨b, off, rfl, hc⟩ := h.1.2 k hlt
      have hcr := hc.mono hB
      obtain ⟨⟨nm, a, d, u, v⟩, hx⟩ : ∃ x, xs[k]?.getD st0 = x := ⟨_, rfl⟩
      have hsz : nm.size ≤ maxLen := by
        have hkx : k < xs.length := by have := HL.out; omega
        have := h.2.2.2 (xs[k]) (List.getElem_mem hkx)
        have e : xs[k] = (nm, a, d, u, v) := by rw [← hx]; simp [hkx]
        rw [e] at this; exact this
      rw [hx] at hcr
      obtain ⟨hbl, c0, c1, c2, c3, c4⟩ := hcr.parts
      have HX := Lib.hid hx
      clear hx hc hcr
      have hstep : Hid (sumN (xs.take (k + 1)) = sumN (xs.take k) + (nm.size : Int)) := Lib.hid (by rw [sumN_step (by have := HL.out; omega), HX.out])
      have hkk : (k : Int) < (n : Int) := by omega
      by_cases hbad : s < (nm.size : Int)
      · have hno := szR_no hbad
        have HV := Lib.hid (szR_no (n := totS xs) (left := left) (by have e1 := hstep.out; have e2 := HS.out; have e3 := sumN_take xs (k + 1); have e4 := HL.out; unfold totS; omega))
        go_wp2_with (go_at_call 6; refine (szStar_any _ _ _ _ _ _ _ hsz h0 hs2).mono ?_; rintro e w' ⟨rfl, hbel⟩; obtain ⟨hc, hf⟩ := bcell hbel; have hz := hbel.size; (try simp at hz); (try simp only [Nat.add_one_le_iff] at hz); (try (have hzw : w.heap.size < w'.heap.size := by omega)); rw [hno])
        go_ret
        exact ⟨by rw [HV.out]; rfl, by (repeat (first | assumption | exact Below.refl _ _ | refine belowDN ?_ _ | refine Below.drew ?_ | refine Below.setCell ?_ (by first | omega | (simp <;> omega)) _ | refine Below.alloc ?_ (by first | omega | (simp <;> omega)) _ | refine belowCall ?_ (by assumption)))⟩
      · have hyes := szR_yes hbad
        have hge : ¬ s - (nm.size : Int) < 0 := by omega
        go_wp2_with (go_at_call 6; refine (szStar_any _ _ _ _ _ _ _ hsz h0 hs2).mono ?_; rintro e w' ⟨rfl, hbel⟩; obtain ⟨hc, hf⟩ := bcell hbel; have hz := hbel.size; (try simp at hz); (try simp only [Nat.add_one_le_iff] at hz); (try (have hzw : w.heap.size < w'.heap.size := by omega)); rw [hyes])
        go_roundw
        case rel => exact ⟨k + 1, by omega, by go_num, by congr 1; have e1 := hstep.out; have e2 := HS.out; omega, by have e1 := hstep.out; have e2 := HS.out; omega, belowCall hB hbel⟩
        case measure => simp [intOf]; omega
    · obtain rfl : k = n := by omega
      have HV : Hid (szR (totS xs) left = s) := Lib.hid (by
        have e2 := HS.out
        have e4 := HL.out
        rw [List.take_of_length_le (by omega)] at e2
        rw [szR_yes (by unfold totS; omega)]
        unfold totS; omega)
      go_wp2
      go_ret
      exact ⟨by rw [HV.out]; rfl, hB⟩
end Go.Proofs.YtiogffjhhhpolabDoor
