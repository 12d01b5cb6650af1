/- Slices of Minimum: what a law is told of one that came in; the laws' sizes, copying and comparing (by gen.py). -/
import Derived.Test.YtbjflgohahmjgaaDoorGMi1
import Derived.Deep.RegionHeld3
namespace Go.Proofs.YtbjflgohahmjgaaDoor
open Go.ChangeShapes Go.WideShapes Go.ChangeAt Go.RowKit Go.Deep

def gdMi (x : Mi) : Prop := (Lit.int .i64 x.1).wf = true ∧ (Lit.int .i64 x.2).wf = true
section
variable {H : Type} {enc : TypeId × Value → H} {P : Program} {w : World} {base : Nat} {spare : Nat → Bool} {held : Bool}
theorem mi_of {e : TypeId} {f0 f1 : Field} {k : Nat} {cs : List Value} {x : DataW H × List MemPlace} (hs : P.underlying e = some (.struct #[f0, f1])) (hone : oneCellFields P #[f0, f1] = true) (hC : P.cellsOf e = 2)
    (u0 : P.underlying f0.type = some (.int .i64)) (u1 : P.underlying f1.type = some (.int .i64))
    (h : DataW.trod enc P w base spare held k e cs = some x) : ∃ x0 x1, cs = [.int .i64 x0, .int .i64 x1] ∧ (Lit.int .i64 x0).wf = true ∧ (Lit.int .i64 x1).wf = true := by
  obtain ⟨xs, k', _, _, hcl, hxl, hf⟩ := DataW.trod_struct hs h
  rw [hC] at hcl
  obtain ⟨o0, k0⟩ := hone_of hone 0 f0 rfl
  obtain ⟨o1, k1⟩ := hone_of hone 1 f1 rfl
  have t0 := hf 0 f0 rfl
  have t1 := hf 1 f1 rfl
  rw [o0, k0] at t0
  rw [o1, k1] at t1
  match cs, hcl, xs, hxl with
  | [c0, c1], _, [y0, y1], _ =>
    simp at t0 t1
    obtain ⟨x0, e0, _, w0⟩ := DataW.trod_int u0 t0
    obtain ⟨x1, e1, _, w1⟩ := DataW.trod_int u1 t1
    simp only [List.cons.injEq, and_true] at e0 e1
    subst e0 e1
    exact ⟨x0, x1, rfl, w0, w1⟩
theorem open_mi {r : Reach} {b0 : Nat} {e : TypeId} {f0 f1 : Field} {v : Value} {dd : DataW H} {p : List MemPlace} (hs : P.underlying e = some (.struct #[f0, f1])) (hone : oneCellFields P #[f0, f1] = true) (hC : P.cellsOf e = 2)
    (u0 : P.underlying f0.type = some (.int .i64)) (u1 : P.underlying f1.type = some (.int .i64))
    (hv : Value.okWide P w r b0 e v) (h : DataW.Trod enc P w base spare held e v dd p) : ∃ x0 x1, v = .agg #[.int .i64 x0, .int .i64 x1] ∧ (Lit.int .i64 x0).wf = true ∧ (Lit.int .i64 x1).wf = true := by
  obtain ⟨cs, rfl, _⟩ := okWide_struct hs hv
  obtain ⟨k, hk⟩ := h
  obtain ⟨x0, x1, hcs, rest⟩ := mi_of hs hone hC u0 u1 (show DataW.trod enc P w base spare held k e cs.toList = some (dd, p) from hk)
  refine ⟨x0, x1, ?_, rest⟩
  congr 1
  apply Array.toList_inj.1
  rw [hcs]
end

/-- the slice 'a, n' reads as xs -/
def MiL (w : World) (a : Option Addr) (n : Nat) (xs : List Mi) : Prop :=
  xs.length = n ∧ ∀ i, i < n → ∃ b off, a = some ⟨b, off, none⟩ ∧ MiC w b (off + i * 2) (xs[i]?.getD mi0)
theorem MiL.mono {w w' : World} {a : Option Addr} {n : Nat} {xs : List Mi} (h : MiL w a n xs) (hb : Below w.heap.size w w') : MiL w' a n xs :=
  ⟨h.1, fun i hi => by
    obtain ⟨b, off, e, hc⟩ := h.2 i hi
    exact ⟨b, off, e, hc.mono hb⟩⟩
theorem MiL.take {w : World} {a : Option Addr} {n k : Nat} {xs : List Mi} (h : MiL w a n xs) (hk : k ≤ n) : MiL w a k (xs.take k) := by
  refine ⟨by rw [List.length_take, h.1]; omega, fun i hi => ?_⟩
  obtain ⟨b, off, e, hc⟩ := h.2 i (by omega)
  refine ⟨b, off, e, ?_⟩
  rw [List.getElem?_take_of_lt hi]
  exact hc
theorem MiL.drop {w : World} {b off n k : Nat} {xs : List Mi} (h : MiL w (some ⟨b, off, none⟩) n xs) (hk : k ≤ n) : MiL w (some ⟨b, off + k * 2, none⟩) (n - k) (xs.drop k) := by
  refine ⟨by rw [List.length_drop, h.1], fun i hi => ?_⟩
  obtain ⟨b', off', e, hc⟩ := h.2 (k + i) (by omega)
  cases e
  refine ⟨b, off + k * 2, rfl, ?_⟩
  rw [List.getElem?_drop, show off + k * 2 + i * 2 = off + (k + i) * 2 from by omega]
  exact hc
/-- what a walk is told of a slice that came in -/
def IsMi (w : World) (a : Option Addr) (n cap : Nat) (xs : List Mi) : Prop := MiL w a n xs ∧ n ≤ maxLen ∧ cap ≤ maxLen ∧ ∀ x ∈ xs, gdMi x
theorem IsMi.mono {w w' : World} {a : Option Addr} {n cap : Nat} {xs : List Mi} (h : IsMi w a n cap xs) (hb : Below w.heap.size w w') : IsMi w' a n cap xs := ⟨h.1.mono hb, h.2⟩
theorem IsMi.at {w : World} {a : Option Addr} {n cap k : Nat} {xs : List Mi} (h : IsMi w a n cap xs) (hk : k < n) : gdMi (xs[k]?.getD mi0) := by
  have hkx : k < xs.length := by rw [h.1.1]; exact hk
  have := h.2.2.2 (xs[k]) (List.getElem_mem hkx)
  simpa [hkx] using this
theorem mis_of {H : Type} {enc : TypeId × Value → H} {P : Program} {w : World} {base : Nat} {spare : Nat → Bool} {held : Bool} {t e : TypeId} {f0 f1 : Field} {k : Nat} {a : Option Addr} {n cap : Nat} {x : DataW H × List MemPlace}
    (ht : P.underlying t = some (.slice e)) (hs : P.underlying e = some (.struct #[f0, f1])) (hone : oneCellFields P #[f0, f1] = true) (hC : P.cellsOf e = 2)
    (u0 : P.underlying f0.type = some (.int .i64)) (u1 : P.underlying f1.type = some (.int .i64))
    (h : DataW.trod enc P w base spare held k t [.slice a n cap] = some x) : ∃ xs, IsMi w a n cap xs := by
  rcases open_slice ht h with ⟨hc, _⟩ | ⟨y, len, cap', m, k', D, Pl, hc, _, hl, hm, hmm, _, hi⟩
  · simp at hc
    obtain ⟨rfl, rfl, rfl⟩ := hc
    exact ⟨[], ⟨rfl, fun i hi => absurd hi (by omega)⟩, by unfold maxLen; omega, by unfold maxLen; omega, by simp⟩
  · simp at hc
    obtain ⟨rfl, rfl, rfl⟩ := hc
    have hlm : n ≤ m := by rw [hmm]; split <;> omega
    by_cases hn0 : n = 0
    · subst hn0
      exact ⟨[], ⟨rfl, fun i hi => absurd hi (by omega)⟩, by unfold maxLen; omega, hm, by simp⟩
    obtain ⟨b, off, spot⟩ := y
    obtain rfl : spot = none := by
      obtain ⟨cs, hcs, htr⟩ := hi 0 (by omega)
      rw [hC] at hcs
      obtain ⟨_, _, hat⟩ := World.cells?_some hcs
      obtain ⟨x0, x1, rfl, _⟩ := mi_of hs hone hC u0 u1 htr
      simpa [Addr.add] using World.cell?_spot (hat 0 (by omega))
    have each : ∀ i, i < n → ∃ q : Mi, MiC w b (off + i * 2) q ∧ gdMi q := by
      intro i hin
      obtain ⟨cs, hcs, htr⟩ := hi i (by omega)
      rw [hC] at hcs
      obtain ⟨_, _, hat⟩ := World.cells?_some hcs
      obtain ⟨x0, x1, rfl, hgd⟩ := mi_of hs hone hC u0 u1 htr
      have hat' : ∀ f, f < 2 → w.cell? ⟨b, off + i * 2 + f, none⟩ = [Value.int .i64 x0, .int .i64 x1][f]? := fun f hf => by
        have := hat f hf
        rwa [Go.WideShapes.add_plain, Go.WideShapes.add_plain] at this
      refine ⟨(x0, x1), ⟨cellLt (hat' 0 (by omega)), fun f hf => ?_⟩, hgd⟩
      rw [hat' f hf]
      match f, hf with
      | 0, _ => rfl
      | 1, _ => rfl
    obtain ⟨q, hq⟩ := choose_lt each
    refine ⟨(List.range n).map q, ⟨by simp, fun i hi => ⟨b, off, rfl, ?_⟩⟩, by omega, hm, fun x hx => ?_⟩
    · have := (hq i hi).1
      simpa [hi] using this
    · obtain ⟨i, hi, rfl⟩ := List.mem_map.1 hx
      exact (hq i (by simpa using hi)).2
def totMi (xs : List Mi) : Int := xs.length
theorem totMi_nonneg (xs : List Mi) : (xs.length : Int) ≤ totMi xs := Int.le_refl _
theorem szMiS_any (a : Option Addr) (n c : Nat) (xs : List Mi) (left : Int) (w : World) (h : IsMi w a n c xs) (h1 : 0 ≤ left) (h2 : left ≤ 1048576) :
    Calls Tryd.prog 21 #[.slice a n c, .int .i64 left] w fun e w' => e = .returned (.int .i64 (szQ (totMi xs) left)) ∧ Below w.heap.size w w' := by
  have hnm : (n : Int) ≤ 9223372036854775807 := by have := h.2.1; unfold maxLen at this; omega
  have ht : totMi xs = (n : Int) := by unfold totMi; rw [h.1.1]
  by_cases hn : left < (n : Int)
  · have HS := Lib.hid (szQ_no (show left < totMi xs by omega))
    have hneg : left - (n : Int) < 0 := by omega
    clear ht
    go_enter Tryd.func21, Tryd.ntmps21
    go_wp2
    go_ret
    exact ⟨by rw [HS.out]; rfl, by (repeat (first | assumption | exact Below.refl _ _ | refine belowDN ?_ _ | refine Below.drew ?_ | refine Below.setCell ?_ (by first | omega | (simp <;> omega)) _ | refine Below.alloc ?_ (by first | omega | (simp <;> omega)) _ | refine belowCall ?_ (by assumption)))⟩
  · have HS := Lib.hid (szQ_yes (show ¬ left < totMi xs by omega))
    have hneg : ¬ left - (n : Int) < 0 := by omega
    have HT := Lib.hid ht
    clear ht
    go_enter Tryd.func21, Tryd.ntmps21
    go_wp2
    go_ret
    exact ⟨by rw [HS.out, HT.out]; rfl, by (repeat (first | assumption | exact Below.refl _ _ | refine belowDN ?_ _ | refine Below.drew ?_ | refine Below.setCell ?_ (by first | omega | (simp <;> omega)) _ | refine Below.alloc ?_ (by first | omega | (simp <;> omega)) _ | refine belowCall ?_ (by assumption)))⟩
theorem sizeMi {xs : List Mi} {l : Int} (h : ¬ l < totMi xs) (hl : l ≤ 1048576) {n : Nat} (hn : xs.length = n) : n ≤ 1048576 := by have h1 := totMi_nonneg xs; omega
theorem Mi_info : (Tryd.prog.info? 34).map (fun i => (i.zero, i.size, i.bytes)) = some (some (.agg #[.int .i64 0, .int .i64 0]), 2, 16) := by kernel_rfl
/-- the first k of xs, then zero values, cell by cell -/
def colMi (xs : List Mi) (k j : Nat) : Value := if j < k * 2 then fldMi (xs[j / 2]?.getD mi0) (j % 2) else fldMi mi0 (j % 2)
theorem colMi_at {xs : List Mi} {k i f : Nat} (hi : i < k) (hf : f < 2) : colMi xs k (i * 2 + f) = fldMi (xs[i]?.getD mi0) f := by
  unfold colMi
  rw [if_pos (by omega), show (i * 2 + f) / 2 = i from by omega, show (i * 2 + f) % 2 = f from by omega]
theorem colMi_put {w : World} {g n k : Nat} {T : TypeId} {xs : List Mi} {x0 : Int} {x1 : Int} (h : w.rowIs g T n (colMi xs k)) (hx : xs[k]?.getD mi0 = (x0, x1)) :
    ((w.setCell ⟨g, k * 2, none⟩ (.int .i64 x0)).setCell ⟨g, k * 2 + 1, none⟩ (.int .i64 x1)).rowIs g T n (colMi xs (k + 1)) := by
  refine ((h.set (k * 2) (.int .i64 x0)).set (k * 2 + 1) (.int .i64 x1)).congr fun i _ => ?_
  by_cases h1 : i < k * 2
  · rw [if_neg (by omega), if_neg (by omega)]
    unfold colMi
    rw [if_pos h1, if_pos (by omega)]
  by_cases h2 : i < (k + 1) * 2
  · obtain ⟨f, hf, rfl⟩ : ∃ f, f < 2 ∧ i = k * 2 + f := ⟨i - k * 2, by omega, by omega⟩
    rw [show colMi xs (k + 1) (k * 2 + f) = fldMi (x0, x1) f from by rw [colMi_at (by omega) hf, hx]]
    match f, hf with
    | 0, _ => simp [fldMi]
    | 1, _ => simp [fldMi]
  · rw [if_neg (by omega), if_neg (by omega)]
    unfold colMi
    rw [if_neg h1, if_neg h2]
theorem MiL.of_row {w : World} {g : Nat} {T : TypeId} {xs : List Mi} {n : Nat} (hn : xs.length = n) (h : w.rowIs g T (n * 2) (colMi xs n)) : MiL w (some ⟨g, 0, none⟩) n xs :=
  ⟨hn, fun i hi => ⟨g, 0, rfl, h.lt, fun f hf => by
    rw [show 0 + i * 2 + f = i * 2 + f from by omega, h.cell (by omega), colMi_at hi hf]⟩⟩
theorem made_colMi (n : Nat) (j : Nat) (hj : j < n * 2) (xs : List Mi) : ((madeCells (Value.agg #[.int .i64 0, .int .i64 0]).cells (n * 2)).toList[j]?).getD (.bool false) = colMi xs 0 j := by
  have hj5 : j % 2 < 2 := by omega
  simp [madeCells, hj, Value.cells, colMi]
  match h : j % 2, hj5 with
  | 0, _ => rfl
  | 1, _ => rfl
set_option maxHeartbeats 1000000 in
theorem toMiS_any (a : Option Addr) (n c : Nat) (xs : List Mi) (w : World) (h : MiL w a n xs) (hn : n ≤ 1048576) :
    Calls Tryd.prog 23 #[.slice a n c] w fun e w' => ∃ g, e = .returned (.slice (some ⟨g, 0, none⟩) n n) ∧ w.heap.size ≤ g ∧ w'.rowIs g 34 (n * 2) (colMi xs n) ∧ Below w.heap.size w w' := by
  obtain ⟨i0, hi, hz0, hz1, hz2⟩ := info_parts Mi_info
  have hb : n ≤ maxLen := by unfold maxLen; omega
  have hl : (n : Int) ≤ 1048576 := by omega
  go_enter Tryd.func23, Tryd.ntmps23
  go_wp2_with (at_make; refine wpList_make_full _ rfl _ _ 24 rfl w.heap.size 34 i0 _ 2 Tryd.underlying24 hi hz0 hz1 .i64 .i64 n n n rfl rfl rfl rfl (by rw [hz2]; omega) hb (Nat.le_refl _) ?_; intro w1 hown hgrow)
  have hrow := (rowM hown).congr (fun j hj => made_colMi n j hj xs)
  have hB1 : Below w.heap.size w w1 := (Below.refl _ _).grown hgrow (Nat.le_refl _) (fun k hk => by cases hk)
  clear hown hgrow
  go_loopw [4] (fun i wr => ∃ k : Nat, k ≤ n ∧ i = .int .i64 k ∧ wr.rowIs w.heap.size 34 (n * 2) (colMi xs k) ∧ Below w.heap.size w wr) (fun i _ => n - (Go.RowKit.intOf i).toNat)
  case atStart => exact ⟨0, Nat.zero_le _, rfl, hrow, hB1⟩
  case round =>
    obtain ⟨k, hk, rfl, hr, hB⟩ := hrel
    clear hrow hB1
    by_cases hlt : k < n
    · obtain ⟨b, off, rfl, hc⟩ := h.2 k hlt
      have hcr := hc.mono hB
      obtain ⟨⟨x0, x1⟩, hx⟩ : ∃ x, xs[k]?.getD mi0 = x := ⟨_, rfl⟩
      rw [hx] at hcr
      obtain ⟨hbl, c0, c1⟩ := hcr.parts
      have HX := Lib.hid hx
      clear hx hc hcr
      have hkk : (k : Int) < (n : Int) := by omega
      go_wp2_with fail
      refine (toMi_any _ _ _).mono ?_
      rintro e w2 ⟨rfl, b2⟩
      have hr2 := rowB hr b2
      have hB2 := belowCall hB b2
      have d0 := hr2.cell (show k * 2 < n * 2 by omega)
      have d1 := hr2.cell (show k * 2 + 1 < n * 2 by omega)
      have z0 := hr2.frozen (k * 2)
      have z1 := hr2.frozen (k * 2 + 1)
      have hP := colMi_put hr2 HX.out
      go_wp2
      go_roundw
      case rel => exact ⟨k + 1, by omega, by go_num, hP, by (repeat (first | assumption | exact Below.refl _ _ | refine belowDN ?_ _ | refine Below.drew ?_ | refine Below.setCell ?_ (by first | omega | (simp <;> omega)) _ | refine Below.alloc ?_ (by first | omega | (simp <;> omega)) _ | refine belowCall ?_ (by assumption)))⟩
      case measure => simp [Go.RowKit.intOf]; omega
    · obtain rfl : k = n := by omega
      go_wp2
      go_ret
      exact ⟨_, rfl, Nat.le_refl _, hr, hB⟩
set_option maxRecDepth 100000 in
set_option maxHeartbeats 1000000 in
theorem eqMiS_self (a b : Option Addr) (n c c' : Nat) (xs : List Mi) (w : World) (h : MiL w a n xs) (h' : MiL w b n xs) (hn : n ≤ 1048576) :
    Calls Tryd.prog 25 #[.slice a n c, .slice b n c'] w fun e w' => e = .returned (.bool true) ∧ Below w.heap.size w w' := by
  have hl : (n : Int) ≤ 1048576 := by omega
  go_enter Tryd.func25, Tryd.ntmps25
  go_wp2
  go_loopw [5] (fun i wr => ∃ k : Nat, k ≤ n ∧ i = .int .i64 k ∧ Below w.heap.size w wr) (fun i _ => n - (Go.RowKit.intOf i).toNat)
  case atStart => exact ⟨0, Nat.zero_le _, rfl, Below.refl _ _⟩
  case round =>
    obtain ⟨k, hk, rfl, hB⟩ := hrel
    by_cases hlt : k < n
    · obtain ⟨b1, o1, rfl, hc⟩ := h.2 k hlt
      obtain ⟨b2, o2, rfl, hc'⟩ := h'.2 k hlt
      obtain ⟨⟨x0, x1⟩, hx⟩ : ∃ x, xs[k]?.getD mi0 = x := ⟨_, rfl⟩
      rw [hx] at hc hc'
      obtain ⟨p, p0, p1⟩ := (hc.mono hB).parts
      obtain ⟨q, q0, q1⟩ := (hc'.mono hB).parts
      clear hx hc hc'
      have hkk : (k : Int) < (n : Int) := by omega
      go_wp2
      go_still_tail 8, (by kernel_rfl)
      have hBd : Below w.heap.size w wr.drew := hB.drew
      change wpList _ _ _ _ _ wr.drew
      generalize wr.drew = w2 at hBd ⊢
      go_wp2_with fail
      refine (eqMi_self _ _ _).mono ?_
      rintro e w3 ⟨rfl, b3⟩
      go_wp2
      go_roundw
      case rel => exact ⟨k + 1, by omega, by go_num, belowCall hBd b3⟩
      case measure => simp [Go.RowKit.intOf]; omega
    · obtain rfl : k = n := by omega
      go_wp2
      go_ret
      exact ⟨rfl, hB⟩
end Go.Proofs.YtbjflgohahmjgaaDoor
