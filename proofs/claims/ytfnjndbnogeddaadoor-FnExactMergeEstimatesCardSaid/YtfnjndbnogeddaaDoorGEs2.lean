/- Slices of Estimate: what a law is told of one that came in; the laws' sizes, copying and comparing (by gen.py). -/
import Derived.Test.YtfnjndbnogeddaaDoorGEs1
import Derived.Deep.RegionHeld3
namespace Go.Proofs.YtfnjndbnogeddaaDoor
open Go.ChangeShapes Go.WideShapes Go.ChangeAt Go.RowKit Go.Deep

def gdEs (x : Es) : Prop := (Lit.int .i64 x.1).wf = true ∧ x.2.1.size ≤ maxLen ∧ x.2.2.1.size ≤ maxLen ∧ (Lit.int .i64 x.2.2.2.1).wf = true ∧ (x.2.2.2.2 = x.2.2.2.2)
section
variable {H : Type} {enc : TypeId × Value → H} {P : Program} {w : World} {base : Nat} {spare : Nat → Bool} {held : Bool}
theorem es_of {e : TypeId} {f0 f1 f2 f3 f4 : Field} {k : Nat} {cs : List Value} {x : DataW H × List MemPlace} (hs : P.underlying e = some (.struct #[f0, f1, f2, f3, f4])) (hone : oneCellFields P #[f0, f1, f2, f3, f4] = true) (hC : P.cellsOf e = 5)
    (u0 : P.underlying f0.type = some (.int .i64)) (u1 : P.underlying f1.type = some .string) (u2 : P.underlying f2.type = some .string) (u3 : P.underlying f3.type = some (.int .i64)) (u4 : P.underlying f4.type = some .bool)
    (h : DataW.trod enc P w base spare held k e cs = some x) : ∃ x0 x1 x2 x3 x4, cs = [.int .i64 x0, .string x1, .string x2, .int .i64 x3, .bool x4] ∧ (Lit.int .i64 x0).wf = true ∧ x1.size ≤ maxLen ∧ x2.size ≤ maxLen ∧ (Lit.int .i64 x3).wf = true ∧ (x4 = x4) := by
  obtain ⟨xs, k', _, _, hcl, hxl, hf⟩ := DataW.trod_struct hs h
  rw [hC] at hcl
  obtain ⟨o0, k0⟩ := hone_of hone 0 f0 rfl
  obtain ⟨o1, k1⟩ := hone_of hone 1 f1 rfl
  obtain ⟨o2, k2⟩ := hone_of hone 2 f2 rfl
  obtain ⟨o3, k3⟩ := hone_of hone 3 f3 rfl
  obtain ⟨o4, k4⟩ := hone_of hone 4 f4 rfl
  have t0 := hf 0 f0 rfl
  have t1 := hf 1 f1 rfl
  have t2 := hf 2 f2 rfl
  have t3 := hf 3 f3 rfl
  have t4 := hf 4 f4 rfl
  rw [o0, k0] at t0
  rw [o1, k1] at t1
  rw [o2, k2] at t2
  rw [o3, k3] at t3
  rw [o4, k4] at t4
  match cs, hcl, xs, hxl with
  | [c0, c1, c2, c3, c4], _, [y0, y1, y2, y3, y4], _ =>
    simp at t0 t1 t2 t3 t4
    obtain ⟨x0, e0, _, w0⟩ := DataW.trod_int u0 t0
    obtain ⟨x1, e1, _, w1⟩ := DataW.trod_string u1 t1
    obtain ⟨x2, e2, _, w2⟩ := DataW.trod_string u2 t2
    obtain ⟨x3, e3, _, w3⟩ := DataW.trod_int u3 t3
    obtain ⟨x4, e4, _⟩ := DataW.trod_bool u4 t4
    have w4 : x4 = x4 := rfl
    simp only [List.cons.injEq, and_true] at e0 e1 e2 e3 e4
    subst e0 e1 e2 e3 e4
    exact ⟨x0, x1, x2, x3, x4, rfl, w0, w1, w2, w3, w4⟩
theorem open_es {r : Reach} {b0 : Nat} {e : TypeId} {f0 f1 f2 f3 f4 : Field} {v : Value} {dd : DataW H} {p : List MemPlace} (hs : P.underlying e = some (.struct #[f0, f1, f2, f3, f4])) (hone : oneCellFields P #[f0, f1, f2, f3, f4] = true) (hC : P.cellsOf e = 5)
    (u0 : P.underlying f0.type = some (.int .i64)) (u1 : P.underlying f1.type = some .string) (u2 : P.underlying f2.type = some .string) (u3 : P.underlying f3.type = some (.int .i64)) (u4 : P.underlying f4.type = some .bool)
    (hv : Value.okWide P w r b0 e v) (h : DataW.Trod enc P w base spare held e v dd p) : ∃ x0 x1 x2 x3 x4, v = .agg #[.int .i64 x0, .string x1, .string x2, .int .i64 x3, .bool x4] ∧ (Lit.int .i64 x0).wf = true ∧ x1.size ≤ maxLen ∧ x2.size ≤ maxLen ∧ (Lit.int .i64 x3).wf = true ∧ (x4 = x4) := by
  obtain ⟨cs, rfl, _⟩ := okWide_struct hs hv
  obtain ⟨k, hk⟩ := h
  obtain ⟨x0, x1, x2, x3, x4, hcs, rest⟩ := es_of hs hone hC u0 u1 u2 u3 u4 (show DataW.trod enc P w base spare held k e cs.toList = some (dd, p) from hk)
  refine ⟨x0, x1, x2, x3, x4, ?_, rest⟩
  congr 1
  apply Array.toList_inj.1
  rw [hcs]
end

/-- the slice 'a, n' reads as xs -/
def EsL (w : World) (a : Option Addr) (n : Nat) (xs : List Es) : Prop :=
  xs.length = n ∧ ∀ i, i < n → ∃ b off, a = some ⟨b, off, none⟩ ∧ EsC w b (off + i * 5) (xs[i]?.getD es0)
theorem EsL.mono {w w' : World} {a : Option Addr} {n : Nat} {xs : List Es} (h : EsL w a n xs) (hb : Below w.heap.size w w') : EsL w' a n xs :=
  ⟨h.1, fun i hi => by
    obtain ⟨b, off, e, hc⟩ := h.2 i hi
    exact ⟨b, off, e, hc.mono hb⟩⟩
theorem EsL.take {w : World} {a : Option Addr} {n k : Nat} {xs : List Es} (h : EsL w a n xs) (hk : k ≤ n) : EsL w a k (xs.take k) := by
  refine ⟨by rw [List.length_take, h.1]; omega, fun i hi => ?_⟩
  obtain ⟨b, off, e, hc⟩ := h.2 i (by omega)
  refine ⟨b, off, e, ?_⟩
  rw [List.getElem?_take_of_lt hi]
  exact hc
theorem EsL.drop {w : World} {b off n k : Nat} {xs : List Es} (h : EsL w (some ⟨b, off, none⟩) n xs) (hk : k ≤ n) : EsL w (some ⟨b, off + k * 5, none⟩) (n - k) (xs.drop k) := by
  refine ⟨by rw [List.length_drop, h.1], fun i hi => ?_⟩
  obtain ⟨b', off', e, hc⟩ := h.2 (k + i) (by omega)
  cases e
  refine ⟨b, off + k * 5, rfl, ?_⟩
  rw [List.getElem?_drop, show off + k * 5 + i * 5 = off + (k + i) * 5 from by omega]
  exact hc
/-- what a walk is told of a slice that came in -/
def IsEs (w : World) (a : Option Addr) (n cap : Nat) (xs : List Es) : Prop := EsL w a n xs ∧ n ≤ maxLen ∧ cap ≤ maxLen ∧ ∀ x ∈ xs, gdEs x
theorem IsEs.mono {w w' : World} {a : Option Addr} {n cap : Nat} {xs : List Es} (h : IsEs w a n cap xs) (hb : Below w.heap.size w w') : IsEs w' a n cap xs := ⟨h.1.mono hb, h.2⟩
theorem IsEs.at {w : World} {a : Option Addr} {n cap k : Nat} {xs : List Es} (h : IsEs w a n cap xs) (hk : k < n) : gdEs (xs[k]?.getD es0) := by
  have hkx : k < xs.length := by rw [h.1.1]; exact hk
  have := h.2.2.2 (xs[k]) (List.getElem_mem hkx)
  simpa [hkx] using this
theorem ess_of {H : Type} {enc : TypeId × Value → H} {P : Program} {w : World} {base : Nat} {spare : Nat → Bool} {held : Bool} {t e : TypeId} {f0 f1 f2 f3 f4 : Field} {k : Nat} {a : Option Addr} {n cap : Nat} {x : DataW H × List MemPlace}
    (ht : P.underlying t = some (.slice e)) (hs : P.underlying e = some (.struct #[f0, f1, f2, f3, f4])) (hone : oneCellFields P #[f0, f1, f2, f3, f4] = true) (hC : P.cellsOf e = 5)
    (u0 : P.underlying f0.type = some (.int .i64)) (u1 : P.underlying f1.type = some .string) (u2 : P.underlying f2.type = some .string) (u3 : P.underlying f3.type = some (.int .i64)) (u4 : P.underlying f4.type = some .bool)
    (h : DataW.trod enc P w base spare held k t [.slice a n cap] = some x) : ∃ xs, IsEs w a n cap xs := by
  rcases open_slice ht h with ⟨hc, _⟩ | ⟨y, len, cap', m, k', D, Pl, hc, _, hl, hm, hmm, _, hi⟩
  · simp at hc
    obtain ⟨rfl, rfl, rfl⟩ := hc
    exact ⟨[], ⟨rfl, fun i hi => absurd hi (by omega)⟩, by unfold maxLen; omega, by unfold maxLen; omega, by simp⟩
  · simp at hc
    obtain ⟨rfl, rfl, rfl⟩ := hc
    have hlm : n ≤ m := by rw [hmm]; split <;> omega
    by_cases hn0 : n = 0
    · subst hn0
      exact ⟨[], ⟨rfl, fun i hi => absurd hi (by omega)⟩, by unfold maxLen; omega, hm, by simp⟩
    obtain ⟨b, off, spot⟩ := y
    obtain rfl : spot = none := by
      obtain ⟨cs, hcs, htr⟩ := hi 0 (by omega)
      rw [hC] at hcs
      obtain ⟨_, _, hat⟩ := World.cells?_some hcs
      obtain ⟨x0, x1, x2, x3, x4, rfl, _⟩ := es_of hs hone hC u0 u1 u2 u3 u4 htr
      simpa [Addr.add] using World.cell?_spot (hat 0 (by omega))
    have each : ∀ i, i < n → ∃ q : Es, EsC w b (off + i * 5) q ∧ gdEs q := by
      intro i hin
      obtain ⟨cs, hcs, htr⟩ := hi i (by omega)
      rw [hC] at hcs
      obtain ⟨_, _, hat⟩ := World.cells?_some hcs
      obtain ⟨x0, x1, x2, x3, x4, rfl, hgd⟩ := es_of hs hone hC u0 u1 u2 u3 u4 htr
      have hat' : ∀ f, f < 5 → w.cell? ⟨b, off + i * 5 + f, none⟩ = [Value.int .i64 x0, .string x1, .string x2, .int .i64 x3, .bool x4][f]? := fun f hf => by
        have := hat f hf
        rwa [Go.WideShapes.add_plain, Go.WideShapes.add_plain] at this
      refine ⟨(x0, x1, x2, x3, x4), ⟨cellLt (hat' 0 (by omega)), fun f hf => ?_⟩, hgd⟩
      rw [hat' f hf]
      match f, hf with
      | 0, _ => rfl
      | 1, _ => rfl
      | 2, _ => rfl
      | 3, _ => rfl
      | 4, _ => rfl
    obtain ⟨q, hq⟩ := choose_lt each
    refine ⟨(List.range n).map q, ⟨by simp, fun i hi => ⟨b, off, rfl, ?_⟩⟩, by omega, hm, fun x hx => ?_⟩
    · have := (hq i hi).1
      simpa [hi] using this
    · obtain ⟨i, hi, rfl⟩ := List.mem_map.1 hx
      exact (hq i (by simpa using hi)).2
def sumEs (xs : List Es) : Int := (xs.map fun x => (x.2.1.size : Int) + (x.2.2.1.size : Int)).sum
def totEs (xs : List Es) : Int := xs.length + sumEs xs
theorem sumEs_nonneg (xs : List Es) : 0 ≤ sumEs xs := by
  induction xs with
  | nil => simp [sumEs]
  | cons x xs ih => simp only [sumEs, List.map_cons, List.sum_cons] at *; omega
theorem sumEs_app (xs ys : List Es) : sumEs (xs ++ ys) = sumEs xs + sumEs ys := by simp [sumEs]
theorem sumEs_step {xs : List Es} {k : Nat} (hk : k < xs.length) : sumEs (xs.take (k + 1)) = sumEs (xs.take k) + (((xs[k]?.getD es0).2.1.size : Int) + ((xs[k]?.getD es0).2.2.1.size : Int)) := by
  rw [List.take_succ_eq_append_getElem hk, sumEs_app]
  simp [sumEs, hk]
theorem sumEs_take (xs : List Es) (k : Nat) : sumEs (xs.take k) ≤ sumEs xs := by
  have h := sumEs_app (xs.take k) (xs.drop k)
  rw [List.take_append_drop] at h
  have := sumEs_nonneg (xs.drop k)
  omega
theorem totEs_nonneg (xs : List Es) : (xs.length : Int) ≤ totEs xs := by have := sumEs_nonneg xs; unfold totEs; omega
set_option maxHeartbeats 1000000 in
theorem szEsS_any (a : Option Addr) (n c : Nat) (xs : List Es) (left : Int) (w : World) (h : IsEs w a n c xs) (h1 : 0 ≤ left) (h2 : left ≤ 1048576) :
    Calls Tryd.prog 5 #[.slice a n c, .int .i64 left] w fun e w' => e = .returned (.int .i64 (szQ (totEs xs) left)) ∧ Below w.heap.size w w' := by
  have hnm : (n : Int) ≤ 9223372036854775807 := by have := h.2.1; unfold maxLen at this; omega
  have hl := h.1.1
  have hpos := totEs_nonneg xs
  by_cases hn : left < (n : Int)
  · have HS := Lib.hid (szQ_no (show left < totEs xs by omega))
    have hneg : left - (n : Int) < 0 := by omega
    clear hpos
    go_enter Tryd.func5, Tryd.ntmps5
    go_wp2
    go_ret
    exact ⟨by rw [HS.out]; rfl, by (repeat (first | assumption | exact Below.refl _ _ | refine belowDN ?_ _ | refine Below.drew ?_ | refine Below.setCell ?_ (by first | omega | (simp <;> omega)) _ | refine Below.alloc ?_ (by first | omega | (simp <;> omega)) _ | refine belowCall ?_ (by assumption)))⟩
  have hneg : ¬ left - (n : Int) < 0 := by omega
  have HL := Lib.hid hl
  clear hpos hl
  go_enter Tryd.func5, Tryd.ntmps5
  go_wp2
  go_loopw [1, 5] (fun l i wr => ∃ k : Nat, k ≤ n ∧ i = .int .i64 k ∧ l = .int .i64 (left - n - sumEs (xs.take k)) ∧ 0 ≤ left - n - sumEs (xs.take k) ∧ Below w.heap.size w wr) (fun _ i _ => n - (Go.RowKit.intOf i).toNat)
  case atStart => exact ⟨0, Nat.zero_le _, rfl, by simp [sumEs], by simp [sumEs]; omega, Below.refl _ _⟩
  case round =>
    obtain ⟨k, hk, rfl, rfl, h0, hB⟩ := hrel
    obtain ⟨s, hs⟩ : ∃ s, left - n - sumEs (xs.take k) = s := ⟨_, rfl⟩
    rw [hs] at h0 ⊢
    have hs2 : s ≤ 1048576 := by have := sumEs_nonneg (xs.take k); omega
    have HS := Lib.hid hs
    clear hs
    by_cases hlt : k < n
    · obtain ⟨b, off, rfl, hc⟩ := h.1.2 k hlt
      have hcr := hc.mono hB
      obtain ⟨⟨x0, x1, x2, x3, x4⟩, hx⟩ : ∃ x, xs[k]?.getD es0 = x := ⟨_, rfl⟩
      have hsz1 : x1.size ≤ maxLen := by have := h.at hlt; rw [hx] at this; exact this.2.1
      have hsz2 : x2.size ≤ maxLen := by have := h.at hlt; rw [hx] at this; exact this.2.2.1
      rw [hx] at hcr
      obtain ⟨hbl, c0, c1, c2, c3, c4⟩ := hcr.parts
      have HX := Lib.hid hx
      clear hx hc hcr
      have hstep : Hid (sumEs (xs.take (k + 1)) = sumEs (xs.take k) + ((x1.size : Int) + (x2.size : Int))) := Lib.hid (by rw [sumEs_step (by have := HL.out; omega), HX.out])
      have hkk : (k : Int) < (n : Int) := by omega
      by_cases hbad : s < (x1.size : Int) + (x2.size : Int)
      · have hno := szQ_no hbad
        have HV := Lib.hid (szQ_no (n := totEs xs) (left := left) (by have e1 := hstep.out; have e2 := HS.out; have e3 := sumEs_take xs (k + 1); have e4 := HL.out; unfold totEs; omega))
        go_wp2_with (go_at_call 14; refine (szEs_any _ _ _ _ _ _ _ hsz1 hsz2 h0 hs2).mono ?_; rintro e w' ⟨rfl, hbel⟩; obtain ⟨hc, hf⟩ := bcell hbel; have hz := hbel.size; (try simp at hz); (try simp only [Nat.add_one_le_iff] at hz); (try (have hzw : w.heap.size < w'.heap.size := by omega)); rw [hno])
        go_ret
        exact ⟨by rw [HV.out]; rfl, by (repeat (first | assumption | exact Below.refl _ _ | refine belowDN ?_ _ | refine Below.drew ?_ | refine Below.setCell ?_ (by first | omega | (simp <;> omega)) _ | refine Below.alloc ?_ (by first | omega | (simp <;> omega)) _ | refine belowCall ?_ (by assumption)))⟩
      · have hyes := szQ_yes hbad
        have hge : ¬ s - ((x1.size : Int) + (x2.size : Int)) < 0 := by omega
        go_wp2_with (go_at_call 14; refine (szEs_any _ _ _ _ _ _ _ hsz1 hsz2 h0 hs2).mono ?_; rintro e w' ⟨rfl, hbel⟩; obtain ⟨hc, hf⟩ := bcell hbel; have hz := hbel.size; (try simp at hz); (try simp only [Nat.add_one_le_iff] at hz); (try (have hzw : w.heap.size < w'.heap.size := by omega)); rw [hyes])
        go_roundw
        case rel => exact ⟨k + 1, by omega, by go_num, by congr 1; have e1 := hstep.out; have e2 := HS.out; omega, by have e1 := hstep.out; have e2 := HS.out; omega, belowCall hB hbel⟩
        case measure => simp [Go.RowKit.intOf]; omega
    · obtain rfl : k = n := by omega
      have HV : Hid (szQ (totEs xs) left = s) := Lib.hid (by
        have e2 := HS.out
        have e4 := HL.out
        rw [List.take_of_length_le (by omega)] at e2
        rw [szQ_yes (by unfold totEs; omega)]
        unfold totEs; omega)
      go_wp2
      go_ret
      exact ⟨by rw [HV.out]; rfl, hB⟩
theorem sizeEs {xs : List Es} {l : Int} (h : ¬ l < totEs xs) (hl : l ≤ 1048576) {n : Nat} (hn : xs.length = n) : n ≤ 1048576 := by have h1 := totEs_nonneg xs; omega
theorem Es_info : (Tryd.prog.info? 37).map (fun i => (i.zero, i.size, i.bytes)) = some (some (.agg #[.int .i64 0, .string ByteArray.empty, .string ByteArray.empty, .int .i64 0, .bool false]), 5, 56) := by kernel_rfl
/-- the first k of xs, then zero values, cell by cell -/
def colEs (xs : List Es) (k j : Nat) : Value := if j < k * 5 then fldEs (xs[j / 5]?.getD es0) (j % 5) else fldEs es0 (j % 5)
theorem colEs_at {xs : List Es} {k i f : Nat} (hi : i < k) (hf : f < 5) : colEs xs k (i * 5 + f) = fldEs (xs[i]?.getD es0) f := by
  unfold colEs
  rw [if_pos (by omega), show (i * 5 + f) / 5 = i from by omega, show (i * 5 + f) % 5 = f from by omega]
theorem colEs_put {w : World} {g n k : Nat} {T : TypeId} {xs : List Es} {x0 : Int} {x1 : ByteArray} {x2 : ByteArray} {x3 : Int} {x4 : Bool} (h : w.rowIs g T n (colEs xs k)) (hx : xs[k]?.getD es0 = (x0, x1, x2, x3, x4)) :
    (((((w.setCell ⟨g, k * 5, none⟩ (.int .i64 x0)).setCell ⟨g, k * 5 + 1, none⟩ (.string x1)).setCell ⟨g, k * 5 + 2, none⟩ (.string x2)).setCell ⟨g, k * 5 + 3, none⟩ (.int .i64 x3)).setCell ⟨g, k * 5 + 4, none⟩ (.bool x4)).rowIs g T n (colEs xs (k + 1)) := by
  refine (((((h.set (k * 5) (.int .i64 x0)).set (k * 5 + 1) (.string x1)).set (k * 5 + 2) (.string x2)).set (k * 5 + 3) (.int .i64 x3)).set (k * 5 + 4) (.bool x4)).congr fun i _ => ?_
  by_cases h1 : i < k * 5
  · rw [if_neg (by omega), if_neg (by omega), if_neg (by omega), if_neg (by omega), if_neg (by omega)]
    unfold colEs
    rw [if_pos h1, if_pos (by omega)]
  by_cases h2 : i < (k + 1) * 5
  · obtain ⟨f, hf, rfl⟩ : ∃ f, f < 5 ∧ i = k * 5 + f := ⟨i - k * 5, by omega, by omega⟩
    rw [show colEs xs (k + 1) (k * 5 + f) = fldEs (x0, x1, x2, x3, x4) f from by rw [colEs_at (by omega) hf, hx]]
    match f, hf with
    | 0, _ => simp [fldEs]
    | 1, _ => simp [fldEs]
    | 2, _ => simp [fldEs]
    | 3, _ => simp [fldEs]
    | 4, _ => simp [fldEs]
  · rw [if_neg (by omega), if_neg (by omega), if_neg (by omega), if_neg (by omega), if_neg (by omega)]
    unfold colEs
    rw [if_neg h1, if_neg h2]
theorem EsL.of_row {w : World} {g : Nat} {T : TypeId} {xs : List Es} {n : Nat} (hn : xs.length = n) (h : w.rowIs g T (n * 5) (colEs xs n)) : EsL w (some ⟨g, 0, none⟩) n xs :=
  ⟨hn, fun i hi => ⟨g, 0, rfl, h.lt, fun f hf => by
    rw [show 0 + i * 5 + f = i * 5 + f from by omega, h.cell (by omega), colEs_at hi hf]⟩⟩
theorem made_colEs (n : Nat) (j : Nat) (hj : j < n * 5) (xs : List Es) : ((madeCells (Value.agg #[.int .i64 0, .string ByteArray.empty, .string ByteArray.empty, .int .i64 0, .bool false]).cells (n * 5)).toList[j]?).getD (.bool false) = colEs xs 0 j := by
  have hj5 : j % 5 < 5 := by omega
  simp [madeCells, hj, Value.cells, colEs]
  match h : j % 5, hj5 with
  | 0, _ => rfl
  | 1, _ => rfl
  | 2, _ => rfl
  | 3, _ => rfl
  | 4, _ => rfl
set_option maxHeartbeats 1000000 in
theorem toEsS_any (a : Option Addr) (n c : Nat) (xs : List Es) (w : World) (h : EsL w a n xs) (hn : n ≤ 1048576) :
    Calls Tryd.prog 7 #[.slice a n c] w fun e w' => ∃ g, e = .returned (.slice (some ⟨g, 0, none⟩) n n) ∧ w.heap.size ≤ g ∧ w'.rowIs g 37 (n * 5) (colEs xs n) ∧ Below w.heap.size w w' := by
  obtain ⟨i0, hi, hz0, hz1, hz2⟩ := info_parts Es_info
  have hb : n ≤ maxLen := by unfold maxLen; omega
  have hl : (n : Int) ≤ 1048576 := by omega
  go_enter Tryd.func7, Tryd.ntmps7
  go_wp2_with (at_make; refine wpList_make_full _ rfl _ _ 25 rfl w.heap.size 37 i0 _ 5 Tryd.underlying25 hi hz0 hz1 .i64 .i64 n n n rfl rfl rfl rfl (by rw [hz2]; omega) hb (Nat.le_refl _) ?_; intro w1 hown hgrow)
  have hrow := (rowM hown).congr (fun j hj => made_colEs n j hj xs)
  have hB1 : Below w.heap.size w w1 := (Below.refl _ _).grown hgrow (Nat.le_refl _) (fun k hk => by cases hk)
  clear hown hgrow
  go_loopw [4] (fun i wr => ∃ k : Nat, k ≤ n ∧ i = .int .i64 k ∧ wr.rowIs w.heap.size 37 (n * 5) (colEs xs k) ∧ Below w.heap.size w wr) (fun i _ => n - (Go.RowKit.intOf i).toNat)
  case atStart => exact ⟨0, Nat.zero_le _, rfl, hrow, hB1⟩
  case round =>
    obtain ⟨k, hk, rfl, hr, hB⟩ := hrel
    clear hrow hB1
    by_cases hlt : k < n
    · obtain ⟨b, off, rfl, hc⟩ := h.2 k hlt
      have hcr := hc.mono hB
      obtain ⟨⟨x0, x1, x2, x3, x4⟩, hx⟩ : ∃ x, xs[k]?.getD es0 = x := ⟨_, rfl⟩
      rw [hx] at hcr
      obtain ⟨hbl, c0, c1, c2, c3, c4⟩ := hcr.parts
      have HX := Lib.hid hx
      clear hx hc hcr
      have hkk : (k : Int) < (n : Int) := by omega
      go_wp2_with fail
      refine (toEs_any _ _ _ _ _ _).mono ?_
      rintro e w2 ⟨rfl, b2⟩
      have hr2 := rowB hr b2
      have hB2 := belowCall hB b2
      have d0 := hr2.cell (show k * 5 < n * 5 by omega)
      have d1 := hr2.cell (show k * 5 + 1 < n * 5 by omega)
      have d2 := hr2.cell (show k * 5 + 2 < n * 5 by omega)
      have d3 := hr2.cell (show k * 5 + 3 < n * 5 by omega)
      have d4 := hr2.cell (show k * 5 + 4 < n * 5 by omega)
      have z0 := hr2.frozen (k * 5)
      have z1 := hr2.frozen (k * 5 + 1)
      have z2 := hr2.frozen (k * 5 + 2)
      have z3 := hr2.frozen (k * 5 + 3)
      have z4 := hr2.frozen (k * 5 + 4)
      have hP := colEs_put hr2 HX.out
      go_wp2
      go_roundw
      case rel => exact ⟨k + 1, by omega, by go_num, hP, by (repeat (first | assumption | exact Below.refl _ _ | refine belowDN ?_ _ | refine Below.drew ?_ | refine Below.setCell ?_ (by first | omega | (simp <;> omega)) _ | refine Below.alloc ?_ (by first | omega | (simp <;> omega)) _ | refine belowCall ?_ (by assumption)))⟩
      case measure => simp [Go.RowKit.intOf]; omega
    · obtain rfl : k = n := by omega
      go_wp2
      go_ret
      exact ⟨_, rfl, Nat.le_refl _, hr, hB⟩
set_option maxRecDepth 100000 in
set_option maxHeartbeats 1000000 in
theorem eqEsS_self (a b : Option Addr) (n c c' : Nat) (xs : List Es) (w : World) (h : EsL w a n xs) (h' : EsL w b n xs) (hn : n ≤ 1048576) :
    Calls Tryd.prog 9 #[.slice a n c, .slice b n c'] w fun e w' => e = .returned (.bool true) ∧ Below w.heap.size w w' := by
  have hl : (n : Int) ≤ 1048576 := by omega
  go_enter Tryd.func9, Tryd.ntmps9
  go_wp2
  go_loopw [5] (fun i wr => ∃ k : Nat, k ≤ n ∧ i = .int .i64 k ∧ Below w.heap.size w wr) (fun i _ => n - (Go.RowKit.intOf i).toNat)
  case atStart => exact ⟨0, Nat.zero_le _, rfl, Below.refl _ _⟩
  case round =>
    obtain ⟨k, hk, rfl, hB⟩ := hrel
    by_cases hlt : k < n
    · obtain ⟨b1, o1, rfl, hc⟩ := h.2 k hlt
      obtain ⟨b2, o2, rfl, hc'⟩ := h'.2 k hlt
      obtain ⟨⟨x0, x1, x2, x3, x4⟩, hx⟩ : ∃ x, xs[k]?.getD es0 = x := ⟨_, rfl⟩
      rw [hx] at hc hc'
      obtain ⟨p, p0, p1, p2, p3, p4⟩ := (hc.mono hB).parts
      obtain ⟨q, q0, q1, q2, q3, q4⟩ := (hc'.mono hB).parts
      clear hx hc hc'
      have hkk : (k : Int) < (n : Int) := by omega
      go_wp2
      go_still_tail 8, (by kernel_rfl)
      have hBd : Below w.heap.size w wr.drew := hB.drew
      change wpList _ _ _ _ _ wr.drew
      generalize wr.drew = w2 at hBd ⊢
      go_wp2_with fail
      refine (eqEs_self _ _ _ _ _ _).mono ?_
      rintro e w3 ⟨rfl, b3⟩
      go_wp2
      go_roundw
      case rel => exact ⟨k + 1, by omega, by go_num, belowCall hBd b3⟩
      case measure => simp [Go.RowKit.intOf]; omega
    · obtain rfl : k = n := by omega
      go_wp2
      go_ret
      exact ⟨rfl, hB⟩
end Go.Proofs.YtfnjndbnogeddaaDoor
