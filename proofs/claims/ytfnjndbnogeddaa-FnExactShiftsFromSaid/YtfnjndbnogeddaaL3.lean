/- l05From, the model's. -/
import Derived.Test.YtfnjndbnogeddaaL2
namespace Go.Proofs.Ytfnjndbnogeddaa
open Go.ChangeShapes Go.WideShapes Go.ChangeAt Go.RowKit Go.Deep

/-- a row of c cells of block g that the call owns -/
def RowA (B T : Nat) (w : World) (g c : Nat) (f : Nat → Value) : Prop := w.ownsRow B T 1 (.slice (some ⟨g, 0, none⟩) c c) c (rowF c f)
theorem RowA.below {B T g c : Nat} {f : Nat → Value} {w w' : World} (h : RowA B T w g c f) (hb : Below w.heap.size w w') : RowA B T w' g c f :=
  World.ownsRow.kept h (grown_of_below5 hb) (.inr (by simp [Value.ownBlock]))
theorem RowA.cell {B T g c j : Nat} {f : Nat → Value} {w : World} (h : RowA B T w g c f) (hj : j < c) : w.cell? ⟨g, j, none⟩ = some (f j) := by
  rw [World.ownsRow.cellAt h j (by omega), rowF_at f hj]
theorem RowA.lt {B T g c : Nat} {f : Nat → Value} {w : World} (h : RowA B T w g c f) : B ≤ g ∧ g < w.heap.size := World.ownsRow.lt h g rfl
theorem RowA.set {B T g c : Nat} {f : Nat → Value} {w : World} (h : RowA B T w g c f) (j : Nat) (u : Value) : RowA B T (w.setCell ⟨g, j, none⟩ u) g c (fun b => if b = j then u else f b) := by
  have := (World.ownsRow.stored h j u).1
  rw [rowF_set] at this
  exact this
theorem RowA.other {B T g c g' j : Nat} {f : Nat → Value} {w : World} (h : RowA B T w g c f) (hne : g ≠ g') (u : Value) : RowA B T (w.setCell ⟨g', j, none⟩ u) g c f :=
  World.ownsRow.kept (row := some g') h ⟨rfl, rfl, rfl, (KeepsWalks.setCell w _ u).size, fun k _ hk => Below.heap_setCell _ _ _ k (fun e => hk (by rw [e]))⟩ (.inr (fun e => by simp only [Value.ownBlock, Option.some.injEq] at e; exact hne (by first | exact e | exact e.symm)))
theorem RowA.congr {B T g c : Nat} {f f' : Nat → Value} {w : World} (h : RowA B T w g c f) (e : ∀ j, j < c → f j = f' j) : RowA B T w g c f' := by
  unfold RowA
  rw [← rowF_congr e]
  exact h
theorem B_info : (Try.prog.info? 4).map (fun i => (i.zero, i.size, i.bytes)) = some (some (.bool false), 1, 1) := by kernel_rfl
/-- how many have no shift yet, read off the row of marks -/
def leftW (g c : Nat) (w : World) : Nat := ((List.range c).filter fun j => match w.cell? ⟨g, j, none⟩ with
  | some (.bool b) => !b
  | _ => false).length
theorem leftW_is {B T g c : Nat} {kn : Kn} {w : World} (h : RowA B T w g c (soV kn)) : leftW g c w + knC c kn = c := by
  have e : leftW g c w = ((List.range c).filter fun b => !(kn b).isSome).length := by
    unfold leftW
    congr 1
    apply List.filter_congr
    intro j hj
    rw [h.cell (List.mem_range.1 hj)]
    rfl
  rw [e, knC, ← List.countP_eq_length_filter, ← List.countP_eq_length_filter]
  have := List.length_eq_countP_add_countP (fun b => (kn b).isSome) (l := List.range c)
  rw [List.length_range] at this
  have e2 : List.countP (fun a => decide ¬(kn a).isSome = true) (List.range c) = List.countP (fun b => !(kn b).isSome) (List.range c) := by
    apply List.countP_congr
    intro x _
    cases (kn x).isSome <;> simp
  omega
def kn0 (first : Nat) : Kn := fun b => if b = first then some 0 else none
def FromE (B : Nat) (xs : List Cm) (c : Nat) (first : Nat) (w : World) (e : Ending) (w' : World) : Prop := ∃ gS gK i, e = .returned (.tuple #[.slice (some ⟨gS, 0, none⟩) c c, .slice (some ⟨gK, 0, none⟩) c c]) ∧ newQ xs c (itK xs c (kn0 first) i) = [] ∧
  RowA B 2 w' gS c (shV (itK xs c (kn0 first) i)) ∧ RowA B 4 w' gK c (soV (itK xs c (kn0 first) i)) ∧ Below B w w'
theorem newQ_mem {xs : List Cm} {c : Nat} {kn : Kn} {b : Nat} : b ∈ newQ xs c kn ↔ b < c ∧ kn b = none ∧ offL xs kn (List.range c) b ≠ [] := by
  simp only [newQ, List.mem_filter, List.mem_range, Bool.and_eq_true, Option.isNone_iff_eq_none, Bool.not_eq_true', List.isEmpty_eq_false_iff]
theorem rndK_new {xs : List Cm} {c : Nat} {kn : Kn} {b : Nat} (hb : b < c) (hk : kn b = none) (h : offL xs kn (List.range c) b ≠ []) : rndK xs c kn b = some (medN (offL xs kn (List.range c) b)) := by
  unfold rndK; rw [hk]; simp only []; rw [if_pos ⟨hb, h⟩]
theorem rndK_old {xs : List Cm} {c : Nat} {kn : Kn} {b : Nat} (hk : kn b = none) (h : offL xs kn (List.range c) b = []) : rndK xs c kn b = none := by
  unfold rndK; rw [hk]; simp only []; rw [if_neg (fun h' => h'.2 h)]
theorem mid_same {xs : List Cm} {c k : Nat} {kn : Kn} (h : rndK xs c kn k = kn k) (j : Nat) : shV (midK xs c kn k) j = shV (midK xs c kn (k + 1)) j := by
  unfold shV midK
  by_cases e : j = k
  · subst e; rw [if_neg (by omega), if_pos (by omega), h]
  · by_cases h1 : j < k
    · rw [if_pos h1, if_pos (by omega)]
    · rw [if_neg h1, if_neg (by omega)]
theorem fr_same {xs : List Cm} {c k : Nat} {kn : Kn} (h : rndK xs c kn k = kn k) (j : Nat) : frV xs c kn k j = frV xs c kn (k + 1) j := by
  unfold frV
  by_cases e : j = k
  · subst e
    rw [h]
    cases kn j <;> simp
  · by_cases h1 : j < k
    · simp [h1, show j < k + 1 by omega]
    · simp [h1, show ¬ j < k + 1 by omega]
theorem mid_set {xs : List Cm} {c k : Nat} {kn : Kn} {v : Int} (h : rndK xs c kn k = some v) (j : Nat) : (if j = k then Value.int .i64 v else shV (midK xs c kn k) j) = shV (midK xs c kn (k + 1)) j := by
  unfold shV midK
  by_cases e : j = k
  · subst e; rw [if_pos rfl, if_pos (by omega), h]; rfl
  · rw [if_neg e]
    by_cases h1 : j < k
    · rw [if_pos h1, if_pos (by omega)]
    · rw [if_neg h1, if_neg (by omega)]
theorem fr_set {xs : List Cm} {c k : Nat} {kn : Kn} {v : Int} (hk : kn k = none) (h : rndK xs c kn k = some v) (j : Nat) : (if j = k then Value.bool true else frV xs c kn k j) = frV xs c kn (k + 1) j := by
  unfold frV
  by_cases e : j = k
  · subst e; rw [if_pos rfl, hk, h]; simp
  · rw [if_neg e]
    by_cases h1 : j < k
    · simp [h1, show j < k + 1 by omega]
    · simp [h1, show ¬ j < k + 1 by omega]
theorem so_set {xs : List Cm} {c m : Nat} {kn : Kn} {v : Bool} (h : soV (rndK xs c kn) m = .bool v) (b : Nat) : (if b = m then Value.bool v else if b < m then soV (rndK xs c kn) b else soV kn b) = if b < m + 1 then soV (rndK xs c kn) b else soV kn b := by
  by_cases e : b = m
  · subst e; rw [if_pos rfl, if_pos (by omega), h]
  · rw [if_neg e]
    by_cases h1 : b < m
    · rw [if_pos h1, if_pos (by omega)]
    · rw [if_neg h1, if_neg (by omega)]
theorem offO_known {xs : List Cm} {kn : Kn} {b a : Nat} {s : Int} (h : kn a = some s) : offO xs kn b a = (difL a b xs).map fun d => s - d := by unfold offO; rw [h]
theorem offO_not {xs : List Cm} {kn : Kn} {b a : Nat} (h : kn a = none) : offO xs kn b a = [] := by unfold offO; rw [h]
theorem take_off {D : List Int} {m : Nat} {s d : Int} (hm : m < D.length) (hd : D[m]?.getD 0 = d) : (D.take (m + 1)).map (fun d => s - d) = (D.take m).map (fun d => s - d) ++ [s - d] := by
  rw [List.take_succ_eq_append_getElem hm, List.map_append]
  have e : D[m] = d := by simpa [hm] using hd
  rw [e]; rfl
set_option maxRecDepth 100000 in
set_option maxHeartbeats 8000000 in
theorem l05From_any (c : Nat) (first : Nat) (a : Option Addr) (n cap : Nat) (xs : List Cm) (w : World) (h : CmL w a n xs) (hn : n ≤ 60) (hc : c ≤ 40) (hf : first < c) (hall : xs.all (cmB c) = true) :
    Calls Try.prog 39 #[.int .i64 c, .slice a n cap, .int .i64 first] w (FromE w.heap.size xs c first w) := by
  obtain ⟨i0, hi, hz0, hz1, hz2⟩ := info_parts A_info
  obtain ⟨j0, hj, hy0, hy1, hy2⟩ := info_parts B_info
  have hb : c ≤ maxLen := by unfold maxLen; omega
  have HL := Lib.hid h.1
  have HA := Lib.hid hall
  clear hall
  have hff : (first : Int) < (c : Int) := by omega
  go_enter Try.func39, Try.ntmps39
  go_wp2_with (first | (at_make; refine wpList_make_full _ rfl _ _ 38 rfl w.heap.size 2 i0 (.int .i64 0) 1 Try.underlying38 hi hz0 hz1 .i64 .i64 c c c rfl rfl rfl rfl (by rw [hz2]; omega) hb (Nat.le_refl _) ?_; intro w1 hS0 hg1) | (at_make; refine wpList_make_full _ rfl _ _ 63 rfl w.heap.size 4 j0 (.bool false) 1 Try.underlying63 hj hy0 hy1 .i64 .i64 c c c rfl rfl rfl rfl (by rw [hy2]; omega) hb hg1.size ?_; intro w2 hK0 hg2; rw [rowF_made _ rfl] at hS0 hK0; have hK1 : RowA w.heap.size 4 w2 w1.heap.size c (fun _ => .bool false) := hK0; have hS1 : RowA w.heap.size 2 w2 w.heap.size c (fun _ => .int .i64 0) := World.ownsRow.kept hS0 hg2 (.inr (by simp [Value.ownBlock])); have hkc := hK1.cell hf; have hkf := World.ownsRow.frozenAt hK1 first))
  have hgS : w.heap.size < w1.heap.size := hS0.lt w.heap.size rfl |>.2
  have hK2 := (hK1.set first (.bool true)).congr (f' := soV (kn0 first)) (fun j _ => by unfold soV kn0; by_cases e : j = first <;> simp [e])
  have hS2 := (hS1.other (g' := w1.heap.size) (j := first) (by omega) (.bool true)).congr (f' := shV (kn0 first)) (fun j _ => by unfold shV kn0; by_cases e : j = first <;> simp [e])
  have hB2 : Below w.heap.size w (w2.setCell ⟨w1.heap.size, first, none⟩ (.bool true)) := (((Below.refl _ w).grown hg1 (Nat.le_refl _) (fun k e => by cases e)).grown hg2 (by omega) (fun k e => by cases e)).setCell (p := ⟨w1.heap.size, first, none⟩) (by simp; omega) _
  have hbd0 : BndK 0 (kn0 first) := fun b s e => by unfold kn0 at e; split at e <;> cases e; omega
  have hkn0 : 1 ≤ knC c (kn0 first) := by
    have : first ∈ (List.range c).filter fun b => (kn0 first b).isSome := List.mem_filter.2 ⟨List.mem_range.2 hf, by simp [kn0]⟩
    exact List.length_pos_of_mem this
  generalize hgK : w1.heap.size = gK at *
  generalize w2.setCell ⟨gK, first, none⟩ (.bool true) = w3 at hK2 hS2 hB2 ⊢
  clear hS0 hK0 hg1 hg2 hS1 hK1 hkc hkf hgK
  go_loopw [10] (fun v wr => ∃ (i : Nat) (g : Bool), v = .bool g ∧ (g = true → i + 1 ≤ knC c (itK xs c (kn0 first) i)) ∧ (g = false → newQ xs c (itK xs c (kn0 first) i) = []) ∧ BndK i (itK xs c (kn0 first) i) ∧
      RowA w.heap.size 2 wr w.heap.size c (shV (itK xs c (kn0 first) i)) ∧ RowA w.heap.size 4 wr gK c (soV (itK xs c (kn0 first) i)) ∧ Below w.heap.size w wr) (fun v wr => match v with
      | .bool true => 1 + leftW gK c wr
      | _ => 0)
  case atStart => exact ⟨0, true, rfl, fun _ => hkn0, (fun e => by cases e), hbd0, hS2, hK2, hB2⟩
  case round =>
    obtain ⟨i, g, rfl, hg1, hg2, hbd, hS, hK, hB⟩ := hrel
    clear hS2 hK2 hB2
    have HG1 := Lib.hid hg1
    have HG2 := Lib.hid hg2
    clear hg1 hg2
    cases g
    · have HQ := Lib.hid (HG2.out rfl)
      go_wp2
      go_ret2
      exact ⟨_, _, i, rfl, HQ.out, hS, hK, hB⟩
    · have hi1 := HG1.out rfl
      have hic := knC_le c (itK xs c (kn0 first) i)
      have hgl := hK.lt
      go_wp2_with (at_make; refine wpList_make_full _ rfl _ _ 63 rfl w.heap.size 4 j0 (.bool false) 1 Try.underlying63 hj hy0 hy1 .i64 .i64 c c c rfl rfl rfl rfl (by rw [hy2]; omega) hb hB.size ?_; intro w4 hF0 hg4; rw [rowF_made _ rfl] at hF0)
      have hF4 : RowA w.heap.size 4 w4 wr.heap.size c (frV xs c (itK xs c (kn0 first) i) 0) := RowA.congr (f := fun _ => .bool false) hF0 (fun j _ => by simp [frV])
      have hS4 : RowA w.heap.size 2 w4 w.heap.size c (shV (midK xs c (itK xs c (kn0 first) i) 0)) := RowA.congr (World.ownsRow.kept hS hg4 (.inr (by simp [Value.ownBlock]))) (fun j _ => by simp [shV, midK])
      have hK4 : RowA w.heap.size 4 w4 gK c (soV (itK xs c (kn0 first) i)) := World.ownsRow.kept hK hg4 (.inr (by simp [Value.ownBlock]))
      have hB4 : Below w.heap.size w w4 := hB.grown hg4 hB.size (fun k e => by cases e)
      have hMS : leftW gK c wr + knC c (itK xs c (kn0 first) i) = c := leftW_is hK
      have hIT : itK xs c (kn0 first) (i + 1) = rndK xs c (itK xs c (kn0 first) i) := rfl
      have HIT := Lib.hid hIT
      clear hIT
      generalize itK xs c (kn0 first) i = kn at *
      have hgF : gK < wr.heap.size := hgl.2
      generalize hgFF : wr.heap.size = gF at hF4 hgF
      clear hS hK hB hF0 hg4 HG1 HG2 hgFF
      go_loopw [10, 12] (fun v i2 wq => ∃ (k : Nat) (g : Bool), k ≤ c ∧ i2 = .int .i64 k ∧ v = .bool g ∧ (g = true → newQ xs c kn ≠ []) ∧ (g = false → ∀ b, b < k → b ∉ newQ xs c kn) ∧
        RowA w.heap.size 2 wq w.heap.size c (shV (midK xs c kn k)) ∧ RowA w.heap.size 4 wq gK c (soV kn) ∧ RowA w.heap.size 4 wq gF c (frV xs c kn k) ∧ Below w.heap.size w wq) (fun _ i2 _ => c - (Go.RowKit.intOf i2).toNat)
      case atStart => exact ⟨0, false, Nat.zero_le _, rfl, rfl, (fun e => by cases e), (fun _ b hb => absurd hb (by omega)), hS4, hK4, hF4, hB4⟩
      case round =>
        obtain ⟨k, g, hk, rfl, rfl, hg1, hg2, hS, hK, hF, hB⟩ := hrel
        clear hS4 hK4 hF4 hB4
        have HG1 := Lib.hid hg1
        have HG2 := Lib.hid hg2
        clear hg1 hg2
        have hFl := hF.lt
        have hKl := hK.lt
        have hSl := hS.lt
        by_cases hlt : k < c
        · have hkk : (k : Int) < (c : Int) := by omega
          have ck := hK.cell hlt
          cases hkn : kn k with
          | some s =>
            have hsame : rndK xs c kn k = kn k := by rw [rndK_some hkn, hkn]
            have HSm := Lib.hid hsame
            simp only [soV, hkn, Option.isSome_some] at ck
            have HNQ : Hid (k ∉ newQ xs c kn) := Lib.hid (fun h => by rw [newQ_mem] at h; rw [hkn] at h; cases h.2.1)
            clear hsame
            go_wp2
            go_roundw
            case rel => exact ⟨k + 1, g, by omega, by go_num, rfl, HG1.out, (fun e b hb => by
                by_cases e2 : b = k
                · subst e2; exact HNQ.out
                · exact HG2.out e b (by omega)), hS.congr (fun j _ => mid_same HSm.out j), hK, hF.congr (fun j _ => fr_same HSm.out j), hB⟩
            case measure => simp [Go.RowKit.intOf]; omega
          | none =>
            simp only [soV, hkn, Option.isSome_none] at ck
            have HKN := Lib.hid hkn
            clear hkn
            obtain ⟨wA, hwA⟩ : ∃ x, x = wr := ⟨_, rfl⟩
            subst hwA
            go_wp2
            go_loopw [13, 14] (fun o j3 wq2 => ∃ (j g3 cap3 : Nat), j ≤ c ∧ j3 = .int .i64 j ∧ o = .slice (some ⟨g3, 0, none⟩) (offL xs kn (List.range j) k).length cap3 ∧ wq2.ownsRow wA.heap.size 2 1 (.slice (some ⟨g3, 0, none⟩) (offL xs kn (List.range j) k).length cap3) (offL xs kn (List.range j) k).length ((offL xs kn (List.range j) k).map (Value.int .i64)) ∧ Below wA.heap.size wA wq2) (fun _ j3 _ => c - (Go.RowKit.intOf j3).toNat)
            case atStart => exact ⟨0, wA.heap.size, 0, Nat.zero_le _, rfl, rfl, World.ownsRow_lit wA #[] 0 (Nat.le_refl _) (by unfold maxLen; omega) rfl, by (repeat (first | assumption | exact Below.refl _ _ | refine belowDN ?_ _ | refine Below.drew ?_ | refine Below.setCell ?_ (by first | omega | (simp <;> omega)) _ | refine Below.alloc ?_ (by first | omega | (simp <;> omega)) _ | refine belowCall ?_ (by assumption)))⟩
            case round =>
              obtain ⟨j, g3, cap3, hjc, rfl, rfl, hown, hB2⟩ := hrel
              have hsz2 := hB2.size
              have hll := offL_len HL.out kn k j
              have hll2 : (offL xs kn (List.range j) k).length ≤ 40 * 120 := Nat.le_trans hll (Nat.mul_le_mul (by omega) (by omega))
              clear hll
              have ho3 := (hown.lt g3 rfl)
              by_cases hjlt : j < c
              · have hjj : (j : Int) < (c : Int) := by omega
                have qk := (hB2.cell (p := ⟨gK, j, none⟩) hKl.2).trans (hK.cell hjlt)
                have HSTEP := Lib.hid (offL_step xs kn j k)
                cases hkj : kn j with
                | none =>
                  simp only [soV, hkj, Option.isSome_none] at qk
                  have HE := Lib.hid (HSTEP.out.trans (by rw [offO_not hkj, List.append_nil]))
                  clear hkj
                  go_wp2
                  go_roundw
                  case rel => exact ⟨j + 1, g3, cap3, by omega, by go_num, by rw [HE.out], by rw [HE.out]; exact hown, hB2⟩
                  case measure => simp [Go.RowKit.intOf]; omega
                | some s =>
                  simp only [soV, hkj, Option.isSome_some] at qk
                  have qf := (hB2.cell (p := ⟨gF, j, none⟩) hFl.2).trans (hF.cell hjlt)
                  simp only [frV, hkj, Option.isNone_some, Bool.false_and, Bool.and_false] at qf
                  have qs := (hB2.cell (p := ⟨w.heap.size, j, none⟩) hSl.2).trans (hS.cell hjlt)
                  have hms : shV (midK xs c kn k) j = .int .i64 s := by
                    unfold shV midK
                    split
                    · rw [rndK_some hkj]; rfl
                    · rw [hkj]; rfl
                  rw [hms] at qs
                  have hjk : ((j : Int) == (k : Int)) = false := by
                    have : j ≠ k := fun e => by rw [e, HKN.out] at hkj; cases hkj
                    simp; omega
                  have hsb := hbd j s hkj
                  have HE := Lib.hid (HSTEP.out.trans (by rw [offO_known hkj]))
                  have HDB := Lib.hid (difL_bd (a := (j : Int)) (b := (k : Int)) HA.out)
                  have hdl := difL_len (j : Int) (k : Int) xs
                  rw [HL.out] at hdl
                  clear hkj HSTEP
                  generalize offL xs kn (List.range j) k = L at *
                  go_wp2_with fail
                  refine (l05Diffs_any a n cap j k c xs wr (h.mono (belowCall hB hB2)) (by omega) HA.out hjk).mono ?_
                  rintro e w5 ⟨gd, cd, rfl, hownd, b5⟩
                  generalize difL (j : Int) (k : Int) xs = D at *
                  have z5 := b5.size
                  have hgd := hownd.lt gd rfl
                  have hown5 := World.ownsRow.kept hown (grown_of_below5 b5) (.inr (by simp [Value.ownBlock]))
                  have hTW0 : Two wA.heap.size 2 w5 (some ⟨g3, 0, none⟩) cap3 L (some ⟨gd, 0, none⟩) cd D := ⟨hown5, Go.Joins.ownsRow_le hownd hsz2, .inr (fun e => by simp only [Value.ownBlock, Option.some.injEq] at e; omega)⟩
                  have hB5 : Below wA.heap.size wA w5 := belowCall hB2 b5
                  clear hown hownd hown5 b5
                  go_wp2
                  go_loopw [13, 16] (fun o m4 wz => ∃ (m g4 cap4 : Nat), m ≤ D.length ∧ m4 = .int .i64 m ∧ o = .slice (some ⟨g4, 0, none⟩) (L ++ (D.take m).map (fun d => s - d)).length cap4 ∧ Two wA.heap.size 2 wz (some ⟨g4, 0, none⟩) cap4 (L ++ (D.take m).map (fun d => s - d)) (some ⟨gd, 0, none⟩) cd D ∧ Below wA.heap.size wA wz) (fun _ m4 _ => D.length - (Go.RowKit.intOf m4).toNat)
                  case atStart => exact ⟨0, g3, cap3, Nat.zero_le _, rfl, by simp, by simpa using hTW0, hB5⟩
                  case round =>
                    obtain ⟨m, g4, cap4, hm, rfl, rfl, hTW, hB6⟩ := hrel
                    have z6 := hB6.size
                    have hDl : (D.length : Int) ≤ 1048576 := by omega
                    have hML : (L ++ (D.take m).map (fun d => s - d)).length ≤ 40 * 120 + 120 := by
                      rw [List.length_append, List.length_map, List.length_take]; omega
                    by_cases hmlt : m < D.length
                    · have hmm : (m : Int) < (D.length : Int) := by omega
                      obtain ⟨d, hd⟩ : ∃ d, D[m]?.getD 0 = d := ⟨_, rfl⟩
                      have hdb := HDB.out d (by rw [← hd, List.getElem?_eq_getElem hmlt]; exact List.getElem_mem _)
                      have qd : wr.cell? ⟨gd, m, none⟩ = some (.int .i64 d) := by
                        have := (own_lst1 hTW.2.1).2 m hmlt
                        obtain ⟨b9, o9, e9, _, h9⟩ := this
                        cases e9
                        rw [hd, Nat.zero_add] at h9
                        exact h9
                      have qs6 := (hB6.cell (p := ⟨w.heap.size, j, none⟩) hSl.2).trans ((hS.cell hjlt).trans (congrArg some hms))
                      have HTK : Hid (L ++ (D.take (m + 1)).map (fun d => s - d) = (L ++ (D.take m).map (fun d => s - d)) ++ [s - d]) := Lib.hid (by rw [take_off hmlt hd, List.append_assoc])
                      have hw1 : IntKind.i64.wrap (s - d) = s - d := IntWalk.i64_in _ (by omega)
                      clear hd
                      generalize L ++ (D.take m).map (fun d => s - d) = L4 at hTW hML HTK ⊢
                      go_wp2
                      go_region_law (refine Go.step_append_lies _ rfl _ _ 38 rfl wA.heap.size 2 i0 (.int .i64 0) 1 8 Try.underlying38 hi hz0 hz1 hz2 rfl (by decide) _ _ _ rfl (show (wr.alloc (.cells #[.int .i64 (s - d)] 2)).drew.ownsRow _ _ _ _ _ _ from hTW.1.alloc _) ⟨wr.heap.size, 0, none⟩ 1 1 [.int .i64 (s - d)] rfl rfl (cell_one_new wr _ _) (by simp [Value.oneCell']) (by decide) (by unfold maxLen; omega) (by omega) (by simp; omega) _ rfl ?_; intro g7 cc7 wb hownb hgb hlies hglt; have hT2 := hTW.grown (x := s - d) (.cells #[.int .i64 (s - d)] 2) hownb ⟨hgb.os, hgb.tape, hgb.output, hgb.size, hgb.block⟩ hlies; have hBb : Below wA.heap.size wA wb := (show Below wA.heap.size wA (wr.alloc (.cells #[.int .i64 (s - d)] 2)).drew from Below.drew (hB6.alloc (by omega) _)).grown hgb (by simp; omega) (fun j hj => (hTW.1.lt j hj).1))
                      all_goals
                        go_wp2
                        go_roundw
                        case rel => exact ⟨m + 1, g7, cc7, by omega, by go_num, by rw [HTK.out, List.length_append]; rfl, by rw [HTK.out]; exact hT2, hBb⟩
                        case measure => simp [Go.RowKit.intOf]; omega
                    · obtain rfl : m = D.length := by omega
                      rw [List.take_of_length_le (Nat.le_refl _)] at hTW hML ⊢
                      have hT1 := hTW.1
                      have HX := Lib.hid (HE.out.symm)
                      clear hTW HE
                      go_wp2
                      go_roundw
                      case rel => exact ⟨j + 1, g4, cap4, by omega, by go_num, by rw [← HX.out], by rw [← HX.out]; exact hT1, hB6⟩
                      case measure => simp [Go.RowKit.intOf]; omega
              · obtain rfl : j = c := by omega
                have HKC := Lib.hid (fun h => @rndK_new xs j kn k hlt HKN.out h)
                have HKO := Lib.hid (fun h => @rndK_old xs j kn k HKN.out h)
                have HBD := Lib.hid (offL_bd HA.out hbd (List.range j) k)
                have HM := Lib.hid (@newQ_mem xs j kn k)
                generalize hOO : offL xs kn (List.range j) k = O at *
                have hS6 := hS.below hB2
                have hK6 := hK.below hB2
                have hF6 := hF.below hB2
                have hLO : Lst wr (some ⟨g3, 0, none⟩) O.length O := Lst.of_own hown
                have hB6 := belowCall hB hB2
                clear hown hOO
                by_cases h0 : O = []
                · subst h0
                  have HSm : Hid (rndK xs j kn k = kn k) := Lib.hid (by rw [HKO.out rfl, HKN.out])
                  have HNQ : Hid (k ∉ newQ xs j kn) := Lib.hid (fun h => (HM.out.1 h).2.2 rfl)
                  go_wp2
                  go_roundw
                  case rel => exact ⟨k + 1, g, by omega, by go_num, rfl, HG1.out, (fun e b hb => by
                      by_cases e2 : b = k
                      · subst e2; exact HNQ.out
                      · exact HG2.out e b (by omega)), hS6.congr (fun j _ => mid_same HSm.out j), hK6, hF6.congr (fun j _ => fr_same HSm.out j), hB6⟩
                  case measure => simp [Go.RowKit.intOf]; omega
                · have hl0 : 0 < O.length := List.length_pos_iff.2 h0
                  have hd0 : (0 : Int) < (O.length : Int) := by omega
                  have HNEW := Lib.hid (HKC.out h0)
                  have HNQ : Hid (newQ xs j kn ≠ []) := Lib.hid (fun h => by have := HM.out.2 ⟨hlt, HKN.out, h0⟩; rw [h] at this; cases this)
                  go_wp2_with fail
                  refine (l02Median_any (some ⟨g3, 0, none⟩) O.length cap3 O wr hLO (by omega) hl0 (fun x hx => by have := HBD.out x hx; omega)).mono ?_
                  rintro e w7 ⟨ys, hr, hp, rfl, b7⟩
                  have HV : Hid (medP ys = medN O) := Lib.hid (medN_of hr hp)
                  clear hr hp
                  have hS7 := hS6.below b7
                  have hK7 := hK6.below b7
                  have hF7 := hF6.below b7
                  have hB7 := belowCall hB6 b7
                  have ks := hS7.cell hlt
                  have fs := World.ownsRow.frozenAt hS7 k
                  have kf := hF7.cell hlt
                  have ff := World.ownsRow.frozenAt hF7 k
                  go_wp2
                  have hS8 := ((hS7.set k (.int .i64 (medP ys))).other (g' := gF) (j := k) (by omega) (.bool true)).congr (f' := shV (midK xs j kn (k + 1))) (fun b _ => by rw [HV.out]; exact mid_set HNEW.out b)
                  have hK8 := (hK7.other (g' := w.heap.size) (j := k) (by omega) (.int .i64 (medP ys))).other (g' := gF) (j := k) (by omega) (.bool true)
                  have hF8 := ((hF7.other (g' := w.heap.size) (j := k) (by omega) (.int .i64 (medP ys))).set k (.bool true)).congr (f' := frV xs j kn (k + 1)) (fun b _ => fr_set HKN.out HNEW.out b)
                  go_roundw
                  case rel => exact ⟨k + 1, true, by omega, by go_num, rfl, (fun _ => HNQ.out), (fun e => by cases e), hS8, hK8, hF8, (hB7.setCell (p := ⟨w.heap.size, k, none⟩) (by simp) _).setCell (p := ⟨gF, k, none⟩) (by simp; omega) _⟩
                  case measure => simp [Go.RowKit.intOf]; omega
        · obtain rfl : k = c := by omega
          go_wp2
          go_loopw [17] (fun v wz => ∃ m : Nat, m ≤ k ∧ v = .int .i64 m ∧ RowA w.heap.size 2 wz w.heap.size k (shV (midK xs k kn k)) ∧ RowA w.heap.size 4 wz gK k (fun b => if b < m then soV (rndK xs k kn) b else soV kn b) ∧ RowA w.heap.size 4 wz gF k (frV xs k kn k) ∧ Below w.heap.size w wz) (fun v _ => k - (Go.RowKit.intOf v).toNat)
          case atStart => exact ⟨0, Nat.zero_le _, rfl, hS, hK.congr (fun b _ => by simp), hF, hB⟩
          case round =>
            obtain ⟨m, hm, rfl, hS6, hK6, hF6, hB6⟩ := hrel
            by_cases hml : m < k
            · have hmm : (m : Int) < (k : Int) := by omega
              have km := hK6.cell hml
              rw [if_neg (Nat.lt_irrefl m)] at km
              have fm := hF6.cell hml
              have fk := World.ownsRow.frozenAt hK6 m
              cases hkn : kn m with
              | some s =>
                have HV := Lib.hid (so_set (v := true) (xs := xs) (c := k) (kn := kn) (m := m) (by unfold soV; rw [rndK_some hkn]; rfl))
                simp only [soV, hkn, Option.isSome_some] at km
                clear hkn
                go_wp2
                go_roundw
                case rel => exact ⟨m + 1, by omega, by go_num, hS6.other (by omega) _, (hK6.set m (.bool true)).congr (fun b _ => HV.out b), hF6.other (by omega) _, hB6.setCell (p := ⟨gK, m, none⟩) (by simp; omega) _⟩
                case measure => simp [Go.RowKit.intOf]; omega
              | none =>
                simp only [soV, hkn, Option.isSome_none] at km
                simp only [frV, hkn, Option.isNone_none, Bool.true_and, decide_eq_true hml] at fm
                have HV := Lib.hid (fun v h => so_set (v := v) (xs := xs) (c := k) (kn := kn) (m := m) h)
                have hsv : soV (rndK xs k kn) m = .bool (rndK xs k kn m).isSome := rfl
                generalize (rndK xs k kn m).isSome = v at fm hsv
                have HW := Lib.hid (HV.out v hsv)
                clear hkn hsv HV
                go_wp2
                go_roundw
                case rel => exact ⟨m + 1, by omega, by go_num, hS6.other (by omega) _, (hK6.set m (.bool v)).congr (fun b _ => HW.out b), hF6.other (by omega) _, hB6.setCell (p := ⟨gK, m, none⟩) (by simp; omega) _⟩
                case measure => simp [Go.RowKit.intOf]; omega
            · obtain rfl : m = k := by omega
              have hK7 := hK6.congr (f' := soV (rndK xs m kn)) (fun b hb => if_pos hb)
              have hS7 := hS6.congr (f' := shV (rndK xs m kn)) (fun b hb => by unfold shV midK; rw [if_pos hb])
              have hM7 := leftW_is hK7
              have hN7 := @knC_next xs m kn
              have hQ7 : g = false → newQ xs m kn = [] := fun e => List.eq_nil_iff_forall_not_mem.2 (fun b hb => HG2.out e b (newQ_mem.1 hb).1 hb)
              have hBN := BndK.next HA.out hbd (c := m)
              go_wp2
              go_roundw
              case rel => exact ⟨i + 1, g, rfl, (fun e => by rw [HIT.out]; have := hN7 (HG1.out e); omega), (fun e => by rw [HIT.out, newQ_nil (hQ7 e)]; exact hQ7 e), by rw [HIT.out]; exact hBN, by rw [HIT.out]; exact hS7, by rw [HIT.out]; exact hK7, hB6⟩
              case measure =>
                cases g
                · simp; omega
                · have := hN7 (HG1.out rfl)
                  simp; omega
end Go.Proofs.Ytfnjndbnogeddaa
