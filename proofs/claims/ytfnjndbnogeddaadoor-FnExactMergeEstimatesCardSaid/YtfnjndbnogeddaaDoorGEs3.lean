/- Slices of Estimate that a call owns, and the laws' marks on them (by gen.py). -/
import Derived.Test.YtfnjndbnogeddaaDoorGEs2
import Derived.Lib.SliceRun
namespace Go.Proofs.YtfnjndbnogeddaaDoor
open Go.ChangeShapes Go.WideShapes Go.ChangeAt Go.RowKit Go.Deep

/-- the cells of the elements, one behind the other -/
def flatEs (xs : List Es) : List Value := xs.flatMap fun x => [fldEs x 0, fldEs x 1, fldEs x 2, fldEs x 3, fldEs x 4]
theorem flatEs_len (xs : List Es) : (flatEs xs).length = xs.length * 5 := by
  induction xs with
  | nil => rfl
  | cons x xs ih => simp only [flatEs, List.flatMap_cons, List.length_append, List.length_cons, List.length_nil] at *; omega
theorem flatEs_at : ∀ (xs : List Es) (i f : Nat), i < xs.length → f < 5 → (flatEs xs)[i * 5 + f]? = some (fldEs (xs[i]?.getD es0) f)
  | [], i, f, hi, _ => absurd hi (by simp)
  | x :: xs, 0, f, _, hf => by
    match f, hf with
    | 0, _ => rfl
    | 1, _ => rfl
    | 2, _ => rfl
    | 3, _ => rfl
    | 4, _ => rfl
  | x :: xs, i + 1, f, hi, hf => by
    have ih := flatEs_at xs i f (by simpa using hi) hf
    have e : (i + 1) * 5 + f = (i * 5 + f) + 5 := by omega
    rw [e]
    simpa [flatEs] using ih
theorem flatEs_snoc (xs : List Es) (x : Es) : flatEs (xs ++ [x]) = flatEs xs ++ [fldEs x 0, fldEs x 1, fldEs x 2, fldEs x 3, fldEs x 4] := by simp [flatEs]
theorem flatEs_app (xs ys : List Es) : flatEs (xs ++ ys) = flatEs xs ++ flatEs ys := by simp [flatEs]
theorem EsL.of_own {w : World} {B e c n : Nat} {a : Option Addr} {xs : List Es} (h : w.ownsRow B e 5 (.slice a n c) n (flatEs xs)) (hn : xs.length = n) : EsL w a n xs := by
  refine ⟨hn, fun i hi => ?_⟩
  rcases h.2 with ⟨hv, h0⟩ | ⟨g, cap, cur, hv, hBg, hg, _, _, hs, ht⟩
  · omega
  · cases hv
    have hlt : g < w.heap.size := (h.lt g rfl).2
    refine ⟨g, 0, rfl, hlt, fun f hf => ?_⟩
    have := h.cells (g := g) rfl (i * 5 + f) _ (flatEs_at xs i f (by omega) hf)
    rw [Go.WideShapes.add_plain] at this
    rw [← this]
    congr 2
    omega
theorem cellsEs (w : World) (v0 v1 v2 v3 v4 : Value) (T : TypeId) : ∀ j u, [v0, v1, v2, v3, v4][j]? = some u → (w.alloc (.cells #[v0, v1, v2, v3, v4] T)).cell? ((⟨w.heap.size, 0, none⟩ : Addr).add j) = some u := by
  intro j u hj
  rw [Go.WideShapes.add_plain, World.cell?_alloc_new]
  match j, hj with
  | 0, hj => exact hj
  | 1, hj => exact hj
  | 2, hj => exact hj
  | 3, hj => exact hj
  | 4, hj => exact hj
  | j + 5, hj => simp at hj
theorem flatEs_cells {w : World} {a : Addr} {n : Nat} {xs : List Es} (h : EsL w (some a) n xs) : ∀ j u, (flatEs xs)[j]? = some u → w.cell? (a.add j) = some u := by
  intro j u hj
  have hlt : j < xs.length * 5 := by
    have := (List.getElem?_eq_some_iff.1 hj).1
    rwa [flatEs_len] at this
  have hl := h.1
  obtain ⟨b, off, e, hc⟩ := h.2 (j / 5) (by omega)
  cases e
  have h1 := flatEs_at xs (j / 5) (j % 5) (by omega) (by omega)
  rw [show j / 5 * 5 + j % 5 = j from by omega, hj] at h1
  cases h1
  rw [Go.WideShapes.add_plain, ← hc.2 (j % 5) (by omega)]
  congr 2
  omega
theorem flatEs_one (xs : List Es) : ∀ u ∈ flatEs xs, u.oneCell' = true := by
  intro u hu
  simp only [flatEs, List.mem_flatMap] at hu
  obtain ⟨x, _, hx⟩ := hu
  simp at hx
  rcases hx with rfl | rfl | rfl | rfl | rfl <;> rfl
/-- what the mark at cell j is -/
def mvEs (m j : Nat) : Value := if j % 5 = 0 then .int .i64 ((m + j : Nat) : Int) else if j % 5 = 1 then .string (mkB (m + j)) else if j % 5 = 2 then .string (mkB (m + j)) else if j % 5 = 3 then .int .i64 ((m + j : Nat) : Int) else .bool (decide ((m + j) % 3 = 0))
def mfEs (m k j : Nat) : Option Value := if j < k * 5 then some (mvEs m j) else none
theorem mvEs_0 (m k : Nat) : mvEs m (k * 5) = .int .i64 ((m + 5 * k : Nat) : Int) := by
  rw [mvEs, if_pos (by omega)]; congr 2; omega
theorem mvEs_1 (m k : Nat) : mvEs m (k * 5 + 1) = .string (mkB (m + 5 * k + 1)) := by
  rw [mvEs, if_neg (by omega), if_pos (by omega)]; congr 2; omega
theorem mvEs_2 (m k : Nat) : mvEs m (k * 5 + 2) = .string (mkB (m + 5 * k + 2)) := by
  rw [mvEs, if_neg (by omega), if_neg (by omega), if_pos (by omega)]; congr 2; omega
theorem mvEs_3 (m k : Nat) : mvEs m (k * 5 + 3) = .int .i64 ((m + 5 * k + 3 : Nat) : Int) := by
  rw [mvEs, if_neg (by omega), if_neg (by omega), if_neg (by omega), if_pos (by omega)]; congr 2; omega
theorem mvEs_4 (m k : Nat) : mvEs m (k * 5 + 4) = .bool (decide ((m + 5 * k + 4) % 3 = 0)) := by
  rw [mvEs, if_neg (by omega), if_neg (by omega), if_neg (by omega), if_neg (by omega)]; congr 3; omega
theorem mfEs_step {m k : Nat} : ∀ j u, mfEs m (k + 1) j = some u →
    (if j = k * 5 + 4 then some (mvEs m (k * 5 + 4)) else if j = k * 5 + 3 then some (mvEs m (k * 5 + 3)) else if j = k * 5 + 2 then some (mvEs m (k * 5 + 2)) else if j = k * 5 + 1 then some (mvEs m (k * 5 + 1)) else if j = k * 5 then some (mvEs m (k * 5)) else mfEs m k j) = some u := by
  intro j u h
  unfold mfEs at h ⊢
  split at h
  · rename_i hlt
    rw [← h]
    by_cases h4 : j = k * 5 + 4
    · subst h4; rw [if_pos rfl]
    by_cases h3 : j = k * 5 + 3
    · subst h3; rw [if_neg h4, if_pos rfl]
    by_cases h2 : j = k * 5 + 2
    · subst h2; rw [if_neg h4, if_neg h3, if_pos rfl]
    by_cases h1 : j = k * 5 + 1
    · subst h1; rw [if_neg h4, if_neg h3, if_neg h2, if_pos rfl]
    by_cases h0 : j = k * 5
    · subst h0; rw [if_neg h4, if_neg h3, if_neg h2, if_neg h1, if_pos rfl]
    rw [if_neg h4, if_neg h3, if_neg h2, if_neg h1, if_neg h0, if_pos (by omega)]
  · cases h
set_option maxHeartbeats 4000000 in
set_option maxRecDepth 100000 in
theorem markEsS_f (g n m c : Nat) (w : World) (hM : SMG w g (n * 5) (mfEs m 0)) (hn : n ≤ 1048576) (h1 : 1 ≤ m) (hm : m ≤ 100000000) :
    Calls Tryd.prog 12 #[.slice (some ⟨g, 0, none⟩) n c, .int .i64 m] w fun e w' => e = .returned (.int .i64 ((m + 5 * n : Nat) : Int)) ∧ SMG w' g (n * 5) (mfEs m n) ∧ w.grownBy w' (some g) := by
  have hl : (n : Int) ≤ 1048576 := by omega
  go_enter Tryd.func12, Tryd.ntmps12
  go_wp2
  go_loopw [1, 5] (fun a i wr => ∃ (k : Nat), k ≤ n ∧ i = .int .i64 k ∧ a = .int .i64 ((m + 5 * k : Nat) : Int) ∧ SMG wr g (n * 5) (mfEs m k) ∧ w.grownBy wr (some g)) (fun _ i _ => n - (Go.RowKit.intOf i).toNat)
  case atStart => exact ⟨0, Nat.zero_le _, rfl, rfl, hM, gRefl _ _⟩
  case round =>
    obtain ⟨k, hk, rfl, rfl, hrk, hBr⟩ := hrel
    by_cases hlt : k < n
    · have hkk : (k : Int) < (n : Int) := by omega
      obtain ⟨-, ⟨v0, d0, -⟩, z0⟩ := hrk (k * 5) (by omega)
      have hp0 := hrk.put (k * 5) (.int .i64 ((m + 5 * k : Nat) : Int))
      have hb0 := gPut hBr (k * 5) (.int .i64 ((m + 5 * k : Nat) : Int))
      go_wp2_with fail
      refine (markText_z _ (m + 5 * k + 1) _ (by omega) (by omega) (by omega)).mono ?_
      rintro e w3 ⟨rfl, b3⟩
      have hr3 := hp0.below b3
      have hB3 : w.grownBy w3 (some g) := hb0.trans (gBut b3 _)
      obtain ⟨T1, hT1⟩ : ∃ T, mkB (m + 5 * k + 1) = T := ⟨_, rfl⟩
      rw [hT1]
      have HT1 := Lib.hid hT1
      clear hT1
      obtain ⟨-, ⟨v1, d1, -⟩, z1⟩ := hr3 (k * 5 + 1) (by omega)
      have hp1 := hr3.put (k * 5 + 1) (.string T1)
      have hb1 := gPut hB3 (k * 5 + 1) (.string T1)
      go_wp2_with fail
      refine (markText_z _ (m + 5 * k + 2) _ (by omega) (by omega) (by omega)).mono ?_
      rintro e w4 ⟨rfl, b4⟩
      have hr4 := hp1.below b4
      have hB4 : w.grownBy w4 (some g) := hb1.trans (gBut b4 _)
      obtain ⟨T2, hT2⟩ : ∃ T, mkB (m + 5 * k + 2) = T := ⟨_, rfl⟩
      rw [hT2]
      have HT2 := Lib.hid hT2
      clear hT2
      obtain ⟨-, ⟨v2, d2, -⟩, z2⟩ := hr4 (k * 5 + 2) (by omega)
      have hp2 := hr4.put (k * 5 + 2) (.string T2)
      have hb2 := gPut hB4 (k * 5 + 2) (.string T2)
      obtain ⟨-, ⟨v3, d3, -⟩, z3⟩ := hr4 (k * 5 + 3) (by omega)
      have hp3 := hp2.put (k * 5 + 3) (.int .i64 ((m + 5 * k + 3 : Nat) : Int))
      have hb3 := gPut hb2 (k * 5 + 3) (.int .i64 ((m + 5 * k + 3 : Nat) : Int))
      obtain ⟨-, ⟨v4, d4, -⟩, z4⟩ := hr4 (k * 5 + 4) (by omega)
      have hp4 := hp3.put (k * 5 + 4) (.bool (((m : Int) + 5 * k + 1 + 1 + 1 + 1) % 3 == 0))
      have hb4 := gPut hb3 (k * 5 + 4) (.bool (((m : Int) + 5 * k + 1 + 1 + 1 + 1) % 3 == 0))
      have hm3_4 := mod3B (n := m + 5 * k + 4) (z := (m : Int) + 5 * k + 1 + 1 + 1 + 1) (by omega)
      have HP := Lib.hid (hp4.congr (f' := mfEs m (k + 1)) (fun j u _ hu => by have := mfEs_step j u hu; simpa only [mvEs_0, mvEs_1, mvEs_2, mvEs_3, mvEs_4, HT1.out, HT2.out, hm3_4] using this))
      have HB := Lib.hid hb4
      clear hrk hr3 hr4 hp0 hp1 hp2 hp3 hp4 hb0 hb1 hb2 hb3 hb4 hB3 hB4
      go_wp2
      go_roundw
      case rel => exact ⟨k + 1, by omega, by go_num, by go_num, HP.out, HB.out⟩
      case measure => simp [Go.RowKit.intOf]; omega
    · obtain rfl : k = n := by omega
      go_wp2
      go_ret
      exact ⟨rfl, hrk, hBr⟩
set_option maxHeartbeats 4000000 in
set_option maxRecDepth 100000 in
theorem heldEsS_f (g n m c : Nat) (w : World) (hM : SMG w g (n * 5) (mfEs m n)) (hn : n ≤ 1048576) (h1 : 1 ≤ m) (hm : m ≤ 100000000) :
    Calls Tryd.prog 13 #[.slice (some ⟨g, 0, none⟩) n c, .int .i64 m] w fun e w' => e = .returned (.int .i64 ((m + 5 * n : Nat) : Int)) ∧ Below w.heap.size w w' := by
  have hl : (n : Int) ≤ 1048576 := by omega
  go_enter Tryd.func13, Tryd.ntmps13
  go_wp2
  go_loopw [1, 5] (fun a i wr => ∃ (k : Nat), k ≤ n ∧ i = .int .i64 k ∧ a = .int .i64 ((m + 5 * k : Nat) : Int) ∧ Below w.heap.size w wr) (fun _ i _ => n - (Go.RowKit.intOf i).toNat)
  case atStart => exact ⟨0, Nat.zero_le _, rfl, rfl, Below.refl _ _⟩
  case round =>
    obtain ⟨k, hk, rfl, rfl, hB⟩ := hrel
    by_cases hlt : k < n
    · have hkk : (k : Int) < (n : Int) := by omega
      have hMr := hM.below hB
      have hv : ∀ f, f < 5 → wr.cell? ⟨g, k * 5 + f, none⟩ = some (mvEs m (k * 5 + f)) := fun f hf => by
        obtain ⟨-, ⟨v, h2, h3⟩, -⟩ := hMr (k * 5 + f) (by omega)
        rw [h2, h3 (mvEs m (k * 5 + f)) (by rw [mfEs, if_pos (by omega)])]
      have hgl := (hMr (k * 5) (by omega)).1
      obtain ⟨T1, hT1⟩ : ∃ T, mkB (m + 5 * k + 1) = T := ⟨_, rfl⟩
      obtain ⟨T2, hT2⟩ : ∃ T, mkB (m + 5 * k + 2) = T := ⟨_, rfl⟩
      have c0 : wr.cell? ⟨g, k * 5, none⟩ = some (.int .i64 ((m : Int) + 5 * k)) := by have := hv 0 (by omega); rw [Nat.add_zero, mvEs_0] at this; exact this.trans (by first | rfl | (congr 2; omega))
      have c1 : wr.cell? ⟨g, k * 5 + 1, none⟩ = some (.string T1) := by have := hv 1 (by omega); rw [mvEs_1, hT1] at this; exact this.trans (by first | rfl | (congr 2; omega))
      have c2 : wr.cell? ⟨g, k * 5 + 2, none⟩ = some (.string T2) := by have := hv 2 (by omega); rw [mvEs_2, hT2] at this; exact this.trans (by first | rfl | (congr 2; omega))
      have c3 : wr.cell? ⟨g, k * 5 + 3, none⟩ = some (.int .i64 ((m : Int) + 5 * k + 1 + 1 + 1)) := by have := hv 3 (by omega); rw [mvEs_3] at this; exact this.trans (by first | rfl | (congr 2; omega))
      have c4 : wr.cell? ⟨g, k * 5 + 4, none⟩ = some (.bool (((m : Int) + 5 * k + 1 + 1 + 1 + 1) % 3 == 0)) := by have := hv 4 (by omega); rw [mvEs_4, mod3B (n := m + 5 * k + 4) (z := (m : Int) + 5 * k + 1 + 1 + 1 + 1) (by omega)] at this; exact this.trans (by first | rfl | (congr 2; omega))
      have hne1 := strSelf T1
      have HT1 := Lib.hid hT1
      have hne2 := strSelf T2
      have HT2 := Lib.hid hT2
      clear hT1 hT2 hv hMr
      have n1 : ∀ x : Int, (x != x) = false := intSelf
      go_wp2
      go_region_held3 (fun W' => W'.cell? ⟨g, k * 5 + 1, none⟩ = some (.string T1)) (first | assumption | exact ((show Below wr.heap.size wr _ by (repeat (first | assumption | exact Below.refl _ _ | refine belowDN ?_ _ | refine Below.drew ?_ | refine Below.setCell ?_ (by first | omega | (simp <;> omega)) _ | refine Below.alloc ?_ (by first | omega | (simp <;> omega)) _ | refine belowCall ?_ (by assumption)))).cell (p := ⟨g, k * 5 + 1, none⟩) hgl).trans c1) (first | (go_at_call 29; refine (markText_z _ (m + 5 * k + 1) _ (by omega) (by omega) (by omega)).mono ?_; rintro e w21 ⟨rfl, b21⟩; rw [HT1.out]; have B21 : Below wr.heap.size wr w21 := belowCall (by (repeat (first | assumption | exact Below.refl _ _ | refine belowDN ?_ _ | refine Below.drew ?_ | refine Below.setCell ?_ (by first | omega | (simp <;> omega)) _ | refine Below.alloc ?_ (by first | omega | (simp <;> omega)) _ | refine belowCall ?_ (by assumption)))) b21))
      all_goals
        have e1_2 := (B21.cell (p := ⟨g, k * 5 + 2, none⟩) hgl).trans c2
        have e1_3 := (B21.cell (p := ⟨g, k * 5 + 3, none⟩) hgl).trans c3
        have e1_4 := (B21.cell (p := ⟨g, k * 5 + 4, none⟩) hgl).trans c4
        go_wp2
        go_region_held3 (fun W' => W'.cell? ⟨g, k * 5 + 2, none⟩ = some (.string T2)) (first | assumption | exact ((show Below wr.heap.size wr _ by (repeat (first | assumption | exact Below.refl _ _ | refine belowDN ?_ _ | refine Below.drew ?_ | refine Below.setCell ?_ (by first | omega | (simp <;> omega)) _ | refine Below.alloc ?_ (by first | omega | (simp <;> omega)) _ | refine belowCall ?_ (by assumption)))).cell (p := ⟨g, k * 5 + 2, none⟩) hgl).trans c2) (first | (go_at_call 29; refine (markText_z _ (m + 5 * k + 2) _ (by omega) (by omega) (by omega)).mono ?_; rintro e w22 ⟨rfl, b22⟩; rw [HT2.out]; have B22 : Below wr.heap.size wr w22 := belowCall (by (repeat (first | assumption | exact Below.refl _ _ | refine belowDN ?_ _ | refine Below.drew ?_ | refine Below.setCell ?_ (by first | omega | (simp <;> omega)) _ | refine Below.alloc ?_ (by first | omega | (simp <;> omega)) _ | refine belowCall ?_ (by assumption)))) b22))
        all_goals
          have e2_3 := (B22.cell (p := ⟨g, k * 5 + 3, none⟩) hgl).trans c3
          have e2_4 := (B22.cell (p := ⟨g, k * 5 + 4, none⟩) hgl).trans c4
          go_wp2
          go_roundw
          case rel => exact ⟨k + 1, by omega, by go_num, by go_num, belowCall hB B22⟩
          case measure => simp [Go.RowKit.intOf]; omega
    · obtain rfl : k = n := by omega
      go_wp2
      go_ret
      exact ⟨rfl, hB⟩
/-- elements whose cells lie in blocks below B -/
def EsLB (B : Nat) (w : World) (a : Option Addr) (n : Nat) (xs : List Es) : Prop :=
  xs.length = n ∧ ∀ i, i < n → ∃ b off, a = some ⟨b, off, none⟩ ∧ b < B ∧ EsC w b (off + i * 5) (xs[i]?.getD es0)
theorem EsL.toB {w : World} {a : Option Addr} {n : Nat} {xs : List Es} (h : EsL w a n xs) : EsLB w.heap.size w a n xs :=
  ⟨h.1, fun i hi => by
    obtain ⟨b, off, e, hc⟩ := h.2 i hi
    exact ⟨b, off, e, hc.1, hc⟩⟩
theorem EsLB.toL {B : Nat} {w : World} {a : Option Addr} {n : Nat} {xs : List Es} (h : EsLB B w a n xs) : EsL w a n xs :=
  ⟨h.1, fun i hi => by
    obtain ⟨b, off, e, _, hc⟩ := h.2 i hi
    exact ⟨b, off, e, hc⟩⟩
theorem EsLB.below {B B' : Nat} {w w' : World} {a : Option Addr} {n : Nat} {xs : List Es} (h : EsLB B w a n xs) (hb : Below B' w w') (hB : B ≤ B') : EsLB B w' a n xs :=
  ⟨h.1, fun i hi => by
    obtain ⟨b, off, e, hlt, hc⟩ := h.2 i hi
    exact ⟨b, off, e, hlt, hc.of_block hb.size (hb.block b (by omega))⟩⟩
theorem EsLB.grown {B g : Nat} {w w' : World} {a : Option Addr} {n : Nat} {xs : List Es} (h : EsLB B w a n xs) (hg : w.grownBy w' (some g)) (hne : B ≤ g) : EsLB B w' a n xs :=
  ⟨h.1, fun i hi => by
    obtain ⟨b, off, e, hlt, hc⟩ := h.2 i hi
    exact ⟨b, off, e, hlt, hc.of_block hg.size (hg.block b hc.1 (by simp; omega))⟩⟩
/-- elements of a call's own, nil where there are none: k = 0: they hold xs; k = n: they hold the marks from m on -/
def EsO (B : Nat) (w : World) (a : Option Addr) (n k m : Nat) (xs : List Es) : Prop :=
  (n = 0 ∧ xs = []) ∨ ∃ g, a = some ⟨g, 0, none⟩ ∧ B ≤ g ∧ SMG w g (n * 5) (mfEs m k) ∧ (k = 0 → EsL w a n xs)
theorem EsO.below {B : Nat} {w w' : World} {a : Option Addr} {n k m : Nat} {xs : List Es} (h : EsO B w a n k m xs) (hb : Below w.heap.size w w') : EsO B w' a n k m xs := by
  rcases h with h | ⟨g, e, h1, h2, h3⟩
  · exact .inl h
  · exact .inr ⟨g, e, h1, h2.below hb, fun hk => (h3 hk).mono hb⟩
theorem EsO.far {B g' : Nat} {w w' : World} {a : Option Addr} {n k m : Nat} {xs : List Es} (h : EsO B w a n k m xs) (hg : w.grownBy w' (some g')) (hne : g' < B) : EsO B w' a n k m xs := by
  rcases h with h | ⟨g, e, h1, h2, h3⟩
  · exact .inl h
  · refine .inr ⟨g, e, h1, h2.far hg (by omega), fun hk => ?_⟩
    have hS := h3 hk
    refine ⟨hS.1, fun i hi => ?_⟩
    obtain ⟨b, o, e', hc⟩ := hS.2 i hi
    rw [e] at e'
    cases e'
    exact ⟨g, 0, e, hc.of_block hg.size (hg.block g hc.1 (by simp; omega))⟩
theorem EsO.toL {B : Nat} {w : World} {a : Option Addr} {n m : Nat} {xs : List Es} (h : EsO B w a n 0 m xs) : EsL w a n xs := by
  rcases h with ⟨h1, h2⟩ | ⟨g, e, h1, h2, h3⟩
  · exact ⟨by simp [h1, h2], fun i hi => absurd hi (by omega)⟩
  · exact h3 rfl
theorem EsO.of_own {w : World} {B e g n c m : Nat} {xs : List Es} (h : w.ownsRow B e 5 (.slice (some ⟨g, 0, none⟩) n c) n (flatEs xs)) (hn : xs.length = n) : EsO B w (some ⟨g, 0, none⟩) n 0 m xs :=
  .inr ⟨g, rfl, (h.lt g rfl).1, (SMG.of_own h).congr (fun j u _ hu => by simp [mfEs] at hu), fun _ => EsL.of_own h hn⟩
/-- a call's answer: a list of its own, and a value beside it -/
def EsRes (B : Nat) (L : List Es) (v : Value) (w : World) (e : Ending) : Prop := ∃ a c, e = .returned (.tuple #[.slice a L.length c, v]) ∧ ∀ m, EsO B w a L.length 0 m L
theorem EsRes.nil (B : Nat) (v : Value) (w : World) : EsRes B [] v w (.returned (.tuple #[.slice none 0 0, v])) := ⟨none, 0, rfl, fun _ => .inl ⟨rfl, rfl⟩⟩
theorem EsRes.own {B e n : Nat} {u v : Value} {xs : List Es} {w : World} (h : w.ownsRow B e 5 u n (flatEs xs)) (hn : xs.length = n) : EsRes B xs v w (.returned (.tuple #[u, v])) := by
  subst hn
  rcases h.2 with ⟨hv, h0⟩ | ⟨g, cap, cur, hv, _⟩
  · subst hv
    have : xs = [] := List.length_eq_zero_iff.1 h0
    subst this
    exact EsRes.nil B v w
  · subst hv
    exact ⟨_, cap, rfl, fun _ => EsO.of_own h rfl⟩
theorem EsO.low {B B' : Nat} {w : World} {a : Option Addr} {n k m : Nat} {xs : List Es} (h : EsO B w a n k m xs) (hB : B' ≤ B) : EsO B' w a n k m xs := by
  rcases h with h | ⟨g, e, h1, h2, h3⟩
  · exact .inl h
  · exact .inr ⟨g, e, Nat.le_trans hB h1, h2, h3⟩
theorem EsRes.low {B B' : Nat} {L : List Es} {v : Value} {w : World} {e : Ending} (h : EsRes B L v w e) (hB : B' ≤ B) : EsRes B' L v w e := by
  obtain ⟨a, c, h1, h2⟩ := h
  exact ⟨a, c, h1, fun m => (h2 m).low hB⟩
set_option maxHeartbeats 1000000 in
theorem markEsS_o (a : Option Addr) (n m c B : Nat) (xs : List Es) (w0 w : World) (hB : Below B w0 w) (hBs : B ≤ w.heap.size) (hM : EsO B w a n 0 m xs) (hn : n ≤ 1048576) (h1 : 1 ≤ m) (hm : m ≤ 100000000) :
    Calls Tryd.prog 12 #[.slice a n c, .int .i64 m] w fun e w' => e = .returned (.int .i64 ((m + 5 * n : Nat) : Int)) ∧ EsO B w' a n n m [] ∧ Below B w0 w' := by
  rcases hM with ⟨rfl, rfl⟩ | ⟨g, rfl, h2, h3, -⟩
  · go_enter Tryd.func12, Tryd.ntmps12
    go_wp2
    go_loopw [1, 5] (fun a i wr => i = .int .i64 0 ∧ a = .int .i64 (m : Int) ∧ wr = w) (fun _ i _ => 0)
    case atStart => exact ⟨rfl, rfl, rfl⟩
    case round =>
      obtain ⟨rfl, rfl, rfl⟩ := hrel
      go_wp2
      go_ret
      exact ⟨rfl, .inl ⟨rfl, rfl⟩, hB⟩
  · refine (markEsS_f g n m c w h3 hn h1 hm).mono ?_
    rintro e w' ⟨rfl, hM, hb⟩
    refine ⟨rfl, ?_, hB.grown hb hBs (fun j e => by cases e; exact h2)⟩
    by_cases h0 : n = 0
    · exact .inl ⟨h0, rfl⟩
    · exact .inr ⟨g, rfl, h2, hM, fun hk => absurd hk h0⟩
set_option maxHeartbeats 1000000 in
theorem heldEsS_o (a : Option Addr) (n m c B : Nat) (xs : List Es) (w : World) (hM : EsO B w a n n m xs) (hn : n ≤ 1048576) (h1 : 1 ≤ m) (hm : m ≤ 100000000) :
    Calls Tryd.prog 13 #[.slice a n c, .int .i64 m] w fun e w' => e = .returned (.int .i64 ((m + 5 * n : Nat) : Int)) ∧ Below w.heap.size w w' := by
  rcases hM with ⟨rfl, rfl⟩ | ⟨g, rfl, h2, h3, -⟩
  · go_enter Tryd.func13, Tryd.ntmps13
    go_wp2
    go_loopw [1, 5] (fun a i wr => i = .int .i64 0 ∧ a = .int .i64 (m : Int) ∧ wr = w) (fun _ i _ => 0)
    case atStart => exact ⟨rfl, rfl, rfl⟩
    case round =>
      obtain ⟨rfl, rfl, rfl⟩ := hrel
      go_wp2
      go_ret
      exact ⟨rfl, Below.refl _ _⟩
  · exact heldEsS_f g n m c w h3 hn h1 hm
end Go.Proofs.YtfnjndbnogeddaaDoor
