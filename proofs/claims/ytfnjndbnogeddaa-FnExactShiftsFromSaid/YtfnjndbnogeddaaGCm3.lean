/- Slices of Common that a call owns, and the laws' marks on them (by gen.py). -/
import Derived.Test.YtfnjndbnogeddaaGCm2
import Derived.Lib.SliceRun
namespace Go.Proofs.Ytfnjndbnogeddaa
open Go.ChangeShapes Go.WideShapes Go.ChangeAt Go.RowKit Go.Deep

/-- the cells of the elements, one behind the other -/
def flatCm (xs : List Cm) : List Value := xs.flatMap fun x => [fldCm x 0, fldCm x 1, fldCm x 2]
theorem flatCm_len (xs : List Cm) : (flatCm xs).length = xs.length * 3 := by
  induction xs with
  | nil => rfl
  | cons x xs ih => simp only [flatCm, List.flatMap_cons, List.length_append, List.length_cons, List.length_nil] at *; omega
theorem flatCm_at : ∀ (xs : List Cm) (i f : Nat), i < xs.length → f < 3 → (flatCm xs)[i * 3 + f]? = some (fldCm (xs[i]?.getD cm0) f)
  | [], i, f, hi, _ => absurd hi (by simp)
  | x :: xs, 0, f, _, hf => by
    match f, hf with
    | 0, _ => rfl
    | 1, _ => rfl
    | 2, _ => rfl
  | x :: xs, i + 1, f, hi, hf => by
    have ih := flatCm_at xs i f (by simpa using hi) hf
    have e : (i + 1) * 3 + f = (i * 3 + f) + 3 := by omega
    rw [e]
    simpa [flatCm] using ih
theorem flatCm_snoc (xs : List Cm) (x : Cm) : flatCm (xs ++ [x]) = flatCm xs ++ [fldCm x 0, fldCm x 1, fldCm x 2] := by simp [flatCm]
theorem flatCm_app (xs ys : List Cm) : flatCm (xs ++ ys) = flatCm xs ++ flatCm ys := by simp [flatCm]
theorem CmL.of_own {w : World} {B e c n : Nat} {a : Option Addr} {xs : List Cm} (h : w.ownsRow B e 3 (.slice a n c) n (flatCm xs)) (hn : xs.length = n) : CmL w a n xs := by
  refine ⟨hn, fun i hi => ?_⟩
  rcases h.2 with ⟨hv, h0⟩ | ⟨g, cap, cur, hv, hBg, hg, _, _, hs, ht⟩
  · omega
  · cases hv
    have hlt : g < w.heap.size := (h.lt g rfl).2
    refine ⟨g, 0, rfl, hlt, fun f hf => ?_⟩
    have := h.cells (g := g) rfl (i * 3 + f) _ (flatCm_at xs i f (by omega) hf)
    rw [Go.WideShapes.add_plain] at this
    rw [← this]
    congr 2
    omega
theorem cellsCm (w : World) (v0 v1 v2 : Value) (T : TypeId) : ∀ j u, [v0, v1, v2][j]? = some u → (w.alloc (.cells #[v0, v1, v2] T)).cell? ((⟨w.heap.size, 0, none⟩ : Addr).add j) = some u := by
  intro j u hj
  rw [Go.WideShapes.add_plain, World.cell?_alloc_new]
  match j, hj with
  | 0, hj => exact hj
  | 1, hj => exact hj
  | 2, hj => exact hj
  | j + 3, hj => simp at hj
theorem flatCm_cells {w : World} {a : Addr} {n : Nat} {xs : List Cm} (h : CmL w (some a) n xs) : ∀ j u, (flatCm xs)[j]? = some u → w.cell? (a.add j) = some u := by
  intro j u hj
  have hlt : j < xs.length * 3 := by
    have := (List.getElem?_eq_some_iff.1 hj).1
    rwa [flatCm_len] at this
  have hl := h.1
  obtain ⟨b, off, e, hc⟩ := h.2 (j / 3) (by omega)
  cases e
  have h1 := flatCm_at xs (j / 3) (j % 3) (by omega) (by omega)
  rw [show j / 3 * 3 + j % 3 = j from by omega, hj] at h1
  cases h1
  rw [Go.WideShapes.add_plain, ← hc.2 (j % 3) (by omega)]
  congr 2
  omega
theorem flatCm_one (xs : List Cm) : ∀ u ∈ flatCm xs, u.oneCell' = true := by
  intro u hu
  simp only [flatCm, List.mem_flatMap] at hu
  obtain ⟨x, _, hx⟩ := hu
  simp at hx
  rcases hx with rfl | rfl | rfl <;> rfl
/-- what the mark at cell j is -/
def mvCm (m j : Nat) : Value := if j % 3 = 0 then .int .i64 ((m + j : Nat) : Int) else if j % 3 = 1 then .int .i64 ((m + j : Nat) : Int) else .int .i64 ((m + j : Nat) : Int)
def mfCm (m k j : Nat) : Option Value := if j < k * 3 then some (mvCm m j) else none
theorem mvCm_0 (m k : Nat) : mvCm m (k * 3) = .int .i64 ((m + 3 * k : Nat) : Int) := by
  rw [mvCm, if_pos (by omega)]; congr 2; omega
theorem mvCm_1 (m k : Nat) : mvCm m (k * 3 + 1) = .int .i64 ((m + 3 * k + 1 : Nat) : Int) := by
  rw [mvCm, if_neg (by omega), if_pos (by omega)]; congr 2; omega
theorem mvCm_2 (m k : Nat) : mvCm m (k * 3 + 2) = .int .i64 ((m + 3 * k + 2 : Nat) : Int) := by
  rw [mvCm, if_neg (by omega), if_neg (by omega)]; congr 2; omega
theorem mfCm_step {m k : Nat} : ∀ j u, mfCm m (k + 1) j = some u →
    (if j = k * 3 + 2 then some (mvCm m (k * 3 + 2)) else if j = k * 3 + 1 then some (mvCm m (k * 3 + 1)) else if j = k * 3 then some (mvCm m (k * 3)) else mfCm m k j) = some u := by
  intro j u h
  unfold mfCm at h ⊢
  split at h
  · rename_i hlt
    rw [← h]
    by_cases h2 : j = k * 3 + 2
    · subst h2; rw [if_pos rfl]
    by_cases h1 : j = k * 3 + 1
    · subst h1; rw [if_neg h2, if_pos rfl]
    by_cases h0 : j = k * 3
    · subst h0; rw [if_neg h2, if_neg h1, if_pos rfl]
    rw [if_neg h2, if_neg h1, if_neg h0, if_pos (by omega)]
  · cases h
set_option maxHeartbeats 4000000 in
set_option maxRecDepth 100000 in
theorem markCmS_f (g n m c : Nat) (w : World) (hM : SMG w g (n * 3) (mfCm m 0)) (hn : n ≤ 1048576) (h1 : 1 ≤ m) (hm : m ≤ 100000000) :
    Calls Try.prog 21 #[.slice (some ⟨g, 0, none⟩) n c, .int .i64 m] w fun e w' => e = .returned (.int .i64 ((m + 3 * n : Nat) : Int)) ∧ SMG w' g (n * 3) (mfCm m n) ∧ w.grownBy w' (some g) := by
  have hl : (n : Int) ≤ 1048576 := by omega
  go_enter Try.func21, Try.ntmps21
  go_wp2
  go_loopw [1, 5] (fun a i wr => ∃ (k : Nat), k ≤ n ∧ i = .int .i64 k ∧ a = .int .i64 ((m + 3 * k : Nat) : Int) ∧ SMG wr g (n * 3) (mfCm m k) ∧ w.grownBy wr (some g)) (fun _ i _ => n - (Go.RowKit.intOf i).toNat)
  case atStart => exact ⟨0, Nat.zero_le _, rfl, rfl, hM, gRefl _ _⟩
  case round =>
    obtain ⟨k, hk, rfl, rfl, hrk, hBr⟩ := hrel
    by_cases hlt : k < n
    · have hkk : (k : Int) < (n : Int) := by omega
      obtain ⟨-, ⟨v0, d0, -⟩, z0⟩ := hrk (k * 3) (by omega)
      have hp0 := hrk.put (k * 3) (.int .i64 ((m + 3 * k : Nat) : Int))
      have hb0 := gPut hBr (k * 3) (.int .i64 ((m + 3 * k : Nat) : Int))
      obtain ⟨-, ⟨v1, d1, -⟩, z1⟩ := hrk (k * 3 + 1) (by omega)
      have hp1 := hp0.put (k * 3 + 1) (.int .i64 ((m + 3 * k + 1 : Nat) : Int))
      have hb1 := gPut hb0 (k * 3 + 1) (.int .i64 ((m + 3 * k + 1 : Nat) : Int))
      obtain ⟨-, ⟨v2, d2, -⟩, z2⟩ := hrk (k * 3 + 2) (by omega)
      have hp2 := hp1.put (k * 3 + 2) (.int .i64 ((m + 3 * k + 2 : Nat) : Int))
      have hb2 := gPut hb1 (k * 3 + 2) (.int .i64 ((m + 3 * k + 2 : Nat) : Int))
      have HP := Lib.hid (hp2.congr (f' := mfCm m (k + 1)) (fun j u _ hu => by have := mfCm_step j u hu; simpa only [mvCm_0, mvCm_1, mvCm_2] using this))
      have HB := Lib.hid hb2
      clear hrk hp0 hp1 hp2 hb0 hb1 hb2
      go_wp2
      go_roundw
      case rel => exact ⟨k + 1, by omega, by go_num, by go_num, HP.out, HB.out⟩
      case measure => simp [Go.RowKit.intOf]; omega
    · obtain rfl : k = n := by omega
      go_wp2
      go_ret
      exact ⟨rfl, hrk, hBr⟩
/-- elements whose cells lie in blocks below B -/
def CmLB (B : Nat) (w : World) (a : Option Addr) (n : Nat) (xs : List Cm) : Prop :=
  xs.length = n ∧ ∀ i, i < n → ∃ b off, a = some ⟨b, off, none⟩ ∧ b < B ∧ CmC w b (off + i * 3) (xs[i]?.getD cm0)
theorem CmL.toB {w : World} {a : Option Addr} {n : Nat} {xs : List Cm} (h : CmL w a n xs) : CmLB w.heap.size w a n xs :=
  ⟨h.1, fun i hi => by
    obtain ⟨b, off, e, hc⟩ := h.2 i hi
    exact ⟨b, off, e, hc.1, hc⟩⟩
theorem CmLB.toL {B : Nat} {w : World} {a : Option Addr} {n : Nat} {xs : List Cm} (h : CmLB B w a n xs) : CmL w a n xs :=
  ⟨h.1, fun i hi => by
    obtain ⟨b, off, e, _, hc⟩ := h.2 i hi
    exact ⟨b, off, e, hc⟩⟩
theorem CmLB.below {B B' : Nat} {w w' : World} {a : Option Addr} {n : Nat} {xs : List Cm} (h : CmLB B w a n xs) (hb : Below B' w w') (hB : B ≤ B') : CmLB B w' a n xs :=
  ⟨h.1, fun i hi => by
    obtain ⟨b, off, e, hlt, hc⟩ := h.2 i hi
    exact ⟨b, off, e, hlt, hc.of_block hb.size (hb.block b (by omega))⟩⟩
theorem CmLB.grown {B g : Nat} {w w' : World} {a : Option Addr} {n : Nat} {xs : List Cm} (h : CmLB B w a n xs) (hg : w.grownBy w' (some g)) (hne : B ≤ g) : CmLB B w' a n xs :=
  ⟨h.1, fun i hi => by
    obtain ⟨b, off, e, hlt, hc⟩ := h.2 i hi
    exact ⟨b, off, e, hlt, hc.of_block hg.size (hg.block b hc.1 (by simp; omega))⟩⟩
/-- elements of a call's own, nil where there are none: k = 0: they hold xs; k = n: they hold the marks from m on -/
def CmO (B : Nat) (w : World) (a : Option Addr) (n k m : Nat) (xs : List Cm) : Prop :=
  (n = 0 ∧ xs = []) ∨ ∃ g, a = some ⟨g, 0, none⟩ ∧ B ≤ g ∧ SMG w g (n * 3) (mfCm m k) ∧ (k = 0 → CmL w a n xs)
theorem CmO.below {B : Nat} {w w' : World} {a : Option Addr} {n k m : Nat} {xs : List Cm} (h : CmO B w a n k m xs) (hb : Below w.heap.size w w') : CmO B w' a n k m xs := by
  rcases h with h | ⟨g, e, h1, h2, h3⟩
  · exact .inl h
  · exact .inr ⟨g, e, h1, h2.below hb, fun hk => (h3 hk).mono hb⟩
theorem CmO.far {B g' : Nat} {w w' : World} {a : Option Addr} {n k m : Nat} {xs : List Cm} (h : CmO B w a n k m xs) (hg : w.grownBy w' (some g')) (hne : g' < B) : CmO B w' a n k m xs := by
  rcases h with h | ⟨g, e, h1, h2, h3⟩
  · exact .inl h
  · refine .inr ⟨g, e, h1, h2.far hg (by omega), fun hk => ?_⟩
    have hS := h3 hk
    refine ⟨hS.1, fun i hi => ?_⟩
    obtain ⟨b, o, e', hc⟩ := hS.2 i hi
    rw [e] at e'
    cases e'
    exact ⟨g, 0, e, hc.of_block hg.size (hg.block g hc.1 (by simp; omega))⟩
theorem CmO.toL {B : Nat} {w : World} {a : Option Addr} {n m : Nat} {xs : List Cm} (h : CmO B w a n 0 m xs) : CmL w a n xs := by
  rcases h with ⟨h1, h2⟩ | ⟨g, e, h1, h2, h3⟩
  · exact ⟨by simp [h1, h2], fun i hi => absurd hi (by omega)⟩
  · exact h3 rfl
theorem CmO.of_own {w : World} {B e g n c m : Nat} {xs : List Cm} (h : w.ownsRow B e 3 (.slice (some ⟨g, 0, none⟩) n c) n (flatCm xs)) (hn : xs.length = n) : CmO B w (some ⟨g, 0, none⟩) n 0 m xs :=
  .inr ⟨g, rfl, (h.lt g rfl).1, (SMG.of_own h).congr (fun j u _ hu => by simp [mfCm] at hu), fun _ => CmL.of_own h hn⟩
/-- a call's answer: a list of its own, and a value beside it -/
def CmRes (B : Nat) (L : List Cm) (v : Value) (w : World) (e : Ending) : Prop := ∃ a c, e = .returned (.tuple #[.slice a L.length c, v]) ∧ ∀ m, CmO B w a L.length 0 m L
theorem CmRes.nil (B : Nat) (v : Value) (w : World) : CmRes B [] v w (.returned (.tuple #[.slice none 0 0, v])) := ⟨none, 0, rfl, fun _ => .inl ⟨rfl, rfl⟩⟩
theorem CmRes.own {B e n : Nat} {u v : Value} {xs : List Cm} {w : World} (h : w.ownsRow B e 3 u n (flatCm xs)) (hn : xs.length = n) : CmRes B xs v w (.returned (.tuple #[u, v])) := by
  subst hn
  rcases h.2 with ⟨hv, h0⟩ | ⟨g, cap, cur, hv, _⟩
  · subst hv
    have : xs = [] := List.length_eq_zero_iff.1 h0
    subst this
    exact CmRes.nil B v w
  · subst hv
    exact ⟨_, cap, rfl, fun _ => CmO.of_own h rfl⟩
theorem CmO.low {B B' : Nat} {w : World} {a : Option Addr} {n k m : Nat} {xs : List Cm} (h : CmO B w a n k m xs) (hB : B' ≤ B) : CmO B' w a n k m xs := by
  rcases h with h | ⟨g, e, h1, h2, h3⟩
  · exact .inl h
  · exact .inr ⟨g, e, Nat.le_trans hB h1, h2, h3⟩
theorem CmRes.low {B B' : Nat} {L : List Cm} {v : Value} {w : World} {e : Ending} (h : CmRes B L v w e) (hB : B' ≤ B) : CmRes B' L v w e := by
  obtain ⟨a, c, h1, h2⟩ := h
  exact ⟨a, c, h1, fun m => (h2 m).low hB⟩
set_option maxHeartbeats 1000000 in
theorem markCmS_o (a : Option Addr) (n m c B : Nat) (xs : List Cm) (w0 w : World) (hB : Below B w0 w) (hBs : B ≤ w.heap.size) (hM : CmO B w a n 0 m xs) (hn : n ≤ 1048576) (h1 : 1 ≤ m) (hm : m ≤ 100000000) :
    Calls Try.prog 21 #[.slice a n c, .int .i64 m] w fun e w' => e = .returned (.int .i64 ((m + 3 * n : Nat) : Int)) ∧ CmO B w' a n n m [] ∧ Below B w0 w' := by
  rcases hM with ⟨rfl, rfl⟩ | ⟨g, rfl, h2, h3, -⟩
  · go_enter Try.func21, Try.ntmps21
    go_wp2
    go_loopw [1, 5] (fun a i wr => i = .int .i64 0 ∧ a = .int .i64 (m : Int) ∧ wr = w) (fun _ i _ => 0)
    case atStart => exact ⟨rfl, rfl, rfl⟩
    case round =>
      obtain ⟨rfl, rfl, rfl⟩ := hrel
      go_wp2
      go_ret
      exact ⟨rfl, .inl ⟨rfl, rfl⟩, hB⟩
  · refine (markCmS_f g n m c w h3 hn h1 hm).mono ?_
    rintro e w' ⟨rfl, hM, hb⟩
    refine ⟨rfl, ?_, hB.grown hb hBs (fun j e => by cases e; exact h2)⟩
    by_cases h0 : n = 0
    · exact .inl ⟨h0, rfl⟩
    · exact .inr ⟨g, rfl, h2, hM, fun hk => absurd hk h0⟩
end Go.Proofs.Ytfnjndbnogeddaa
