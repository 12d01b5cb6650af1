/- Slices of Point that a call owns, and the laws' marks on them (by gen.py). -/
import Derived.Test.YtidiiladlmaigaaGPt2
import Derived.Lib.SliceRun
namespace Go.Proofs.Ytidiiladlmaigaa
open Go.ChangeShapes Go.WideShapes Go.ChangeAt Go.RowKit Go.Deep

/-- the cells of the elements, one behind the other -/
def flatPt (xs : List Pt) : List Value := xs.flatMap fun x => [fldPt x 0, fldPt x 1]
theorem flatPt_len (xs : List Pt) : (flatPt xs).length = xs.length * 2 := by
  induction xs with
  | nil => rfl
  | cons x xs ih => simp only [flatPt, List.flatMap_cons, List.length_append, List.length_cons, List.length_nil] at *; omega
theorem flatPt_at : ∀ (xs : List Pt) (i f : Nat), i < xs.length → f < 2 → (flatPt xs)[i * 2 + f]? = some (fldPt (xs[i]?.getD pt0) f)
  | [], i, f, hi, _ => absurd hi (by simp)
  | x :: xs, 0, f, _, hf => by
    match f, hf with
    | 0, _ => rfl
    | 1, _ => rfl
  | x :: xs, i + 1, f, hi, hf => by
    have ih := flatPt_at xs i f (by simpa using hi) hf
    have e : (i + 1) * 2 + f = (i * 2 + f) + 2 := by omega
    rw [e]
    simpa [flatPt] using ih
theorem flatPt_snoc (xs : List Pt) (x : Pt) : flatPt (xs ++ [x]) = flatPt xs ++ [fldPt x 0, fldPt x 1] := by simp [flatPt]
theorem flatPt_app (xs ys : List Pt) : flatPt (xs ++ ys) = flatPt xs ++ flatPt ys := by simp [flatPt]
theorem PtL.of_own {w : World} {B e c n : Nat} {a : Option Addr} {xs : List Pt} (h : w.ownsRow B e 2 (.slice a n c) n (flatPt xs)) (hn : xs.length = n) : PtL w a n xs := by
  refine ⟨hn, fun i hi => ?_⟩
  rcases h.2 with ⟨hv, h0⟩ | ⟨g, cap, cur, hv, hBg, hg, _, _, hs, ht⟩
  · omega
  · cases hv
    have hlt : g < w.heap.size := (h.lt g rfl).2
    refine ⟨g, 0, rfl, hlt, fun f hf => ?_⟩
    have := h.cells (g := g) rfl (i * 2 + f) _ (flatPt_at xs i f (by omega) hf)
    rw [Go.WideShapes.add_plain] at this
    rw [← this]
    congr 2
    omega
theorem cellsPt (w : World) (v0 v1 : Value) (T : TypeId) : ∀ j u, [v0, v1][j]? = some u → (w.alloc (.cells #[v0, v1] T)).cell? ((⟨w.heap.size, 0, none⟩ : Addr).add j) = some u := by
  intro j u hj
  rw [Go.WideShapes.add_plain, World.cell?_alloc_new]
  match j, hj with
  | 0, hj => exact hj
  | 1, hj => exact hj
  | j + 2, hj => simp at hj
theorem flatPt_cells {w : World} {a : Addr} {n : Nat} {xs : List Pt} (h : PtL w (some a) n xs) : ∀ j u, (flatPt xs)[j]? = some u → w.cell? (a.add j) = some u := by
  intro j u hj
  have hlt : j < xs.length * 2 := by
    have := (List.getElem?_eq_some_iff.1 hj).1
    rwa [flatPt_len] at this
  have hl := h.1
  obtain ⟨b, off, e, hc⟩ := h.2 (j / 2) (by omega)
  cases e
  have h1 := flatPt_at xs (j / 2) (j % 2) (by omega) (by omega)
  rw [show j / 2 * 2 + j % 2 = j from by omega, hj] at h1
  cases h1
  rw [Go.WideShapes.add_plain, ← hc.2 (j % 2) (by omega)]
  congr 2
  omega
theorem flatPt_one (xs : List Pt) : ∀ u ∈ flatPt xs, u.oneCell' = true := by
  intro u hu
  simp only [flatPt, List.mem_flatMap] at hu
  obtain ⟨x, _, hx⟩ := hu
  simp at hx
  rcases hx with rfl | rfl <;> rfl
/-- what the mark at cell j is -/
def mvPt (m j : Nat) : Value := if j % 2 = 0 then .int .i64 ((m + j : Nat) : Int) else .int .i64 ((m + j : Nat) : Int)
def mfPt (m k j : Nat) : Option Value := if j < k * 2 then some (mvPt m j) else none
theorem mvPt_0 (m k : Nat) : mvPt m (k * 2) = .int .i64 ((m + 2 * k : Nat) : Int) := by
  rw [mvPt, if_pos (by omega)]; congr 2; omega
theorem mvPt_1 (m k : Nat) : mvPt m (k * 2 + 1) = .int .i64 ((m + 2 * k + 1 : Nat) : Int) := by
  rw [mvPt, if_neg (by omega)]; congr 2; omega
theorem mfPt_step {m k : Nat} : ∀ j u, mfPt m (k + 1) j = some u →
    (if j = k * 2 + 1 then some (mvPt m (k * 2 + 1)) else if j = k * 2 then some (mvPt m (k * 2)) else mfPt m k j) = some u := by
  intro j u h
  unfold mfPt at h ⊢
  split at h
  · rename_i hlt
    rw [← h]
    by_cases h1 : j = k * 2 + 1
    · subst h1; rw [if_pos rfl]
    by_cases h0 : j = k * 2
    · subst h0; rw [if_neg h1, if_pos rfl]
    rw [if_neg h1, if_neg h0, if_pos (by omega)]
  · cases h
set_option maxHeartbeats 4000000 in
set_option maxRecDepth 100000 in
theorem markPtS_f (g n m c : Nat) (w : World) (hM : SMG w g (n * 2) (mfPt m 0)) (hn : n ≤ 1048576) (h1 : 1 ≤ m) (hm : m ≤ 100000000) :
    Calls Try.prog 16 #[.slice (some ⟨g, 0, none⟩) n c, .int .i64 m] w fun e w' => e = .returned (.int .i64 ((m + 2 * n : Nat) : Int)) ∧ SMG w' g (n * 2) (mfPt m n) ∧ w.grownBy w' (some g) := by
  have hl : (n : Int) ≤ 1048576 := by omega
  go_enter Try.func16, Try.ntmps16
  go_wp2
  go_loopw [1, 5] (fun a i wr => ∃ (k : Nat), k ≤ n ∧ i = .int .i64 k ∧ a = .int .i64 ((m + 2 * k : Nat) : Int) ∧ SMG wr g (n * 2) (mfPt m k) ∧ w.grownBy wr (some g)) (fun _ i _ => n - (Go.RowKit.intOf i).toNat)
  case atStart => exact ⟨0, Nat.zero_le _, rfl, rfl, hM, gRefl _ _⟩
  case round =>
    obtain ⟨k, hk, rfl, rfl, hrk, hBr⟩ := hrel
    by_cases hlt : k < n
    · have hkk : (k : Int) < (n : Int) := by omega
      obtain ⟨-, ⟨v0, d0, -⟩, z0⟩ := hrk (k * 2) (by omega)
      have hp0 := hrk.put (k * 2) (.int .i64 ((m + 2 * k : Nat) : Int))
      have hb0 := gPut hBr (k * 2) (.int .i64 ((m + 2 * k : Nat) : Int))
      obtain ⟨-, ⟨v1, d1, -⟩, z1⟩ := hrk (k * 2 + 1) (by omega)
      have hp1 := hp0.put (k * 2 + 1) (.int .i64 ((m + 2 * k + 1 : Nat) : Int))
      have hb1 := gPut hb0 (k * 2 + 1) (.int .i64 ((m + 2 * k + 1 : Nat) : Int))
      have HP := Lib.hid (hp1.congr (f' := mfPt m (k + 1)) (fun j u _ hu => by have := mfPt_step j u hu; simpa only [mvPt_0, mvPt_1] using this))
      have HB := Lib.hid hb1
      clear hrk hp0 hp1 hb0 hb1
      go_wp2
      go_roundw
      case rel => exact ⟨k + 1, by omega, by go_num, by go_num, HP.out, HB.out⟩
      case measure => simp [Go.RowKit.intOf]; omega
    · obtain rfl : k = n := by omega
      go_wp2
      go_ret
      exact ⟨rfl, hrk, hBr⟩
set_option maxHeartbeats 4000000 in
set_option maxRecDepth 100000 in
theorem heldPtS_f (g n m c : Nat) (w : World) (hM : SMG w g (n * 2) (mfPt m n)) (hn : n ≤ 1048576) (h1 : 1 ≤ m) (hm : m ≤ 100000000) :
    Calls Try.prog 17 #[.slice (some ⟨g, 0, none⟩) n c, .int .i64 m] w fun e w' => e = .returned (.int .i64 ((m + 2 * n : Nat) : Int)) ∧ Below w.heap.size w w' := by
  have hl : (n : Int) ≤ 1048576 := by omega
  go_enter Try.func17, Try.ntmps17
  go_wp2
  go_loopw [1, 5] (fun a i wr => ∃ (k : Nat), k ≤ n ∧ i = .int .i64 k ∧ a = .int .i64 ((m + 2 * k : Nat) : Int) ∧ Below w.heap.size w wr) (fun _ i _ => n - (Go.RowKit.intOf i).toNat)
  case atStart => exact ⟨0, Nat.zero_le _, rfl, rfl, Below.refl _ _⟩
  case round =>
    obtain ⟨k, hk, rfl, rfl, hB⟩ := hrel
    by_cases hlt : k < n
    · have hkk : (k : Int) < (n : Int) := by omega
      have hMr := hM.below hB
      have hv : ∀ f, f < 2 → wr.cell? ⟨g, k * 2 + f, none⟩ = some (mvPt m (k * 2 + f)) := fun f hf => by
        obtain ⟨-, ⟨v, h2, h3⟩, -⟩ := hMr (k * 2 + f) (by omega)
        rw [h2, h3 (mvPt m (k * 2 + f)) (by rw [mfPt, if_pos (by omega)])]
      have hgl := (hMr (k * 2) (by omega)).1
      have c0 : wr.cell? ⟨g, k * 2, none⟩ = some (.int .i64 ((m : Int) + 2 * k)) := by have := hv 0 (by omega); rw [Nat.add_zero, mvPt_0] at this; exact this.trans (by first | rfl | (congr 2; omega))
      have c1 : wr.cell? ⟨g, k * 2 + 1, none⟩ = some (.int .i64 ((m : Int) + 2 * k + 1)) := by have := hv 1 (by omega); rw [mvPt_1] at this; exact this.trans (by first | rfl | (congr 2; omega))
      clear hv hMr
      have n1 : ∀ x : Int, (x != x) = false := intSelf
      go_wp2
      go_roundw
      case rel => exact ⟨k + 1, by omega, by go_num, by go_num, by (repeat (first | assumption | exact Below.refl _ _ | refine belowDN ?_ _ | refine Below.drew ?_ | refine Below.setCell ?_ (by first | omega | (simp <;> omega)) _ | refine Below.alloc ?_ (by first | omega | (simp <;> omega)) _ | refine belowCall ?_ (by assumption)))⟩
      case measure => simp [Go.RowKit.intOf]; omega
    · obtain rfl : k = n := by omega
      go_wp2
      go_ret
      exact ⟨rfl, hB⟩
/-- elements whose cells lie in blocks below B -/
def PtLB (B : Nat) (w : World) (a : Option Addr) (n : Nat) (xs : List Pt) : Prop :=
  xs.length = n ∧ ∀ i, i < n → ∃ b off, a = some ⟨b, off, none⟩ ∧ b < B ∧ PtC w b (off + i * 2) (xs[i]?.getD pt0)
theorem PtL.toB {w : World} {a : Option Addr} {n : Nat} {xs : List Pt} (h : PtL w a n xs) : PtLB w.heap.size w a n xs :=
  ⟨h.1, fun i hi => by
    obtain ⟨b, off, e, hc⟩ := h.2 i hi
    exact ⟨b, off, e, hc.1, hc⟩⟩
theorem PtLB.toL {B : Nat} {w : World} {a : Option Addr} {n : Nat} {xs : List Pt} (h : PtLB B w a n xs) : PtL w a n xs :=
  ⟨h.1, fun i hi => by
    obtain ⟨b, off, e, _, hc⟩ := h.2 i hi
    exact ⟨b, off, e, hc⟩⟩
theorem PtLB.below {B B' : Nat} {w w' : World} {a : Option Addr} {n : Nat} {xs : List Pt} (h : PtLB B w a n xs) (hb : Below B' w w') (hB : B ≤ B') : PtLB B w' a n xs :=
  ⟨h.1, fun i hi => by
    obtain ⟨b, off, e, hlt, hc⟩ := h.2 i hi
    exact ⟨b, off, e, hlt, hc.of_block hb.size (hb.block b (by omega))⟩⟩
theorem PtLB.grown {B g : Nat} {w w' : World} {a : Option Addr} {n : Nat} {xs : List Pt} (h : PtLB B w a n xs) (hg : w.grownBy w' (some g)) (hne : B ≤ g) : PtLB B w' a n xs :=
  ⟨h.1, fun i hi => by
    obtain ⟨b, off, e, hlt, hc⟩ := h.2 i hi
    exact ⟨b, off, e, hlt, hc.of_block hg.size (hg.block b hc.1 (by simp; omega))⟩⟩
/-- elements of a call's own, nil where there are none: k = 0: they hold xs; k = n: they hold the marks from m on -/
def PtO (B : Nat) (w : World) (a : Option Addr) (n k m : Nat) (xs : List Pt) : Prop :=
  (n = 0 ∧ xs = []) ∨ ∃ g, a = some ⟨g, 0, none⟩ ∧ B ≤ g ∧ SMG w g (n * 2) (mfPt m k) ∧ (k = 0 → PtL w a n xs)
theorem PtO.below {B : Nat} {w w' : World} {a : Option Addr} {n k m : Nat} {xs : List Pt} (h : PtO B w a n k m xs) (hb : Below w.heap.size w w') : PtO B w' a n k m xs := by
  rcases h with h | ⟨g, e, h1, h2, h3⟩
  · exact .inl h
  · exact .inr ⟨g, e, h1, h2.below hb, fun hk => (h3 hk).mono hb⟩
theorem PtO.far {B g' : Nat} {w w' : World} {a : Option Addr} {n k m : Nat} {xs : List Pt} (h : PtO B w a n k m xs) (hg : w.grownBy w' (some g')) (hne : g' < B) : PtO B w' a n k m xs := by
  rcases h with h | ⟨g, e, h1, h2, h3⟩
  · exact .inl h
  · refine .inr ⟨g, e, h1, h2.far hg (by omega), fun hk => ?_⟩
    have hS := h3 hk
    refine ⟨hS.1, fun i hi => ?_⟩
    obtain ⟨b, o, e', hc⟩ := hS.2 i hi
    rw [e] at e'
    cases e'
    exact ⟨g, 0, e, hc.of_block hg.size (hg.block g hc.1 (by simp; omega))⟩
theorem PtO.toL {B : Nat} {w : World} {a : Option Addr} {n m : Nat} {xs : List Pt} (h : PtO B w a n 0 m xs) : PtL w a n xs := by
  rcases h with ⟨h1, h2⟩ | ⟨g, e, h1, h2, h3⟩
  · exact ⟨by simp [h1, h2], fun i hi => absurd hi (by omega)⟩
  · exact h3 rfl
theorem PtO.of_own {w : World} {B e g n c m : Nat} {xs : List Pt} (h : w.ownsRow B e 2 (.slice (some ⟨g, 0, none⟩) n c) n (flatPt xs)) (hn : xs.length = n) : PtO B w (some ⟨g, 0, none⟩) n 0 m xs :=
  .inr ⟨g, rfl, (h.lt g rfl).1, (SMG.of_own h).congr (fun j u _ hu => by simp [mfPt] at hu), fun _ => PtL.of_own h hn⟩
/-- a call's answer: a list of its own, and a value beside it -/
def PtRes (B : Nat) (L : List Pt) (v : Value) (w : World) (e : Ending) : Prop := ∃ a c, e = .returned (.tuple #[.slice a L.length c, v]) ∧ ∀ m, PtO B w a L.length 0 m L
theorem PtRes.nil (B : Nat) (v : Value) (w : World) : PtRes B [] v w (.returned (.tuple #[.slice none 0 0, v])) := ⟨none, 0, rfl, fun _ => .inl ⟨rfl, rfl⟩⟩
theorem PtRes.own {B e n : Nat} {u v : Value} {xs : List Pt} {w : World} (h : w.ownsRow B e 2 u n (flatPt xs)) (hn : xs.length = n) : PtRes B xs v w (.returned (.tuple #[u, v])) := by
  subst hn
  rcases h.2 with ⟨hv, h0⟩ | ⟨g, cap, cur, hv, _⟩
  · subst hv
    have : xs = [] := List.length_eq_zero_iff.1 h0
    subst this
    exact PtRes.nil B v w
  · subst hv
    exact ⟨_, cap, rfl, fun _ => PtO.of_own h rfl⟩
theorem PtO.low {B B' : Nat} {w : World} {a : Option Addr} {n k m : Nat} {xs : List Pt} (h : PtO B w a n k m xs) (hB : B' ≤ B) : PtO B' w a n k m xs := by
  rcases h with h | ⟨g, e, h1, h2, h3⟩
  · exact .inl h
  · exact .inr ⟨g, e, Nat.le_trans hB h1, h2, h3⟩
theorem PtRes.low {B B' : Nat} {L : List Pt} {v : Value} {w : World} {e : Ending} (h : PtRes B L v w e) (hB : B' ≤ B) : PtRes B' L v w e := by
  obtain ⟨a, c, h1, h2⟩ := h
  exact ⟨a, c, h1, fun m => (h2 m).low hB⟩
set_option maxHeartbeats 1000000 in
theorem markPtS_o (a : Option Addr) (n m c B : Nat) (xs : List Pt) (w0 w : World) (hB : Below B w0 w) (hBs : B ≤ w.heap.size) (hM : PtO B w a n 0 m xs) (hn : n ≤ 1048576) (h1 : 1 ≤ m) (hm : m ≤ 100000000) :
    Calls Try.prog 16 #[.slice a n c, .int .i64 m] w fun e w' => e = .returned (.int .i64 ((m + 2 * n : Nat) : Int)) ∧ PtO B w' a n n m [] ∧ Below B w0 w' := by
  rcases hM with ⟨rfl, rfl⟩ | ⟨g, rfl, h2, h3, -⟩
  · go_enter Try.func16, Try.ntmps16
    go_wp2
    go_loopw [1, 5] (fun a i wr => i = .int .i64 0 ∧ a = .int .i64 (m : Int) ∧ wr = w) (fun _ i _ => 0)
    case atStart => exact ⟨rfl, rfl, rfl⟩
    case round =>
      obtain ⟨rfl, rfl, rfl⟩ := hrel
      go_wp2
      go_ret
      exact ⟨rfl, .inl ⟨rfl, rfl⟩, hB⟩
  · refine (markPtS_f g n m c w h3 hn h1 hm).mono ?_
    rintro e w' ⟨rfl, hM, hb⟩
    refine ⟨rfl, ?_, hB.grown hb hBs (fun j e => by cases e; exact h2)⟩
    by_cases h0 : n = 0
    · exact .inl ⟨h0, rfl⟩
    · exact .inr ⟨g, rfl, h2, hM, fun hk => absurd hk h0⟩
set_option maxHeartbeats 1000000 in
theorem heldPtS_o (a : Option Addr) (n m c B : Nat) (xs : List Pt) (w : World) (hM : PtO B w a n n m xs) (hn : n ≤ 1048576) (h1 : 1 ≤ m) (hm : m ≤ 100000000) :
    Calls Try.prog 17 #[.slice a n c, .int .i64 m] w fun e w' => e = .returned (.int .i64 ((m + 2 * n : Nat) : Int)) ∧ Below w.heap.size w w' := by
  rcases hM with ⟨rfl, rfl⟩ | ⟨g, rfl, h2, h3, -⟩
  · go_enter Try.func17, Try.ntmps17
    go_wp2
    go_loopw [1, 5] (fun a i wr => i = .int .i64 0 ∧ a = .int .i64 (m : Int) ∧ wr = w) (fun _ i _ => 0)
    case atStart => exact ⟨rfl, rfl, rfl⟩
    case round =>
      obtain ⟨rfl, rfl, rfl⟩ := hrel
      go_wp2
      go_ret
      exact ⟨rfl, Below.refl _ _⟩
  · exact heldPtS_f g n m c w h3 hn h1 hm
end Go.Proofs.Ytidiiladlmaigaa
