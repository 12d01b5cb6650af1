/- Slices of Extremum that a call owns, and the laws' marks on them (by gen.py). -/
import Derived.Test.YtcjipmpccmppiabGEx2
import Derived.Lib.SliceRun
namespace Go.Proofs.Ytcjipmpccmppiab
open Go.ChangeShapes Go.WideShapes Go.ChangeAt Go.RowKit Go.Deep

/-- the cells of the elements, one behind the other -/
def flatEx (xs : List Ex) : List Value := xs.flatMap fun x => [fldEx x 0, fldEx x 1]
theorem flatEx_len (xs : List Ex) : (flatEx xs).length = xs.length * 2 := by
  induction xs with
  | nil => rfl
  | cons x xs ih => simp only [flatEx, List.flatMap_cons, List.length_append, List.length_cons, List.length_nil] at *; omega
theorem flatEx_at : ∀ (xs : List Ex) (i f : Nat), i < xs.length → f < 2 → (flatEx xs)[i * 2 + f]? = some (fldEx (xs[i]?.getD ex0) f)
  | [], i, f, hi, _ => absurd hi (by simp)
  | x :: xs, 0, f, _, hf => by
    match f, hf with
    | 0, _ => rfl
    | 1, _ => rfl
  | x :: xs, i + 1, f, hi, hf => by
    have ih := flatEx_at xs i f (by simpa using hi) hf
    have e : (i + 1) * 2 + f = (i * 2 + f) + 2 := by omega
    rw [e]
    simpa [flatEx] using ih
theorem flatEx_snoc (xs : List Ex) (x : Ex) : flatEx (xs ++ [x]) = flatEx xs ++ [fldEx x 0, fldEx x 1] := by simp [flatEx]
theorem flatEx_app (xs ys : List Ex) : flatEx (xs ++ ys) = flatEx xs ++ flatEx ys := by simp [flatEx]
theorem ExL.of_own {w : World} {B e c n : Nat} {a : Option Addr} {xs : List Ex} (h : w.ownsRow B e 2 (.slice a n c) n (flatEx xs)) (hn : xs.length = n) : ExL w a n xs := by
  refine ⟨hn, fun i hi => ?_⟩
  rcases h.2 with ⟨hv, h0⟩ | ⟨g, cap, cur, hv, hBg, hg, _, _, hs, ht⟩
  · omega
  · cases hv
    have hlt : g < w.heap.size := (h.lt g rfl).2
    refine ⟨g, 0, rfl, hlt, fun f hf => ?_⟩
    have := h.cells (g := g) rfl (i * 2 + f) _ (flatEx_at xs i f (by omega) hf)
    rw [Go.WideShapes.add_plain] at this
    rw [← this]
    congr 2
    omega
theorem cellsEx (w : World) (v0 v1 : Value) (T : TypeId) : ∀ j u, [v0, v1][j]? = some u → (w.alloc (.cells #[v0, v1] T)).cell? ((⟨w.heap.size, 0, none⟩ : Addr).add j) = some u := by
  intro j u hj
  rw [Go.WideShapes.add_plain, World.cell?_alloc_new]
  match j, hj with
  | 0, hj => exact hj
  | 1, hj => exact hj
  | j + 2, hj => simp at hj
theorem flatEx_cells {w : World} {a : Addr} {n : Nat} {xs : List Ex} (h : ExL w (some a) n xs) : ∀ j u, (flatEx xs)[j]? = some u → w.cell? (a.add j) = some u := by
  intro j u hj
  have hlt : j < xs.length * 2 := by
    have := (List.getElem?_eq_some_iff.1 hj).1
    rwa [flatEx_len] at this
  have hl := h.1
  obtain ⟨b, off, e, hc⟩ := h.2 (j / 2) (by omega)
  cases e
  have h1 := flatEx_at xs (j / 2) (j % 2) (by omega) (by omega)
  rw [show j / 2 * 2 + j % 2 = j from by omega, hj] at h1
  cases h1
  rw [Go.WideShapes.add_plain, ← hc.2 (j % 2) (by omega)]
  congr 2
  omega
theorem flatEx_one (xs : List Ex) : ∀ u ∈ flatEx xs, u.oneCell' = true := by
  intro u hu
  simp only [flatEx, List.mem_flatMap] at hu
  obtain ⟨x, _, hx⟩ := hu
  simp at hx
  rcases hx with rfl | rfl <;> rfl
/-- what the mark at cell j is -/
def mvEx (m j : Nat) : Value := if j % 2 = 0 then .int .i64 ((m + j : Nat) : Int) else .int .i64 ((m + j : Nat) : Int)
def mfEx (m k j : Nat) : Option Value := if j < k * 2 then some (mvEx m j) else none
theorem mvEx_0 (m k : Nat) : mvEx m (k * 2) = .int .i64 ((m + 2 * k : Nat) : Int) := by
  rw [mvEx, if_pos (by omega)]; congr 2; omega
theorem mvEx_1 (m k : Nat) : mvEx m (k * 2 + 1) = .int .i64 ((m + 2 * k + 1 : Nat) : Int) := by
  rw [mvEx, if_neg (by omega)]; congr 2; omega
theorem mfEx_step {m k : Nat} : ∀ j u, mfEx m (k + 1) j = some u →
    (if j = k * 2 + 1 then some (mvEx m (k * 2 + 1)) else if j = k * 2 then some (mvEx m (k * 2)) else mfEx m k j) = some u := by
  intro j u h
  unfold mfEx at h ⊢
  split at h
  · rename_i hlt
    rw [← h]
    by_cases h1 : j = k * 2 + 1
    · subst h1; rw [if_pos rfl]
    by_cases h0 : j = k * 2
    · subst h0; rw [if_neg h1, if_pos rfl]
    rw [if_neg h1, if_neg h0, if_pos (by omega)]
  · cases h
set_option maxHeartbeats 4000000 in
set_option maxRecDepth 100000 in
theorem markExS_f (g n m c : Nat) (w : World) (hM : SMG w g (n * 2) (mfEx m 0)) (hn : n ≤ 1048576) (h1 : 1 ≤ m) (hm : m ≤ 100000000) :
    Calls Try.prog 29 #[.slice (some ⟨g, 0, none⟩) n c, .int .i64 m] w fun e w' => e = .returned (.int .i64 ((m + 2 * n : Nat) : Int)) ∧ SMG w' g (n * 2) (mfEx m n) ∧ w.grownBy w' (some g) := by
  have hl : (n : Int) ≤ 1048576 := by omega
  go_enter Try.func29, Try.ntmps29
  go_wp2
  go_loopw [1, 5] (fun a i wr => ∃ (k : Nat), k ≤ n ∧ i = .int .i64 k ∧ a = .int .i64 ((m + 2 * k : Nat) : Int) ∧ SMG wr g (n * 2) (mfEx m k) ∧ w.grownBy wr (some g)) (fun _ i _ => n - (Go.RowKit.intOf i).toNat)
  case atStart => exact ⟨0, Nat.zero_le _, rfl, rfl, hM, gRefl _ _⟩
  case round =>
    obtain ⟨k, hk, rfl, rfl, hrk, hBr⟩ := hrel
    by_cases hlt : k < n
    · have hkk : (k : Int) < (n : Int) := by omega
      obtain ⟨-, ⟨v0, d0, -⟩, z0⟩ := hrk (k * 2) (by omega)
      have hp0 := hrk.put (k * 2) (.int .i64 ((m + 2 * k : Nat) : Int))
      have hb0 := gPut hBr (k * 2) (.int .i64 ((m + 2 * k : Nat) : Int))
      obtain ⟨-, ⟨v1, d1, -⟩, z1⟩ := hrk (k * 2 + 1) (by omega)
      have hp1 := hp0.put (k * 2 + 1) (.int .i64 ((m + 2 * k + 1 : Nat) : Int))
      have hb1 := gPut hb0 (k * 2 + 1) (.int .i64 ((m + 2 * k + 1 : Nat) : Int))
      have HP := Lib.hid (hp1.congr (f' := mfEx m (k + 1)) (fun j u _ hu => by have := mfEx_step j u hu; simpa only [mvEx_0, mvEx_1] using this))
      have HB := Lib.hid hb1
      clear hrk hp0 hp1 hb0 hb1
      go_wp2
      go_roundw
      case rel => exact ⟨k + 1, by omega, by go_num, by go_num, HP.out, HB.out⟩
      case measure => simp [Go.RowKit.intOf]; omega
    · obtain rfl : k = n := by omega
      go_wp2
      go_ret
      exact ⟨rfl, hrk, hBr⟩
set_option maxHeartbeats 4000000 in
set_option maxRecDepth 100000 in
theorem heldExS_f (g n m c : Nat) (w : World) (hM : SMG w g (n * 2) (mfEx m n)) (hn : n ≤ 1048576) (h1 : 1 ≤ m) (hm : m ≤ 100000000) :
    Calls Try.prog 30 #[.slice (some ⟨g, 0, none⟩) n c, .int .i64 m] w fun e w' => e = .returned (.int .i64 ((m + 2 * n : Nat) : Int)) ∧ Below w.heap.size w w' := by
  have hl : (n : Int) ≤ 1048576 := by omega
  go_enter Try.func30, Try.ntmps30
  go_wp2
  go_loopw [1, 5] (fun a i wr => ∃ (k : Nat), k ≤ n ∧ i = .int .i64 k ∧ a = .int .i64 ((m + 2 * k : Nat) : Int) ∧ Below w.heap.size w wr) (fun _ i _ => n - (Go.RowKit.intOf i).toNat)
  case atStart => exact ⟨0, Nat.zero_le _, rfl, rfl, Below.refl _ _⟩
  case round =>
    obtain ⟨k, hk, rfl, rfl, hB⟩ := hrel
    by_cases hlt : k < n
    · have hkk : (k : Int) < (n : Int) := by omega
      have hMr := hM.below hB
      have hv : ∀ f, f < 2 → wr.cell? ⟨g, k * 2 + f, none⟩ = some (mvEx m (k * 2 + f)) := fun f hf => by
        obtain ⟨-, ⟨v, h2, h3⟩, -⟩ := hMr (k * 2 + f) (by omega)
        rw [h2, h3 (mvEx m (k * 2 + f)) (by rw [mfEx, if_pos (by omega)])]
      have hgl := (hMr (k * 2) (by omega)).1
      have c0 : wr.cell? ⟨g, k * 2, none⟩ = some (.int .i64 ((m : Int) + 2 * k)) := by have := hv 0 (by omega); rw [Nat.add_zero, mvEx_0] at this; exact this.trans (by first | rfl | (congr 2; omega))
      have c1 : wr.cell? ⟨g, k * 2 + 1, none⟩ = some (.int .i64 ((m : Int) + 2 * k + 1)) := by have := hv 1 (by omega); rw [mvEx_1] at this; exact this.trans (by first | rfl | (congr 2; omega))
      clear hv hMr
      have n1 : ∀ x : Int, (x != x) = false := intSelf
      go_wp2
      go_roundw
      case rel => exact ⟨k + 1, by omega, by go_num, by go_num, by (repeat (first | assumption | exact Below.refl _ _ | refine belowDN ?_ _ | refine Below.drew ?_ | refine Below.setCell ?_ (by first | omega | (simp <;> omega)) _ | refine Below.alloc ?_ (by first | omega | (simp <;> omega)) _ | refine belowCall ?_ (by assumption)))⟩
      case measure => simp [Go.RowKit.intOf]; omega
    · obtain rfl : k = n := by omega
      go_wp2
      go_ret
      exact ⟨rfl, hB⟩
/-- elements whose cells lie in blocks below B -/
def ExLB (B : Nat) (w : World) (a : Option Addr) (n : Nat) (xs : List Ex) : Prop :=
  xs.length = n ∧ ∀ i, i < n → ∃ b off, a = some ⟨b, off, none⟩ ∧ b < B ∧ ExC w b (off + i * 2) (xs[i]?.getD ex0)
theorem ExL.toB {w : World} {a : Option Addr} {n : Nat} {xs : List Ex} (h : ExL w a n xs) : ExLB w.heap.size w a n xs :=
  ⟨h.1, fun i hi => by
    obtain ⟨b, off, e, hc⟩ := h.2 i hi
    exact ⟨b, off, e, hc.1, hc⟩⟩
theorem ExLB.toL {B : Nat} {w : World} {a : Option Addr} {n : Nat} {xs : List Ex} (h : ExLB B w a n xs) : ExL w a n xs :=
  ⟨h.1, fun i hi => by
    obtain ⟨b, off, e, _, hc⟩ := h.2 i hi
    exact ⟨b, off, e, hc⟩⟩
theorem ExLB.below {B B' : Nat} {w w' : World} {a : Option Addr} {n : Nat} {xs : List Ex} (h : ExLB B w a n xs) (hb : Below B' w w') (hB : B ≤ B') : ExLB B w' a n xs :=
  ⟨h.1, fun i hi => by
    obtain ⟨b, off, e, hlt, hc⟩ := h.2 i hi
    exact ⟨b, off, e, hlt, hc.of_block hb.size (hb.block b (by omega))⟩⟩
theorem ExLB.grown {B g : Nat} {w w' : World} {a : Option Addr} {n : Nat} {xs : List Ex} (h : ExLB B w a n xs) (hg : w.grownBy w' (some g)) (hne : B ≤ g) : ExLB B w' a n xs :=
  ⟨h.1, fun i hi => by
    obtain ⟨b, off, e, hlt, hc⟩ := h.2 i hi
    exact ⟨b, off, e, hlt, hc.of_block hg.size (hg.block b hc.1 (by simp; omega))⟩⟩
/-- elements of a call's own, nil where there are none: k = 0: they hold xs; k = n: they hold the marks from m on -/
def ExO (B : Nat) (w : World) (a : Option Addr) (n k m : Nat) (xs : List Ex) : Prop :=
  (n = 0 ∧ xs = []) ∨ ∃ g, a = some ⟨g, 0, none⟩ ∧ B ≤ g ∧ SMG w g (n * 2) (mfEx m k) ∧ (k = 0 → ExL w a n xs)
theorem ExO.below {B : Nat} {w w' : World} {a : Option Addr} {n k m : Nat} {xs : List Ex} (h : ExO B w a n k m xs) (hb : Below w.heap.size w w') : ExO B w' a n k m xs := by
  rcases h with h | ⟨g, e, h1, h2, h3⟩
  · exact .inl h
  · exact .inr ⟨g, e, h1, h2.below hb, fun hk => (h3 hk).mono hb⟩
theorem ExO.far {B g' : Nat} {w w' : World} {a : Option Addr} {n k m : Nat} {xs : List Ex} (h : ExO B w a n k m xs) (hg : w.grownBy w' (some g')) (hne : g' < B) : ExO B w' a n k m xs := by
  rcases h with h | ⟨g, e, h1, h2, h3⟩
  · exact .inl h
  · refine .inr ⟨g, e, h1, h2.far hg (by omega), fun hk => ?_⟩
    have hS := h3 hk
    refine ⟨hS.1, fun i hi => ?_⟩
    obtain ⟨b, o, e', hc⟩ := hS.2 i hi
    rw [e] at e'
    cases e'
    exact ⟨g, 0, e, hc.of_block hg.size (hg.block g hc.1 (by simp; omega))⟩
theorem ExO.toL {B : Nat} {w : World} {a : Option Addr} {n m : Nat} {xs : List Ex} (h : ExO B w a n 0 m xs) : ExL w a n xs := by
  rcases h with ⟨h1, h2⟩ | ⟨g, e, h1, h2, h3⟩
  · exact ⟨by simp [h1, h2], fun i hi => absurd hi (by omega)⟩
  · exact h3 rfl
theorem ExO.of_own {w : World} {B e g n c m : Nat} {xs : List Ex} (h : w.ownsRow B e 2 (.slice (some ⟨g, 0, none⟩) n c) n (flatEx xs)) (hn : xs.length = n) : ExO B w (some ⟨g, 0, none⟩) n 0 m xs :=
  .inr ⟨g, rfl, (h.lt g rfl).1, (SMG.of_own h).congr (fun j u _ hu => by simp [mfEx] at hu), fun _ => ExL.of_own h hn⟩
/-- a call's answer: a list of its own, and a value beside it -/
def ExRes (B : Nat) (L : List Ex) (v : Value) (w : World) (e : Ending) : Prop := ∃ a c, e = .returned (.tuple #[.slice a L.length c, v]) ∧ ∀ m, ExO B w a L.length 0 m L
theorem ExRes.nil (B : Nat) (v : Value) (w : World) : ExRes B [] v w (.returned (.tuple #[.slice none 0 0, v])) := ⟨none, 0, rfl, fun _ => .inl ⟨rfl, rfl⟩⟩
theorem ExRes.own {B e n : Nat} {u v : Value} {xs : List Ex} {w : World} (h : w.ownsRow B e 2 u n (flatEx xs)) (hn : xs.length = n) : ExRes B xs v w (.returned (.tuple #[u, v])) := by
  subst hn
  rcases h.2 with ⟨hv, h0⟩ | ⟨g, cap, cur, hv, _⟩
  · subst hv
    have : xs = [] := List.length_eq_zero_iff.1 h0
    subst this
    exact ExRes.nil B v w
  · subst hv
    exact ⟨_, cap, rfl, fun _ => ExO.of_own h rfl⟩
theorem ExO.low {B B' : Nat} {w : World} {a : Option Addr} {n k m : Nat} {xs : List Ex} (h : ExO B w a n k m xs) (hB : B' ≤ B) : ExO B' w a n k m xs := by
  rcases h with h | ⟨g, e, h1, h2, h3⟩
  · exact .inl h
  · exact .inr ⟨g, e, Nat.le_trans hB h1, h2, h3⟩
theorem ExRes.low {B B' : Nat} {L : List Ex} {v : Value} {w : World} {e : Ending} (h : ExRes B L v w e) (hB : B' ≤ B) : ExRes B' L v w e := by
  obtain ⟨a, c, h1, h2⟩ := h
  exact ⟨a, c, h1, fun m => (h2 m).low hB⟩
set_option maxHeartbeats 1000000 in
theorem markExS_o (a : Option Addr) (n m c B : Nat) (xs : List Ex) (w0 w : World) (hB : Below B w0 w) (hBs : B ≤ w.heap.size) (hM : ExO B w a n 0 m xs) (hn : n ≤ 1048576) (h1 : 1 ≤ m) (hm : m ≤ 100000000) :
    Calls Try.prog 29 #[.slice a n c, .int .i64 m] w fun e w' => e = .returned (.int .i64 ((m + 2 * n : Nat) : Int)) ∧ ExO B w' a n n m [] ∧ Below B w0 w' := by
  rcases hM with ⟨rfl, rfl⟩ | ⟨g, rfl, h2, h3, -⟩
  · go_enter Try.func29, Try.ntmps29
    go_wp2
    go_loopw [1, 5] (fun a i wr => i = .int .i64 0 ∧ a = .int .i64 (m : Int) ∧ wr = w) (fun _ i _ => 0)
    case atStart => exact ⟨rfl, rfl, rfl⟩
    case round =>
      obtain ⟨rfl, rfl, rfl⟩ := hrel
      go_wp2
      go_ret
      exact ⟨rfl, .inl ⟨rfl, rfl⟩, hB⟩
  · refine (markExS_f g n m c w h3 hn h1 hm).mono ?_
    rintro e w' ⟨rfl, hM, hb⟩
    refine ⟨rfl, ?_, hB.grown hb hBs (fun j e => by cases e; exact h2)⟩
    by_cases h0 : n = 0
    · exact .inl ⟨h0, rfl⟩
    · exact .inr ⟨g, rfl, h2, hM, fun hk => absurd hk h0⟩
set_option maxHeartbeats 1000000 in
theorem heldExS_o (a : Option Addr) (n m c B : Nat) (xs : List Ex) (w : World) (hM : ExO B w a n n m xs) (hn : n ≤ 1048576) (h1 : 1 ≤ m) (hm : m ≤ 100000000) :
    Calls Try.prog 30 #[.slice a n c, .int .i64 m] w fun e w' => e = .returned (.int .i64 ((m + 2 * n : Nat) : Int)) ∧ Below w.heap.size w w' := by
  rcases hM with ⟨rfl, rfl⟩ | ⟨g, rfl, h2, h3, -⟩
  · go_enter Try.func30, Try.ntmps30
    go_wp2
    go_loopw [1, 5] (fun a i wr => i = .int .i64 0 ∧ a = .int .i64 (m : Int) ∧ wr = w) (fun _ i _ => 0)
    case atStart => exact ⟨rfl, rfl, rfl⟩
    case round =>
      obtain ⟨rfl, rfl, rfl⟩ := hrel
      go_wp2
      go_ret
      exact ⟨rfl, Below.refl _ _⟩
  · exact heldExS_f g n m c w h3 hn h1 hm
end Go.Proofs.Ytcjipmpccmppiab
