/- Slices of Minimum that a call owns, and the laws' marks on them (by gen.py). -/
import Derived.Test.YtbjflgohahmjgaaDoorGMi2
import Derived.Lib.SliceRun
namespace Go.Proofs.YtbjflgohahmjgaaDoor
open Go.ChangeShapes Go.WideShapes Go.ChangeAt Go.RowKit Go.Deep

/-- the cells of the elements, one behind the other -/
def flatMi (xs : List Mi) : List Value := xs.flatMap fun x => [fldMi x 0, fldMi x 1]
theorem flatMi_len (xs : List Mi) : (flatMi xs).length = xs.length * 2 := by
  induction xs with
  | nil => rfl
  | cons x xs ih => simp only [flatMi, List.flatMap_cons, List.length_append, List.length_cons, List.length_nil] at *; omega
theorem flatMi_at : ∀ (xs : List Mi) (i f : Nat), i < xs.length → f < 2 → (flatMi xs)[i * 2 + f]? = some (fldMi (xs[i]?.getD mi0) f)
  | [], i, f, hi, _ => absurd hi (by simp)
  | x :: xs, 0, f, _, hf => by
    match f, hf with
    | 0, _ => rfl
    | 1, _ => rfl
  | x :: xs, i + 1, f, hi, hf => by
    have ih := flatMi_at xs i f (by simpa using hi) hf
    have e : (i + 1) * 2 + f = (i * 2 + f) + 2 := by omega
    rw [e]
    simpa [flatMi] using ih
theorem flatMi_snoc (xs : List Mi) (x : Mi) : flatMi (xs ++ [x]) = flatMi xs ++ [fldMi x 0, fldMi x 1] := by simp [flatMi]
theorem flatMi_app (xs ys : List Mi) : flatMi (xs ++ ys) = flatMi xs ++ flatMi ys := by simp [flatMi]
theorem MiL.of_own {w : World} {B e c n : Nat} {a : Option Addr} {xs : List Mi} (h : w.ownsRow B e 2 (.slice a n c) n (flatMi xs)) (hn : xs.length = n) : MiL w a n xs := by
  refine ⟨hn, fun i hi => ?_⟩
  rcases h.2 with ⟨hv, h0⟩ | ⟨g, cap, cur, hv, hBg, hg, _, _, hs, ht⟩
  · omega
  · cases hv
    have hlt : g < w.heap.size := (h.lt g rfl).2
    refine ⟨g, 0, rfl, hlt, fun f hf => ?_⟩
    have := h.cells (g := g) rfl (i * 2 + f) _ (flatMi_at xs i f (by omega) hf)
    rw [Go.WideShapes.add_plain] at this
    rw [← this]
    congr 2
    omega
theorem cellsMi (w : World) (v0 v1 : Value) (T : TypeId) : ∀ j u, [v0, v1][j]? = some u → (w.alloc (.cells #[v0, v1] T)).cell? ((⟨w.heap.size, 0, none⟩ : Addr).add j) = some u := by
  intro j u hj
  rw [Go.WideShapes.add_plain, World.cell?_alloc_new]
  match j, hj with
  | 0, hj => exact hj
  | 1, hj => exact hj
  | j + 2, hj => simp at hj
theorem flatMi_cells {w : World} {a : Addr} {n : Nat} {xs : List Mi} (h : MiL w (some a) n xs) : ∀ j u, (flatMi xs)[j]? = some u → w.cell? (a.add j) = some u := by
  intro j u hj
  have hlt : j < xs.length * 2 := by
    have := (List.getElem?_eq_some_iff.1 hj).1
    rwa [flatMi_len] at this
  have hl := h.1
  obtain ⟨b, off, e, hc⟩ := h.2 (j / 2) (by omega)
  cases e
  have h1 := flatMi_at xs (j / 2) (j % 2) (by omega) (by omega)
  rw [show j / 2 * 2 + j % 2 = j from by omega, hj] at h1
  cases h1
  rw [Go.WideShapes.add_plain, ← hc.2 (j % 2) (by omega)]
  congr 2
  omega
theorem flatMi_one (xs : List Mi) : ∀ u ∈ flatMi xs, u.oneCell' = true := by
  intro u hu
  simp only [flatMi, List.mem_flatMap] at hu
  obtain ⟨x, _, hx⟩ := hu
  simp at hx
  rcases hx with rfl | rfl <;> rfl
/-- what the mark at cell j is -/
def mvMi (m j : Nat) : Value := if j % 2 = 0 then .int .i64 ((m + j : Nat) : Int) else .int .i64 ((m + j : Nat) : Int)
def mfMi (m k j : Nat) : Option Value := if j < k * 2 then some (mvMi m j) else none
theorem mvMi_0 (m k : Nat) : mvMi m (k * 2) = .int .i64 ((m + 2 * k : Nat) : Int) := by
  rw [mvMi, if_pos (by omega)]; congr 2; omega
theorem mvMi_1 (m k : Nat) : mvMi m (k * 2 + 1) = .int .i64 ((m + 2 * k + 1 : Nat) : Int) := by
  rw [mvMi, if_neg (by omega)]; congr 2; omega
theorem mfMi_step {m k : Nat} : ∀ j u, mfMi m (k + 1) j = some u →
    (if j = k * 2 + 1 then some (mvMi m (k * 2 + 1)) else if j = k * 2 then some (mvMi m (k * 2)) else mfMi m k j) = some u := by
  intro j u h
  unfold mfMi at h ⊢
  split at h
  · rename_i hlt
    rw [← h]
    by_cases h1 : j = k * 2 + 1
    · subst h1; rw [if_pos rfl]
    by_cases h0 : j = k * 2
    · subst h0; rw [if_neg h1, if_pos rfl]
    rw [if_neg h1, if_neg h0, if_pos (by omega)]
  · cases h
set_option maxHeartbeats 4000000 in
set_option maxRecDepth 100000 in
theorem markMiS_f (g n m c : Nat) (w : World) (hM : SMG w g (n * 2) (mfMi m 0)) (hn : n ≤ 1048576) (h1 : 1 ≤ m) (hm : m ≤ 100000000) :
    Calls Tryd.prog 34 #[.slice (some ⟨g, 0, none⟩) n c, .int .i64 m] w fun e w' => e = .returned (.int .i64 ((m + 2 * n : Nat) : Int)) ∧ SMG w' g (n * 2) (mfMi m n) ∧ w.grownBy w' (some g) := by
  have hl : (n : Int) ≤ 1048576 := by omega
  go_enter Tryd.func34, Tryd.ntmps34
  go_wp2
  go_loopw [1, 5] (fun a i wr => ∃ (k : Nat), k ≤ n ∧ i = .int .i64 k ∧ a = .int .i64 ((m + 2 * k : Nat) : Int) ∧ SMG wr g (n * 2) (mfMi m k) ∧ w.grownBy wr (some g)) (fun _ i _ => n - (Go.RowKit.intOf i).toNat)
  case atStart => exact ⟨0, Nat.zero_le _, rfl, rfl, hM, gRefl _ _⟩
  case round =>
    obtain ⟨k, hk, rfl, rfl, hrk, hBr⟩ := hrel
    by_cases hlt : k < n
    · have hkk : (k : Int) < (n : Int) := by omega
      obtain ⟨-, ⟨v0, d0, -⟩, z0⟩ := hrk (k * 2) (by omega)
      have hp0 := hrk.put (k * 2) (.int .i64 ((m + 2 * k : Nat) : Int))
      have hb0 := gPut hBr (k * 2) (.int .i64 ((m + 2 * k : Nat) : Int))
      obtain ⟨-, ⟨v1, d1, -⟩, z1⟩ := hrk (k * 2 + 1) (by omega)
      have hp1 := hp0.put (k * 2 + 1) (.int .i64 ((m + 2 * k + 1 : Nat) : Int))
      have hb1 := gPut hb0 (k * 2 + 1) (.int .i64 ((m + 2 * k + 1 : Nat) : Int))
      have HP := Lib.hid (hp1.congr (f' := mfMi m (k + 1)) (fun j u _ hu => by have := mfMi_step j u hu; simpa only [mvMi_0, mvMi_1] using this))
      have HB := Lib.hid hb1
      clear hrk hp0 hp1 hb0 hb1
      go_wp2
      go_roundw
      case rel => exact ⟨k + 1, by omega, by go_num, by go_num, HP.out, HB.out⟩
      case measure => simp [Go.RowKit.intOf]; omega
    · obtain rfl : k = n := by omega
      go_wp2
      go_ret
      exact ⟨rfl, hrk, hBr⟩
set_option maxHeartbeats 4000000 in
set_option maxRecDepth 100000 in
theorem heldMiS_f (g n m c : Nat) (w : World) (hM : SMG w g (n * 2) (mfMi m n)) (hn : n ≤ 1048576) (h1 : 1 ≤ m) (hm : m ≤ 100000000) :
    Calls Tryd.prog 35 #[.slice (some ⟨g, 0, none⟩) n c, .int .i64 m] w fun e w' => e = .returned (.int .i64 ((m + 2 * n : Nat) : Int)) ∧ Below w.heap.size w w' := by
  have hl : (n : Int) ≤ 1048576 := by omega
  go_enter Tryd.func35, Tryd.ntmps35
  go_wp2
  go_loopw [1, 5] (fun a i wr => ∃ (k : Nat), k ≤ n ∧ i = .int .i64 k ∧ a = .int .i64 ((m + 2 * k : Nat) : Int) ∧ Below w.heap.size w wr) (fun _ i _ => n - (Go.RowKit.intOf i).toNat)
  case atStart => exact ⟨0, Nat.zero_le _, rfl, rfl, Below.refl _ _⟩
  case round =>
    obtain ⟨k, hk, rfl, rfl, hB⟩ := hrel
    by_cases hlt : k < n
    · have hkk : (k : Int) < (n : Int) := by omega
      have hMr := hM.below hB
      have hv : ∀ f, f < 2 → wr.cell? ⟨g, k * 2 + f, none⟩ = some (mvMi m (k * 2 + f)) := fun f hf => by
        obtain ⟨-, ⟨v, h2, h3⟩, -⟩ := hMr (k * 2 + f) (by omega)
        rw [h2, h3 (mvMi m (k * 2 + f)) (by rw [mfMi, if_pos (by omega)])]
      have hgl := (hMr (k * 2) (by omega)).1
      have c0 : wr.cell? ⟨g, k * 2, none⟩ = some (.int .i64 ((m : Int) + 2 * k)) := by have := hv 0 (by omega); rw [Nat.add_zero, mvMi_0] at this; exact this.trans (by first | rfl | (congr 2; omega))
      have c1 : wr.cell? ⟨g, k * 2 + 1, none⟩ = some (.int .i64 ((m : Int) + 2 * k + 1)) := by have := hv 1 (by omega); rw [mvMi_1] at this; exact this.trans (by first | rfl | (congr 2; omega))
      clear hv hMr
      have n1 : ∀ x : Int, (x != x) = false := intSelf
      go_wp2
      go_roundw
      case rel => exact ⟨k + 1, by omega, by go_num, by go_num, by (repeat (first | assumption | exact Below.refl _ _ | refine belowDN ?_ _ | refine Below.drew ?_ | refine Below.setCell ?_ (by first | omega | (simp <;> omega)) _ | refine Below.alloc ?_ (by first | omega | (simp <;> omega)) _ | refine belowCall ?_ (by assumption)))⟩
      case measure => simp [Go.RowKit.intOf]; omega
    · obtain rfl : k = n := by omega
      go_wp2
      go_ret
      exact ⟨rfl, hB⟩
/-- elements whose cells lie in blocks below B -/
def MiLB (B : Nat) (w : World) (a : Option Addr) (n : Nat) (xs : List Mi) : Prop :=
  xs.length = n ∧ ∀ i, i < n → ∃ b off, a = some ⟨b, off, none⟩ ∧ b < B ∧ MiC w b (off + i * 2) (xs[i]?.getD mi0)
theorem MiL.toB {w : World} {a : Option Addr} {n : Nat} {xs : List Mi} (h : MiL w a n xs) : MiLB w.heap.size w a n xs :=
  ⟨h.1, fun i hi => by
    obtain ⟨b, off, e, hc⟩ := h.2 i hi
    exact ⟨b, off, e, hc.1, hc⟩⟩
theorem MiLB.toL {B : Nat} {w : World} {a : Option Addr} {n : Nat} {xs : List Mi} (h : MiLB B w a n xs) : MiL w a n xs :=
  ⟨h.1, fun i hi => by
    obtain ⟨b, off, e, _, hc⟩ := h.2 i hi
    exact ⟨b, off, e, hc⟩⟩
theorem MiLB.below {B B' : Nat} {w w' : World} {a : Option Addr} {n : Nat} {xs : List Mi} (h : MiLB B w a n xs) (hb : Below B' w w') (hB : B ≤ B') : MiLB B w' a n xs :=
  ⟨h.1, fun i hi => by
    obtain ⟨b, off, e, hlt, hc⟩ := h.2 i hi
    exact ⟨b, off, e, hlt, hc.of_block hb.size (hb.block b (by omega))⟩⟩
theorem MiLB.grown {B g : Nat} {w w' : World} {a : Option Addr} {n : Nat} {xs : List Mi} (h : MiLB B w a n xs) (hg : w.grownBy w' (some g)) (hne : B ≤ g) : MiLB B w' a n xs :=
  ⟨h.1, fun i hi => by
    obtain ⟨b, off, e, hlt, hc⟩ := h.2 i hi
    exact ⟨b, off, e, hlt, hc.of_block hg.size (hg.block b hc.1 (by simp; omega))⟩⟩
/-- elements of a call's own, nil where there are none: k = 0: they hold xs; k = n: they hold the marks from m on -/
def MiO (B : Nat) (w : World) (a : Option Addr) (n k m : Nat) (xs : List Mi) : Prop :=
  (n = 0 ∧ xs = []) ∨ ∃ g, a = some ⟨g, 0, none⟩ ∧ B ≤ g ∧ SMG w g (n * 2) (mfMi m k) ∧ (k = 0 → MiL w a n xs)
theorem MiO.below {B : Nat} {w w' : World} {a : Option Addr} {n k m : Nat} {xs : List Mi} (h : MiO B w a n k m xs) (hb : Below w.heap.size w w') : MiO B w' a n k m xs := by
  rcases h with h | ⟨g, e, h1, h2, h3⟩
  · exact .inl h
  · exact .inr ⟨g, e, h1, h2.below hb, fun hk => (h3 hk).mono hb⟩
theorem MiO.far {B g' : Nat} {w w' : World} {a : Option Addr} {n k m : Nat} {xs : List Mi} (h : MiO B w a n k m xs) (hg : w.grownBy w' (some g')) (hne : g' < B) : MiO B w' a n k m xs := by
  rcases h with h | ⟨g, e, h1, h2, h3⟩
  · exact .inl h
  · refine .inr ⟨g, e, h1, h2.far hg (by omega), fun hk => ?_⟩
    have hS := h3 hk
    refine ⟨hS.1, fun i hi => ?_⟩
    obtain ⟨b, o, e', hc⟩ := hS.2 i hi
    rw [e] at e'
    cases e'
    exact ⟨g, 0, e, hc.of_block hg.size (hg.block g hc.1 (by simp; omega))⟩
theorem MiO.toL {B : Nat} {w : World} {a : Option Addr} {n m : Nat} {xs : List Mi} (h : MiO B w a n 0 m xs) : MiL w a n xs := by
  rcases h with ⟨h1, h2⟩ | ⟨g, e, h1, h2, h3⟩
  · exact ⟨by simp [h1, h2], fun i hi => absurd hi (by omega)⟩
  · exact h3 rfl
theorem MiO.of_own {w : World} {B e g n c m : Nat} {xs : List Mi} (h : w.ownsRow B e 2 (.slice (some ⟨g, 0, none⟩) n c) n (flatMi xs)) (hn : xs.length = n) : MiO B w (some ⟨g, 0, none⟩) n 0 m xs :=
  .inr ⟨g, rfl, (h.lt g rfl).1, (SMG.of_own h).congr (fun j u _ hu => by simp [mfMi] at hu), fun _ => MiL.of_own h hn⟩
/-- a call's answer: a list of its own, and a value beside it -/
def MiRes (B : Nat) (L : List Mi) (v : Value) (w : World) (e : Ending) : Prop := ∃ a c, e = .returned (.tuple #[.slice a L.length c, v]) ∧ ∀ m, MiO B w a L.length 0 m L
theorem MiRes.nil (B : Nat) (v : Value) (w : World) : MiRes B [] v w (.returned (.tuple #[.slice none 0 0, v])) := ⟨none, 0, rfl, fun _ => .inl ⟨rfl, rfl⟩⟩
theorem MiRes.own {B e n : Nat} {u v : Value} {xs : List Mi} {w : World} (h : w.ownsRow B e 2 u n (flatMi xs)) (hn : xs.length = n) : MiRes B xs v w (.returned (.tuple #[u, v])) := by
  subst hn
  rcases h.2 with ⟨hv, h0⟩ | ⟨g, cap, cur, hv, _⟩
  · subst hv
    have : xs = [] := List.length_eq_zero_iff.1 h0
    subst this
    exact MiRes.nil B v w
  · subst hv
    exact ⟨_, cap, rfl, fun _ => MiO.of_own h rfl⟩
theorem MiO.low {B B' : Nat} {w : World} {a : Option Addr} {n k m : Nat} {xs : List Mi} (h : MiO B w a n k m xs) (hB : B' ≤ B) : MiO B' w a n k m xs := by
  rcases h with h | ⟨g, e, h1, h2, h3⟩
  · exact .inl h
  · exact .inr ⟨g, e, Nat.le_trans hB h1, h2, h3⟩
theorem MiRes.low {B B' : Nat} {L : List Mi} {v : Value} {w : World} {e : Ending} (h : MiRes B L v w e) (hB : B' ≤ B) : MiRes B' L v w e := by
  obtain ⟨a, c, h1, h2⟩ := h
  exact ⟨a, c, h1, fun m => (h2 m).low hB⟩
set_option maxHeartbeats 1000000 in
theorem markMiS_o (a : Option Addr) (n m c B : Nat) (xs : List Mi) (w0 w : World) (hB : Below B w0 w) (hBs : B ≤ w.heap.size) (hM : MiO B w a n 0 m xs) (hn : n ≤ 1048576) (h1 : 1 ≤ m) (hm : m ≤ 100000000) :
    Calls Tryd.prog 34 #[.slice a n c, .int .i64 m] w fun e w' => e = .returned (.int .i64 ((m + 2 * n : Nat) : Int)) ∧ MiO B w' a n n m [] ∧ Below B w0 w' := by
  rcases hM with ⟨rfl, rfl⟩ | ⟨g, rfl, h2, h3, -⟩
  · go_enter Tryd.func34, Tryd.ntmps34
    go_wp2
    go_loopw [1, 5] (fun a i wr => i = .int .i64 0 ∧ a = .int .i64 (m : Int) ∧ wr = w) (fun _ i _ => 0)
    case atStart => exact ⟨rfl, rfl, rfl⟩
    case round =>
      obtain ⟨rfl, rfl, rfl⟩ := hrel
      go_wp2
      go_ret
      exact ⟨rfl, .inl ⟨rfl, rfl⟩, hB⟩
  · refine (markMiS_f g n m c w h3 hn h1 hm).mono ?_
    rintro e w' ⟨rfl, hM, hb⟩
    refine ⟨rfl, ?_, hB.grown hb hBs (fun j e => by cases e; exact h2)⟩
    by_cases h0 : n = 0
    · exact .inl ⟨h0, rfl⟩
    · exact .inr ⟨g, rfl, h2, hM, fun hk => absurd hk h0⟩
set_option maxHeartbeats 1000000 in
theorem heldMiS_o (a : Option Addr) (n m c B : Nat) (xs : List Mi) (w : World) (hM : MiO B w a n n m xs) (hn : n ≤ 1048576) (h1 : 1 ≤ m) (hm : m ≤ 100000000) :
    Calls Tryd.prog 35 #[.slice a n c, .int .i64 m] w fun e w' => e = .returned (.int .i64 ((m + 2 * n : Nat) : Int)) ∧ Below w.heap.size w w' := by
  rcases hM with ⟨rfl, rfl⟩ | ⟨g, rfl, h2, h3, -⟩
  · go_enter Tryd.func35, Tryd.ntmps35
    go_wp2
    go_loopw [1, 5] (fun a i wr => i = .int .i64 0 ∧ a = .int .i64 (m : Int) ∧ wr = w) (fun _ i _ => 0)
    case atStart => exact ⟨rfl, rfl, rfl⟩
    case round =>
      obtain ⟨rfl, rfl, rfl⟩ := hrel
      go_wp2
      go_ret
      exact ⟨rfl, Below.refl _ _⟩
  · exact heldMiS_f g n m c w h3 hn h1 hm
end Go.Proofs.YtbjflgohahmjgaaDoor
