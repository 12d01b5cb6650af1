/- Slices of int64: copies of a call's own, the laws' marks, what lies below a world. -/
import Derived.Test.YtbjflgohahmjgaaDoorB3
import Derived.Test.YtbjflgohahmjgaaDoorG0
namespace Go.Proofs.YtbjflgohahmjgaaDoor
open Go.ChangeShapes Go.WideShapes Go.ChangeAt Go.RowKit Go.Deep

set_option maxHeartbeats 1000000 in
theorem toIntO_any (a : Option Addr) (len cap : Nat) (xs : List Int) (w : World) (h : Lst w a len xs) (hlen : len ≤ 1048576) :
    Calls Tryd.prog 30 #[.slice a len cap] w fun e w' => ∃ g, e = .returned (.slice (some ⟨g, 0, none⟩) len len) ∧ w'.ownsRow w.heap.size 2 1 (.slice (some ⟨g, 0, none⟩) len len) len (xs.map (Value.int .i64)) ∧ Below w.heap.size w w' := by
  obtain ⟨i0, hi, hz0, hz1, hz2⟩ := info_parts A_info
  go_enter Tryd.func30, Tryd.ntmps30
  have hb : len ≤ maxLen := by unfold maxLen; omega
  have hsz := h.1
  have hl : (len : Int) ≤ 1048576 := by omega
  clear hsz
  go_wp2_with (at_make; refine wpList_make_full _ rfl _ _ 35 rfl w.heap.size 2 i0 (.int .i64 0) 1 Tryd.underlying35 hi hz0 hz1 .i64 .i64 len len len rfl rfl rfl rfl (by rw [hz2]; omega) hb (Nat.le_refl _) ?_; intro w1 hown hgrow)
  go_loopw [4] (fun i wr => ∃ k : Nat, k ≤ len ∧ i = .int .i64 k ∧ wr.ownsRow w.heap.size 2 1 (.slice (some ⟨w.heap.size, 0, none⟩) len len) len (cop xs k len) ∧ Below w.heap.size w wr) (fun i _ => len - (Go.RowKit.intOf i).toNat)
  case atStart => exact ⟨0, Nat.zero_le _, rfl, by rw [← cop_zero]; exact hown, (Below.refl _ _).grown hgrow (Nat.le_refl _) (fun k hk => by cases hk)⟩
  case round =>
    obtain ⟨k, hk, rfl, hownr, hbel⟩ := hrel
    clear hown hgrow
    by_cases hlt : k < len
    · obtain ⟨b, off, rfl, hbs, hcell⟩ := h.2 k hlt
      have hcw : wr.cell? ⟨b, off + k, none⟩ = some (.int .i64 (xs[k]?.getD 0)) := by rw [hbel.cell (p := ⟨b, off + k, none⟩) hbs]; exact hcell
      have hfz := hownr.frozenAt k
      have hco : wr.cell? ⟨w.heap.size, k, none⟩ = some (.int .i64 0) := by rw [hownr.cellAt k (by omega)]; exact cop_at xs k len hlt h.1
      obtain ⟨hs1, hs2⟩ := hownr.stored k (.int .i64 (xs[k]?.getD 0))
      go_wp2
      go_roundw
      case rel => exact ⟨k + 1, by omega, by go_num, by rw [← cop_set xs k len hlt h.1]; exact hs1, hbel.grown hs2 hbel.size (fun j hj => by cases hj; exact Nat.le_refl _)⟩
      case measure => simp [Go.RowKit.intOf]; omega
    · obtain rfl : k = len := by omega
      go_wp2
      go_ret
      rw [cop_full xs k h.1] at hownr
      exact ⟨_, rfl, hownr, hbel⟩
/-- the first k cells hold the marks from m on -/
def mfI (m k j : Nat) : Option Value := if j < k then some (.int .i64 ((m + j : Nat) : Int)) else none
theorem mfI_step {m k : Nat} {v : Int} (hv : v = ((m + k : Nat) : Int)) : ∀ j u, mfI m (k + 1) j = some u → (if j = k then some (Value.int .i64 v) else mfI m k j) = some u := by
  intro j u h
  unfold mfI at h ⊢
  split at h
  · rename_i hlt
    rw [← h]
    by_cases e : j = k
    · subst e; rw [if_pos rfl, hv]
    · rw [if_neg e, if_pos (by omega)]
  · cases h
set_option maxHeartbeats 1000000 in
theorem markI_f (g n m c : Nat) (w : World) (hM : SMG w g n (mfI m 0)) (hn : n ≤ 1048576) (h1 : 1 ≤ m) (hm : m ≤ 1000000000) :
    Calls Tryd.prog 33 #[.slice (some ⟨g, 0, none⟩) n c, .int .i64 m] w fun e w' => e = .returned (.int .i64 ((m + n : Nat) : Int)) ∧ SMG w' g n (mfI m n) ∧ w.grownBy w' (some g) := by
  have hl : (n : Int) ≤ 1048576 := by omega
  go_enter Tryd.func33, Tryd.ntmps33
  go_wp2
  go_loopw [1, 5] (fun a i wr => ∃ k : Nat, k ≤ n ∧ i = .int .i64 k ∧ a = .int .i64 ((m + k : Nat) : Int) ∧ SMG wr g n (mfI m k) ∧ w.grownBy wr (some g)) (fun _ i _ => n - (Go.RowKit.intOf i).toNat)
  case atStart => exact ⟨0, Nat.zero_le _, rfl, rfl, hM, gRefl _ _⟩
  case round =>
    obtain ⟨k, hk, rfl, rfl, hMk, hB⟩ := hrel
    by_cases hlt : k < n
    · have hkk : (k : Int) < (n : Int) := by omega
      obtain ⟨hgl, ⟨v0, d0, -⟩, f0⟩ := hMk k hlt
      have HP := Lib.hid ((hMk.put k (.int .i64 ((m + k : Nat) : Int))).congr (f' := mfI m (k + 1)) (fun j u _ hu => mfI_step rfl j u hu))
      have HB := Lib.hid (gPut hB k (.int .i64 ((m + k : Nat) : Int)))
      clear hMk
      go_wp2
      go_roundw
      case rel => exact ⟨k + 1, by omega, by go_num, by go_num, HP.out, HB.out⟩
      case measure => simp [Go.RowKit.intOf]; omega
    · obtain rfl : k = n := by omega
      go_wp2
      go_ret
      exact ⟨rfl, hMk, hB⟩
/-- numbers whose cells lie in blocks below B -/
def LsB (B : Nat) (w : World) (a : Option Addr) (n : Nat) (xs : List Int) : Prop :=
  xs.length = n ∧ ∀ i, i < n → ∃ b off, a = some ⟨b, off, none⟩ ∧ b < B ∧ b < w.heap.size ∧ w.cell? ⟨b, off + i, none⟩ = some (.int .i64 (xs[i]?.getD 0))
theorem Lst.toB {w : World} {a : Option Addr} {n : Nat} {xs : List Int} (h : Lst w a n xs) : LsB w.heap.size w a n xs :=
  ⟨h.1, fun i hi => by
    obtain ⟨b, off, e, h1, hc⟩ := h.2 i hi
    exact ⟨b, off, e, h1, h1, hc⟩⟩
theorem LsB.toL {B : Nat} {w : World} {a : Option Addr} {n : Nat} {xs : List Int} (h : LsB B w a n xs) : Lst w a n xs :=
  ⟨h.1, fun i hi => by
    obtain ⟨b, off, e, _, h1, hc⟩ := h.2 i hi
    exact ⟨b, off, e, h1, hc⟩⟩
theorem LsB.of_block {B : Nat} {w w' : World} {a : Option Addr} {n : Nat} {xs : List Int} (h : LsB B w a n xs) (hs : w.heap.size ≤ w'.heap.size) (e : ∀ b, b < B → b < w.heap.size → w'.heap[b]? = w.heap[b]?) : LsB B w' a n xs :=
  ⟨h.1, fun i hi => by
    obtain ⟨b, off, e', h1, h2, hc⟩ := h.2 i hi
    exact ⟨b, off, e', h1, Nat.lt_of_lt_of_le h2 hs, by rw [World.cell?_of_block (a := ⟨b, off + i, none⟩) (e b h1 h2)]; exact hc⟩⟩
theorem LsB.below {B B' : Nat} {w w' : World} {a : Option Addr} {n : Nat} {xs : List Int} (h : LsB B w a n xs) (hb : Below B' w w') (hB : B ≤ B') : LsB B w' a n xs :=
  h.of_block hb.size (fun b h1 _ => hb.block b (by omega))
theorem LsB.grown {B g : Nat} {w w' : World} {a : Option Addr} {n : Nat} {xs : List Int} (h : LsB B w a n xs) (hg : w.grownBy w' (some g)) (hne : B ≤ g) : LsB B w' a n xs :=
  h.of_block hg.size (fun b h1 h2 => hg.block b h2 (by simp; omega))
/-- numbers of a call's own, nil where there are none: k = 0: they are xs; k = n: they are the marks from m on -/
def IntO (B : Nat) (w : World) (a : Option Addr) (n k m : Nat) (xs : List Int) : Prop :=
  (n = 0 ∧ xs = []) ∨ ∃ g, a = some ⟨g, 0, none⟩ ∧ B ≤ g ∧ SMG w g n (mfI m k) ∧ (k = 0 → Lst w a n xs)
theorem Lst.far {w w' : World} {g g' n : Nat} {xs : List Int} (h : Lst w (some ⟨g, 0, none⟩) n xs) (hg : w.grownBy w' (some g')) (hne : g ≠ g') : Lst w' (some ⟨g, 0, none⟩) n xs :=
  ⟨h.1, fun i hi => by
    obtain ⟨b, off, e, h1, hc⟩ := h.2 i hi
    cases e
    exact ⟨g, 0, rfl, Nat.lt_of_lt_of_le h1 hg.size, by rw [World.cell?_of_block (a := ⟨g, 0 + i, none⟩) (hg.block g h1 (by simpa using hne))]; exact hc⟩⟩
theorem IntO.below {B : Nat} {w w' : World} {a : Option Addr} {n k m : Nat} {xs : List Int} (h : IntO B w a n k m xs) (hb : Below w.heap.size w w') : IntO B w' a n k m xs := by
  rcases h with h | ⟨g, e, h1, h2, h3⟩
  · exact .inl h
  · exact .inr ⟨g, e, h1, h2.below hb, fun hk => (h3 hk).mono hb⟩
theorem IntO.far {B g' : Nat} {w w' : World} {a : Option Addr} {n k m : Nat} {xs : List Int} (h : IntO B w a n k m xs) (hg : w.grownBy w' (some g')) (hne : g' < B) : IntO B w' a n k m xs := by
  rcases h with h | ⟨g, rfl, h1, h2, h3⟩
  · exact .inl h
  · exact .inr ⟨g, rfl, h1, h2.far hg (by omega), fun hk => (h3 hk).far hg (by omega)⟩
theorem IntO.toL {B : Nat} {w : World} {a : Option Addr} {n m : Nat} {xs : List Int} (h : IntO B w a n 0 m xs) : Lst w a n xs := by
  rcases h with ⟨h1, h2⟩ | ⟨g, e, h1, h2, h3⟩
  · exact ⟨by simp [h1, h2], fun i hi => absurd hi (by omega)⟩
  · exact h3 rfl
theorem SMG.of_ints {w : World} {B e g n c m : Nat} {xs : List Int} (h : w.ownsRow B e 1 (.slice (some ⟨g, 0, none⟩) n c) n (xs.map (Value.int .i64))) : SMG w g n (mfI m 0) := by
  have h1 := SMG.of_own h
  rw [Nat.mul_one] at h1
  exact h1.congr (fun j u _ hu => by simp [mfI] at hu)
theorem IntO.of_own {w : World} {B e g n c m : Nat} {xs : List Int} (h : w.ownsRow B e 1 (.slice (some ⟨g, 0, none⟩) n c) n (xs.map (Value.int .i64))) : IntO B w (some ⟨g, 0, none⟩) n 0 m xs :=
  .inr ⟨g, rfl, (h.lt g rfl).1, SMG.of_ints h, fun _ => Lst.of_own h⟩
theorem IntO.of_owns {w : World} {B e n m : Nat} {v : Value} {xs : List Int} (h : w.ownsRow B e 1 v n (xs.map (Value.int .i64))) : ∃ a c, v = .slice a n c ∧ IntO B w a n 0 m xs := by
  have hl := h.1
  rcases h.2 with ⟨hv, h0⟩ | ⟨g, cap, cur, hv, _⟩
  · subst h0
    exact ⟨none, 0, hv, .inl ⟨rfl, by simpa using hl⟩⟩
  · subst hv
    exact ⟨_, cap, rfl, IntO.of_own h⟩
set_option maxHeartbeats 1000000 in
theorem markI_o (a : Option Addr) (n m c B : Nat) (xs : List Int) (w0 w : World) (hB : Below B w0 w) (hBs : B ≤ w.heap.size) (hM : IntO B w a n 0 m xs) (hn : n ≤ 1048576) (h1 : 1 ≤ m) (hm : m ≤ 1000000000) :
    Calls Tryd.prog 33 #[.slice a n c, .int .i64 m] w fun e w' => e = .returned (.int .i64 ((m + n : Nat) : Int)) ∧ IntO B w' a n n m [] ∧ Below B w0 w' := by
  rcases hM with ⟨rfl, rfl⟩ | ⟨g, rfl, h2, h3, -⟩
  · go_enter Tryd.func33, Tryd.ntmps33
    go_wp2
    go_loopw [1, 5] (fun a i wr => i = .int .i64 0 ∧ a = .int .i64 (m : Int) ∧ wr = w) (fun _ i _ => 0)
    case atStart => exact ⟨rfl, rfl, rfl⟩
    case round =>
      obtain ⟨rfl, rfl, rfl⟩ := hrel
      go_wp2
      go_ret
      exact ⟨rfl, .inl ⟨rfl, rfl⟩, hB⟩
  · refine (markI_f g n m c w h3 hn h1 hm).mono ?_
    rintro e w' ⟨rfl, hM, hb⟩
    refine ⟨rfl, ?_, hB.grown hb hBs (fun j e => by cases e; exact h2)⟩
    by_cases h0 : n = 0
    · exact .inl ⟨h0, rfl⟩
    · exact .inr ⟨g, rfl, h2, hM, fun hk => absurd hk h0⟩
theorem eqI_self (a b : Option Addr) (n c c' : Nat) (xs : List Int) (w : World) (h : Lst w a n xs) (h' : Lst w b n xs) (hn : n ≤ 1048576) :
    Calls Tryd.prog 32 #[.slice a n c, .slice b n c'] w fun e w' => e = .returned (.bool true) ∧ Below w.heap.size w w' :=
  (eqInt64S_any a b n c n c' xs xs w h h' hn hn).mono fun _ _ ⟨h1, h2⟩ => ⟨by rw [h1]; simp, h2⟩
end Go.Proofs.YtbjflgohahmjgaaDoor
