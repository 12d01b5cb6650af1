/- The model's source of choices (l00Src): what each draw is good for: its bounds, and that nothing but the source's own block is written. -/
import Derived.Test.YtidiiladlmaigaaB4
import Derived.WalkLawsBesides
import Derived.Laws.Rows
namespace Go.Proofs.Ytidiiladlmaigaa
open Go.ChangeShapes Go.WideShapes Go.ChangeAt Go.RowKit

/-- the bytes 'a, len' lie in a block before number g -/
def LstB (w : World) (g : Nat) (a : Option Addr) (len : Nat) : Prop :=
  ∀ i, i < len → ∃ b off v, a = some ⟨b, off, none⟩ ∧ b < g ∧ w.cell? ⟨b, off + i, none⟩ = some (.int .u8 v) ∧ 0 ≤ v ∧ v ≤ 255
/-- the source in block g: at most M bytes have been read -/
def Src (w : World) (T : TypeId) (g : Nat) (a : Option Addr) (len cap M : Nat) : Prop :=
  ∃ (t : Nat) (x : Int), t ≤ M ∧ w.heap[g]? = some (.cells #[.slice a len cap, .int .i64 t, .int .u64 x] T (0, 0))
theorem grown_trans {a b c : World} {row : Option Nat} (h : a.grownBy b row) (k : b.grownBy c row) : a.grownBy c row :=
  ⟨k.os.trans h.os, k.tape.trans h.tape, k.output.trans h.output, Nat.le_trans h.size k.size, fun i hi hr => (k.block i (Nat.lt_of_lt_of_le hi h.size) hr).trans (h.block i hi hr)⟩
theorem grown_refl (a : World) (row : Option Nat) : a.grownBy a row := ⟨rfl, rfl, rfl, Nat.le_refl _, fun _ _ _ => rfl⟩
theorem grown_drewN {a b : World} {row : Option Nat} (h : a.grownBy b row) (n : Nat) : a.grownBy (b.drewN n) row := ⟨h.os, h.tape, h.output, h.size, h.block⟩
theorem grown_set {a b : World} {g : Nat} (h : a.grownBy b (some g)) (j : Nat) (u : Value) : a.grownBy (b.setCell ⟨g, j, none⟩ u) (some g) :=
  ⟨h.os, h.tape, h.output, by simpa using h.size, fun i hi hr => (Below.heap_setCell _ _ _ _ (fun e => hr (by rw [e]))).trans (h.block i hi hr)⟩
theorem LstB.grown {w w' : World} {g a len} (h : LstB w g a len) (hg : w.grownBy w' (some g)) : LstB w' g a len := fun i hi => by
  obtain ⟨b, off, v, e, hb, hc, h0, h1⟩ := h i hi
  exact ⟨b, off, v, e, hb, hg.cell hc (fun e => by simp at e; omega), h0, h1⟩
theorem src_put {w : World} {T : TypeId} {g t M : Nat} {a : Option Addr} {len cap : Nat} {x : Int} (hg : w.heap[g]? = some (.cells #[.slice a len cap, .int .i64 t, .int .u64 x] T (0, 0))) (ht : t ≤ M) (n m : Nat) (y : Int) :
    Src ((((w.drewN n).setCell ⟨g, 1, none⟩ (.int .i64 ((t : Int) + 1))).setCell ⟨g, 2, none⟩ (.int .u64 y)).drewN m) T g a len cap (M + 1) ∧
    w.grownBy ((((w.drewN n).setCell ⟨g, 1, none⟩ (.int .i64 ((t : Int) + 1))).setCell ⟨g, 2, none⟩ (.int .u64 y)).drewN m) (some g) := by
  have h0 : (w.drewN n).heap[g]? = _ := hg
  have h1 := heap_setCell_same (w.drewN n) g 1 _ T (.int .i64 ((t : Int) + 1)) h0
  have h2 := heap_setCell_same _ g 2 _ T (.int .u64 y) h1
  exact ⟨⟨t + 1, y, by omega, h2⟩, grown_drewN (grown_set (grown_set (grown_drewN (grown_refl _ _) _) _ _) _ _) _⟩
theorem and255 (y : Int) : 0 ≤ wrap64 (bits .and .u64 (IntKind.u64.wrap y / 1099511627776) 255) ∧ wrap64 (bits .and .u64 (IntKind.u64.wrap y / 1099511627776) 255) ≤ 255 := by
  have h1 : 0 ≤ IntKind.u64.wrap y ∧ IntKind.u64.wrap y < 18446744073709551616 := by
    simp only [IntKind.wrap_u64]; omega
  generalize IntKind.u64.wrap y = z at h1
  obtain ⟨n, hn⟩ : ∃ n : Nat, z / 1099511627776 = n := ⟨(z / 1099511627776).toNat, by omega⟩
  have hn2 : n < 18446744073709551616 := by omega
  have hb := bits_and_u64_nat n 255 hn2 (by omega)
  have hle : n &&& 255 ≤ 255 := Nat.and_le_right
  rw [hn, show (255 : Int) = ((255 : Nat) : Int) from rfl, hb]
  unfold wrap64
  omega
def NextPost (w : World) (T : TypeId) (g : Nat) (a : Option Addr) (len cap M : Nat) (m : Int) (e : Ending) (w' : World) : Prop :=
  ∃ v : Int, e = .returned (.int .i64 v) ∧ 0 ≤ v ∧ v ≤ m ∧ Src w' T g a len cap M ∧ w.grownBy w' (some g)

theorem next_any (g : Nat) (a : Option Addr) (len cap M : Nat) (w : World) (h : Src w 101 g a len cap M) (hb : LstB w g a len) (hM : M ≤ 1000000000000) (_hlen : len ≤ 1048576) :
    Calls Try.prog 83 #[.pointer (some ⟨g, 0, none⟩)] w (NextPost w 101 g a len cap (M + 1) 255) := by
  obtain ⟨t, x, ht, hg⟩ := h
  have c0 := cell_of_row w g 0 _ _ _ hg
  have c1 := cell_of_row w g 1 _ _ _ hg
  have c2 := cell_of_row w g 2 _ _ _ hg
  have f1 := frozen_of_row w g 1 _ _ hg
  have f2 := frozen_of_row w g 2 _ _ hg
  have HG := Lib.hid hg
  clear hg
  simp at c0 c1 c2
  by_cases hlt : t < len
  · obtain ⟨b, off, v, rfl, hbg, hc, v0, v1⟩ := hb t hlt
    have hne : ¬ b = g := by omega
    go_enter Try.func83, Try.ntmps83
    go_wp2
    go_quiet (fail)
    go_wp2
    go_quiet (fail)
    go_wp2
    go_quiet (fail)
    go_wp2
    · have hr := src_put HG.out ht
      go_ret
      exact ⟨v, rfl, v0, v1, hr _ _ _⟩
  · go_enter Try.func83, Try.ntmps83
    go_wp2
    go_quiet (fail)
    go_wp2
    go_quiet (fail)
    go_wp2
    have hr := src_put HG.out ht
    go_ret
    exact ⟨_, rfl, (and255 _).1, (and255 _).2, hr _ _ _⟩
theorem pick_any (n m : Int) (g : Nat) (a : Option Addr) (len cap M : Nat) (w : World) (h : Src w 101 g a len cap M) (hb : LstB w g a len) (hM : M ≤ 100000000000) (hlen : len ≤ 1048576) (hn : n ≤ 1000000) (hm : n - 1 ≤ m) (hm0 : 0 ≤ m) :
    Calls Try.prog 71 #[.pointer (some ⟨g, 0, none⟩), .int .i64 n] w (NextPost w 101 g a len cap (M + 2) m) := by
  by_cases h1 : n ≤ 1
  · obtain ⟨t, x, ht, hg⟩ := h
    have HG := Lib.hid hg
    clear hg
    go_enter Try.func71, Try.ntmps71
    go_wp2
    go_ret
    exact ⟨0, rfl, by omega, by omega, ⟨t, x, by omega, HG.out⟩, grown_refl _ _⟩
  have h1' : 1 ≤ n := by omega
  by_cases h2 : n ≤ 200
  · go_enter Try.func71, Try.ntmps71
    go_wp2_with fail
    refine (next_any g a len cap M w h hb (by omega) hlen).mono ?_
    rintro e w1 ⟨v, rfl, v0, v1, hs, hgr⟩
    have e0 := Int.emod_nonneg v (show n ≠ 0 by omega)
    have e1 := Int.emod_lt_of_pos v (show 0 < n by omega)
    obtain ⟨t, x, ht, hg⟩ := hs
    have HG := Lib.hid hg
    clear hg
    go_wp2
    go_ret
    exact ⟨_, rfl, e0, by omega, ⟨t, x, by omega, HG.out⟩, hgr⟩
  · go_enter Try.func71, Try.ntmps71
    go_wp2_with fail
    refine (next_any g a len cap M w h hb (by omega) hlen).mono ?_
    rintro e w1 ⟨v, rfl, v0, v1, hs, hgr⟩
    go_wp2_with fail
    refine (next_any g a len cap (M + 1) w1 hs (hb.grown hgr) (by omega) hlen).mono ?_
    rintro e w2 ⟨u, rfl, u0, u1, hs2, hgr2⟩
    have e0 := Int.emod_nonneg (v * 256 + u) (show n ≠ 0 by omega)
    have e1 := Int.emod_lt_of_pos (v * 256 + u) (show 0 < n by omega)
    have HS := Lib.hid hs2
    clear hs2 hs
    go_wp2
    go_ret
    exact ⟨_, rfl, e0, by omega, HS.out, grown_trans hgr hgr2⟩
def OnePost (w : World) (T : TypeId) (g : Nat) (a : Option Addr) (len cap M : Nat) (e : Ending) (w' : World) : Prop :=
  ∃ b : Bool, e = .returned (.bool b) ∧ Src w' T g a len cap M ∧ w.grownBy w' (some g)
theorem one_any (n : Int) (g : Nat) (a : Option Addr) (len cap M : Nat) (w : World) (h : Src w 101 g a len cap M) (hb : LstB w g a len) (hM : M ≤ 100000000000) (hlen : len ≤ 1048576) (hn : n ≤ 1000000) :
    Calls Try.prog 72 #[.pointer (some ⟨g, 0, none⟩), .int .i64 n] w (OnePost w 101 g a len cap (M + 2)) := by
  go_enter Try.func72, Try.ntmps72
  go_wp2_with fail
  refine (pick_any n 1000000 g a len cap M w h hb hM hlen hn (by omega) (by omega)).mono ?_
  rintro e w1 ⟨v, rfl, v0, v1, hs, hgr⟩
  have HS := Lib.hid hs
  clear hs
  go_wp2
  go_ret
  exact ⟨_, rfl, HS.out, hgr⟩
def MagsPost (w : World) (e : Ending) (w' : World) : Prop :=
  ∃ a len cap xs, e = .returned (.slice a len cap) ∧ Lst w' a len xs ∧ okMags xs = true ∧ 1 ≤ len ∧ len ≤ 8 ∧ Below w.heap.size w w'
theorem grown_below {w w' : World} {g : Nat} (h : w.grownBy w' (some g)) {B : Nat} (hB : B ≤ g) (hs : B ≤ w.heap.size) : Below B w w' :=
  ⟨h.os, h.tape, h.output, h.size, fun k hk => h.block k (by omega) (fun e => by cases e; omega)⟩
theorem src_kept {w w' : World} {T g : Nat} {a : Option Addr} {len cap M : Nat} (h : Src w T g a len cap M) (hk : w'.heap[g]? = w.heap[g]?) : Src w' T g a len cap M := by
  obtain ⟨t, x, ht, hg⟩ := h
  exact ⟨t, x, ht, hk.trans hg⟩
theorem src_lt {w : World} {T g : Nat} {a : Option Addr} {len cap M : Nat} (h : Src w T g a len cap M) : g < w.heap.size := by
  obtain ⟨t, x, ht, hg⟩ := h
  by_cases hb : g < w.heap.size
  · exact hb
  · rw [Array.getElem?_eq_none (by omega)] at hg
    simp at hg
theorem l00From_any (a : Option Addr) (len cap : Nat) (w : World) :
    Calls Try.prog 49 #[.slice a len cap] w fun e w' => e = .returned (.pointer (some ⟨w.heap.size, 0, none⟩)) ∧ Src w' 101 w.heap.size a len cap 0 ∧ Below w.heap.size w w' := by
  have hs0 : Src (w.alloc (.cells #[.slice a len cap, .int .i64 0, .int .u64 0] 101)) 101 w.heap.size a len cap 0 := ⟨0, 0, Nat.le_refl _, by show (w.heap.push _)[w.heap.size]? = _; rw [Array.getElem?_push_size]; rfl⟩
  go_enter Try.func49, Try.ntmps49
  go_wp2
  go_ret
  exact ⟨rfl, hs0, (Below.refl _ _).alloc (Nat.le_refl _) _⟩
theorem LstB.below {w w' : World} {g a len} (h : LstB w g a len) (hb : Below g w w') : LstB w' g a len := fun i hi => by
  obtain ⟨b, off, v, e, hlt, hc, h0, h1⟩ := h i hi
  exact ⟨b, off, v, e, hlt, by rw [hb.cell (p := ⟨b, off + i, none⟩) hlt]; exact hc, h0, h1⟩
theorem cell_new1 (w : World) (v : Value) (T : TypeId) : ∀ j u, [v][j]? = some u → (w.alloc (.cells #[v] T)).cell? ((⟨w.heap.size, 0, none⟩ : Addr).add j) = some u := by
  intro j u hj
  have : j = 0 := by
    cases j with
    | zero => rfl
    | succ j => simp at hj
  subst this
  simp at hj
  subst hj
  rw [Go.WideShapes.add_plain]
  exact cell_of_row _ w.heap.size 0 #[v] T (0, 0) (heap_alloc_new w _)
theorem own_ne {w : World} {B e size : Nat} {v : Value} {n : Nat} {xs : List Value} (h : w.ownsRow (B + 1) e size v n xs) : v.ownBlock ≠ some B := fun e => by
  have := (h.lt B e).1
  omega
end Go.Proofs.Ytidiiladlmaigaa
