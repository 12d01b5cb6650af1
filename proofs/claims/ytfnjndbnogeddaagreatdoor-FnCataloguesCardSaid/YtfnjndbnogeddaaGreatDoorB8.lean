/- The model's source of choices (l00Src): what each draw is good for: its bounds, and that nothing but the source's own block is written. -/
import Derived.Test.YtfnjndbnogeddaaGreatDoorB4
import Derived.WalkLawsBesides
import Derived.Laws.Rows
namespace Go.Proofs.YtfnjndbnogeddaaGreatDoor
open Go.ChangeShapes Go.WideShapes Go.ChangeAt Go.RowKit

/-- the bytes 'a, len' lie in a block before number g -/
def LstB (w : World) (g : Nat) (a : Option Addr) (len : Nat) : Prop :=
  ∀ i, i < len → ∃ b off v, a = some ⟨b, off, none⟩ ∧ b < g ∧ w.cell? ⟨b, off + i, none⟩ = some (.int .u8 v) ∧ 0 ≤ v ∧ v ≤ 255
/-- the source in block g: at most M bytes have been read -/
def Src (w : World) (T : TypeId) (g : Nat) (a : Option Addr) (len cap M : Nat) : Prop :=
  ∃ (t : Nat) (x : Int), t ≤ M ∧ w.heap[g]? = some (.cells #[.slice a len cap, .int .i64 t, .int .u64 x] T (0, 0))
theorem grown_trans {a b c : World} {row : Option Nat} (h : a.grownBy b row) (k : b.grownBy c row) : a.grownBy c row :=
  ⟨k.os.trans h.os, k.tape.trans h.tape, k.output.trans h.output, Nat.le_trans h.size k.size, fun i hi hr => (k.block i (Nat.lt_of_lt_of_le hi h.size) hr).trans (h.block i hi hr)⟩
theorem grown_refl (a : World) (row : Option Nat) : a.grownBy a row := ⟨rfl, rfl, rfl, Nat.le_refl _, fun _ _ _ => rfl⟩
theorem grown_drewN {a b : World} {row : Option Nat} (h : a.grownBy b row) (n : Nat) : a.grownBy (b.drewN n) row := ⟨h.os, h.tape, h.output, h.size, h.block⟩
theorem grown_set {a b : World} {g : Nat} (h : a.grownBy b (some g)) (j : Nat) (u : Value) : a.grownBy (b.setCell ⟨g, j, none⟩ u) (some g) :=
  ⟨h.os, h.tape, h.output, by simpa using h.size, fun i hi hr => (Below.heap_setCell _ _ _ _ (fun e => hr (by rw [e]))).trans (h.block i hi hr)⟩
theorem LstB.grown {w w' : World} {g a len} (h : LstB w g a len) (hg : w.grownBy w' (some g)) : LstB w' g a len := fun i hi => by
  obtain ⟨b, off, v, e, hb, hc, h0, h1⟩ := h i hi
  exact ⟨b, off, v, e, hb, hg.cell hc (fun e => by simp at e; omega), h0, h1⟩
theorem src_put {w : World} {T : TypeId} {g t M : Nat} {a : Option Addr} {len cap : Nat} {x : Int} (hg : w.heap[g]? = some (.cells #[.slice a len cap, .int .i64 t, .int .u64 x] T (0, 0))) (ht : t ≤ M) (n m : Nat) (y : Int) :
    Src ((((w.drewN n).setCell ⟨g, 1, none⟩ (.int .i64 ((t : Int) + 1))).setCell ⟨g, 2, none⟩ (.int .u64 y)).drewN m) T g a len cap (M + 1) ∧
    w.grownBy ((((w.drewN n).setCell ⟨g, 1, none⟩ (.int .i64 ((t : Int) + 1))).setCell ⟨g, 2, none⟩ (.int .u64 y)).drewN m) (some g) := by
  have h0 : (w.drewN n).heap[g]? = _ := hg
  have h1 := heap_setCell_same (w.drewN n) g 1 _ T (.int .i64 ((t : Int) + 1)) h0
  have h2 := heap_setCell_same _ g 2 _ T (.int .u64 y) h1
  exact ⟨⟨t + 1, y, by omega, h2⟩, grown_drewN (grown_set (grown_set (grown_drewN (grown_refl _ _) _) _ _) _ _) _⟩
theorem and255 (y : Int) : 0 ≤ wrap64 (bits .and .u64 (IntKind.u64.wrap y / 1099511627776) 255) ∧ wrap64 (bits .and .u64 (IntKind.u64.wrap y / 1099511627776) 255) ≤ 255 := by
  have h1 : 0 ≤ IntKind.u64.wrap y ∧ IntKind.u64.wrap y < 18446744073709551616 := by
    simp only [IntKind.wrap_u64]; omega
  generalize IntKind.u64.wrap y = z at h1
  obtain ⟨n, hn⟩ : ∃ n : Nat, z / 1099511627776 = n := ⟨(z / 1099511627776).toNat, by omega⟩
  have hn2 : n < 18446744073709551616 := by omega
  have hb := bits_and_u64_nat n 255 hn2 (by omega)
  have hle : n &&& 255 ≤ 255 := Nat.and_le_right
  rw [hn, show (255 : Int) = ((255 : Nat) : Int) from rfl, hb]
  unfold wrap64
  omega
def NextPost (w : World) (T : TypeId) (g : Nat) (a : Option Addr) (len cap M : Nat) (m : Int) (e : Ending) (w' : World) : Prop :=
  ∃ v : Int, e = .returned (.int .i64 v) ∧ 0 ≤ v ∧ v ≤ m ∧ Src w' T g a len cap M ∧ w.grownBy w' (some g)

theorem next_any (g : Nat) (a : Option Addr) (len cap M : Nat) (w : World) (h : Src w 92 g a len cap M) (hb : LstB w g a len) (hM : M ≤ 1000000000000) (_hlen : len ≤ 1048576) :
    Calls Tryz.prog 74 #[.pointer (some ⟨g, 0, none⟩)] w (NextPost w 92 g a len cap (M + 1) 255) := by
  obtain ⟨t, x, ht, hg⟩ := h
  have c0 := cell_of_row w g 0 _ _ _ hg
  have c1 := cell_of_row w g 1 _ _ _ hg
  have c2 := cell_of_row w g 2 _ _ _ hg
  have f1 := frozen_of_row w g 1 _ _ hg
  have f2 := frozen_of_row w g 2 _ _ hg
  have HG := Lib.hid hg
  clear hg
  simp at c0 c1 c2
  by_cases hlt : t < len
  · obtain ⟨b, off, v, rfl, hbg, hc, v0, v1⟩ := hb t hlt
    have hne : ¬ b = g := by omega
    go_enter Tryz.func74, Tryz.ntmps74
    go_wp2
    go_quiet (fail)
    go_wp2
    go_quiet (fail)
    go_wp2
    go_quiet (fail)
    go_wp2
    · have hr := src_put HG.out ht
      go_ret
      exact ⟨v, rfl, v0, v1, hr _ _ _⟩
  · go_enter Tryz.func74, Tryz.ntmps74
    go_wp2
    go_quiet (fail)
    go_wp2
    go_quiet (fail)
    go_wp2
    have hr := src_put HG.out ht
    go_ret
    exact ⟨_, rfl, (and255 _).1, (and255 _).2, hr _ _ _⟩
theorem pick_any (n m : Int) (g : Nat) (a : Option Addr) (len cap M : Nat) (w : World) (h : Src w 92 g a len cap M) (hb : LstB w g a len) (hM : M ≤ 100000000000) (hlen : len ≤ 1048576) (hn : n ≤ 1000000) (hm : n - 1 ≤ m) (hm0 : 0 ≤ m) :
    Calls Tryz.prog 46 #[.pointer (some ⟨g, 0, none⟩), .int .i64 n] w (NextPost w 92 g a len cap (M + 2) m) := by
  by_cases h1 : n ≤ 1
  · obtain ⟨t, x, ht, hg⟩ := h
    have HG := Lib.hid hg
    clear hg
    go_enter Tryz.func46, Tryz.ntmps46
    go_wp2
    go_ret
    exact ⟨0, rfl, by omega, by omega, ⟨t, x, by omega, HG.out⟩, grown_refl _ _⟩
  have h1' : 1 ≤ n := by omega
  by_cases h2 : n ≤ 200
  · go_enter Tryz.func46, Tryz.ntmps46
    go_wp2_with fail
    refine (next_any g a len cap M w h hb (by omega) hlen).mono ?_
    rintro e w1 ⟨v, rfl, v0, v1, hs, hgr⟩
    have e0 := Int.emod_nonneg v (show n ≠ 0 by omega)
    have e1 := Int.emod_lt_of_pos v (show 0 < n by omega)
    obtain ⟨t, x, ht, hg⟩ := hs
    have HG := Lib.hid hg
    clear hg
    go_wp2
    go_ret
    exact ⟨_, rfl, e0, by omega, ⟨t, x, by omega, HG.out⟩, hgr⟩
  · go_enter Tryz.func46, Tryz.ntmps46
    go_wp2_with fail
    refine (next_any g a len cap M w h hb (by omega) hlen).mono ?_
    rintro e w1 ⟨v, rfl, v0, v1, hs, hgr⟩
    go_wp2_with fail
    refine (next_any g a len cap (M + 1) w1 hs (hb.grown hgr) (by omega) hlen).mono ?_
    rintro e w2 ⟨u, rfl, u0, u1, hs2, hgr2⟩
    have e0 := Int.emod_nonneg (v * 256 + u) (show n ≠ 0 by omega)
    have e1 := Int.emod_lt_of_pos (v * 256 + u) (show 0 < n by omega)
    have HS := Lib.hid hs2
    clear hs2 hs
    go_wp2
    go_ret
    exact ⟨_, rfl, e0, by omega, HS.out, grown_trans hgr hgr2⟩
def OnePost (w : World) (T : TypeId) (g : Nat) (a : Option Addr) (len cap M : Nat) (e : Ending) (w' : World) : Prop :=
  ∃ b : Bool, e = .returned (.bool b) ∧ Src w' T g a len cap M ∧ w.grownBy w' (some g)
theorem one_any (n : Int) (g : Nat) (a : Option Addr) (len cap M : Nat) (w : World) (h : Src w 92 g a len cap M) (hb : LstB w g a len) (hM : M ≤ 100000000000) (hlen : len ≤ 1048576) (hn : n ≤ 1000000) :
    Calls Tryz.prog 57 #[.pointer (some ⟨g, 0, none⟩), .int .i64 n] w (OnePost w 92 g a len cap (M + 2)) := by
  go_enter Tryz.func57, Tryz.ntmps57
  go_wp2_with fail
  refine (pick_any n 1000000 g a len cap M w h hb hM hlen hn (by omega) (by omega)).mono ?_
  rintro e w1 ⟨v, rfl, v0, v1, hs, hgr⟩
  have HS := Lib.hid hs
  clear hs
  go_wp2
  go_ret
  exact ⟨_, rfl, HS.out, hgr⟩
def DrMag (w : World) (T : TypeId) (g : Nat) (a : Option Addr) (len cap M : Nat) (e : Ending) (w' : World) : Prop :=
  ∃ v : Int, e = .returned (.int .i64 v) ∧ magB v = true ∧ Src w' T g a len cap M ∧ w.grownBy w' (some g)
theorem l02Draw_any (g : Nat) (a : Option Addr) (len cap M : Nat) (w : World) (h : Src w 92 g a len cap M) (hb : LstB w g a len) (hM : M ≤ 10000000000) (hlen : len ≤ 1048576) :
    Calls Tryz.prog 45 #[.pointer (some ⟨g, 0, none⟩)] w (DrMag w 92 g a len cap (M + 4)) := by
  go_enter Tryz.func45, Tryz.ntmps45
  go_wp2_with fail
  refine (one_any 8 g a len cap M w h hb (by omega) hlen (by omega)).mono ?_
  rintro e w1 ⟨b, rfl, hs, hgr⟩
  cases b
  · go_wp2_with fail
    refine (pick_any 60 59 g a len cap (M + 2) w1 hs (hb.grown hgr) (by omega) hlen (by omega) (by omega) (by omega)).mono ?_
    rintro e w2 ⟨v, rfl, v0, v1, hs2, hgr2⟩
    have HS := Lib.hid hs2
    clear hs2 hs
    go_wp2
    go_ret
    exact ⟨_, rfl, magB_iff.2 (by omega), HS.out, grown_trans hgr hgr2⟩
  · go_wp2_with fail
    refine (pick_any 22001 22000 g a len cap (M + 2) w1 hs (hb.grown hgr) (by omega) hlen (by omega) (by omega) (by omega)).mono ?_
    rintro e w2 ⟨v, rfl, v0, v1, hs2, hgr2⟩
    have HS := Lib.hid hs2
    clear hs2 hs
    go_wp2
    go_ret
    exact ⟨_, rfl, magB_iff.2 (by omega), HS.out, grown_trans hgr hgr2⟩
def MagsPost (w : World) (e : Ending) (w' : World) : Prop :=
  ∃ a len cap xs, e = .returned (.slice a len cap) ∧ Lst w' a len xs ∧ okMags xs = true ∧ 1 ≤ len ∧ len ≤ 8 ∧ Below w.heap.size w w'
theorem grown_below {w w' : World} {g : Nat} (h : w.grownBy w' (some g)) {B : Nat} (hB : B ≤ g) (hs : B ≤ w.heap.size) : Below B w w' :=
  ⟨h.os, h.tape, h.output, h.size, fun k hk => h.block k (by omega) (fun e => by cases e; omega)⟩
theorem src_kept {w w' : World} {T g : Nat} {a : Option Addr} {len cap M : Nat} (h : Src w T g a len cap M) (hk : w'.heap[g]? = w.heap[g]?) : Src w' T g a len cap M := by
  obtain ⟨t, x, ht, hg⟩ := h
  exact ⟨t, x, ht, hk.trans hg⟩
theorem src_lt {w : World} {T g : Nat} {a : Option Addr} {len cap M : Nat} (h : Src w T g a len cap M) : g < w.heap.size := by
  obtain ⟨t, x, ht, hg⟩ := h
  by_cases hb : g < w.heap.size
  · exact hb
  · rw [Array.getElem?_eq_none (by omega)] at hg
    simp at hg
theorem l00From_any (a : Option Addr) (len cap : Nat) (w : World) :
    Calls Tryz.prog 26 #[.slice a len cap] w fun e w' => e = .returned (.pointer (some ⟨w.heap.size, 0, none⟩)) ∧ Src w' 92 w.heap.size a len cap 0 ∧ Below w.heap.size w w' := by
  have hs0 : Src (w.alloc (.cells #[.slice a len cap, .int .i64 0, .int .u64 0] 92)) 92 w.heap.size a len cap 0 := ⟨0, 0, Nat.le_refl _, by show (w.heap.push _)[w.heap.size]? = _; rw [Array.getElem?_push_size]; rfl⟩
  go_enter Tryz.func26, Tryz.ntmps26
  go_wp2
  go_ret
  exact ⟨rfl, hs0, (Below.refl _ _).alloc (Nat.le_refl _) _⟩
theorem LstB.below {w w' : World} {g a len} (h : LstB w g a len) (hb : Below g w w') : LstB w' g a len := fun i hi => by
  obtain ⟨b, off, v, e, hlt, hc, h0, h1⟩ := h i hi
  exact ⟨b, off, v, e, hlt, by rw [hb.cell (p := ⟨b, off + i, none⟩) hlt]; exact hc, h0, h1⟩
theorem cell_new1 (w : World) (v : Value) (T : TypeId) : ∀ j u, [v][j]? = some u → (w.alloc (.cells #[v] T)).cell? ((⟨w.heap.size, 0, none⟩ : Addr).add j) = some u := by
  intro j u hj
  have : j = 0 := by
    cases j with
    | zero => rfl
    | succ j => simp at hj
  subst this
  simp at hj
  subst hj
  rw [Go.WideShapes.add_plain]
  exact cell_of_row _ w.heap.size 0 #[v] T (0, 0) (heap_alloc_new w _)
theorem own_ne {w : World} {B e size : Nat} {v : Value} {n : Nat} {xs : List Value} (h : w.ownsRow (B + 1) e size v n xs) : v.ownBlock ≠ some B := fun e => by
  have := (h.lt B e).1
  omega
set_option maxRecDepth 100000 in
theorem A2Mags_any (a : Option Addr) (len cap : Nat) (w : World) (hb : LstB w w.heap.size a len) (hlen : len ≤ 1048576) :
    Calls Tryz.prog 16 #[.slice a len cap] w (MagsPost w) := by
  obtain ⟨i0, hi, hz0, hz1, hz2⟩ := info_parts A_info
  go_enter Tryz.func16, Tryz.ntmps16
  go_wp2_with fail
  refine (l00From_any a len cap w).mono ?_
  rintro e w0 ⟨rfl, hs0, hB0⟩
  have hb0 := hb.below hB0
  go_wp2_with fail
  refine (l02Draw_any w.heap.size a len cap 0 w0 hs0 hb0 (by omega) hlen).mono ?_
  rintro e w1 ⟨v, rfl, hv, hs1, hg1⟩
  have hb1 := hb0.grown hg1
  have hB1 : Below w.heap.size w w1 := hB0.trans (grown_below hg1 (Nat.le_refl _) hB0.size)
  have hsz1 : w.heap.size + 1 ≤ w1.heap.size := src_lt hs1
  obtain ⟨w2, hw2⟩ : ∃ w2 : World, w2 = w1.alloc (.cells #[.int .i64 v] 2) := ⟨_, rfl⟩
  have hown2 : w2.ownsRow (w.heap.size + 1) 2 1 (.slice (some ⟨w1.heap.size, 0, none⟩) 1 1) 1 [.int .i64 v] := by
    rw [hw2]; exact World.ownsRow_lit w1 #[.int .i64 v] 1 hsz1 (by unfold maxLen; omega) rfl
  have hB2 : Below w.heap.size w w2 := by rw [hw2]; exact hB1.alloc hB1.size _
  have hs2 : Src w2 92 w.heap.size a len cap 4 := by rw [hw2]; exact src_kept hs1 (Below.heap_alloc _ _ _ (src_lt hs1))
  have hb2 : LstB w2 w.heap.size a len := by rw [hw2]; exact hb1.below ((Below.refl _ _).alloc hB1.size _)
  go_wp2_with fail
  rw [← hw2]
  clear hw2
  refine (pick_any 8 7 w.heap.size a len cap 4 w2 hs2 hb2 (by omega) hlen (by omega) (by omega) (by omega)).mono ?_
  rintro e w3 ⟨k0, rfl, hk0, hk1, hs3, hg3⟩
  have hb3 := hb2.grown hg3
  have hB3 : Below w.heap.size w w3 := hB2.trans (grown_below hg3 (Nat.le_refl _) hB2.size)
  have hown3 := hown2.kept hg3 (.inr (by simp [Value.ownBlock]; omega))
  clear hb0 hs0 hB0 hs1 hg1 hb1 hB1 hown2 hB2 hs2 hb2 hg3
  obtain ⟨k0, rfl⟩ := Int.eq_ofNat_of_zero_le hk0
  go_wp2_with fail
  go_loopw [4, 5] (fun o k wr => ∃ (xs : List Int) (j M : Nat), j ≤ 7 ∧ k = .int .i64 j ∧ wr.ownsRow (w.heap.size + 1) 2 1 o xs.length (xs.map (Value.int .i64)) ∧ xs.all magB = true ∧ 1 ≤ xs.length ∧ xs.length + j ≤ 8 ∧ M + 10 * j ≤ 100 ∧ Src wr 92 w.heap.size a len cap M ∧ LstB wr w.heap.size a len ∧ Below w.heap.size w wr) (fun _ k _ => (intOf k).toNat)
  case atStart => exact ⟨[v], k0, 6, by omega, rfl, hown3, by simp [hv], by simp, by simp; omega, by omega, hs3, hb3, hB3⟩
  case round =>
    obtain ⟨xs, j, M, hj, rfl, hown, hall, hx1, hx8, hM, hs, hbb, hB⟩ := hrel
    clear hown3 hs3 hb3 hB3 hv hsz1
    by_cases hz : 0 < j
    · have HALL := Lib.hid hall
      clear hall
      go_wp2_with fail
      refine (l02Draw_any w.heap.size a len cap M wr hs hbb (by omega) hlen).mono ?_
      rintro e wa ⟨v2, rfl, hv2, hsa, hga⟩
      have howna := hown.kept hga (.inr (own_ne hown))
      have hbba := hbb.grown hga
      have hBa : Below w.heap.size w wa := hB.trans (grown_below hga (Nat.le_refl _) hB.size)
      have hla := src_lt hsa
      have HV := Lib.hid hv2
      clear hv2 hs hbb hB hga
      go_wp2_with (at_builtin; refine wpList_append_own _ rfl _ _ 34 rfl (w.heap.size + 1) 2 i0 (.int .i64 0) 1 8 Tryz.underlying34 hi hz0 hz1 hz2 rfl (by decide) _ _ _ rfl (howna.alloc _) ⟨wa.heap.size, 0, none⟩ 1 1 [.int .i64 v2] rfl rfl ?c1 ?c2 ?c3 ?c4 ?c5 ?_)
      case c1 => exact cell_new1 _ _ _
      case c2 => intro u hu; simp at hu; subst hu; rfl
      case c3 => unfold maxLen; omega
      case c4 => omega
      case c5 => simp; omega
      intro v' wb hownb hgb _
      have hsb : Src wb 92 w.heap.size a len cap (M + 4) := src_kept hsa ((hgb.block _ (by simp; omega) (own_ne hown).symm).trans (Below.heap_alloc _ _ _ hla))
      have hba : Below w.heap.size wa wb := ((Below.refl _ _).alloc (by omega) _).trans ⟨hgb.os, hgb.tape, hgb.output, hgb.size, fun k hk => hgb.block k (by simp; omega) (fun e => by have := (hown.lt k e.symm).1; omega)⟩
      have hbbb := hbba.below hba
      have hBb := hBa.trans hba
      have hownb' : wb.ownsRow (w.heap.size + 1) 2 1 v' (xs ++ [v2]).length ((xs ++ [v2]).map (Value.int .i64)) := by simpa using hownb
      clear hownb hgb hsa hbba hBa hown howna hba
      go_wp2_with fail
      go_roundw
      case rel => exact ⟨xs ++ [v2], j - 1, M + 4, by omega, by congr 1; omega, hownb', by rw [List.all_append, HALL.out]; simp [HV.out], by simp, by simp; omega, by omega, hsb, hbbb, hBb⟩
      case measure => simp [intOf]; omega
    · obtain rfl : j = 0 := by omega
      have HALL := Lib.hid hall
      clear hall
      rcases hown.2 with ⟨hv0, hn0⟩ | ⟨g, c, cur, hv0, _⟩
      · omega
      · subst hv0
        go_wp2_with fail
        go_ret
        exact ⟨_, _, _, xs, rfl, Lst.of_own hown, by rw [okMags, HALL.out]; simp; omega, hx1, by omega, hB⟩
end Go.Proofs.YtfnjndbnogeddaaGreatDoor
