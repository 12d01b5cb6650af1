/- OfObserver, OfStar: the program's: a loop that calls a closure. -/
import Derived.Test.YtichcfahmdlndabE4
import Derived.Test.YtichcfahmdlndabE3
namespace Go.Proofs.Ytichcfahmdlndab
open Go.ChangeShapes Go.WideShapes Go.ChangeAt Go.RowKit Go.Deep

theorem ownKeep {w w' : World} {B e s n : Nat} {v : Value} {xs : List Value} (h : w.ownsRow B e s v n xs) (hb : Below w.heap.size w w') : w'.ownsRow B e s v n xs :=
  h.kept (gBut hb none) (by
    cases hv : v.ownBlock with
    | none => exact .inl rfl
    | some g => exact .inr (by simp))
theorem osClos_any (B0 B1 B2 : Nat) (s : ByteArray) (f t : Int) (x0 : Int) (x1 x2 : ByteArray) (x3 : Int) (x4 : Bool) (w : World) (hm0 : w.cell? ⟨B0, 0, none⟩ = some (.string s)) (hm1 : w.cell? ⟨B1, 0, none⟩ = some (.int .i64 f)) (hm2 : w.cell? ⟨B2, 0, none⟩ = some (.int .i64 t)) :
    Calls Try.prog 46 #[.agg #[.int .i64 x0, .string x1, .string x2, .int .i64 x3, .bool x4], .pointer (some ⟨B0, 0, none⟩), .pointer (some ⟨B1, 0, none⟩), .pointer (some ⟨B2, 0, none⟩)] w fun e w' => e = .returned (.bool (pStar s f t (x0, x1, x2, x3, x4))) ∧ Below w.heap.size w w' := by
  have hl0 := World.block_lt_of_cell? w _ hm0
  have hl1 := World.block_lt_of_cell? w _ hm1
  have hl2 := World.block_lt_of_cell? w _ hm2
  dsimp only at hl0 hl1 hl2
  cases hne : (x1.toList == s.toList)
  · have HV : Hid (pStar s f t (x0, x1, x2, x3, x4) = false) := Lib.hid (by simp [pStar, hne])
    go_enter Try.func46, Try.ntmps46
    go_wp2
    go_ret
    exact ⟨by rw [HV.out]; rfl, by (repeat (first | assumption | exact Below.refl _ _ | refine belowDN ?_ _ | refine Below.drew ?_ | refine Below.setCell ?_ (by first | omega | (simp <;> omega)) _ | refine Below.alloc ?_ (by first | omega | (simp <;> omega)) _ | refine belowCall ?_ (by assumption)))⟩
  · have HV : Hid (pStar s f t (x0, x1, x2, x3, x4) = inB x0 f t) := Lib.hid (by simp [pStar, hne])
    go_enter Try.func46, Try.ntmps46
    go_wp2_with (go_at_call 47; refine (inRange_any _ _ _ _).mono ?_; rintro e w' ⟨rfl, rfl⟩)
    go_ret
    exact ⟨by rw [HV.out]; rfl, by (repeat (first | assumption | exact Below.refl _ _ | refine belowDN ?_ _ | refine Below.drew ?_ | refine Below.setCell ?_ (by first | omega | (simp <;> omega)) _ | refine Below.alloc ?_ (by first | omega | (simp <;> omega)) _ | refine belowCall ?_ (by assumption)))⟩
set_option maxRecDepth 100000 in
set_option maxHeartbeats 2000000 in
theorem thatS_any (a : Option Addr) (n cap : Nat) (B0 B1 B2 : Nat) (s : ByteArray) (f : Int) (t : Int) (xs : List Es) (w : World) (h : EsL w a n xs) (hn : n ≤ 1048576) (hm0 : w.cell? ⟨B0, 0, none⟩ = some (.string s)) (hm1 : w.cell? ⟨B1, 0, none⟩ = some (.int .i64 f)) (hm2 : w.cell? ⟨B2, 0, none⟩ = some (.int .i64 t)) :
    Calls Try.prog 48 #[.slice a n cap, .func (.func 46) #[] #[.pointer (some ⟨B0, 0, none⟩), .pointer (some ⟨B1, 0, none⟩), .pointer (some ⟨B2, 0, none⟩)]] w fun e w' => ∃ v, e = .returned v ∧ w'.ownsRow w.heap.size 32 5 v (xs.filter (pStar s f t)).length (flatEs (xs.filter (pStar s f t))) ∧ Below w.heap.size w w' := by
  have HL := Lib.hid h.1
  have hl : (n : Int) ≤ 1048576 := by omega
  obtain ⟨i0, hi, hz0, hz1, hz2⟩ := info_parts Es_info
  have hB0 := World.block_lt_of_cell? w _ hm0
  dsimp only at hB0
  have hB1 := World.block_lt_of_cell? w _ hm1
  dsimp only at hB1
  have hB2 := World.block_lt_of_cell? w _ hm2
  dsimp only at hB2
  go_enter Try.func48, Try.ntmps48
  go_wp2
  go_loopw [5, 10] (fun oo i wr => ∃ k : Nat, k ≤ n ∧ i = .int .i64 k ∧ wr.ownsRow w.heap.size 32 5 oo (selE (pStar s f t) xs k).length (flatEs (selE (pStar s f t) xs k)) ∧ Below w.heap.size w wr) (fun _ i _ => n - (Go.RowKit.intOf i).toNat)
  case atStart => exact ⟨0, Nat.zero_le _, rfl, World.ownsRow_nil _ _ _ _, Below.refl _ _⟩
  case round =>
    obtain ⟨k, hk, rfl, hown, hB⟩ := hrel
    by_cases hlt : k < n
    · obtain ⟨b1, o1, rfl, hc⟩ := h.2 k hlt
      obtain ⟨⟨x0, x1, x2, x3, x4⟩, hx⟩ : ∃ x, xs[k]?.getD es0 = x := ⟨_, rfl⟩
      rw [hx] at hc
      obtain ⟨p, p0, p1, p2, p3, p4⟩ := (hc.mono hB).parts
      have hkk : (k : Int) < (n : Int) := by omega
      have hsz := hB.size
      have hLk := selE_len (pStar s f t) xs k
      have hm0' := (hB.cell (p := ⟨B0, 0, none⟩) hB0).trans hm0
      have hm1' := (hB.cell (p := ⟨B1, 0, none⟩) hB1).trans hm1
      have hm2' := (hB.cell (p := ⟨B2, 0, none⟩) hB2).trans hm2
      cases hp : pStar s f t (x0, x1, x2, x3, x4)
      · have HS := Lib.hid (selE_no HL.out hlt hx hp)
        clear hx hc
        go_wp2_with fail
        refine (osClos_any B0 B1 B2 s f t x0 x1 x2 x3 x4 _ (by go_keep) (by go_keep) (by go_keep)).mono ?_
        rintro e w2 ⟨rfl, b2⟩
        rw [hp]
        have hB2 : Below w.heap.size w w2 := belowCall (show Below w.heap.size w (wr.alloc (.cells #[.int .i64 x0, .string x1, .string x2, .int .i64 x3, .bool x4] 32)) by (repeat (first | assumption | exact Below.refl _ _ | refine belowDN ?_ _ | refine Below.drew ?_ | refine Below.setCell ?_ (by first | omega | (simp <;> omega)) _ | refine Below.alloc ?_ (by first | omega | (simp <;> omega)) _ | refine belowCall ?_ (by assumption)))) b2
        have hown2 := ownKeep (hown.alloc (.cells #[.int .i64 x0, .string x1, .string x2, .int .i64 x3, .bool x4] 32)) b2
        have hsz2 := hB2.size
        go_wp2
        go_roundw
        case rel => exact ⟨k + 1, by omega, by go_num, by rw [HS.out]; exact hown2, hB2⟩
        case measure => simp [Go.RowKit.intOf]; omega
      · have HS := Lib.hid (selE_yes HL.out hlt hx hp)
        clear hx hc
        obtain ⟨zs, hzs⟩ : ∃ zs, selE (pStar s f t) xs k = zs := ⟨_, rfl⟩
        obtain ⟨L, hL⟩ : ∃ L, zs.length = L := ⟨_, rfl⟩
        rw [hzs] at hown hLk HS
        rw [hL] at hown hLk
        have HZL := Lib.hid hL
        clear hzs hL
        go_wp2_with fail
        refine (osClos_any B0 B1 B2 s f t x0 x1 x2 x3 x4 _ (by go_keep) (by go_keep) (by go_keep)).mono ?_
        rintro e w2 ⟨rfl, b2⟩
        rw [hp]
        have hB2 : Below w.heap.size w w2 := belowCall (show Below w.heap.size w (wr.alloc (.cells #[.int .i64 x0, .string x1, .string x2, .int .i64 x3, .bool x4] 32)) by (repeat (first | assumption | exact Below.refl _ _ | refine belowDN ?_ _ | refine Below.drew ?_ | refine Below.setCell ?_ (by first | omega | (simp <;> omega)) _ | refine Below.alloc ?_ (by first | omega | (simp <;> omega)) _ | refine belowCall ?_ (by assumption)))) b2
        have hown2 := ownKeep (hown.alloc (.cells #[.int .i64 x0, .string x1, .string x2, .int .i64 x3, .bool x4] 32)) b2
        have hsz2 := hB2.size
        have k0 : w2.cell? ⟨wr.heap.size, 0, none⟩ = some (.int .i64 x0) := (b2.cell (p := ⟨wr.heap.size, 0, none⟩) (by simp)).trans (by go_keep)
        have k1 : w2.cell? ⟨wr.heap.size, 1, none⟩ = some (.string x1) := (b2.cell (p := ⟨wr.heap.size, 1, none⟩) (by simp)).trans (by go_keep)
        have k2 : w2.cell? ⟨wr.heap.size, 2, none⟩ = some (.string x2) := (b2.cell (p := ⟨wr.heap.size, 2, none⟩) (by simp)).trans (by go_keep)
        have k3 : w2.cell? ⟨wr.heap.size, 3, none⟩ = some (.int .i64 x3) := (b2.cell (p := ⟨wr.heap.size, 3, none⟩) (by simp)).trans (by go_keep)
        have k4 : w2.cell? ⟨wr.heap.size, 4, none⟩ = some (.bool x4) := (b2.cell (p := ⟨wr.heap.size, 4, none⟩) (by simp)).trans (by go_keep)
        go_wp2_with (at_builtin; refine wpList_append_own _ rfl _ _ 24 rfl w.heap.size 32 i0 _ 5 56 Try.underlying24 hi hz0 hz1 hz2 rfl (by decide) _ _ _ rfl (hown2.alloc _) ⟨w2.heap.size, 0, none⟩ 1 1 [.int .i64 x0, .string x1, .string x2, .int .i64 x3, .bool x4] rfl rfl (cellsEs _ _ _ _ _ _ _) (by intro u hu; simp at hu; rcases hu with rfl | rfl | rfl | rfl | rfl <;> rfl) (by unfold maxLen; omega) (by omega) (by have := hB2.size; simp; omega) ?_; intro v7 w7 hown7 hg7 hnil7; have hBb : Below w.heap.size w w7 := (show Below w.heap.size w _ by (repeat (first | assumption | exact Below.refl _ _ | refine belowDN ?_ _ | refine Below.drew ?_ | refine Below.setCell ?_ (by first | omega | (simp <;> omega)) _ | refine Below.alloc ?_ (by first | omega | (simp <;> omega)) _ | refine belowCall ?_ (by assumption)))).grown hg7 (by have := hB2.size; simp; omega) (fun j e => (hown2.lt j e).1))
        have hownb' : w7.ownsRow w.heap.size 32 5 v7 (L + 1) (flatEs (selE (pStar s f t) xs (k + 1))) := by rw [HS.out, flatEs_snoc]; exact hown7
        have HLL : Hid ((selE (pStar s f t) xs (k + 1)).length = L + 1) := Lib.hid (by rw [HS.out, List.length_append, HZL.out]; rfl)
        clear hown7 hown hown2
        go_roundw
        case rel => exact ⟨k + 1, by omega, by go_num, by rw [HLL.out]; exact hownb', hBb⟩
        case measure => simp [Go.RowKit.intOf]; omega
    · obtain rfl : k = n := by omega
      rw [selE_full HL.out] at hown
      go_wp2
      go_ret
      exact ⟨_, rfl, hown, hB⟩
set_option maxRecDepth 100000 in
set_option maxHeartbeats 2000000 in
theorem iOfStar_any (a : Option Addr) (n c : Nat) (xs : List Es) (s : ByteArray) (f t : Int) (w : World) (h : EsL w a n xs) (hn : n ≤ 1048576) :
    Calls Try.prog 11 #[.slice a n c, .string s, .int .i64 f, .int .i64 t] w fun e w' => EsRes w.heap.size (osL xs s f t) (.int .i64 (osC xs s f t)) w' e ∧ Below w.heap.size w w' := by
  have B1 : Below w.heap.size w (((w.alloc (.cells #[.string s] 9)).alloc (.cells #[.int .i64 f] 2)).alloc (.cells #[.int .i64 t] 2)) := by (repeat (first | assumption | exact Below.refl _ _ | refine belowDN ?_ _ | refine Below.drew ?_ | refine Below.setCell ?_ (by first | omega | (simp <;> omega)) _ | refine Below.alloc ?_ (by first | omega | (simp <;> omega)) _ | refine belowCall ?_ (by assumption)))
  have h1 := h.mono B1
  have k0 : (((w.alloc (.cells #[.string s] 9)).alloc (.cells #[.int .i64 f] 2)).alloc (.cells #[.int .i64 t] 2)).cell? ⟨w.heap.size, 0, none⟩ = some (.string s) := by go_keep
  have k1 : (((w.alloc (.cells #[.string s] 9)).alloc (.cells #[.int .i64 f] 2)).alloc (.cells #[.int .i64 t] 2)).cell? ⟨w.heap.size + 1, 0, none⟩ = some (.int .i64 f) := by
    rw [World.cell?_alloc_old _ _ _ (by simp)]
    have h := World.cell?_alloc_new (w.alloc (.cells #[.string s] 9)) #[.int .i64 f] 2 0
    simp only [World.size_alloc] at h
    exact h
  have k2 : (((w.alloc (.cells #[.string s] 9)).alloc (.cells #[.int .i64 f] 2)).alloc (.cells #[.int .i64 t] 2)).cell? ⟨w.heap.size + 1 + 1, 0, none⟩ = some (.int .i64 t) := by
    have h := World.cell?_alloc_new ((w.alloc (.cells #[.string s] 9)).alloc (.cells #[.int .i64 f] 2)) #[.int .i64 t] 2 0
    simp only [World.size_alloc] at h
    exact h
  have hsw : w.heap.size + 3 = (((w.alloc (.cells #[.string s] 9)).alloc (.cells #[.int .i64 f] 2)).alloc (.cells #[.int .i64 t] 2)).heap.size := by simp
  cases hok : okE xs
  · have HC := Lib.hid (os_1 (s := s) (f := f) (t := t) hok)
    go_enter Try.func11, Try.ntmps11
    go_wp2_with fail
    generalize (((w.alloc (.cells #[.string s] 9)).alloc (.cells #[.int .i64 f] 2)).alloc (.cells #[.int .i64 t] 2)) = w1 at B1 h1 hsw k0 k1 k2 ⊢
    refine (iValidEs_any a n c xs w1 h1 hn).mono ?_
    rintro e w2 ⟨rfl, b2⟩
    rw [hok]
    go_wp2
    go_ret2
    exact ⟨by rw [HC.out.1, HC.out.2]; exact EsRes.nil _ _ _, belowCall B1 b2⟩
  cases hnm : nameB s
  · have HC := Lib.hid (os_2 (s := s) (f := f) (t := t) hok (by simp [*]))
    go_enter Try.func11, Try.ntmps11
    go_wp2_with fail
    generalize (((w.alloc (.cells #[.string s] 9)).alloc (.cells #[.int .i64 f] 2)).alloc (.cells #[.int .i64 t] 2)) = w1 at B1 h1 hsw k0 k1 k2 ⊢
    refine (iValidEs_any a n c xs w1 h1 hn).mono ?_
    rintro e w2 ⟨rfl, b2⟩
    rw [hok]
    have m0 := (b2.cell (p := ⟨w.heap.size, 0, none⟩) (by show w.heap.size < _; omega)).trans k0
    have m1 := (b2.cell (p := ⟨w.heap.size + 1, 0, none⟩) (by show w.heap.size + 1 < _; omega)).trans k1
    have m2 := (b2.cell (p := ⟨w.heap.size + 1 + 1, 0, none⟩) (by show w.heap.size + 1 + 1 < _; omega)).trans k2
    go_wp2_with (first | (go_at_call 44; refine (iIsName_any _ _).mono ?_; rintro e w3 ⟨rfl, b3⟩; rw [hnm]; have n0 := (b3.cell (p := ⟨w.heap.size, 0, none⟩) (by have := b2.size; show w.heap.size < _; omega)).trans m0; have n1 := (b3.cell (p := ⟨w.heap.size + 1, 0, none⟩) (by have := b2.size; show w.heap.size + 1 < _; omega)).trans m1; have n2 := (b3.cell (p := ⟨w.heap.size + 1 + 1, 0, none⟩) (by have := b2.size; show w.heap.size + 1 + 1 < _; omega)).trans m2) | (go_at_call 45; refine (iTm_any _ _).mono ?_; rintro e w' ⟨rfl, rfl⟩; (first | rw [hf] | rw [ht])))
    go_ret2
    exact ⟨by rw [HC.out.1, HC.out.2]; exact EsRes.nil _ _ _, belowCall (belowCall B1 b2) (by (repeat (first | assumption | exact Below.refl _ _ | refine belowDN ?_ _ | refine Below.drew ?_ | refine Below.setCell ?_ (by first | omega | (simp <;> omega)) _ | refine Below.alloc ?_ (by first | omega | (simp <;> omega)) _ | refine belowCall ?_ (by assumption))))⟩
  cases hf : tmB f
  · have HC := Lib.hid (os_2 (s := s) (f := f) (t := t) hok (by simp [*]))
    go_enter Try.func11, Try.ntmps11
    go_wp2_with fail
    generalize (((w.alloc (.cells #[.string s] 9)).alloc (.cells #[.int .i64 f] 2)).alloc (.cells #[.int .i64 t] 2)) = w1 at B1 h1 hsw k0 k1 k2 ⊢
    refine (iValidEs_any a n c xs w1 h1 hn).mono ?_
    rintro e w2 ⟨rfl, b2⟩
    rw [hok]
    have m0 := (b2.cell (p := ⟨w.heap.size, 0, none⟩) (by show w.heap.size < _; omega)).trans k0
    have m1 := (b2.cell (p := ⟨w.heap.size + 1, 0, none⟩) (by show w.heap.size + 1 < _; omega)).trans k1
    have m2 := (b2.cell (p := ⟨w.heap.size + 1 + 1, 0, none⟩) (by show w.heap.size + 1 + 1 < _; omega)).trans k2
    go_wp2_with (first | (go_at_call 44; refine (iIsName_any _ _).mono ?_; rintro e w3 ⟨rfl, b3⟩; rw [hnm]; have n0 := (b3.cell (p := ⟨w.heap.size, 0, none⟩) (by have := b2.size; show w.heap.size < _; omega)).trans m0; have n1 := (b3.cell (p := ⟨w.heap.size + 1, 0, none⟩) (by have := b2.size; show w.heap.size + 1 < _; omega)).trans m1; have n2 := (b3.cell (p := ⟨w.heap.size + 1 + 1, 0, none⟩) (by have := b2.size; show w.heap.size + 1 + 1 < _; omega)).trans m2) | (go_at_call 45; refine (iTm_any _ _).mono ?_; rintro e w' ⟨rfl, rfl⟩; (first | rw [hf] | rw [ht])))
    go_ret2
    exact ⟨by rw [HC.out.1, HC.out.2]; exact EsRes.nil _ _ _, belowCall (belowCall B1 b2) (by (repeat (first | assumption | exact Below.refl _ _ | refine belowDN ?_ _ | refine Below.drew ?_ | refine Below.setCell ?_ (by first | omega | (simp <;> omega)) _ | refine Below.alloc ?_ (by first | omega | (simp <;> omega)) _ | refine belowCall ?_ (by assumption))))⟩
  cases ht : tmB t
  · have HC := Lib.hid (os_2 (s := s) (f := f) (t := t) hok (by simp [*]))
    go_enter Try.func11, Try.ntmps11
    go_wp2_with fail
    generalize (((w.alloc (.cells #[.string s] 9)).alloc (.cells #[.int .i64 f] 2)).alloc (.cells #[.int .i64 t] 2)) = w1 at B1 h1 hsw k0 k1 k2 ⊢
    refine (iValidEs_any a n c xs w1 h1 hn).mono ?_
    rintro e w2 ⟨rfl, b2⟩
    rw [hok]
    have m0 := (b2.cell (p := ⟨w.heap.size, 0, none⟩) (by show w.heap.size < _; omega)).trans k0
    have m1 := (b2.cell (p := ⟨w.heap.size + 1, 0, none⟩) (by show w.heap.size + 1 < _; omega)).trans k1
    have m2 := (b2.cell (p := ⟨w.heap.size + 1 + 1, 0, none⟩) (by show w.heap.size + 1 + 1 < _; omega)).trans k2
    go_wp2_with (first | (go_at_call 44; refine (iIsName_any _ _).mono ?_; rintro e w3 ⟨rfl, b3⟩; rw [hnm]; have n0 := (b3.cell (p := ⟨w.heap.size, 0, none⟩) (by have := b2.size; show w.heap.size < _; omega)).trans m0; have n1 := (b3.cell (p := ⟨w.heap.size + 1, 0, none⟩) (by have := b2.size; show w.heap.size + 1 < _; omega)).trans m1; have n2 := (b3.cell (p := ⟨w.heap.size + 1 + 1, 0, none⟩) (by have := b2.size; show w.heap.size + 1 + 1 < _; omega)).trans m2) | (go_at_call 45; refine (iTm_any _ _).mono ?_; rintro e w' ⟨rfl, rfl⟩; (first | rw [hf] | rw [ht])))
    go_ret2
    exact ⟨by rw [HC.out.1, HC.out.2]; exact EsRes.nil _ _ _, belowCall (belowCall B1 b2) (by (repeat (first | assumption | exact Below.refl _ _ | refine belowDN ?_ _ | refine Below.drew ?_ | refine Below.setCell ?_ (by first | omega | (simp <;> omega)) _ | refine Below.alloc ?_ (by first | omega | (simp <;> omega)) _ | refine belowCall ?_ (by assumption))))⟩
  have HC := Lib.hid (os_0 (s := s) (f := f) (t := t) hok (by simp [*]))
  go_enter Try.func11, Try.ntmps11
  go_wp2_with fail
  generalize (((w.alloc (.cells #[.string s] 9)).alloc (.cells #[.int .i64 f] 2)).alloc (.cells #[.int .i64 t] 2)) = w1 at B1 h1 hsw k0 k1 k2 ⊢
  refine (iValidEs_any a n c xs w1 h1 hn).mono ?_
  rintro e w2 ⟨rfl, b2⟩
  rw [hok]
  have m0 := (b2.cell (p := ⟨w.heap.size, 0, none⟩) (by show w.heap.size < _; omega)).trans k0
  have m1 := (b2.cell (p := ⟨w.heap.size + 1, 0, none⟩) (by show w.heap.size + 1 < _; omega)).trans k1
  have m2 := (b2.cell (p := ⟨w.heap.size + 1 + 1, 0, none⟩) (by show w.heap.size + 1 + 1 < _; omega)).trans k2
  go_wp2_with (first | (first | (go_at_call 44; refine (iIsName_any _ _).mono ?_; rintro e w3 ⟨rfl, b3⟩; rw [hnm]; have n0 := (b3.cell (p := ⟨w.heap.size, 0, none⟩) (by have := b2.size; show w.heap.size < _; omega)).trans m0; have n1 := (b3.cell (p := ⟨w.heap.size + 1, 0, none⟩) (by have := b2.size; show w.heap.size + 1 < _; omega)).trans m1; have n2 := (b3.cell (p := ⟨w.heap.size + 1 + 1, 0, none⟩) (by have := b2.size; show w.heap.size + 1 + 1 < _; omega)).trans m2) | (go_at_call 45; refine (iTm_any _ _).mono ?_; rintro e w' ⟨rfl, rfl⟩; (first | rw [hf] | rw [ht]))) | (go_at_call 48; refine (thatS_any a n c w.heap.size (w.heap.size + 1) (w.heap.size + 1 + 1) s f t xs _ (h1.mono (belowCall b2 b3)) hn n0 n1 n2).mono ?_; rintro e w4 ⟨v, rfl, hown, b4⟩))
  have B2 := belowCall B1 b2
  go_wp2
  go_ret2
  exact ⟨by rw [HC.out.1, HC.out.2]; exact EsRes.own (ownLow hown (by have := B2.size; have := (show Below w2.heap.size w2 _ by (repeat (first | assumption | exact Below.refl _ _ | refine belowDN ?_ _ | refine Below.drew ?_ | refine Below.setCell ?_ (by first | omega | (simp <;> omega)) _ | refine Below.alloc ?_ (by first | omega | (simp <;> omega)) _ | refine belowCall ?_ (by assumption)))).size; omega)) rfl, belowCall B2 (show Below w2.heap.size w2 w4 from belowCall (by (repeat (first | assumption | exact Below.refl _ _ | refine belowDN ?_ _ | refine Below.drew ?_ | refine Below.setCell ?_ (by first | omega | (simp <;> omega)) _ | refine Below.alloc ?_ (by first | omega | (simp <;> omega)) _ | refine belowCall ?_ (by assumption)))) b4)⟩
end Go.Proofs.Ytichcfahmdlndab
