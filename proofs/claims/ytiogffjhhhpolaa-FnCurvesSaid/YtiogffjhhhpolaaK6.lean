/- The model's drawn estimates: l06Draw, A2Estimates; the laws' a2Rises. -/
import Derived.Test.YtiogffjhhhpolaaK5
import Derived.Test.YtiogffjhhhpolaaP5
namespace Go.Proofs.Ytiogffjhhhpolaa
open Go.ChangeShapes Go.WideShapes Go.ChangeAt Go.RowKit Go.Deep

theorem EsL.far {w w' : World} {b off n g : Nat} {xs : List Es} (h : EsL w (some ⟨b, off, none⟩) n xs) (hg : w.grownBy w' (some g)) (hne : b ≠ g) : EsL w' (some ⟨b, off, none⟩) n xs :=
  ⟨h.1, fun i hi => by
    obtain ⟨b', o', e, hc⟩ := h.2 i hi
    cases e
    exact ⟨_, _, rfl, hc.of_block hg.size (hg.block b hc.1 (by simp; omega))⟩⟩
theorem own_some {w : World} {B e n : Nat} {v : Value} {xs : List Value} (h : w.ownsRow B e 5 v n xs) (hv : v ≠ .slice none 0 0) : ∃ g c, v = .slice (some ⟨g, 0, none⟩) n c ∧ n ≤ c ∧ B ≤ g := by
  rcases h.2 with ⟨h1, _⟩ | ⟨g, c, cur, h1, h2⟩
  · exact absurd h1 hv
  · exact ⟨g, c, h1, h2.2.2.1, h2.1⟩
theorem fndV_in {l : List Es} {x : Es} (h : fndE l x < l.length) : fndV l x = .int .i64 (fndE l x : Int) := by rw [fndV, if_pos h]
theorem fndV_out {l : List Es} {x : Es} (h : ¬ fndE l x < l.length) : fndV l x = .int .i64 (-1) := by rw [fndV, if_neg h]
set_option maxRecDepth 100000 in
set_option maxHeartbeats 4000000 in
theorem l06Draw_any (g : Nat) (a : Option Addr) (len cap M : Nat) (w : World) (h : Src w 108 g a len cap M) (hb : LstB w g a len) (hM : M ≤ 1000) (hlen : len ≤ 1048576) :
    Calls Try.prog 74 #[.pointer (some ⟨g, 0, none⟩), .int .i64 12] w fun e w' => ∃ b n c xs, e = .returned (.slice (some ⟨b, 0, none⟩) n c) ∧ EsL w' (some ⟨b, 0, none⟩) n xs ∧ okE xs = true ∧ n ≤ 12 ∧ w.grownBy w' (some g) := by
  have hgl := src_lt h
  have k0 : Src (w.alloc (.cells #[] 50)) 108 g a len cap M := src_kept h (Below.heap_alloc _ _ _ hgl)
  have k1 : LstB (w.alloc (.cells #[] 50)) g a len := hb.below ((Below.refl _ _).alloc (Nat.le_of_lt hgl) _)
  have k2 : w.grownBy (w.alloc (.cells #[] 50)) (some g) := World.grownBy_alloc _ _ _
  have k3 : (w.alloc (.cells #[] 50)).heap.size = w.heap.size + 1 := by simp
  go_enter Try.func74, Try.ntmps74
  go_wp2_with fail
  generalize w.alloc (.cells #[] 50) = W0 at k0 k1 k2 k3 ⊢
  refine (pick_any 13 12 g a len cap M W0 k0 k1 (by omega) hlen (by omega) (by omega) (by omega)).mono ?_
  rintro e W1 ⟨v0, rfl, v00, v01, hs1, hg1⟩
  obtain ⟨K0, rfl⟩ := Int.eq_ofNat_of_zero_le v00
  have hb1 := k1.grown hg1
  have hG1 := grown_trans k2 hg1
  have hz1 := hg1.size
  clear k0 k1 k2 hg1 v00
  go_wp2_with fail
  go_loopw [5, 6] (fun o i wr => ∃ (k M' n b c : Nat) (xs : List Es), i = .int .i64 (k : Int) ∧ o = .slice (some ⟨b, 0, none⟩) n c ∧ n ≤ c ∧ EsL wr (some ⟨b, 0, none⟩) n xs ∧ w.heap.size ≤ b ∧ (∀ x ∈ xs, esB x = true) ∧ RiseE xs ∧ n + k ≤ 12 ∧ M' + 20 * k ≤ M + 300 ∧ Src wr 108 g a len cap M' ∧ LstB wr g a len ∧ w.grownBy wr (some g)) (fun _ i _ => (intOf i).toNat)
  case atStart => exact ⟨K0, M + 2, 0, w.heap.size, 0, [], rfl, rfl, Nat.le_refl _, ⟨rfl, fun i hi => absurd hi (by omega)⟩, Nat.le_refl _, (fun x hx => nomatch hx), List.Pairwise.nil, by omega, by omega, hs1, hb1, hG1⟩
  case round =>
    obtain ⟨k, M', n, b, c, xs, rfl, rfl, hnc, hL, hbw, hall, hrise, hnk, hMk, hs, hbb, hG⟩ := hrel
    clear hs1 hb1 hG1
    have HALL := Lib.hid hall
    have HRISE := Lib.hid hrise
    have HLEN := Lib.hid hL.1
    clear hall hrise
    have hk00 : (0 : Int) ≤ (k : Int) := by omega
    have hnc' : (n : Int) ≤ (c : Int) := by omega
    by_cases hk : 0 < k
    · have hk' : (0 : Int) < (k : Int) := by omega
      go_wp2_with fail
      refine (l06New_any g a len cap M' wr hs hbb (by omega) hlen).mono ?_
      rintro e wa ⟨x0, x1, x2, x3, x4, M2, rfl, hst, hM2, hsa, hga⟩
      have hLa := hL.far hga (by omega)
      have hbba := hbb.grown hga
      have hGa := grown_trans hG hga
      have hgla := src_lt hsa
      have hza := hGa.size
      have HST := Lib.hid hst
      clear hs hbb hL hG hga hst
      have hB2 : Below wa.heap.size wa (wa.alloc (.cells #[.int .i64 x0, .string x1, .string x2, .int .i64 x3, .bool x4] 50)) := (Below.refl _ _).alloc (Nat.le_refl _) _
      have hX := EsC.fresh wa 50 x0 x1 x2 x3 x4
      have hs2 := src_kept hsa (Below.heap_alloc wa (.cells #[.int .i64 x0, .string x1, .string x2, .int .i64 x3, .bool x4] 50) _ hgla)
      have hbb2 := hbba.below (hB2.mono (Nat.le_of_lt hgla))
      have hG2 := grown_trans hGa (World.grownBy_alloc wa (.cells #[.int .i64 x0, .string x1, .string x2, .int .i64 x3, .bool x4] 50) (some g))
      have hL2 := hLa.mono hB2
      have hz2 := hB2.size
      go_wp2_with fail
      generalize wa.alloc (.cells #[.int .i64 x0, .string x1, .string x2, .int .i64 x3, .bool x4] 50) = w2 at hX hs2 hbb2 hG2 hL2 hz2 ⊢
      clear hB2 hLa hbba hGa hsa
      refine (l06Find_any (some ⟨b, 0, none⟩) n c wa.heap.size 0 xs x0 x1 x2 x3 x4 w2 hL2 hX (by omega)).mono ?_
      rintro e w' ⟨rfl, q, rfl⟩
      have hL3 : EsL (w2.drewN q) (some ⟨b, 0, none⟩) n xs := hL2.mono (belowDN (Below.refl _ _) _)
      have hs3 : Src (w2.drewN q) 108 g a len cap M2 := hs2
      have hbb3 : LstB (w2.drewN q) g a len := hbb2
      have hG3 : w.grownBy (w2.drewN q) (some g) := grown_drewN hG2 q
      have hX3 : EsC (w2.drewN q) wa.heap.size 0 (x0, x1, x2, x3, x4) := hX.mono (belowDN (Below.refl _ _) _)
      clear hL2 hs2 hbb2 hG2 hX
      have hz3 : (w2.drewN q).heap.size = w2.heap.size := rfl
      generalize w2.drewN q = w3 at hL3 hs3 hbb3 hG3 hX3 hz3 ⊢
      by_cases hf : fndE xs (x0, x1, x2, x3, x4) < xs.length
      · rw [fndV_in hf]
        clear hf
        generalize fndE xs (x0, x1, x2, x3, x4) = j
        have hj : (0 : Int) ≤ (j : Int) := by omega
        go_wp2
        go_roundw
        case rel => exact ⟨k - 1, M2, n, b, c, xs, by go_num, rfl, hnc, hL3, hbw, HALL.out, HRISE.out, by omega, by omega, hs3, hbb3, hG3⟩
        case measure => simp [intOf]; omega
      · rw [fndV_out hf]
        have HNO := Lib.hid (fndE_none hf)
        clear hf
        obtain ⟨hbl, c0, c1, c2, c3, c4⟩ := hX3.parts
        rw [Nat.zero_add] at c1 c2 c3 c4
        clear hX3
        go_wp2_with fail
        refine (l06Put_any b 0 n c xs x0 x1 x2 x3 x4 w3 hL3 (by omega) hnc HRISE.out HNO.out).mono ?_
        rintro e w4 ⟨v, rfl, hv, hown, hB4⟩
        obtain ⟨b4, c4', rfl, hnc4, hb4⟩ := own_some hown hv
        have hl4 : (putE xs (x0, x1, x2, x3, x4)).length = n + 1 := by rw [putE_len HNO.out, HLEN.out]
        have hL4 := EsL.of_own hown hl4
        have hs4 := src_kept hs3 (hB4.block g (src_lt hs3))
        have hbb4 := hbb3.below (hB4.mono (Nat.le_of_lt (src_lt hs3)))
        have hG4 : w.grownBy w4 (some g) := grown_trans hG3 ⟨hB4.os, hB4.tape, hB4.output, hB4.size, fun i hi _ => hB4.block i hi⟩
        have HA4 := Lib.hid (show ∀ x ∈ putE xs (x0, x1, x2, x3, x4), esB x = true from fun x hx => by
          rcases (putE_mem HNO.out x).1 hx with h9 | rfl
          · exact HALL.out x h9
          · exact HST.out)
        have HR4 := Lib.hid (putE_rise (x := (x0, x1, x2, x3, x4)) HRISE.out)
        have hz4 : w.heap.size ≤ b4 := Nat.le_trans hG3.size hb4
        clear hown hB4 hL3 hs3 hbb3 hG3 hv
        go_wp2
        go_roundw
        case rel => exact ⟨k - 1, M2, n + 1, b4, c4', _, by go_num, rfl, hnc4, hL4, hz4, HA4.out, HR4.out, by omega, by omega, hs4, hbb4, hG4⟩
        case measure => simp [intOf]; omega
    · obtain rfl : k = 0 := by omega
      go_wp2
      go_ret
      exact ⟨b, n, c, xs, rfl, hL, okE_of (by rw [HLEN.out]; omega) HALL.out HRISE.out, by omega, hG⟩
theorem A2Estimates_any (a : Option Addr) (len cap : Nat) (w : World) (hb : LstB w w.heap.size a len) (hlen : len ≤ 1048576) :
    Calls Try.prog 31 #[.slice a len cap] w fun e w' => ∃ b n c xs, e = .returned (.slice (some ⟨b, 0, none⟩) n c) ∧ EsL w' (some ⟨b, 0, none⟩) n xs ∧ okE xs = true ∧ n ≤ 12 ∧ Below w.heap.size w w' := by
  go_enter Try.func31, Try.ntmps31
  go_wp2_with fail
  refine (l00From_any a len cap w).mono ?_
  rintro e w0 ⟨rfl, hs0, hB0⟩
  have hb0 := hb.below hB0
  go_wp2_with fail
  refine (l06Draw_any w.heap.size a len cap 0 w0 hs0 hb0 (by omega) hlen).mono ?_
  rintro e w1 ⟨b, n, c, xs, rfl, hL, hok, hn, hg1⟩
  have hB1 : Below w.heap.size w w1 := hB0.trans (grown_below hg1 (Nat.le_refl _) hB0.size)
  have HL := Lib.hid hL
  have HOK := Lib.hid hok
  clear hL hok
  go_wp2
  go_ret
  exact ⟨b, n, c, xs, rfl, HL.out, HOK.out, hn, hB1⟩
end Go.Proofs.Ytiogffjhhhpolaa
