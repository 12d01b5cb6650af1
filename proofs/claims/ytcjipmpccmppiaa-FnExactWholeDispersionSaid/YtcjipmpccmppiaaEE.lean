/- FilledBins, both sides. -/
import Derived.Test.YtcjipmpccmppiaaED
namespace Go.Proofs.Ytcjipmpccmppiaa
open Go.ChangeShapes Go.WideShapes Go.ChangeAt Go.RowKit Go.Deep

theorem take3 {α : Type} {L : List α} {k : Nat} {a b c : α} (h0 : L[k]? = some a) (h1 : L[k + 1]? = some b) (h2 : L[k + 2]? = some c) : (L.drop k).take 3 = [a, b, c] := by
  obtain ⟨l0, e0⟩ := List.getElem?_eq_some_iff.1 h0
  obtain ⟨l1, e1⟩ := List.getElem?_eq_some_iff.1 h1
  obtain ⟨l2, e2⟩ := List.getElem?_eq_some_iff.1 h2
  rw [List.drop_eq_getElem_cons l0, List.drop_eq_getElem_cons l1, List.drop_eq_getElem_cons l2, e0, e1, e2]
  rfl
theorem arrS_index (f : Nat → Int) {i : Nat} (hi : i < 20) (W : World) : (Instr.index 114 (.agg (arrS f).toArray) (.int .i64 (i : Int))).run Try.prog W = .ok (.agg #[.int .i64 (f (i * 3)), .int .i64 (f (i * 3 + 1)), .int .i64 (f (i * 3 + 2))]) W := by
  have hu := Try.underlying114
  have hz : (sizeOf 113).run Try.prog W = .ok 3 W := Try.sizeOf113 W
  simp [Instr.index, run_underlying hu, asIntOf, hz, go_sem]
  rw [if_pos hi, take3 (arrS_at f (i := i * 3) (by omega)) (arrS_at f (i := i * 3 + 1) (by omega)) (arrS_at f (i := i * 3 + 2) (by omega))]
set_option maxRecDepth 100000 in
set_option maxHeartbeats 2000000 in
theorem iFil_any (a : Option Addr) (n c : Nat) (xs : List Pt) (p b : Int) (w : World) (h : PtL w a n xs) (hn : n ≤ 1048576) :
    Calls Try.prog 54 #[.slice a n c, .int .i64 p, .int .i64 b] w fun x w' => x = .returned (.tuple #[.int .i64 (fiA xs p b), .int .i64 (boC xs p b)]) ∧ Below w.heap.size w w' := by
  by_cases hz : foC xs p b = 0
  rotate_left
  · have HD := Lib.hid (fi_no hz)
    obtain ⟨cc, hcc⟩ : ∃ cc, foC xs p b = cc := ⟨_, rfl⟩
    rw [hcc] at hz
    have HC := Lib.hid hcc
    have HC2 : Hid (boC xs p b = cc) := Lib.hid hcc
    have hzd : (cc != 0) = true := by simpa using hz
    clear hz hcc
    go_enter Try.func54, Try.ntmps54
    go_wp2_with fail
    refine (chkF_any p b a n c xs w h hn).mono ?_
    rintro x w2 ⟨rfl, b2⟩
    rw [HC.out]
    go_wp2
    go_ret2
    exact ⟨by rw [HD.out, HC2.out]; rfl, b2⟩
  obtain ⟨hok, ⟨p1, p2⟩, q1, q2⟩ := fo_parts hz
  obtain ⟨h100, -, -⟩ := okP_num h.1 hok
  have HD := Lib.hid (fi_yes h.1 hz)
  have HC := Lib.hid hz
  have HC2 : Hid (boC xs p b = 0) := Lib.hid hz
  have HSB := Lib.hid (fun (W : World) (hW : PtL W a n xs) => sbb_any p b a n c xs W hW hok p1 p2 q1 q2)
  have HBD := Lib.hid (fun k => bCN_bd (bf p b xs) k n)
  have HIX := Lib.hid (fun (i : Nat) (hi : i < 20) (W : World) => arrS_index (smF (bf p b xs) (mgX xs) n) hi W)
  have H0 := Lib.hid (fun q => smF_0 (bf p b xs) (mgX xs) n q)
  have HY := Lib.hid (fun k => fiN_yes (B := bf p b xs) (n := n) (c := k))
  have HN := Lib.hid (fun k => fiN_no (B := bf p b xs) (n := n) (c := k))
  have HLE := Lib.hid (fun k => fiN_le (bf p b xs) n k)
  have HZ : Hid (fiN (bf p b xs) n 0 = 0) := Lib.hid rfl
  generalize bf p b xs = B at HD HSB HBD HIX H0 HY HN HLE HZ
  obtain ⟨f, hf⟩ : ∃ f, smF B (mgX xs) n = f := ⟨_, rfl⟩
  rw [hf] at HSB HIX H0
  clear hz hok hf
  go_enter Try.func54, Try.ntmps54
  go_wp2_with fail
  refine (chkF_any p b a n c xs w h hn).mono ?_
  rintro x w2 ⟨rfl, b2⟩
  rw [HC.out]
  go_wp2_with fail
  refine (folded_any p b _).mono ?_
  rintro x w3 ⟨rfl, b3⟩
  have B3 := belowCall b2 b3
  go_wp2_with fail
  refine (HSB.out _ (h.mono B3)).mono ?_
  rintro x w4 ⟨rfl, b4⟩
  have B4 := belowCall B3 b4
  obtain ⟨V, hV⟩ : ∃ V, V = Value.agg (arrS f).toArray := ⟨_, rfl⟩
  rw [← hV] at HIX ⊢
  clear hV HSB
  go_wp2
  go_loopw [9, 24] (fun o i wr => ∃ k : Nat, k ≤ 20 ∧ i = .int .i64 k ∧ o = .int .i64 ((fiN B n k : Nat) : Int) ∧ Below w4.heap.size w4 wr) (fun _ i _ => 20 - (Go.RowKit.intOf i).toNat)
  case atStart => exact ⟨0, by omega, rfl, by rw [HZ.out]; rfl, Below.refl _ _⟩
  case round =>
    obtain ⟨k, hk, rfl, rfl, hB⟩ := hrel
    have hszr := hB.size
    by_cases hlt : k < 20
    · have hix := HIX.out k hlt
      have hbd := HBD.out k
      have hle := HLE.out k
      rw [H0.out] at hix
      have hy := HY.out k
      have hn' := HN.out k
      obtain ⟨C, hC⟩ : ∃ C, bCN B k n = C := ⟨_, rfl⟩
      rw [hC] at hix hbd hy hn'
      obtain ⟨S, hS⟩ : ∃ C, f (k * 3 + 1) = C := ⟨_, rfl⟩
      obtain ⟨Q, hQ⟩ : ∃ C, f (k * 3 + 2) = C := ⟨_, rfl⟩
      rw [hS, hQ] at hix
      have hkz : (k : Int) < 20 := by omega
      have HYY := Lib.hid hy
      have HNN := Lib.hid hn'
      clear hy hn' hC hS hQ
      generalize fiN B n k = m at hle HYY HNN
      by_cases hc : 0 < C
      · have HS := Lib.hid (HYY.out hc)
        go_wp2
        go_roundw
        case rel => exact ⟨k + 1, by omega, by go_num, by rw [HS.out]; go_num, by (repeat (first | assumption | exact Below.refl _ _ | refine belowDN ?_ _ | refine Below.drew ?_ | refine Below.setCell ?_ (by first | omega | (simp <;> omega)) _ | refine Below.alloc ?_ (by first | omega | (simp <;> omega)) _ | refine belowCall ?_ (by assumption)))⟩
        case measure => simp [Go.RowKit.intOf]; omega
      · have HS := Lib.hid (HNN.out (by omega))
        go_wp2
        go_roundw
        case rel => exact ⟨k + 1, by omega, by go_num, by rw [HS.out], by (repeat (first | assumption | exact Below.refl _ _ | refine belowDN ?_ _ | refine Below.drew ?_ | refine Below.setCell ?_ (by first | omega | (simp <;> omega)) _ | refine Below.alloc ?_ (by first | omega | (simp <;> omega)) _ | refine belowCall ?_ (by assumption)))⟩
        case measure => simp [Go.RowKit.intOf]; omega
    · obtain rfl : k = 20 := by omega
      have h20 : ((20 : Nat) : Int) = 20 := rfl
      go_wp2
      go_ret2
      exact ⟨by rw [HD.out, HC2.out]; rfl, belowCall B4 hB⟩
set_option maxRecDepth 100000 in
set_option maxHeartbeats 2000000 in
theorem sFil_any (a : Option Addr) (n c : Nat) (xs : List Pt) (p b : Int) (w : World) (h : PtL w a n xs) (hn : n ≤ 1048576) :
    Calls Try.prog 53 #[.slice a n c, .int .i64 p, .int .i64 b] w fun x w' => x = .returned (.tuple #[.int .i64 (fiA xs p b), .int .i64 (boC xs p b)]) ∧ Below w.heap.size w w' := by
  by_cases hz : foC xs p b = 0
  rotate_left
  · have HD := Lib.hid (fi_no hz)
    obtain ⟨cc, hcc⟩ : ∃ cc, foC xs p b = cc := ⟨_, rfl⟩
    rw [hcc] at hz
    have HC := Lib.hid hcc
    have HC2 : Hid (boC xs p b = cc) := Lib.hid hcc
    have hzd : (cc != 0) = true := by simpa using hz
    clear hz hcc
    go_enter Try.func53, Try.ntmps53
    go_wp2_with fail
    refine (l11Code_any p b a n c xs w h hn).mono ?_
    rintro x w2 ⟨rfl, b2⟩
    rw [HC.out]
    go_wp2
    go_ret2
    exact ⟨by rw [HD.out, HC2.out]; rfl, b2⟩
  obtain ⟨hok, ⟨p1, p2⟩, q1, q2⟩ := fo_parts hz
  obtain ⟨h100, -, -⟩ := okP_num h.1 hok
  have HD := Lib.hid (fi_yes h.1 hz)
  have HC := Lib.hid hz
  have HC2 : Hid (boC xs p b = 0) := Lib.hid hz
  have HBI := Lib.hid (fun (W : World) (hW : PtL W a n xs) => l11Bins_any p b a n c xs W hW hok p1 p2 q1 q2)
  have HEA : Hid (∀ j, j < n → (boE p b xs n)[j]?.getD 0 = (bf p b xs j : Int)) := Lib.hid (fun j hj => boE_at hj)
  have HST := Lib.hid (fun k => seL_step (B := bf p b xs) (k := k) (bf_lt p1 q1 xs (by omega) k))
  have HSE := Lib.hid (fiN_se (bf p b xs) n)
  have HZ := Lib.hid (seL_zero (bf p b xs))
  have HLE := Lib.hid (fun k => seL_len (bf p b xs) k)
  generalize bf p b xs = B at HD HEA HST HSE HZ HLE
  generalize boE p b xs n = E at HBI HEA
  have hl : (n : Int) ≤ 100 := by omega
  clear hz hok
  go_enter Try.func53, Try.ntmps53
  go_wp2_with fail
  refine (l11Code_any p b a n c xs w h hn).mono ?_
  rintro x w2 ⟨rfl, b2⟩
  rw [HC.out]
  go_wp2_with fail
  refine (HBI.out _ (h.mono b2)).mono ?_
  rintro x w3 ⟨g3, c3, rfl, hown3, b3⟩
  have B3 := belowCall b2 b3
  have hL3 := Lst.of_own hown3
  have hE0 : (w3.alloc (.cells #[] 2)).ownsRow w3.heap.size 2 1 (.slice (some ⟨w3.heap.size, 0, none⟩) 0 0) 0 [] := World.ownsRow_lit w3 #[] 0 (Nat.le_refl _) (by unfold maxLen; omega) rfl
  have b0 : Below w3.heap.size w3 (w3.alloc (.cells #[] 2)) := (Below.refl _ _).alloc (Nat.le_refl _) _
  clear hown3
  go_wp2
  go_loopw [10, 11] (fun o i wr => ∃ k g c m : Nat, k ≤ n ∧ i = .int .i64 k ∧ o = .slice (some ⟨g, 0, none⟩) m c ∧ (seL B k).length = m ∧ Lst wr (some ⟨g, 0, none⟩) m (seL B k) ∧ Below w3.heap.size w3 wr) (fun _ i _ => n - (Go.RowKit.intOf i).toNat)
  case atStart => exact ⟨0, w3.heap.size, 0, 0, Nat.zero_le _, rfl, rfl, by rw [HZ.out]; rfl, by rw [HZ.out]; exact Lst.of_own hE0, b0⟩
  case round =>
    obtain ⟨k, g, c', m, hk, rfl, rfl, hm, hLs, hB⟩ := hrel
    clear hE0 b0
    have hm20 := HLE.out k
    rw [hm] at hm20
    by_cases hlt : k < n
    · obtain ⟨b1, o1, he, hb1, hc1⟩ := hL3.2 k hlt
      cases he
      have hkk : (k : Int) < (n : Int) := by omega
      have hst := HST.out k
      rw [HEA.out k hlt] at hc1
      have q1' := (hB.cell (p := ⟨g3, 0 + k, none⟩) hb1).trans hc1
      rw [Nat.zero_add] at q1'
      have HSTT := Lib.hid hst
      have HM := Lib.hid hm
      clear hst hc1 hm
      go_wp2_with fail
      refine (put_any _ m c' (seL B k) (B k : Int) _ hLs (by omega)).mono ?_
      rintro x w5 ⟨g5, c5, rfl, hown5, b5⟩
      rw [HSTT.out] at hown5 ⊢
      have hL5 := Lst.of_own hown5
      have hB5 := hB.trans (b5.mono hB.size)
      clear hown5
      go_wp2
      go_roundw
      case rel => exact ⟨k + 1, g5, c5, _, by omega, by go_num, rfl, rfl, hL5, hB5⟩
      case measure => simp [Go.RowKit.intOf]; omega
    · obtain rfl : k = n := by omega
      have HM := Lib.hid hm
      have HF : Hid (fiA xs p b = (m : Int)) := Lib.hid (by rw [HD.out, ← HSE.out, hm])
      clear hm
      go_wp2
      go_ret2
      exact ⟨by rw [HF.out, HC2.out]; rfl, belowCall B3 hB⟩
end Go.Proofs.Ytcjipmpccmppiaa
