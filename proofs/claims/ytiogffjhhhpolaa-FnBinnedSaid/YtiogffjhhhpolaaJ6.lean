/- Running medians, the program's. -/
import Derived.Test.YtiogffjhhhpolaaJ7
import Derived.Test.YtiogffjhhhpolaaM7
namespace Go.Proofs.Ytiogffjhhhpolaa
open Go.ChangeShapes Go.WideShapes Go.ChangeAt Go.RowKit Go.Deep

def rmL (xs : List Pt) (s : Nat) : List Int := (List.range xs.length).map (rmed xs s)
theorem rmL_len (xs : List Pt) (s : Nat) : (rmL xs s).length = xs.length := by simp [rmL]
theorem rmL_at {xs : List Pt} {n k : Nat} (hn : xs.length = n) (hk : k < n) (s : Nat) : (rmL xs s)[k]?.getD 0 = rmed xs s k := by
  rw [rmL, List.getElem?_map, List.getElem?_range (by omega)]
  rfl
theorem Lst.win {w : World} {g n : Nat} {ms : List Int} (h : Lst w (some ⟨g, 0, none⟩) n ms) (i s : Nat) (_hi : i < n) : Lst w (some ⟨g, wF i s, none⟩) (wT n i s - wF i s) (winL ms i s) := by
  refine ⟨winL_len h.1 i s, fun j hj => ?_⟩
  have hlt : wF i s + j < n := by simp only [wF, wT] at hj ⊢; omega
  obtain ⟨b, off, e, h1, hc⟩ := h.2 (wF i s + j) hlt
  cases e
  refine ⟨g, wF i s, rfl, h1, ?_⟩
  rw [Nat.zero_add] at hc
  rw [hc, winL, h.1, List.getElem?_take, if_pos hj, List.getElem?_drop]
theorem win_low {i s : Nat} (h : i < s) : (wF i s : Int) = 0 := by simp only [wF]; omega
theorem win_high {i s : Nat} (h : ¬ i < s) : (wF i s : Int) = (i : Int) - s := by simp only [wF]; omega
set_option maxRecDepth 100000 in
set_option maxHeartbeats 4000000 in
theorem iRun_any (a : Option Addr) (n c : Nat) (xs : List Pt) (s : Nat) (w : World) (h : PtL w a n xs) (hok : okP xs = true) (hs : s ≤ 10) :
    Calls Try.prog 57 #[.slice a n c, .int .i64 s] w fun e w' => ∃ g, e = .returned (.slice (some ⟨g, 0, none⟩) n n) ∧ w'.ownsRow w.heap.size 2 1 (.slice (some ⟨g, 0, none⟩) n n) n ((rmL xs s).map (Value.int .i64)) ∧ Below w.heap.size w w' := by
  obtain ⟨i0, hi, hz0, hz1, hz2⟩ := info_parts A_info
  obtain ⟨h100, hbd, -⟩ := okP_num h.1 hok
  have HL := Lib.hid h.1
  have HOK := Lib.hid hok
  have hl : (n : Int) ≤ 100 := by omega
  have hss : (s : Int) ≤ 10 := by omega
  have hb : n ≤ maxLen := by unfold maxLen; omega
  have hgl : (rmL xs s).length = n := by rw [rmL_len, h.1]
  have HGL := Lib.hid hgl
  clear hgl hbd
  go_enter Try.func57, Try.ntmps57
  go_wp2_with fail
  refine (iMagsP_any a n c xs w h (by omega)).mono ?_
  rintro e w1 ⟨g1, rfl, hown1, b1⟩
  have hM1 := Lst.of_own hown1
  have hg1 := hown1.lt g1 rfl
  clear hown1 hok
  go_wp2_with (at_make; refine wpList_make_full _ rfl _ _ 29 rfl w1.heap.size 2 i0 (.int .i64 0) 1 Try.underlying29 hi hz0 hz1 .i64 .i64 n n n rfl rfl rfl rfl (by rw [hz2]; omega) hb (Nat.le_refl _) ?_; intro w2 hown hgrow)
  go_loopw [17] (fun i wr => ∃ k : Nat, k ≤ n ∧ i = .int .i64 k ∧ wr.ownsRow w1.heap.size 2 1 (.slice (some ⟨w1.heap.size, 0, none⟩) n n) n (cop (rmL xs s) k n) ∧ Below w1.heap.size w1 wr) (fun i _ => n - (Go.RowKit.intOf i).toNat)
  case atStart => exact ⟨0, Nat.zero_le _, rfl, by rw [← cop_zero]; exact hown, (Below.refl _ _).grown hgrow (Nat.le_refl _) (fun k hk => by cases hk)⟩
  case round =>
    obtain ⟨k, hk, rfl, hownr, hbel⟩ := hrel
    clear hown hgrow
    by_cases hlt : k < n
    · have hMr := hM1.mono hbel
      have hW := hMr.win k s hlt
      have hpos := winL_pos (n := n) s hlt
      have hBD := win_bd HL.out HOK.out (i := k) (s := s)
      have hkk : (k : Int) < (n : Int) := by omega
      have HR := Lib.hid (show ∀ ys, Rising ys → ys.Perm (winL (mgP xs) k s) → medP ys = rmed xs s k from fun ys h1 h2 => medP_srt h1 h2)
      have hsz := hbel.size
      have e1 : (max ((k : Int) - (s : Int)) 0).toNat = wF k s := by simp only [wF]; omega
      have e2 : (min ((k : Int) + (s : Int) + 1) (n : Int)).toNat = wT n k s := by simp only [wT]; omega
      have hT1 : wT n k s - wF k s ≤ 1048576 := by simp only [wT]; omega
      have HE := Lib.hid (And.intro e1 e2)
      have HBD := Lib.hid hBD
      clear e1 e2 hBD
      go_wp2_with fail
      rw [HE.out.1, HE.out.2]
      refine (medianOf_any g1 (wF k s) (wT n k s - wF k s) _ (winL (mgP xs) k s) wr hW hT1 hpos HBD.out).mono ?_
      rintro e w4 ⟨ys, hr, hp, rfl, b4⟩
      have HV := Lib.hid (HR.out ys hr hp)
      clear hr hp
      have hA5 := ownKeepJ hownr b4
      have hfz := hA5.frozenAt k
      have hco : w4.cell? ⟨w1.heap.size, k, none⟩ = some (.int .i64 0) := by rw [hA5.cellAt k (by omega)]; exact cop_at (rmL xs s) k n hlt HGL.out
      obtain ⟨hs1, hs2⟩ := hA5.stored k (.int .i64 (rmed xs s k))
      have HS : Hid ((cop (rmL xs s) k n).set k (.int .i64 (rmed xs s k)) = cop (rmL xs s) (k + 1) n) := Lib.hid (by rw [← rmL_at HL.out hlt s]; exact cop_set (rmL xs s) k n hlt HGL.out)
      have HO := Lib.hid hs1
      have HBB := Lib.hid ((hbel.trans (b4.mono hbel.size)).grown hs2 (Nat.le_trans hbel.size b4.size) (fun j hj => by cases hj; exact Nat.le_refl _))
      rw [HV.out]
      clear hs1 hs2 hA5 hownr b4 hMr hW HR HBD HE
      go_wp2
      go_roundw
      case rel => exact ⟨k + 1, by omega, by go_num, by rw [← HS.out]; exact HO.out, HBB.out⟩
      case measure => simp [Go.RowKit.intOf]; omega
    · obtain rfl : k = n := by omega
      go_wp2
      go_ret
      rw [cop_full (rmL xs s) k HGL.out] at hownr
      exact ⟨_, rfl, ownLow hownr b1.size, b1.trans (hbel.mono b1.size)⟩
end Go.Proofs.Ytiogffjhhhpolaa
