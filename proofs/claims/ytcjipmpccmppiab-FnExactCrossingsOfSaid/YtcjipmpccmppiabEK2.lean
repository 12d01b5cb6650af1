/- All extrema: the model's l12All, ExtremaOf; kindBeside. -/
import Derived.Test.YtcjipmpccmppiabEK1
import Derived.Test.YtcjipmpccmppiabGEx3
import Derived.Test.YtcjipmpccmppiabFK
namespace Go.Proofs.Ytcjipmpccmppiab
open Go.ChangeShapes Go.WideShapes Go.ChangeAt Go.RowKit Go.Deep

set_option maxRecDepth 100000 in
set_option maxHeartbeats 2000000 in
theorem l12All_any (a : Option Addr) (n c : Nat) (xs : List Pt) (s : Nat) (w : World) (h : PtL w a n xs) (hn : n ≤ 100) (hs1 : 1 ≤ s) (hs2 : s ≤ 10) :
    Calls Try.prog 72 #[.slice a n c, .int .i64 (s : Int)] w fun x w' => ∃ v, x = .returned v ∧ w'.ownsRow w.heap.size 102 2 v (exL (mgX xs) n s n).length (flatEx (exL (mgX xs) n s n)) ∧ Below w.heap.size w w' := by
  obtain ⟨i0, hi, hz0, hz1, hz2⟩ := info_parts Ex_info
  have hl : (n : Int) ≤ 100 := by omega
  have HK := Lib.hid (fun (k : Nat) (hk : k < n) (W : World) (hW : PtL W a n xs) => l12K_any a n c xs k s W hW hn hk hs1 hs2)
  have HY := Lib.hid (fun k z => exL_yes (m := mgX xs) (n := n) (s := s) (k := k) (z := z))
  have HN := Lib.hid (fun k => exL_no (m := mgX xs) (n := n) (s := s) (k := k))
  have HLE := Lib.hid (exL_len (mgX xs) n s)
  generalize mgX xs = m at *
  have hE0 : (w.alloc (.cells #[] 102)).ownsRow w.heap.size 102 2 (.slice (some ⟨w.heap.size, 0, none⟩) 0 0) 0 [] := World.ownsRow_lit w #[] 0 (Nat.le_refl _) (by unfold maxLen; omega) rfl
  have b0 : Below w.heap.size w (w.alloc (.cells #[] 102)) := (Below.refl _ _).alloc (Nat.le_refl _) _
  go_enter Try.func72, Try.ntmps72
  go_wp2
  go_loopw [5, 6] (fun o i wr => ∃ k g c q : Nat, k ≤ n ∧ i = .int .i64 k ∧ (exL m n s k).length = q ∧ o = .slice (some ⟨g, 0, none⟩) q c ∧ wr.ownsRow w.heap.size 102 2 (.slice (some ⟨g, 0, none⟩) q c) q (flatEx (exL m n s k)) ∧ Below w.heap.size w wr) (fun _ i _ => n - (Go.RowKit.intOf i).toNat)
  case atStart => exact ⟨0, w.heap.size, 0, 0, Nat.zero_le _, rfl, rfl, rfl, hE0, b0⟩
  case round =>
    obtain ⟨k, g, c', q, hk, rfl, hq, rfl, hown, hB⟩ := hrel
    clear hE0 b0
    have hsz := hB.size
    have hqk := HLE.out k
    rw [hq] at hqk
    have HQ := Lib.hid hq
    clear hq
    by_cases hlt : k < n
    · have hkk : (k : Int) < (n : Int) := by omega
      have hy := HY.out k
      have hn' := HN.out k
      generalize exL m n s k = L at hown HQ hy hn'
      obtain ⟨Z, hZ⟩ : ∃ Z, exK m n s k = Z := ⟨_, rfl⟩
      rw [hZ] at hn'
      have HKK : Hid (∀ W, PtL W a n xs → Calls Try.prog 105 #[.slice a n c, .int .i64 (k : Int), .int .i64 (s : Int)] W fun x w' => x = .returned (.int .i64 Z) ∧ Below W.heap.size W w') := Lib.hid fun W hW => by rw [← hZ]; exact HK.out k hlt W hW
      have HY2 := Lib.hid (hy Z hZ)
      have HN2 := Lib.hid hn'
      clear hy hn' hZ
      go_wp2_with fail
      refine (HKK.out wr (h.mono hB)).mono ?_
      rintro x w5 ⟨rfl, b5⟩
      replace hown := ownKeepF hown b5
      replace hB := hB.trans (b5.mono hsz)
      clear b5 hsz
      have hsz := hB.size
      by_cases hz : Z = 0
      · have hzd : (Z != 0) = false := by simp [hz]
        have HS := Lib.hid (HN2.out hz)
        have HO := Lib.hid hown
        clear hown hz
        go_wp2
        go_roundw
        case rel => exact ⟨k + 1, g, c', q, by omega, by go_num, by rw [HS.out, HQ.out], rfl, by rw [HS.out]; exact HO.out, hB⟩
        case measure => simp [Go.RowKit.intOf]; omega
      · have hzd : (Z != 0) = true := by simpa using hz
        have HS := Lib.hid (HY2.out hz)
        clear hz
        go_wp2_with (at_builtin; refine wpList_append_lies _ rfl _ _ 45 rfl w.heap.size 102 i0 _ 2 16 Try.underlying45 hi hz0 hz1 hz2 rfl (by decide) _ _ _ rfl (hown.alloc _) ⟨w5.heap.size, 0, none⟩ 1 1 [.int .i64 Z, .int .i64 k] rfl rfl (cellsEx _ _ _ _) (by intro u hu; simp at hu; rcases hu with rfl | rfl <;> rfl) (by decide) (by unfold maxLen; omega) (by omega) (by simp; omega) _ rfl ?_; intro g7 c7 w7 hown7 hg7 hat7 hlt7; have hB7 : Below w.heap.size w w7 := (show Below w.heap.size w (w5.alloc (.cells #[.int .i64 Z, .int .i64 k] 102)) from hB.alloc (by omega) _).grown hg7 (by simp; omega) (fun j e => (hown.lt j e).1); clear hg7 hat7)
        have HO := Lib.hid hown7
        clear hown7 hown
        go_roundw
        case rel => exact ⟨k + 1, g7, c7, q + 1, by omega, by go_num, by rw [HS.out, List.length_append, HQ.out]; rfl, rfl, by rw [HS.out, flatEx_snoc]; exact HO.out, hB7⟩
        case measure => simp [Go.RowKit.intOf]; omega
    · obtain rfl : k = n := by omega
      have HO := Lib.hid hown
      have HQ2 := Lib.hid HQ.out
      clear hown
      go_wp2
      go_ret
      exact ⟨_, rfl, by rw [HQ2.out]; exact HO.out, hB⟩
end Go.Proofs.Ytcjipmpccmppiab
