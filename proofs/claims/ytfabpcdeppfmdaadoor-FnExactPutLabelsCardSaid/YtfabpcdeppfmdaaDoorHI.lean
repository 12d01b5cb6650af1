/- PutLabels, the program's. -/
import Derived.Test.YtfabpcdeppfmdaaDoorHH
namespace Go.Proofs.YtfabpcdeppfmdaaDoor
open Go.ChangeShapes Go.WideShapes Go.ChangeAt Go.RowKit Go.Deep

set_option maxRecDepth 100000 in
set_option maxHeartbeats 4000000 in
theorem iPut_any (a : Option Addr) (n c : Nat) (xs : List Mk) (w : World) (h : MkL w a n xs) (hn : n ≤ 1048576) (hcap : n ≤ c) (hp : Pow w) (hw : Ways w) :
    Calls Tryd.prog 10 #[.slice a n c] w fun e w' => IntRes w.heap.size (ptL xs) (.int .i64 (ptC xs)) w' e ∧ Below w.heap.size w w' := by
  have HL := Lib.hid h.1
  have hl : (n : Int) ≤ 1048576 := by omega
  cases hok : okC xs
  · have HC := Lib.hid (pt_1 hok)
    go_enter Tryd.func10, Tryd.ntmps10
    go_wp2_with fail
    (refine (iValidC_any a n c xs w h hn hcap).mono ?_; rintro e w2 ⟨rfl, b2⟩; rw [hok])
    go_wp2
    go_ret2
    exact ⟨by rw [HC.out.1, HC.out.2]; exact IntRes.nil _ _ _, b2⟩
  by_cases h8 : 8 < n
  · have HC := Lib.hid (pt_5 HL.out hok h8)
    have hd : decide ((8 : Int) < (n : Int)) = true := by simp; omega
    go_enter Tryd.func10, Tryd.ntmps10
    go_wp2_with fail
    (refine (iValidC_any a n c xs w h hn hcap).mono ?_; rintro e w2 ⟨rfl, b2⟩; rw [hok])
    go_wp2
    go_ret2
    exact ⟨by rw [HC.out.1, HC.out.2]; exact IntRes.nil _ _ _, b2⟩
  have hd : decide ((8 : Int) < (n : Int)) = false := by simp; omega
  have hn8 : n ≤ 8 := by omega
  have HOK := Lib.hid hok
  go_enter Tryd.func10, Tryd.ntmps10
  go_wp2_with fail
  (refine (iValidC_any a n c xs w h hn hcap).mono ?_; rintro e w2 ⟨rfl, b2⟩; rw [hok])
  have h2 := h.mono b2
  have hp2 := hp.mono b2
  have hw2 := hw.mono b2
  clear hok
  go_wp2_with fail
  refine (sides_any a n c xs w2 h2 HOK.out hn8 hp2 hw2).mono ?_
  rintro e w3 ⟨g, rfl, hr3, hg, b3⟩
  go_wp2_with fail
  refine (first_any g n xs w3 hr3 hn8).mono ?_
  rintro e w4 ⟨hP, b4⟩
  have hB4 := belowCall (belowCall b2 b3) b4
  have hs3 := (belowCall b2 b3).size
  clear hr3
  cases hpr : putF xs n [] with
  | some L =>
    rw [hpr] at hP
    obtain ⟨g9, c9, rfl, hown9⟩ := hP
    have HC := Lib.hid (pt_0 HL.out HOK.out h8 hpr)
    have HO := Lib.hid (ownLow hown9 hs3)
    clear hpr hown9
    go_wp2
    go_ret2
    exact ⟨by rw [HC.out.1, HC.out.2]; exact IntRes.own HO.out rfl, hB4⟩
  | none =>
    rw [hpr] at hP
    obtain rfl : e = _ := hP
    have HC := Lib.hid (pt_9 HL.out HOK.out h8 hpr)
    clear hpr
    go_wp2
    go_ret2
    exact ⟨by rw [HC.out.1, HC.out.2]; exact IntRes.nil _ _ _, hB4⟩
end Go.Proofs.YtfabpcdeppfmdaaDoor
