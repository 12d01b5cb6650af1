/- CrossingsOf, the model's side. -/
import Derived.Test.YtcjipmpccmppiabEM4
namespace Go.Proofs.Ytcjipmpccmppiab
open Go.ChangeShapes Go.WideShapes Go.ChangeAt Go.RowKit Go.Deep

set_option maxHeartbeats 1000000 in
theorem sCro_any (a : Option Addr) (n c : Nat) (xs : List Pt) (l : Int) (w : World) (h : PtL w a n xs) (hn : n ≤ 1048576) :
    Calls Try.prog 35 #[.slice a n c, .int .i64 l] w fun x w' => FrRes w.heap.size (crA xs l) (.int .i64 (crC xs l)) w' x ∧ Below w.heap.size w w' := by
  by_cases hz : crC xs l = 0
  rotate_left
  · have HD := Lib.hid (crA_not hz)
    obtain ⟨cc, hcc⟩ : ∃ cc, crC xs l = cc := ⟨_, rfl⟩
    rw [hcc] at hz
    have HC := Lib.hid hcc
    have hzd : (cc != 0) = true := by simpa using hz
    clear hz hcc
    go_enter Try.func35, Try.ntmps35
    go_wp2_with fail
    refine (l12Level_any a n c xs l w h hn).mono ?_
    rintro x w2 ⟨rfl, b2⟩
    rw [HC.out]
    go_wp2
    go_ret2
    exact ⟨by rw [HD.out, HC.out]; exact FrRes.nil _ _ _, b2⟩
  · obtain ⟨hok, hin⟩ := crC_parts hz
    have HC := Lib.hid hz
    have HD := Lib.hid (cr_0 h.1 hok hin).2
    obtain ⟨h100, hbd, -⟩ := okP_num h.1 hok
    have hlb := magB_iff.1 hin
    have HX := Lib.hid (fun (W : World) (hW : PtL W a n xs) => l12Cross_any a n c xs l W hW h100 hbd hlb)
    generalize crL xs l (n - 1) = L at HD HX
    clear hz hok hin hbd
    go_enter Try.func35, Try.ntmps35
    go_wp2_with fail
    refine (l12Level_any a n c xs l w h hn).mono ?_
    rintro x w2 ⟨rfl, b2⟩
    rw [HC.out]
    go_wp2_with fail
    refine (HX.out _ (h.mono b2)).mono ?_
    rintro x w3 ⟨v, rfl, hown, b3⟩
    have HO := Lib.hid hown
    clear hown
    go_wp2
    go_ret2
    exact ⟨by rw [HD.out, HC.out]; exact FrRes.own (ownLow HO.out b2.size) rfl, belowCall b2 b3⟩
end Go.Proofs.Ytcjipmpccmppiab
