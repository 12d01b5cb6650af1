/- ExtremaOf, both sides. -/
import Derived.Test.YtcjipmpccmppiabEK2
import Derived.Test.YtcjipmpccmppiabEK3
import Derived.Test.YtcjipmpccmppiabJ2
namespace Go.Proofs.Ytcjipmpccmppiab
open Go.ChangeShapes Go.WideShapes Go.ChangeAt Go.RowKit Go.Deep

set_option maxHeartbeats 1000000 in
theorem iExA_any (a : Option Addr) (n c : Nat) (xs : List Pt) (s : Int) (w : World) (h : PtL w a n xs) (hn : n ≤ 1048576) (hc : n ≤ c) :
    Calls Try.prog 26 #[.slice a n c, .int .i64 s] w fun x w' => ExRes w.heap.size (exA xs s) (.int .i64 (exC xs s)) w' x ∧ Below w.heap.size w w' := by
  cases hok : okP xs
  · have HD := Lib.hid (exA_1 (s := s) hok)
    go_enter Try.func26, Try.ntmps26
    go_wp2_with fail
    refine (iValidCv_any a n c xs w h hn).mono ?_
    rintro x w2 ⟨rfl, b2⟩
    rw [hok]
    go_wp2
    go_ret2
    exact ⟨by rw [HD.out.1, HD.out.2]; exact ExRes.nil _ _ _, b2⟩
  cases hin : inB s 1 10
  · have HD := Lib.hid (exA_2 hok hin)
    go_enter Try.func26, Try.ntmps26
    go_wp2_with fail
    refine (iValidCv_any a n c xs w h hn).mono ?_
    rintro x w2 ⟨rfl, b2⟩
    rw [hok]
    go_wp2_with ((go_at_call 74; refine (inRange_any _ _ _ _).mono ?_; rintro x w' ⟨rfl, rfl⟩; rw [hin]))
    go_ret2
    exact ⟨by rw [HD.out.1, HD.out.2]; exact ExRes.nil _ _ _, b2⟩
  · have HD := Lib.hid (exA_0 h.1 hok hin)
    obtain ⟨s1, s2⟩ := inB_iff.1 hin
    obtain ⟨h100, -, -⟩ := okP_num h.1 hok
    obtain ⟨S, rfl⟩ : ∃ S : Nat, s = (S : Int) := ⟨s.toNat, by omega⟩
    rw [Int.toNat_natCast] at HD
    have HX := Lib.hid (fun (W : World) (hW : PtL W a n xs) => exOf_any a n c xs S W hW h100 hc (by omega) (by omega))
    generalize exL (mgX xs) n S n = L at HD HX
    go_enter Try.func26, Try.ntmps26
    go_wp2_with fail
    refine (iValidCv_any a n c xs w h hn).mono ?_
    rintro x w2 ⟨rfl, b2⟩
    rw [hok]
    go_wp2_with (first | (go_at_call 74; refine (inRange_any _ _ _ _).mono ?_; rintro x w' ⟨rfl, rfl⟩; rw [hin]) | (go_at_call 75; refine (HX.out _ (h.mono b2)).mono ?_; rintro x w3 ⟨v, rfl, hown, b3⟩; have HO := Lib.hid hown; clear hown))
    go_ret2
    exact ⟨by rw [HD.out.1, HD.out.2]; exact ExRes.own (ownLow HO.out b2.size) rfl, belowCall b2 b3⟩
theorem l12Side_any (a : Option Addr) (n c : Nat) (xs : List Pt) (s : Int) (w : World) (h : PtL w a n xs) (hn : n ≤ 1048576) :
    Calls Try.prog 71 #[.slice a n c, .int .i64 s] w fun x w' => x = .returned (.int .i64 (exC xs s)) ∧ Below w.heap.size w w' := by
  cases hok : okP xs
  · have HD := Lib.hid (exA_1 (s := s) hok).1
    go_enter Try.func71, Try.ntmps71
    go_wp2_with fail
    refine (l08Ok_below a n c xs w h hn).mono ?_
    rintro x w2 ⟨rfl, b2⟩
    rw [hok]
    go_wp2
    go_ret
    exact ⟨by rw [HD.out]; rfl, b2⟩
  cases hin : inB s 1 10
  · have HD := Lib.hid (exA_2 hok hin).1
    go_enter Try.func71, Try.ntmps71
    go_wp2_with fail
    refine (l08Ok_below a n c xs w h hn).mono ?_
    rintro x w2 ⟨rfl, b2⟩
    rw [hok]
    go_wp2_with ((go_at_call 79; refine (l00In_any _ _ _ _).mono ?_; rintro x w' ⟨rfl, rfl⟩; rw [hin]))
    go_ret
    exact ⟨by rw [HD.out]; rfl, b2⟩
  · have HD := Lib.hid (exA_0 h.1 hok hin).1
    go_enter Try.func71, Try.ntmps71
    go_wp2_with fail
    refine (l08Ok_below a n c xs w h hn).mono ?_
    rintro x w2 ⟨rfl, b2⟩
    rw [hok]
    go_wp2_with ((go_at_call 79; refine (l00In_any _ _ _ _).mono ?_; rintro x w' ⟨rfl, rfl⟩; rw [hin]))
    go_ret
    exact ⟨by rw [HD.out]; rfl, b2⟩
theorem exC_parts {xs : List Pt} {s : Int} (h : exC xs s = 0) : okP xs = true ∧ inB s 1 10 = true := by
  unfold exC at h
  cases h1 : okP xs
  · simp [h1] at h
  · cases h2 : inB s 1 10
    · simp [h1, h2] at h
    · exact ⟨rfl, rfl⟩
theorem exA_not {xs : List Pt} {s : Int} (h : exC xs s ≠ 0) : exA xs s = [] := by simp [exA, h]
set_option maxHeartbeats 1000000 in
theorem sExA_any (a : Option Addr) (n c : Nat) (xs : List Pt) (s : Int) (w : World) (h : PtL w a n xs) (hn : n ≤ 1048576) :
    Calls Try.prog 25 #[.slice a n c, .int .i64 s] w fun x w' => ExRes w.heap.size (exA xs s) (.int .i64 (exC xs s)) w' x ∧ Below w.heap.size w w' := by
  by_cases hz : exC xs s = 0
  rotate_left
  · have HD := Lib.hid (exA_not hz)
    obtain ⟨cc, hcc⟩ : ∃ cc, exC xs s = cc := ⟨_, rfl⟩
    rw [hcc] at hz
    have HC := Lib.hid hcc
    have hzd : (cc != 0) = true := by simpa using hz
    clear hz hcc
    go_enter Try.func25, Try.ntmps25
    go_wp2_with fail
    refine (l12Side_any a n c xs s w h hn).mono ?_
    rintro x w2 ⟨rfl, b2⟩
    rw [HC.out]
    go_wp2
    go_ret2
    exact ⟨by rw [HD.out, HC.out]; exact ExRes.nil _ _ _, b2⟩
  · obtain ⟨hok, hin⟩ := exC_parts hz
    have HC := Lib.hid hz
    have HD := Lib.hid (exA_0 h.1 hok hin).2
    obtain ⟨s1, s2⟩ := inB_iff.1 hin
    obtain ⟨h100, -, -⟩ := okP_num h.1 hok
    obtain ⟨S, rfl⟩ : ∃ S : Nat, s = (S : Int) := ⟨s.toNat, by omega⟩
    rw [Int.toNat_natCast] at HD
    have HX := Lib.hid (fun (W : World) (hW : PtL W a n xs) => l12All_any a n c xs S W hW h100 (by omega) (by omega))
    generalize exL (mgX xs) n S n = L at HD HX
    clear hz hok hin
    go_enter Try.func25, Try.ntmps25
    go_wp2_with fail
    refine (l12Side_any a n c xs S w h hn).mono ?_
    rintro x w2 ⟨rfl, b2⟩
    rw [HC.out]
    go_wp2_with fail
    refine (HX.out _ (h.mono b2)).mono ?_
    rintro x w3 ⟨v, rfl, hown, b3⟩
    have HO := Lib.hid hown
    clear hown
    go_wp2
    go_ret2
    exact ⟨by rw [HD.out, HC.out]; exact ExRes.own (ownLow HO.out b2.size) rfl, belowCall b2 b3⟩
end Go.Proofs.Ytcjipmpccmppiab
