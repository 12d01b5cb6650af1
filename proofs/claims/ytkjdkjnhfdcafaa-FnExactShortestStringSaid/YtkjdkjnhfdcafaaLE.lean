/- ShortestString, both sides. -/
import Derived.Test.YtkjdkjnhfdcafaaJ5
namespace Go.Proofs.Ytkjdkjnhfdcafaa
open Go.ChangeShapes Go.WideShapes Go.ChangeAt Go.RowKit Go.Deep

def ssC (xs : List Pt) : Int := if okP xs then (if xs.length ≤ 40 then 0 else 5) else 1
def ssA (xs : List Pt) : Int := if ssC xs = 0 then 2 * amA xs else 0
theorem ss_1 {xs : List Pt} (h : okP xs = false) : ssC xs = 1 ∧ ssA xs = 0 := by simp [ssA, ssC, h]
theorem ss_5 {xs : List Pt} {n : Nat} (hn : xs.length = n) (h : okP xs = true) (h3 : ¬ n ≤ 40) : ssC xs = 5 ∧ ssA xs = 0 := by simp [ssA, ssC, h, hn, h3]
theorem ss_0 {xs : List Pt} {n : Nat} (hn : xs.length = n) (h : okP xs = true) (h3 : n ≤ 40) : ssC xs = 0 ∧ ssA xs = 2 * amA xs := by simp [ssA, ssC, h, hn, h3]
theorem am_rng {xs : List Pt} (h : okP xs = true) : -22000 ≤ amA xs ∧ amA xs ≤ 22000 := by
  by_cases h0 : xs.length = 0
  · rw [(am_3 rfl h h0).2]; omega
  · obtain ⟨-, hbd, -⟩ := okP_num rfl h
    rw [(am_0 rfl h (by omega)).2]
    have := mn_bd (xs := mgP xs) (n := xs.length) (by omega) (mgP_num hbd) xs.length (Nat.le_refl _)
    omega
theorem iShort_any (a : Option Addr) (n c : Nat) (xs : List Pt) (w : World) (h : PtL w a n xs) (hn : n ≤ 1048576) :
    Calls Try.prog 39 #[.slice a n c] w fun e w' => e = .returned (.tuple #[.int .i64 (ssA xs), .int .i64 (ssC xs)]) ∧ Below w.heap.size w w' := by
  cases hok : okP xs
  · have HD := Lib.hid (ss_1 hok)
    go_enter Try.func39, Try.ntmps39
    go_wp2_with fail
    refine (iValidCv_any a n c xs w h hn).mono ?_
    rintro x w2 ⟨rfl, b2⟩
    rw [hok]
    go_wp2
    go_ret2
    exact ⟨by rw [HD.out.1, HD.out.2]; rfl, b2⟩
  by_cases h40 : n ≤ 40
  · have HD := Lib.hid (ss_0 h.1 hok h40)
    have hrg := am_rng hok
    have hi : ¬ (40 : Int) < (n : Int) := by omega
    have hw : IntKind.i64.wrap (2 * amA xs) = 2 * amA xs := IntWalk.i64_in _ (by omega)
    have HA := Lib.hid (fun (W : World) (hW : PtL W a n xs) => iAmpl_any a n c xs W hW hn)
    generalize amA xs = m at HA HD hrg hw
    generalize amC xs = q at HA
    go_enter Try.func39, Try.ntmps39
    go_wp2_with fail
    refine (iValidCv_any a n c xs w h hn).mono ?_
    rintro x w2 ⟨rfl, b2⟩
    rw [hok]
    go_wp2_with fail
    refine (HA.out w2 (h.mono b2)).mono ?_
    rintro x w3 ⟨rfl, b3⟩
    go_wp2
    go_ret2
    exact ⟨by rw [HD.out.1, HD.out.2]; rfl, belowCall b2 b3⟩
  · have HD := Lib.hid (ss_5 h.1 hok h40)
    have hi : (40 : Int) < (n : Int) := by omega
    go_enter Try.func39, Try.ntmps39
    go_wp2_with fail
    refine (iValidCv_any a n c xs w h hn).mono ?_
    rintro x w2 ⟨rfl, b2⟩
    rw [hok]
    go_wp2
    go_ret2
    exact ⟨by rw [HD.out.1, HD.out.2]; rfl, b2⟩
theorem sShort_any (a : Option Addr) (n c : Nat) (xs : List Pt) (w : World) (h : PtL w a n xs) (hn : n ≤ 1048576) :
    Calls Try.prog 38 #[.slice a n c] w fun e w' => e = .returned (.tuple #[.int .i64 (ssA xs), .int .i64 (ssC xs)]) ∧ Below w.heap.size w w' := by
  cases hok : okP xs
  · have HD := Lib.hid (ss_1 hok)
    go_enter Try.func38, Try.ntmps38
    go_wp2_with fail
    refine (l08Ok_below a n c xs w h hn).mono ?_
    rintro x w2 ⟨rfl, b2⟩
    rw [hok]
    go_wp2
    go_ret2
    exact ⟨by rw [HD.out.1, HD.out.2]; rfl, b2⟩
  by_cases h40 : n ≤ 40
  · have HD := Lib.hid (ss_0 h.1 hok h40)
    have hrg := am_rng hok
    have hi : ¬ (40 : Int) < (n : Int) := by omega
    have hw : IntKind.i64.wrap (2 * amA xs) = 2 * amA xs := IntWalk.i64_in _ (by omega)
    have HA := Lib.hid (fun (W : World) (hW : PtL W a n xs) => sAmpl_any a n c xs W hW hn)
    generalize amA xs = m at HA HD hrg hw
    generalize amC xs = q at HA
    go_enter Try.func38, Try.ntmps38
    go_wp2_with fail
    refine (l08Ok_below a n c xs w h hn).mono ?_
    rintro x w2 ⟨rfl, b2⟩
    rw [hok]
    go_wp2_with fail
    refine (HA.out w2 (h.mono b2)).mono ?_
    rintro x w3 ⟨rfl, b3⟩
    go_wp2
    go_ret2
    exact ⟨by rw [HD.out.1, HD.out.2]; rfl, belowCall b2 b3⟩
  · have HD := Lib.hid (ss_5 h.1 hok h40)
    have hi : (40 : Int) < (n : Int) := by omega
    go_enter Try.func38, Try.ntmps38
    go_wp2_with fail
    refine (l08Ok_below a n c xs w h hn).mono ?_
    rintro x w2 ⟨rfl, b2⟩
    rw [hok]
    go_wp2
    go_ret2
    exact ⟨by rw [HD.out.1, HD.out.2]; rfl, b2⟩
end Go.Proofs.Ytkjdkjnhfdcafaa
