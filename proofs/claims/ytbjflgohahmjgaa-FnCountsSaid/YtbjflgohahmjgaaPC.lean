/- CountsBetween, both sides. -/
import Derived.Test.YtbjflgohahmjgaaF1
import Derived.Test.YtbjflgohahmjgaaH7R
import Derived.Test.YtbjflgohahmjgaaFK
import Derived.Deep.AppendLies
namespace Go.Proofs.Ytbjflgohahmjgaa
open Go.ChangeShapes Go.WideShapes Go.ChangeAt Go.RowKit Go.Deep

def cbOk (a b lo hi : Int) : Bool := tmB a && tmB b && decide (a < b) && perB lo && perB hi && decide (lo ≤ hi)
def cbF (a b hi : Int) : Int := (b - a + hi - 1).tdiv hi
def cbE (a b lo : Int) : Int := (b - a).tdiv lo
def cbN (a b lo hi : Int) : Nat := (cbE a b lo - cbF a b hi + 1).toNat
def cbT (f : Int) (k : Nat) : List Int := (List.range k).map fun j => f + (j : Nat)
def cbL (a b lo hi : Int) : List Int := if cbOk a b lo hi then (if 200 ≤ cbE a b lo - cbF a b hi then [] else cbT (cbF a b hi) (cbN a b lo hi)) else []
def cbC (a b lo hi : Int) : Int := if cbOk a b lo hi then (if 200 ≤ cbE a b lo - cbF a b hi then 5 else 0) else 2
theorem cb_2 {a b lo hi : Int} (h : cbOk a b lo hi = false) : cbL a b lo hi = [] ∧ cbC a b lo hi = 2 := by simp [cbL, cbC, h]
theorem cb_5 {a b lo hi : Int} (h : cbOk a b lo hi = true) (h2 : 200 ≤ cbE a b lo - cbF a b hi) : cbL a b lo hi = [] ∧ cbC a b lo hi = 5 := by simp [cbL, cbC, h, h2]
theorem cb_0 {a b lo hi : Int} (h : cbOk a b lo hi = true) (h2 : ¬ 200 ≤ cbE a b lo - cbF a b hi) : cbL a b lo hi = cbT (cbF a b hi) (cbN a b lo hi) ∧ cbC a b lo hi = 0 := by simp [cbL, cbC, h, h2]
theorem cbT_len (f : Int) (k : Nat) : (cbT f k).length = k := by simp [cbT]
theorem cbT_map (f : Int) (k : Nat) : (cbT f (k + 1)).map (Value.int .i64) = (cbT f k).map (Value.int .i64) ++ [.int .i64 (f + (k : Nat))] := by
  simp [cbT, List.range_succ]
theorem cbL_len {n : Nat} (h : 200 ≤ n) (a b lo hi : Int) : (cbL a b lo hi).length ≤ n := by
  unfold cbL
  split
  · split
    · simp
    · rw [cbT_len]; unfold cbN; omega
  · simp
/-- the numbers of CountsBetween stay small -/
theorem cb_bd {a b lo hi : Int} (h : cbOk a b lo hi = true) : ((0 ≤ a ∧ a ≤ 10000000) ∧ (0 ≤ b ∧ b ≤ 10000000) ∧ a < b ∧ (1 ≤ lo ∧ lo ≤ 1000000) ∧ (1 ≤ hi ∧ hi ≤ 1000000) ∧ lo ≤ hi) ∧ (-20000000 ≤ cbF a b hi ∧ cbF a b hi ≤ 20000000) ∧ -20000000 ≤ cbE a b lo ∧ cbE a b lo ≤ 20000000 := by
  simp only [cbOk, Bool.and_eq_true, decide_eq_true_eq, tmB_iff, perB_iff] at h
  obtain ⟨⟨⟨⟨⟨h1, h2⟩, h3⟩, h4⟩, h5⟩, h6⟩ := h
  exact ⟨⟨h1, h2, h3, h4, h5, h6⟩, tdiv_bd _ _ _ (by omega) (by omega), tdiv_bd _ _ _ (by omega) (by omega)⟩
set_option maxRecDepth 100000 in
set_option maxHeartbeats 4000000 in
theorem iCou_any (a b lo hi : Int) (w : World) :
    Calls Try.prog 13 #[.int .i64 a, .int .i64 b, .int .i64 lo, .int .i64 hi] w fun x w' => IntRes w.heap.size (cbL a b lo hi) (.int .i64 (cbC a b lo hi)) w' x ∧ Below w.heap.size w w' := by
  obtain ⟨i0, hi0, hz0, hz1, hz2⟩ := info_parts A_info
  cases h1 : tmB a
  · (have HD := Lib.hid (cb_2 (show cbOk a b lo hi = false by simp [cbOk, *])); go_enter Try.func13, Try.ntmps13; go_wp2_with (first | (go_at_call 39; refine (iTm_any _ _).mono ?_; rintro x w' ⟨rfl, rfl⟩) | (go_at_call 40; refine (isPer_any _ _).mono ?_; rintro x w' ⟨rfl, rfl⟩)); go_ret2; exact ⟨by rw [HD.out.1, HD.out.2]; exact IntRes.nil _ _ _, by (repeat (first | assumption | exact Below.refl _ _ | refine belowDN ?_ _ | refine Below.drew ?_ | refine Below.setCell ?_ (by first | omega | (simp <;> omega)) _ | refine Below.alloc ?_ (by first | omega | (simp <;> omega)) _ | refine belowCall ?_ (by assumption)))⟩)
  cases h2 : tmB b
  · (have HD := Lib.hid (cb_2 (show cbOk a b lo hi = false by simp [cbOk, *])); go_enter Try.func13, Try.ntmps13; go_wp2_with (first | (go_at_call 39; refine (iTm_any _ _).mono ?_; rintro x w' ⟨rfl, rfl⟩) | (go_at_call 40; refine (isPer_any _ _).mono ?_; rintro x w' ⟨rfl, rfl⟩)); go_ret2; exact ⟨by rw [HD.out.1, HD.out.2]; exact IntRes.nil _ _ _, by (repeat (first | assumption | exact Below.refl _ _ | refine belowDN ?_ _ | refine Below.drew ?_ | refine Below.setCell ?_ (by first | omega | (simp <;> omega)) _ | refine Below.alloc ?_ (by first | omega | (simp <;> omega)) _ | refine belowCall ?_ (by assumption)))⟩)
  by_cases h3 : a < b
  rotate_left
  · have h3d : decide (b ≤ a) = true := by simpa using h3
    (have HD := Lib.hid (cb_2 (show cbOk a b lo hi = false by simp [cbOk, *])); go_enter Try.func13, Try.ntmps13; go_wp2_with (first | (go_at_call 39; refine (iTm_any _ _).mono ?_; rintro x w' ⟨rfl, rfl⟩) | (go_at_call 40; refine (isPer_any _ _).mono ?_; rintro x w' ⟨rfl, rfl⟩)); go_ret2; exact ⟨by rw [HD.out.1, HD.out.2]; exact IntRes.nil _ _ _, by (repeat (first | assumption | exact Below.refl _ _ | refine belowDN ?_ _ | refine Below.drew ?_ | refine Below.setCell ?_ (by first | omega | (simp <;> omega)) _ | refine Below.alloc ?_ (by first | omega | (simp <;> omega)) _ | refine belowCall ?_ (by assumption)))⟩)
  cases h4 : perB lo
  · have h3d : decide (b ≤ a) = false := by simpa using h3
    (have HD := Lib.hid (cb_2 (show cbOk a b lo hi = false by simp [cbOk, *])); go_enter Try.func13, Try.ntmps13; go_wp2_with (first | (go_at_call 39; refine (iTm_any _ _).mono ?_; rintro x w' ⟨rfl, rfl⟩) | (go_at_call 40; refine (isPer_any _ _).mono ?_; rintro x w' ⟨rfl, rfl⟩)); go_ret2; exact ⟨by rw [HD.out.1, HD.out.2]; exact IntRes.nil _ _ _, by (repeat (first | assumption | exact Below.refl _ _ | refine belowDN ?_ _ | refine Below.drew ?_ | refine Below.setCell ?_ (by first | omega | (simp <;> omega)) _ | refine Below.alloc ?_ (by first | omega | (simp <;> omega)) _ | refine belowCall ?_ (by assumption)))⟩)
  cases h5 : perB hi
  · have h3d : decide (b ≤ a) = false := by simpa using h3
    (have HD := Lib.hid (cb_2 (show cbOk a b lo hi = false by simp [cbOk, *])); go_enter Try.func13, Try.ntmps13; go_wp2_with (first | (go_at_call 39; refine (iTm_any _ _).mono ?_; rintro x w' ⟨rfl, rfl⟩) | (go_at_call 40; refine (isPer_any _ _).mono ?_; rintro x w' ⟨rfl, rfl⟩)); go_ret2; exact ⟨by rw [HD.out.1, HD.out.2]; exact IntRes.nil _ _ _, by (repeat (first | assumption | exact Below.refl _ _ | refine belowDN ?_ _ | refine Below.drew ?_ | refine Below.setCell ?_ (by first | omega | (simp <;> omega)) _ | refine Below.alloc ?_ (by first | omega | (simp <;> omega)) _ | refine belowCall ?_ (by assumption)))⟩)
  by_cases h6 : lo ≤ hi
  rotate_left
  · have h3d : decide (b ≤ a) = false := by simpa using h3
    have h6d : decide (hi < lo) = true := by simpa using h6
    (have HD := Lib.hid (cb_2 (show cbOk a b lo hi = false by simp [cbOk, *])); go_enter Try.func13, Try.ntmps13; go_wp2_with (first | (go_at_call 39; refine (iTm_any _ _).mono ?_; rintro x w' ⟨rfl, rfl⟩) | (go_at_call 40; refine (isPer_any _ _).mono ?_; rintro x w' ⟨rfl, rfl⟩)); go_ret2; exact ⟨by rw [HD.out.1, HD.out.2]; exact IntRes.nil _ _ _, by (repeat (first | assumption | exact Below.refl _ _ | refine belowDN ?_ _ | refine Below.drew ?_ | refine Below.setCell ?_ (by first | omega | (simp <;> omega)) _ | refine Below.alloc ?_ (by first | omega | (simp <;> omega)) _ | refine belowCall ?_ (by assumption)))⟩)
  have h3d : decide (b ≤ a) = false := by simpa using h3
  have h6d : decide (hi < lo) = false := by simpa using h6
  have hok : cbOk a b lo hi = true := by simp [cbOk, *]
  obtain ⟨⟨t1, t2, t3, t4, t5, t6⟩, f1, e1⟩ := cb_bd hok
  have wF : IntKind.i64.wrap ((b - a + hi - 1).tdiv hi) = cbF a b hi := by unfold cbF; unfold cbF at f1; rw [IntWalk.i64_in _ (by omega)]
  have wE : IntKind.i64.wrap ((b - a).tdiv lo) = cbE a b lo := by unfold cbE; unfold cbE at e1; rw [IntWalk.i64_in _ (by omega)]
  have wF' : (b - a + hi - 1).tdiv hi = cbF a b hi := rfl
  have wE' : (b - a).tdiv lo = cbE a b lo := rfl
  have hlo : lo ≠ 0 := by omega
  have hhi : hi ≠ 0 := by omega
  have hlo2 : (lo == 0) = false := by simpa using hlo
  have hhi2 : (hi == 0) = false := by simpa using hhi
  by_cases h7 : 200 ≤ cbE a b lo - cbF a b hi
  · have HD := Lib.hid (cb_5 hok h7)
    have h7d : decide (200 ≤ cbE a b lo - cbF a b hi) = true := by simpa using h7
    generalize cbF a b hi = F at f1 wF wF' h7 h7d HD
    generalize cbE a b lo = E at e1 wE wE' h7 h7d HD
    clear hok
    go_enter Try.func13, Try.ntmps13
    go_wp2_with (first | (go_at_call 39; refine (iTm_any _ _).mono ?_; rintro x w' ⟨rfl, rfl⟩) | (go_at_call 40; refine (isPer_any _ _).mono ?_; rintro x w' ⟨rfl, rfl⟩))
    go_big_quiet (fail)
    go_wp2
    go_ret2
    exact ⟨by rw [HD.out.1, HD.out.2]; exact IntRes.nil _ _ _, by (repeat (first | assumption | exact Below.refl _ _ | refine belowDN ?_ _ | refine Below.drew ?_ | refine Below.setCell ?_ (by first | omega | (simp <;> omega)) _ | refine Below.alloc ?_ (by first | omega | (simp <;> omega)) _ | refine belowCall ?_ (by assumption)))⟩
  · have HD := Lib.hid (cb_0 hok h7)
    have h7d : decide (200 ≤ cbE a b lo - cbF a b hi) = false := by simpa using h7
    have hN : cbN a b lo hi = (cbE a b lo - cbF a b hi + 1).toNat := rfl
    generalize cbF a b hi = F at f1 wF wF' h7 h7d HD hN
    generalize cbE a b lo = E at e1 wE wE' h7 h7d HD hN
    generalize cbN a b lo hi = K at HD hN
    have HM := Lib.hid (cbT_map F)
    have HLN := Lib.hid (cbT_len F)
    clear hok
    go_enter Try.func13, Try.ntmps13
    go_wp2_with (first | (go_at_call 39; refine (iTm_any _ _).mono ?_; rintro x w' ⟨rfl, rfl⟩) | (go_at_call 40; refine (isPer_any _ _).mono ?_; rintro x w' ⟨rfl, rfl⟩))
    go_big_quiet (fail)
    go_wp2
    clear wF wE wF' wE' h1 h2 h3 h3d h4 h5 h6 h6d h7d
    go_loopw [12, 13] (fun o i wr => ∃ k : Nat, k ≤ K ∧ i = .int .i64 (F + (k : Int)) ∧ wr.ownsRow w.heap.size 2 1 o k ((cbT F k).map (Value.int .i64)) ∧ Below w.heap.size w wr) (fun _ i _ => (E + 1 - Go.RowKit.intOf i).toNat)
    case atStart => exact ⟨0, Nat.zero_le _, by simp, World.ownsRow_nil _ _ _ _, by (repeat (first | assumption | exact Below.refl _ _ | refine belowDN ?_ _ | refine Below.drew ?_ | refine Below.setCell ?_ (by first | omega | (simp <;> omega)) _ | refine Below.alloc ?_ (by first | omega | (simp <;> omega)) _ | refine belowCall ?_ (by assumption)))⟩
    case round =>
      obtain ⟨k, hk, rfl, hown, hB⟩ := hrel
      have hsz := hB.size
      have HMk := Lib.hid (HM.out k)
      obtain ⟨X, hX⟩ : ∃ X, F + (k : Int) = X := ⟨_, rfl⟩
      have HX1 : Hid (F + ((k + 1 : Nat) : Int) = X + 1) := Lib.hid (by omega)
      rw [hX] at HMk ⊢
      by_cases hlt : k < K
      · have hle : X ≤ E := by omega
        have hXb : -20000000 ≤ X ∧ X ≤ 20000000 := by omega
        have hk200 : k ≤ 200 := by omega
        clear hX hN
        go_wp2_with (at_builtin; refine wpList_append_own _ rfl _ _ 25 rfl w.heap.size 2 i0 (.int .i64 0) 1 8 Try.underlying25 hi0 hz0 hz1 hz2 rfl (by decide) _ _ _ rfl (hown.alloc _) ⟨wr.heap.size, 0, none⟩ 1 1 [.int .i64 X] rfl rfl (cell_one_new _ _ _) (by intro u hu; simp at hu; subst hu; rfl) (by unfold maxLen; omega) (by omega) (by simp; omega) ?_; intro v7 w7 hown7 hg7 hnil7; have hB7 : Below w.heap.size w w7 := (show Below w.heap.size w (wr.alloc (.cells #[.int .i64 X] 2)) from hB.alloc (by omega) _).grown hg7 (by simp; omega) (fun j e => (hown.lt j e).1); clear hg7 hnil7)
        have HO := Lib.hid hown7
        clear hown7 hown
        go_roundw
        case rel => exact ⟨k + 1, by omega, by rw [HX1.out], by rw [HMk.out]; exact HO.out, hB7⟩
        case measure => simp [Go.RowKit.intOf]; omega
      · have hle : ¬ X ≤ E := by omega
        have HE : Hid (k = K) := Lib.hid (by omega)
        have HO := Lib.hid hown
        clear hown hX hN
        go_wp2
        go_ret2
        have ek := HE.out
        subst ek
        exact ⟨by rw [HD.out.1, HD.out.2]; exact IntRes.own HO.out (HLN.out _), hB⟩
theorem cb_hi {lo hi : Int} (h4 : perB lo = true) (h5 : perB hi = true) : inB hi lo 1000000 = decide (lo ≤ hi) := by
  have a := perB_iff.1 h4
  have b := perB_iff.1 h5
  rw [Bool.eq_iff_iff, inB_iff, decide_eq_true_eq]
  omega
theorem cb_hi0 {lo hi : Int} (h4 : perB lo = true) (h5 : perB hi = false) : inB hi lo 1000000 = false := by
  have a := perB_iff.1 h4
  have b : ¬ (1 ≤ hi ∧ hi ≤ 1000000) := fun c => by rw [perB_iff.2 c] at h5; cases h5
  cases h : inB hi lo 1000000
  · rfl
  · have := inB_iff.1 h; omega
set_option maxRecDepth 100000 in
set_option maxHeartbeats 4000000 in
theorem sCou_any (a b lo hi : Int) (w : World) :
    Calls Try.prog 35 #[.int .i64 a, .int .i64 b, .int .i64 lo, .int .i64 hi] w fun x w' => IntRes w.heap.size (cbL a b lo hi) (.int .i64 (cbC a b lo hi)) w' x ∧ Below w.heap.size w w' := by
  obtain ⟨i0, hi0, hz0, hz1, hz2⟩ := info_parts A_info
  have HIN : ∀ W, Calls Try.prog 52 #[.int .i64 hi, .int .i64 lo, .int .i64 1000000] W fun e w' => e = .returned (.bool (inB hi lo 1000000)) ∧ W = w' := fun W => l00In_any hi lo 1000000 W
  cases h1 : tmB a
  · (have HD := Lib.hid (cb_2 (show cbOk a b lo hi = false by simp [cbOk, *])); go_enter Try.func35, Try.ntmps35; go_wp2_with (first | (go_at_call 59; refine (l06Time_any _ _).mono ?_; rintro x w' ⟨rfl, rfl⟩) | (go_at_call 60; refine (l09Per_any _ _).mono ?_; rintro x w' ⟨rfl, rfl⟩) | (go_at_call 52; refine (HIN _).mono ?_; rintro x w' ⟨rfl, rfl⟩)); go_ret2; exact ⟨by rw [HD.out.1, HD.out.2]; exact IntRes.nil _ _ _, by (repeat (first | assumption | exact Below.refl _ _ | refine belowDN ?_ _ | refine Below.drew ?_ | refine Below.setCell ?_ (by first | omega | (simp <;> omega)) _ | refine Below.alloc ?_ (by first | omega | (simp <;> omega)) _ | refine belowCall ?_ (by assumption)))⟩)
  cases h2 : tmB b
  · (have HD := Lib.hid (cb_2 (show cbOk a b lo hi = false by simp [cbOk, *])); go_enter Try.func35, Try.ntmps35; go_wp2_with (first | (go_at_call 59; refine (l06Time_any _ _).mono ?_; rintro x w' ⟨rfl, rfl⟩) | (go_at_call 60; refine (l09Per_any _ _).mono ?_; rintro x w' ⟨rfl, rfl⟩) | (go_at_call 52; refine (HIN _).mono ?_; rintro x w' ⟨rfl, rfl⟩)); go_ret2; exact ⟨by rw [HD.out.1, HD.out.2]; exact IntRes.nil _ _ _, by (repeat (first | assumption | exact Below.refl _ _ | refine belowDN ?_ _ | refine Below.drew ?_ | refine Below.setCell ?_ (by first | omega | (simp <;> omega)) _ | refine Below.alloc ?_ (by first | omega | (simp <;> omega)) _ | refine belowCall ?_ (by assumption)))⟩)
  by_cases h3 : a < b
  rotate_left
  · have h3d : decide (b ≤ a) = true := by simpa using h3
    (have HD := Lib.hid (cb_2 (show cbOk a b lo hi = false by simp [cbOk, *])); go_enter Try.func35, Try.ntmps35; go_wp2_with (first | (go_at_call 59; refine (l06Time_any _ _).mono ?_; rintro x w' ⟨rfl, rfl⟩) | (go_at_call 60; refine (l09Per_any _ _).mono ?_; rintro x w' ⟨rfl, rfl⟩) | (go_at_call 52; refine (HIN _).mono ?_; rintro x w' ⟨rfl, rfl⟩)); go_ret2; exact ⟨by rw [HD.out.1, HD.out.2]; exact IntRes.nil _ _ _, by (repeat (first | assumption | exact Below.refl _ _ | refine belowDN ?_ _ | refine Below.drew ?_ | refine Below.setCell ?_ (by first | omega | (simp <;> omega)) _ | refine Below.alloc ?_ (by first | omega | (simp <;> omega)) _ | refine belowCall ?_ (by assumption)))⟩)
  have h3d : decide (b ≤ a) = false := by simpa using h3
  cases h4 : perB lo
  · (have HD := Lib.hid (cb_2 (show cbOk a b lo hi = false by simp [cbOk, *])); go_enter Try.func35, Try.ntmps35; go_wp2_with (first | (go_at_call 59; refine (l06Time_any _ _).mono ?_; rintro x w' ⟨rfl, rfl⟩) | (go_at_call 60; refine (l09Per_any _ _).mono ?_; rintro x w' ⟨rfl, rfl⟩) | (go_at_call 52; refine (HIN _).mono ?_; rintro x w' ⟨rfl, rfl⟩)); go_ret2; exact ⟨by rw [HD.out.1, HD.out.2]; exact IntRes.nil _ _ _, by (repeat (first | assumption | exact Below.refl _ _ | refine belowDN ?_ _ | refine Below.drew ?_ | refine Below.setCell ?_ (by first | omega | (simp <;> omega)) _ | refine Below.alloc ?_ (by first | omega | (simp <;> omega)) _ | refine belowCall ?_ (by assumption)))⟩)
  cases h5 : perB hi
  · rw [cb_hi0 h4 h5] at HIN
    (have HD := Lib.hid (cb_2 (show cbOk a b lo hi = false by simp [cbOk, *])); go_enter Try.func35, Try.ntmps35; go_wp2_with (first | (go_at_call 59; refine (l06Time_any _ _).mono ?_; rintro x w' ⟨rfl, rfl⟩) | (go_at_call 60; refine (l09Per_any _ _).mono ?_; rintro x w' ⟨rfl, rfl⟩) | (go_at_call 52; refine (HIN _).mono ?_; rintro x w' ⟨rfl, rfl⟩)); go_ret2; exact ⟨by rw [HD.out.1, HD.out.2]; exact IntRes.nil _ _ _, by (repeat (first | assumption | exact Below.refl _ _ | refine belowDN ?_ _ | refine Below.drew ?_ | refine Below.setCell ?_ (by first | omega | (simp <;> omega)) _ | refine Below.alloc ?_ (by first | omega | (simp <;> omega)) _ | refine belowCall ?_ (by assumption)))⟩)
  rw [cb_hi h4 h5] at HIN
  by_cases h6 : lo ≤ hi
  rotate_left
  · have h6d : decide (lo ≤ hi) = false := by simpa using h6
    rw [h6d] at HIN
    (have HD := Lib.hid (cb_2 (show cbOk a b lo hi = false by simp [cbOk, *])); go_enter Try.func35, Try.ntmps35; go_wp2_with (first | (go_at_call 59; refine (l06Time_any _ _).mono ?_; rintro x w' ⟨rfl, rfl⟩) | (go_at_call 60; refine (l09Per_any _ _).mono ?_; rintro x w' ⟨rfl, rfl⟩) | (go_at_call 52; refine (HIN _).mono ?_; rintro x w' ⟨rfl, rfl⟩)); go_ret2; exact ⟨by rw [HD.out.1, HD.out.2]; exact IntRes.nil _ _ _, by (repeat (first | assumption | exact Below.refl _ _ | refine belowDN ?_ _ | refine Below.drew ?_ | refine Below.setCell ?_ (by first | omega | (simp <;> omega)) _ | refine Below.alloc ?_ (by first | omega | (simp <;> omega)) _ | refine belowCall ?_ (by assumption)))⟩)
  have h6d : decide (lo ≤ hi) = true := by simpa using h6
  rw [h6d] at HIN
  have hok : cbOk a b lo hi = true := by simp [cbOk, *]
  obtain ⟨⟨t1, t2, t3, t4, t5, t6⟩, f1, e1⟩ := cb_bd hok
  have wF : IntKind.i64.wrap ((b - a + hi - 1).tdiv hi) = cbF a b hi := by unfold cbF; unfold cbF at f1; rw [IntWalk.i64_in _ (by omega)]
  have wE : IntKind.i64.wrap ((b - a).tdiv lo) = cbE a b lo := by unfold cbE; unfold cbE at e1; rw [IntWalk.i64_in _ (by omega)]
  have wF' : (b - a + hi - 1).tdiv hi = cbF a b hi := rfl
  have wE' : (b - a).tdiv lo = cbE a b lo := rfl
  have hlo : lo ≠ 0 := by omega
  have hhi : hi ≠ 0 := by omega
  have hlo2 : (lo == 0) = false := by simpa using hlo
  have hhi2 : (hi == 0) = false := by simpa using hhi
  by_cases h7 : 200 ≤ cbE a b lo - cbF a b hi
  · have HD := Lib.hid (cb_5 hok h7)
    have h7e : 200 < cbE a b lo - cbF a b hi + 1 := by omega
    have h7d : decide (200 < cbE a b lo - cbF a b hi + 1) = true := by simpa using h7e
    generalize cbF a b hi = F at f1 wF wF' h7 h7d h7e HD
    generalize cbE a b lo = E at e1 wE wE' h7 h7d h7e HD
    clear hok
    go_enter Try.func35, Try.ntmps35
    go_wp2_with (first | (go_at_call 59; refine (l06Time_any _ _).mono ?_; rintro x w' ⟨rfl, rfl⟩) | (go_at_call 60; refine (l09Per_any _ _).mono ?_; rintro x w' ⟨rfl, rfl⟩) | (go_at_call 52; refine (HIN _).mono ?_; rintro x w' ⟨rfl, rfl⟩))
    go_ret2
    exact ⟨by rw [HD.out.1, HD.out.2]; exact IntRes.nil _ _ _, by (repeat (first | assumption | exact Below.refl _ _ | refine belowDN ?_ _ | refine Below.drew ?_ | refine Below.setCell ?_ (by first | omega | (simp <;> omega)) _ | refine Below.alloc ?_ (by first | omega | (simp <;> omega)) _ | refine belowCall ?_ (by assumption)))⟩
  · have HD := Lib.hid (cb_0 hok h7)
    have h7e : ¬ 200 < cbE a b lo - cbF a b hi + 1 := by omega
    have h7d : decide (200 < cbE a b lo - cbF a b hi + 1) = false := by simpa using h7e
    have hN : cbN a b lo hi = (cbE a b lo - cbF a b hi + 1).toNat := rfl
    generalize cbF a b hi = F at f1 wF wF' h7 h7d h7e HD hN
    generalize cbE a b lo = E at e1 wE wE' h7 h7d h7e HD hN
    generalize cbN a b lo hi = K at HD hN
    have HM := Lib.hid (cbT_map F)
    have HLN := Lib.hid (cbT_len F)
    clear hok
    go_enter Try.func35, Try.ntmps35
    go_wp2_with (first | (go_at_call 59; refine (l06Time_any _ _).mono ?_; rintro x w' ⟨rfl, rfl⟩) | (go_at_call 60; refine (l09Per_any _ _).mono ?_; rintro x w' ⟨rfl, rfl⟩) | (go_at_call 52; refine (HIN _).mono ?_; rintro x w' ⟨rfl, rfl⟩))
    clear wF wE wF' wE' h1 h2 h3 h3d h4 h5 h6 h6d h7d h7e
    go_loopw [13, 14] (fun o i wr => ∃ k g c : Nat, k ≤ K ∧ i = .int .i64 (F + (k : Int)) ∧ o = .slice (some ⟨g, 0, none⟩) k c ∧ wr.ownsRow w.heap.size 2 1 (.slice (some ⟨g, 0, none⟩) k c) k ((cbT F k).map (Value.int .i64)) ∧ Below w.heap.size w wr) (fun _ i _ => (E + 1 - Go.RowKit.intOf i).toNat)
    case atStart => exact ⟨0, w.heap.size, 0, Nat.zero_le _, by simp, rfl, World.ownsRow_lit w #[] 0 (Nat.le_refl _) (by unfold maxLen; omega) rfl, by (repeat (first | assumption | exact Below.refl _ _ | refine belowDN ?_ _ | refine Below.drew ?_ | refine Below.setCell ?_ (by first | omega | (simp <;> omega)) _ | refine Below.alloc ?_ (by first | omega | (simp <;> omega)) _ | refine belowCall ?_ (by assumption)))⟩
    case round =>
      obtain ⟨k, g, c, hk, rfl, rfl, hown, hB⟩ := hrel
      have hsz := hB.size
      have HMk := Lib.hid (HM.out k)
      obtain ⟨X, hX⟩ : ∃ X, F + (k : Int) = X := ⟨_, rfl⟩
      have HX1 : Hid (F + ((k + 1 : Nat) : Int) = X + 1) := Lib.hid (by omega)
      rw [hX] at HMk ⊢
      by_cases hlt : k < K
      · have hle : X ≤ E := by omega
        have hXb : -20000000 ≤ X ∧ X ≤ 20000000 := by omega
        have hk200 : k ≤ 200 := by omega
        clear hX hN
        go_wp2_with (at_builtin; refine wpList_append_lies _ rfl _ _ 25 rfl w.heap.size 2 i0 (.int .i64 0) 1 8 Try.underlying25 hi0 hz0 hz1 hz2 rfl (by decide) _ _ _ rfl (hown.alloc _) ⟨wr.heap.size, 0, none⟩ 1 1 [.int .i64 X] rfl rfl (cell_one_new _ _ _) (by intro u hu; simp at hu; subst hu; rfl) (by decide) (by unfold maxLen; omega) (by omega) (by simp; omega) _ rfl ?_; intro g7 c7 w7 hown7 hg7 hat7 hlt7; have hB7 : Below w.heap.size w w7 := (show Below w.heap.size w (wr.alloc (.cells #[.int .i64 X] 2)) from hB.alloc (by omega) _).grown hg7 (by simp; omega) (fun j e => (hown.lt j e).1); clear hg7 hat7)
        have HO := Lib.hid hown7
        clear hown7 hown
        go_roundw
        case rel => exact ⟨k + 1, g7, c7, by omega, by rw [HX1.out], rfl, by rw [HMk.out]; exact HO.out, hB7⟩
        case measure => simp [Go.RowKit.intOf]; omega
      · have hle : ¬ X ≤ E := by omega
        have HE : Hid (k = K) := Lib.hid (by omega)
        have HO := Lib.hid hown
        clear hown hX hN
        go_wp2
        go_ret2
        have ek := HE.out
        subst ek
        exact ⟨by rw [HD.out.1, HD.out.2]; exact IntRes.own HO.out (HLN.out _), hB⟩
end Go.Proofs.Ytbjflgohahmjgaa
