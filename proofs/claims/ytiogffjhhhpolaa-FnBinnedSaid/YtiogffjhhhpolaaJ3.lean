/- PathOf and LongestGap, both sides. -/
import Derived.Test.YtiogffjhhhpolaaJ2
namespace Go.Proofs.Ytiogffjhhhpolaa
open Go.ChangeShapes Go.WideShapes Go.ChangeAt Go.RowKit Go.Deep

theorem flipP {P : Program} {f : FuncId} {args : Array Value} {w : World} {v : Value} (h : Calls P f args w fun e w' => e = .returned v ∧ w = w') : Calls P f args w fun e w' => e = .returned v ∧ w' = w :=
  h.mono fun _ _ hh => ⟨hh.1, hh.2.symm⟩
def cvC (xs : List Pt) : Int := if okP xs then 0 else 1
theorem cvC_no {xs : List Pt} (h : okP xs = false) : cvC xs = 1 := by simp [cvC, h]
theorem cvC_yes {xs : List Pt} (h : okP xs = true) : cvC xs = 0 := by simp [cvC, h]
/-- the way of the first k points -/
def pathN (xs : List Pt) : Nat → Nat
  | 0 => 0
  | k + 1 => pathN xs k + (if k = 0 then 0 else ((xs[k]?.getD pt0).2 - (xs[k - 1]?.getD pt0).2).natAbs)
theorem pathN_le {xs : List Pt} {n : Nat} (h : ∀ k, k < n → 0 ≤ (xs[k]?.getD pt0).1 ∧ (xs[k]?.getD pt0).1 ≤ 10000000 ∧ -2000 ≤ (xs[k]?.getD pt0).2 ∧ (xs[k]?.getD pt0).2 ≤ 20000) : ∀ k, k ≤ n → pathN xs k ≤ 22000 * k
  | 0, _ => by simp [pathN]
  | k + 1, hk => by
    have h1 := pathN_le h k (by omega)
    have h2 := h k (by omega)
    have h3 := h (k - 1) (by omega)
    simp only [pathN]
    split <;> omega
theorem pathN_step {xs : List Pt} {k : Nat} {x y : Pt} (hx : xs[k + 1]?.getD pt0 = x) (hy : xs[k]?.getD pt0 = y) : pathN xs (k + 1 + 1) = pathN xs (k + 1) + (x.2 - y.2).natAbs := by
  rw [pathN, if_neg (by omega), hx, Nat.add_sub_cancel, hy]
def paA (xs : List Pt) : Int := if okP xs then (pathN xs xs.length : Int) else 0
theorem paA_no {xs : List Pt} (h : okP xs = false) : paA xs = 0 := by simp [paA, h]
theorem paA_yes {xs : List Pt} {n : Nat} (hn : xs.length = n) (h : okP xs = true) : paA xs = (pathN xs n : Int) := by simp [paA, h, hn]
theorem dist_any (a b : Int) (w : World) (h1 : -1000000000000 ≤ a) (h2 : a ≤ 1000000000000) (h3 : -1000000000000 ≤ b) (h4 : b ≤ 1000000000000) :
    Calls Try.prog 58 #[.int .i64 a, .int .i64 b] w fun e w' => e = .returned (.int .i64 ((a - b).natAbs : Nat)) ∧ w = w' := by
  by_cases h : a < b
  all_goals
    go_enter Try.func58, Try.ntmps58
    go_wp2
    go_ret
    exact ⟨ret_int (by omega), rfl⟩
theorem path_bound {p q : Nat} {k : Nat} (h1 : p ≤ 22000 * k) (h2 : k ≤ 100) (h3 : q ≤ 22000) : IntKind.i64.wrap ((p : Int) + (q : Int)) = ((p + q : Nat) : Int) := by rw [IntWalk.i64_in _ (by omega)]; omega
set_option maxRecDepth 100000 in
set_option maxHeartbeats 2000000 in
theorem iPath_any (a : Option Addr) (n c : Nat) (xs : List Pt) (w : World) (h : PtL w a n xs) (hn : n ≤ 1048576) :
    Calls Try.prog 21 #[.slice a n c] w fun e w' => e = .returned (.tuple #[.int .i64 (paA xs), .int .i64 (cvC xs)]) ∧ Below w.heap.size w w' := by
  cases hok : okP xs
  · have HA := Lib.hid (paA_no hok)
    have HC := Lib.hid (cvC_no hok)
    go_enter Try.func21, Try.ntmps21
    go_wp2_with fail
    refine (iValidCv_any a n c xs w h hn).mono ?_
    rintro e w2 ⟨rfl, b2⟩
    rw [hok]
    go_wp2
    go_ret2
    exact ⟨by rw [HA.out, HC.out]; rfl, b2⟩
  · have HA := Lib.hid (paA_yes h.1 hok)
    have HC := Lib.hid (cvC_yes hok)
    obtain ⟨h100, hbd, -⟩ := okP_num h.1 hok
    have hle := pathN_le hbd
    have hl : (n : Int) ≤ 100 := by omega
    go_enter Try.func21, Try.ntmps21
    go_wp2_with fail
    refine (iValidCv_any a n c xs w h hn).mono ?_
    rintro e w2 ⟨rfl, b2⟩
    rw [hok]
    have h2 := h.mono b2
    clear hok
    go_wp2
    go_loopw [4, 5] (fun s i wr => ∃ k : Nat, 1 ≤ k ∧ (k ≤ n ∨ n = 0) ∧ (n = 0 → k = 1) ∧ i = .int .i64 k ∧ s = .int .i64 ((pathN xs k : Nat) : Int) ∧ Below w2.heap.size w2 wr) (fun _ i _ => n - (Go.RowKit.intOf i).toNat)
    case atStart => exact ⟨1, by omega, by omega, fun _ => rfl, rfl, rfl, Below.refl _ _⟩
    case round =>
      obtain ⟨k, hk1, hk, hk0, rfl, rfl, hB⟩ := hrel
      by_cases hlt : k < n
      · obtain ⟨k', rfl⟩ : ∃ k', k = k' + 1 := ⟨k - 1, by omega⟩
        obtain ⟨b1, o1, rfl, hS⟩ := h2.2 (k' + 1) hlt
        obtain ⟨b1', o1', he, hS'⟩ := h2.2 k' (by omega)
        cases he
        obtain ⟨⟨x0, x1⟩, hx⟩ : ∃ x, xs[k' + 1]?.getD pt0 = x := ⟨_, rfl⟩
        obtain ⟨⟨y0, y1⟩, hy⟩ : ∃ x, xs[k']?.getD pt0 = x := ⟨_, rfl⟩
        have HS := Lib.hid (pathN_step hx hy)
        have hb1 := hbd (k' + 1) hlt
        have hb2 := hbd k' (by omega)
        have hp := hle (k' + 1) (by omega)
        rw [hx] at hS hb1
        rw [hy] at hS' hb2
        obtain ⟨-, p0, p1⟩ := (hS.mono hB).parts
        obtain ⟨-, q0, q1⟩ := (hS'.mono hB).parts
        generalize pathN xs (k' + 1) = P at HS hp ⊢
        clear hx hy hS hS' hle hbd
        have hkk : ((k' : Int) + 1) < (n : Int) := by omega
        have hi1 : (k' : Int) < (n : Int) := by omega
        have hw3 := path_bound (p := P) (q := (x1 - y1).natAbs) hp (by omega) (by omega)
        go_wp2
        go_big_quiet ((go_at_call 58; refine Calls.quiet_of_same (flipP (dist_any _ _ _ (by omega) (by omega) (by omega) (by omega)))))
        go_wp2
        go_roundw
        case rel => exact ⟨k' + 1 + 1, by omega, by omega, by omega, by go_num, by rw [HS.out]; go_num, belowDN hB _⟩
        case measure => simp [Go.RowKit.intOf]; omega
      · have hPk : pathN xs k = pathN xs n := by
          by_cases h0 : n = 0
          · have := hk0 h0; subst this; subst h0; simp [pathN]
          · rw [show k = n by omega]
        have HP := Lib.hid hPk
        clear hPk
        go_wp2
        go_ret2
        exact ⟨by rw [HA.out, HC.out, HP.out]; rfl, belowCall b2 hB⟩
end Go.Proofs.Ytiogffjhhhpolaa
