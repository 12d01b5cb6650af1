/- The laws' comparing of stars: equal slices compare as equal. -/
import Derived.Test.YtiogffjhhhpolabDoorS5
import Derived.StillTailTactics
namespace Go.Proofs.YtiogffjhhhpolabDoor
open Go.ChangeShapes Go.WideShapes Go.ChangeAt Go.RowKit Go.Deep

theorem str_ne_self (s : ByteArray) : (!s.toList == s.toList) = false := by simp
theorem eqStar_self (nm : ByteArray) (a d u v : Int) (w : World) :
    Calls Tryd.prog 20 #[.agg #[.string nm, .int .i64 a, .int .i64 d, .int .i64 u, .int .i64 v], .agg #[.string nm, .int .i64 a, .int .i64 d, .int .i64 u, .int .i64 v]] w fun e w' => e = .returned (.bool true) ∧ Below w.heap.size w w' := by
  have h0 := str_ne_self nm
  have h1 : (a != a) = false := by simp
  have h2 : (d != d) = false := by simp
  have h3 : (u != u) = false := by simp
  have h4 : (v != v) = false := by simp
  go_enter Tryd.func20, Tryd.ntmps20
  go_wp2
  go_ret
  exact ⟨rfl, by (repeat (first | assumption | exact Below.refl _ _ | refine belowDN ?_ _ | refine Below.drew ?_ | refine Below.setCell ?_ (by first | omega | (simp <;> omega)) _ | refine Below.alloc ?_ (by first | omega | (simp <;> omega)) _ | refine belowCall ?_ (by assumption)))⟩
set_option maxRecDepth 100000 in
set_option maxHeartbeats 1000000 in
theorem eqStarS_self (a b : Option Addr) (n c c' : Nat) (xs : List St) (w : World) (h : StL w a n xs) (h' : StL w b n xs) (hn : n ≤ 1048576) :
    Calls Tryd.prog 11 #[.slice a n c, .slice b n c'] w fun e w' => e = .returned (.bool true) ∧ Below w.heap.size w w' := by
  have hl : (n : Int) ≤ 1048576 := by omega
  go_enter Tryd.func11, Tryd.ntmps11
  go_wp2
  go_loopw [5] (fun i wr => ∃ k : Nat, k ≤ n ∧ i = .int .i64 k ∧ Below w.heap.size w wr) (fun i _ => n - (intOf i).toNat)
  case atStart => exact ⟨0, Nat.zero_le _, rfl, Below.refl _ _⟩
  case round =>
    obtain ⟨k, hk, rfl, hB⟩ := hrel
    by_cases hlt : k < n
    · obtain ⟨b1, o1, rfl, hc⟩ := h.2 k hlt
      obtain ⟨b2, o2, rfl, hc'⟩ := h'.2 k hlt
      obtain ⟨⟨nm, x1, x2, x3, x4⟩, hx⟩ : ∃ x, xs[k]?.getD st0 = x := ⟨_, rfl⟩
      rw [hx] at hc hc'
      obtain ⟨p, p0, p1, p2, p3, p4⟩ := (hc.mono hB).parts
      obtain ⟨q, q0, q1, q2, q3, q4⟩ := (hc'.mono hB).parts
      clear hx hc hc'
      have hkk : (k : Int) < (n : Int) := by omega
      go_wp2
      go_still_tail 8, (by kernel_rfl)
      have hBd : Below w.heap.size w wr.drew := hB.drew
      change wpList _ _ _ _ _ wr.drew
      generalize wr.drew = w2 at hBd ⊢
      go_wp2_with fail
      refine (eqStar_self _ _ _ _ _ _).mono ?_
      rintro e w3 ⟨rfl, b3⟩
      go_wp2
      go_roundw
      case rel => exact ⟨k + 1, by omega, by go_num, belowCall hBd b3⟩
      case measure => simp [intOf]; omega
    · obtain rfl : k = n := by omega
      go_wp2
      go_ret
      exact ⟨rfl, hB⟩
end Go.Proofs.YtiogffjhhhpolabDoor
