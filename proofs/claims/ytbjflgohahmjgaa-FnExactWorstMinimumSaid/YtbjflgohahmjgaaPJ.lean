/- SquaresOf, the model's. -/
import Derived.Test.YtbjflgohahmjgaaPI
namespace Go.Proofs.Ytbjflgohahmjgaa
open Go.ChangeShapes Go.WideShapes Go.ChangeAt Go.RowKit Go.Deep

def smB (r : Int) : Bool := inB r (-1000000) 1000000
theorem near_sm {e p : Int} {x : Mi} : nearB e p 1000000 x = smB (rsd e p x) := by
  rw [Bool.eq_iff_iff]
  simp only [nearB, smB, inB_iff, decide_eq_true_eq]
  omega
theorem rs_bd {xs : List Mi} {e p : Int} {n : Nat} (hn : xs.length = n) (hok : okM xs = true) (he : ephB e p = true) (k : Nat) (hk : k < n) : -100000000000 ≤ rsd e p (xs[k]?.getD mi0) ∧ rsd e p (xs[k]?.getD mi0) ≤ 100000000000 := by
  obtain ⟨-, hbd, -⟩ := okM_num hn hok
  obtain ⟨⟨e1, e2⟩, p1, p2⟩ := ephB_iff.1 he
  obtain ⟨⟨v1, v2⟩, v3, v4⟩ := hbd k hk
  have := cyP_bd v1 v2 p1 p2
  unfold rsd
  omega
theorem sqP_bd {e p : Int} {xs : List Mi} {k : Nat} (h : ∀ j, j < k → nearB e p 1000000 (xs[j]?.getD mi0) = true) : -(1000000000000 * (k : Int)) ≤ sqS e p xs k ∧ sqS e p xs k ≤ 1000000000000 * (k : Int) :=
  sumF_bd fun j hj => by
    have h1 := h j hj
    rw [near_sm] at h1
    have h2 := inB_iff.1 h1
    have h3 := pwR_bd h2.1 h2.2 2 (by omega)
    simp only [pwR, Int.one_mul] at h3
    exact h3
set_option maxRecDepth 100000 in
set_option maxHeartbeats 4000000 in
theorem sSqr_any (a : Option Addr) (n c : Nat) (xs : List Mi) (e p : Int) (w : World) (h : MiL w a n xs) (hn : n ≤ 1048576) :
    Calls Try.prog 28 #[.slice a n c, .agg #[.int .i64 e, .int .i64 p]] w fun x w' => x = .returned (.tuple #[.int .i64 (sqA xs e p), .int .i64 (sqC xs e p)]) ∧ Below w.heap.size w w' := by
  have hbx := PtC.fresh w 45 e p
  have B1 : Below w.heap.size w (w.alloc (.cells #[.int .i64 e, .int .i64 p] 45)) := (Below.refl _ w).alloc (Nat.le_refl _) _
  cases hb : (okM xs && ephB e p)
  · have HD := Lib.hid (sq_1 hb)
    have HR := Lib.hid (rs_no hb)
    go_enter Try.func28, Try.ntmps28
    go_upto_region 1 with fail
    generalize w.alloc (.cells #[.int .i64 e, .int .i64 p] 45) = v at hbx B1 ⊢
    obtain ⟨-, k0, k1⟩ := hbx.parts
    rw [Nat.zero_add] at k1
    go_wp2_with fail
    refine (sRes_any a n c xs e p _ (h.mono (by (repeat (first | assumption | exact Below.refl _ _ | refine belowDN ?_ _ | refine Below.drew ?_ | refine Below.setCell ?_ (by first | omega | (simp <;> omega)) _ | refine Below.alloc ?_ (by first | omega | (simp <;> omega)) _ | refine belowCall ?_ (by assumption))))) hn).mono ?_
    rintro x w2 ⟨⟨la, lc, rfl, -⟩, b2⟩
    rw [HR.out.1, HR.out.2]
    go_wp2
    go_ret2
    exact ⟨by rw [HD.out.1, HD.out.2]; rfl, belowCall B1 b2⟩
  have HR := Lib.hid (rs_yes hb)
  obtain ⟨hok, he⟩ : okM xs = true ∧ ephB e p = true := by simpa using hb
  have HBD := Lib.hid (rs_bd h.1 hok he)
  have hn50 := (okM_num h.1 hok).1
  have HRL : Hid ((rsL e p xs).length = n) := Lib.hid ((rsL_len e p xs).trans h.1)
  have HRA := Lib.hid (fun k (hk : k < n) => rsL_at (e := e) (p := p) h.1 hk rfl)
  have HL := Lib.hid h.1
  have hl : (n : Int) ≤ 50 := by omega
  clear hok he
  go_enter Try.func28, Try.ntmps28
  go_upto_region 1 with fail
  generalize w.alloc (.cells #[.int .i64 e, .int .i64 p] 45) = v at hbx B1 ⊢
  obtain ⟨-, k0, k1⟩ := hbx.parts
  rw [Nat.zero_add] at k1
  go_wp2_with fail
  refine (sRes_any a n c xs e p _ (h.mono (by (repeat (first | assumption | exact Below.refl _ _ | refine belowDN ?_ _ | refine Below.drew ?_ | refine Below.setCell ?_ (by first | omega | (simp <;> omega)) _ | refine Below.alloc ?_ (by first | omega | (simp <;> omega)) _ | refine belowCall ?_ (by assumption))))) hn).mono ?_
  rintro x w2 ⟨⟨la, lc, rfl, hO⟩, b2⟩
  have hR := (hO 0).toL
  rw [HR.out.1] at hR ⊢
  rw [HR.out.2]
  rw [HRL.out] at hR ⊢
  have B2 := belowCall B1 b2
  clear hO
  go_wp2
  go_loopw [8, 9] (fun s i wr => ∃ k q : Nat, k ≤ n ∧ i = .int .i64 k ∧ s = .int .i64 (sqS e p xs k) ∧ (∀ j, j < k → nearB e p 1000000 (xs[j]?.getD mi0) = true) ∧ wr = w2.drewN q) (fun _ i _ => n - (Go.RowKit.intOf i).toNat)
  case atStart => exact ⟨0, 0, Nat.zero_le _, rfl, rfl, fun j hj => absurd hj (by omega), rfl⟩
  case round =>
    obtain ⟨k, q, hk, rfl, rfl, hall, rfl⟩ := hrel
    have hSB := sqP_bd hall
    have HALL := Lib.hid hall
    clear hall
    by_cases hlt : k < n
    · obtain ⟨b1, o1, rfl, hb1, hc⟩ := hR.2 k hlt
      rw [HRA.out k hlt] at hc
      have hrb := HBD.out k hlt
      obtain ⟨R, hRq⟩ : ∃ R, rsd e p (xs[k]?.getD mi0) = R := ⟨_, rfl⟩
      have HS2 := Lib.hid (sqS_step e p xs k hRq)
      have HNS : Hid (nearB e p 1000000 (xs[k]?.getD mi0) = smB R) := Lib.hid (by rw [near_sm, hRq])
      rw [hRq] at hc hrb
      have hkk : (k : Int) < (n : Int) := by omega
      generalize sqS e p xs k = S at hSB HS2 ⊢
      clear hRq
      have HIN : ∀ W, Calls Try.prog 52 #[.int .i64 R, .int .i64 (-1000000), .int .i64 1000000] W fun e w' => e = .returned (.bool (smB R)) ∧ W = w' := fun W => l00In_any R (-1000000) 1000000 W
      cases hs : smB R
      · have HD := Lib.hid (sq_5 hb (allNear_no HL.out hlt rfl (by rw [HNS.out, hs])))
        rw [hs] at HIN
        go_wp2_with (first | (go_at_call 52; refine (HIN _).mono ?_; rintro x w' ⟨rfl, rfl⟩))
        go_ret2
        exact ⟨by rw [HD.out.1, HD.out.2]; rfl, by (repeat (first | assumption | exact Below.refl _ _ | refine belowDN ?_ _ | refine Below.drew ?_ | refine Below.setCell ?_ (by first | omega | (simp <;> omega)) _ | refine Below.alloc ?_ (by first | omega | (simp <;> omega)) _ | refine belowCall ?_ (by assumption)))⟩
      · have hrr := inB_iff.1 hs
        have hp2 := pwR_bd hrr.1 hrr.2 2 (by omega)
        have HP2 : Hid (pwR R 2 = R * R) := Lib.hid (by simp [pwR])
        rw [HP2.out] at hp2 HS2
        rw [hs] at HIN
        have w3 : IntKind.i64.wrap (R * R) = R * R := IntWalk.i64_in _ (by omega)
        have w4 : IntKind.i64.wrap (S + R * R) = S + R * R := IntWalk.i64_in _ (by omega)
        have HNT : Hid (nearB e p 1000000 (xs[k]?.getD mi0) = true) := Lib.hid (by rw [HNS.out, hs])
        clear hs hrr
        go_wp2_with (first | (go_at_call 52; refine (HIN _).mono ?_; rintro x w' ⟨rfl, rfl⟩))
        go_big_quiet (fail)
        go_wp2
        go_roundw
        case rel => exact ⟨k + 1, _, by omega, by go_num, by rw [HS2.out], (fun j hj => by
          by_cases e : j = k
          · subst e; exact HNT.out
          · exact HALL.out j (by omega)), rfl⟩
        case measure => simp [Go.RowKit.intOf]; omega
    · obtain rfl : k = n := by omega
      have HD := Lib.hid (sq_0 HL.out hb (allNear_yes HL.out HALL.out))
      go_wp2
      go_ret2
      exact ⟨by rw [HD.out.1, HD.out.2]; rfl, by (repeat (first | assumption | exact Below.refl _ _ | refine belowDN ?_ _ | refine Below.drew ?_ | refine Below.setCell ?_ (by first | omega | (simp <;> omega)) _ | refine Below.alloc ?_ (by first | omega | (simp <;> omega)) _ | refine belowCall ?_ (by assumption)))⟩
end Go.Proofs.Ytbjflgohahmjgaa
