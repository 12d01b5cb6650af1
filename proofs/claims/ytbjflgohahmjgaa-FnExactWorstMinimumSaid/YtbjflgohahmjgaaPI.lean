/- SquaresOf: sumOf with two method values, the program's and the model's. -/
import Derived.Test.YtbjflgohahmjgaaPH
import Derived.Test.YtbjflgohahmjgaaPG
namespace Go.Proofs.Ytbjflgohahmjgaa
open Go.ChangeShapes Go.WideShapes Go.ChangeAt Go.RowKit Go.Deep

def pwR (R : Int) : Nat → Int
  | 0 => 1
  | j + 1 => pwR R j * R
/-- two factors, each of them the residual -/
def SqF (w : World) (a : Option Addr) (V : Value) : Prop := ∀ j, j < 2 → ∃ b o, a = some ⟨b, o, none⟩ ∧ b < w.heap.size ∧ w.cell? ⟨b, o + j, none⟩ = some V
theorem SqF.mono {w w' : World} {a : Option Addr} {V : Value} (h : SqF w a V) (hb : Below w.heap.size w w') : SqF w' a V := fun j hj => by
  obtain ⟨b, o, e, h1, h2⟩ := h j hj
  exact ⟨b, o, e, Nat.lt_of_lt_of_le h1 hb.size, by rw [hb.cell (p := ⟨b, o + j, none⟩) h1]; exact h2⟩
theorem SqF.fresh (w : World) (V : Value) (T : TypeId) : SqF (w.alloc (.cells #[V, V] T)) (some ⟨w.heap.size, 0, none⟩) V := fun j hj =>
  ⟨w.heap.size, 0, rfl, by simp, by
    match j, hj with
    | 0, _ => rw [World.cell?_alloc_new]; rfl
    | 1, _ => rw [World.cell?_alloc_new]; rfl⟩
theorem sqS_step (e p : Int) (xs : List Mi) (k : Nat) {R : Int} (h : rsd e p (xs[k]?.getD mi0) = R) : sqS e p xs (k + 1) = sqS e p xs k + pwR R 2 := by
  show sqS e p xs k + rsd e p (xs[k]?.getD mi0) * rsd e p (xs[k]?.getD mi0) = _
  rw [h]
  simp [pwR]
theorem pwR_bd {R : Int} (h1 : -1000000 ≤ R) (h2 : R ≤ 1000000) : ∀ j, j ≤ 2 → -1000000000000 ≤ pwR R j ∧ pwR R j ≤ 1000000000000
  | 0, _ => by simp [pwR]
  | 1, _ => by simp [pwR]; omega
  | 2, _ => by
    have h3 := Int.natAbs_mul R R
    have h4 : (R * R).natAbs ≤ 1000000 * 1000000 := by rw [h3]; exact Nat.mul_le_mul (by omega) (by omega)
    simp only [pwR, Int.one_mul]
    omega
set_option maxRecDepth 100000 in
set_option maxHeartbeats 4000000 in
theorem sumSq_any (a fa : Option Addr) (n c fc : Nat) (xs : List Mi) (e p : Int) (w : World) (h : MiL w a n xs) (hok : okM xs = true) (he : ephB e p = true) (hnr : allNear e p 1000000 xs = true) (hF : SqF w fa (.func (.func 51) #[.agg #[.int .i64 e, .int .i64 p]] #[])) :
    Calls Try.prog 54 #[.slice a n c, .slice fa 2 fc] w fun r w' => r = .returned (.int .i64 (sqS e p xs n)) ∧ Below w.heap.size w w' := by
  obtain ⟨h50, hbd, -⟩ := okM_num h.1 hok
  obtain ⟨⟨e1, e2⟩, p1, p2⟩ := ephB_iff.1 he
  have HBD := Lib.hid hbd
  have HSB := Lib.hid (sqS_bd h.1 hnr)
  have HNR := Lib.hid (fun k (hk : k < n) => allNear_at h.1 hnr hk rfl)
  have hl : (n : Int) ≤ 50 := by omega
  clear hbd hok he hnr
  go_enter Try.func54, Try.ntmps54
  go_wp2
  go_loopw [5, 13] (fun s i wr => ∃ k : Nat, k ≤ n ∧ i = .int .i64 k ∧ s = .int .i64 (sqS e p xs k) ∧ Below w.heap.size w wr) (fun _ i _ => n - (Go.RowKit.intOf i).toNat)
  case atStart => exact ⟨0, Nat.zero_le _, rfl, rfl, Below.refl _ _⟩
  case round =>
    obtain ⟨k, hk, rfl, rfl, hB⟩ := hrel
    by_cases hlt : k < n
    · obtain ⟨b1, o1, rfl, hc⟩ := h.2 k hlt
      have hbx := HBD.out k hlt
      have hrb := HNR.out k hlt
      have hS1 := HSB.out k hk
      obtain ⟨⟨x0, x1⟩, hx⟩ : ∃ x, xs[k]?.getD mi0 = x := ⟨_, rfl⟩
      obtain ⟨R, hR⟩ : ∃ R, rsd e p (x0, x1) = R := ⟨_, rfl⟩
      have HS2 := Lib.hid (sqS_step e p xs k (R := R) (by rw [hx, hR]))
      rw [hx] at hc hbx hrb
      rw [hR] at hrb
      simp only at hbx
      obtain ⟨⟨v1, v2⟩, v3, v4⟩ := hbx
      have hcp := cyP_bd v1 v2 p1 p2
      have HRS : ∀ W, Calls Try.prog 51 #[.agg #[.int .i64 e, .int .i64 p], .agg #[.int .i64 x0, .int .i64 x1]] W fun r w' => r = .returned (.int .i64 R) ∧ Below W.heap.size W w' := fun W => by rw [← hR]; exact res_any e p x0 x1 W e1 e2 (by omega) (by omega) v3 v4
      have HPB := Lib.hid (pwR_bd hrb.1 hrb.2)
      obtain ⟨-, q0, q1⟩ := (hc.mono hB).parts
      have hsz := hB.size
      have hkk : (k : Int) < (n : Int) := by omega
      have hFr := hF.mono hB
      have hB1 : Below w.heap.size w (wr.alloc (.cells #[.int .i64 x0, .int .i64 x1] 34)) := by (repeat (first | assumption | exact Below.refl _ _ | refine belowDN ?_ _ | refine Below.drew ?_ | refine Below.setCell ?_ (by first | omega | (simp <;> omega)) _ | refine Below.alloc ?_ (by first | omega | (simp <;> omega)) _ | refine belowCall ?_ (by assumption)))
      clear hx hc hR
      generalize sqS e p xs k = S at hS1 HS2 ⊢
      obtain ⟨v, rfl⟩ : ∃ v, v = wr := ⟨wr, rfl⟩
      go_wp2
      go_loopw [8, 19] (fun pr i wi => ∃ j : Nat, j ≤ 2 ∧ i = .int .i64 j ∧ pr = .int .i64 (pwR R j) ∧ Below (v.heap.size + 1) (v.alloc (.cells #[.int .i64 x0, .int .i64 x1] 34)) wi) (fun _ i _ => 2 - (Go.RowKit.intOf i).toNat)
      case atStart => exact ⟨0, Nat.zero_le _, rfl, rfl, Below.refl _ _⟩
      case round =>
        obtain ⟨j, hj, rfl, rfl, hBi⟩ := hrel
        have hzi := hBi.size
        simp only [World.size_alloc] at hzi
        by_cases hjm : j < 2
        · obtain ⟨bf, of, rfl, hbf, hcf⟩ := hFr j hjm
          have hzz : (v.alloc (.cells #[.int .i64 x0, .int .i64 x1] 34)).heap.size = v.heap.size + 1 := by simp
          have hcf' : wr.cell? ⟨bf, of + j, none⟩ = some (.func (.func 51) #[.agg #[.int .i64 e, .int .i64 p]] #[]) := by rw [hBi.cell (p := ⟨bf, of + j, none⟩) (by show bf < _; omega)]; go_keep
          have t0 : wr.cell? ⟨v.heap.size, 0, none⟩ = some (.int .i64 x0) := by rw [hBi.cell (p := ⟨v.heap.size, 0, none⟩) (by show v.heap.size < _; omega)]; go_keep
          have t1 : wr.cell? ⟨v.heap.size, 1, none⟩ = some (.int .i64 x1) := by rw [hBi.cell (p := ⟨v.heap.size, 1, none⟩) (by show v.heap.size < _; omega)]; go_keep
          have hjj : (j : Int) < 2 := by omega
          have hP := HPB.out j (by omega)
          have hP1 := HPB.out (j + 1) (by omega)
          have HE : Hid (pwR R (j + 1) = pwR R j * R) := Lib.hid rfl
          rw [pwR] at hP1
          generalize pwR R j = P at hP hP1 HE ⊢
          clear hcf
          go_wp2_with fail
          refine (HRS _).mono ?_
          rintro e w5 ⟨rfl, b5⟩
          go_wp2
          go_roundw
          case rel => exact ⟨j + 1, by omega, by go_num, by rw [HE.out], hBi.trans (b5.mono (by omega))⟩
          case measure => simp [Go.RowKit.intOf]; omega
        · obtain rfl : j = 2 := by omega
          have hP := HPB.out 2 (by omega)
          generalize pwR R 2 = P at hP HS2 ⊢
          go_wp2
          go_roundw
          case rel => exact ⟨k + 1, by omega, by go_num, by rw [HS2.out], hB1.trans (hBi.mono (by omega))⟩
          case measure => simp [Go.RowKit.intOf]; omega
    · obtain rfl : k = n := by omega
      go_wp2
      go_ret
      exact ⟨rfl, hB⟩
set_option maxRecDepth 100000 in
set_option maxHeartbeats 2000000 in
theorem iSqr_any (a : Option Addr) (n c : Nat) (xs : List Mi) (e p : Int) (w : World) (h : MiL w a n xs) (hn : n ≤ 1048576) :
    Calls Try.prog 29 #[.slice a n c, .agg #[.int .i64 e, .int .i64 p]] w fun x w' => x = .returned (.tuple #[.int .i64 (sqA xs e p), .int .i64 (sqC xs e p)]) ∧ Below w.heap.size w w' := by
  have hbx := PtC.fresh w 45 e p
  have B1 : Below w.heap.size w (w.alloc (.cells #[.int .i64 e, .int .i64 p] 45)) := (Below.refl _ w).alloc (Nat.le_refl _) _
  cases hok : okM xs
  · have HD := Lib.hid (sq_1 (xs := xs) (e := e) (p := p) (by rw [hok]; rfl))
    go_enter Try.func29, Try.ntmps29
    go_upto_region 1 with fail
    generalize w.alloc (.cells #[.int .i64 e, .int .i64 p] 45) = v at hbx B1 ⊢
    go_wp2_with fail
    refine (iValidMi_any a n c xs _ (h.mono (by (repeat (first | assumption | exact Below.refl _ _ | refine belowDN ?_ _ | refine Below.drew ?_ | refine Below.setCell ?_ (by first | omega | (simp <;> omega)) _ | refine Below.alloc ?_ (by first | omega | (simp <;> omega)) _ | refine belowCall ?_ (by assumption))))) hn).mono ?_
    rintro x w2 ⟨rfl, b2⟩
    rw [hok]
    go_wp2
    go_ret2
    exact ⟨by rw [HD.out.1, HD.out.2]; rfl, belowCall B1 b2⟩
  cases he : ephB e p
  · have HD := Lib.hid (sq_1 (xs := xs) (e := e) (p := p) (by rw [hok, he]; rfl))
    go_enter Try.func29, Try.ntmps29
    go_upto_region 1 with fail
    generalize w.alloc (.cells #[.int .i64 e, .int .i64 p] 45) = v at hbx B1 ⊢
    go_wp2_with fail
    refine (iValidMi_any a n c xs _ (h.mono (by (repeat (first | assumption | exact Below.refl _ _ | refine belowDN ?_ _ | refine Below.drew ?_ | refine Below.setCell ?_ (by first | omega | (simp <;> omega)) _ | refine Below.alloc ?_ (by first | omega | (simp <;> omega)) _ | refine belowCall ?_ (by assumption))))) hn).mono ?_
    rintro x w2 ⟨rfl, b2⟩
    rw [hok]
    obtain ⟨-, k0, k1⟩ := (hbx.mono b2).parts
    rw [Nat.zero_add] at k1
    go_wp2_with fail
    refine (iValidEp_any e p _).mono ?_
    rintro x w3 ⟨rfl, b3⟩
    rw [he]
    go_wp2
    go_ret2
    exact ⟨by rw [HD.out.1, HD.out.2]; rfl, belowCall (belowCall B1 b2) b3⟩
  have hb : (okM xs && ephB e p) = true := by rw [hok, he]; rfl
  obtain ⟨⟨e1, e2⟩, -, -⟩ := ephB_iff.1 he
  have hnk : nrOk p n xs := nrOk_of h.1 hok he
  go_enter Try.func29, Try.ntmps29
  go_upto_region 1 with fail
  generalize w.alloc (.cells #[.int .i64 e, .int .i64 p] 45) = v at hbx B1 ⊢
  go_wp2_with fail
  refine (iValidMi_any a n c xs _ (h.mono (by (repeat (first | assumption | exact Below.refl _ _ | refine belowDN ?_ _ | refine Below.drew ?_ | refine Below.setCell ?_ (by first | omega | (simp <;> omega)) _ | refine Below.alloc ?_ (by first | omega | (simp <;> omega)) _ | refine belowCall ?_ (by assumption))))) hn).mono ?_
  rintro x w2 ⟨rfl, b2⟩
  rw [hok]
  have hbx2 := hbx.mono b2
  have B2 := belowCall B1 b2
  obtain ⟨-, k0, k1⟩ := hbx2.parts
  rw [Nat.zero_add] at k1
  go_wp2_with fail
  refine (iValidEp_any e p _).mono ?_
  rintro x w3 ⟨rfl, b3⟩
  rw [he]
  have B3 := belowCall B2 b3
  have hbx3 := hbx2.mono b3
  obtain ⟨-, l0, l1⟩ := hbx3.parts
  rw [Nat.zero_add] at l1
  clear k0 k1
  go_wp2_with fail
  refine (areNear_any a n c e p 1000000 xs _ (h.mono (by (repeat (first | assumption | exact Below.refl _ _ | refine belowDN ?_ _ | refine Below.drew ?_ | refine Below.setCell ?_ (by first | omega | (simp <;> omega)) _ | refine Below.alloc ?_ (by first | omega | (simp <;> omega)) _ | refine belowCall ?_ (by assumption))))) hnk e1 e2).mono ?_
  rintro x w4 ⟨rfl, b4⟩
  have B4 := belowCall B3 b4
  cases hnr : allNear e p 1000000 xs
  · have HD := Lib.hid (sq_5 hb hnr)
    go_wp2
    go_ret2
    exact ⟨by rw [HD.out.1, HD.out.2]; rfl, B4⟩
  · have HD := Lib.hid (sq_0 h.1 hb hnr)
    obtain ⟨-, m0, m1⟩ := (hbx3.mono b4).parts
    rw [Nat.zero_add] at m1
    clear l0 l1
    have hs4 := B4.size
    go_wp2_with fail
    refine (sumSq_any a _ n c 2 xs e p _ (h.mono (by (repeat (first | assumption | exact Below.refl _ _ | refine belowDN ?_ _ | refine Below.drew ?_ | refine Below.setCell ?_ (by first | omega | (simp <;> omega)) _ | refine Below.alloc ?_ (by first | omega | (simp <;> omega)) _ | refine belowCall ?_ (by assumption))))) hok he hnr (SqF.fresh _ _ _)).mono ?_
    rintro x w5 ⟨rfl, b5⟩
    go_wp2
    go_ret2
    exact ⟨by rw [HD.out.1, HD.out.2]; rfl, belowCall (by (repeat (first | assumption | exact Below.refl _ _ | refine belowDN ?_ _ | refine Below.drew ?_ | refine Below.setCell ?_ (by first | omega | (simp <;> omega)) _ | refine Below.alloc ?_ (by first | omega | (simp <;> omega)) _ | refine belowCall ?_ (by assumption)))) b5⟩
end Go.Proofs.Ytbjflgohahmjgaa
