/- Sums of products of magnitudes: the program's variadic sumOf, meanOf (where the program has no method expression of times). -/
import Derived.Test.YtidiiladlmaigaaJ5
import Derived.Test.YtidiiladlmaigaaJB
import Derived.Test.YtidiiladlmaigaaQR
namespace Go.Proofs.Ytidiiladlmaigaa
open Go.ChangeShapes Go.WideShapes Go.ChangeAt Go.RowKit Go.Deep

/-- a field: the time or the magnitude -/
def facV (_b : Bool) (x : Pt) : Int := x.2
def prodF (ks : List Bool) (x : Pt) : Nat → Int
  | 0 => 1
  | j + 1 => prodF ks x j * facV (ks[j]?.getD true) x
def bdP (x : Pt) : Prop := 0 ≤ x.1 ∧ x.1 ≤ 10000000 ∧ -2000 ≤ x.2 ∧ x.2 ≤ 20000
theorem facV_bd {x : Pt} (h : bdP x) (b : Bool) : -10000000 ≤ facV b x ∧ facV b x ≤ 10000000 := by
  unfold bdP at h
  simp only [facV]; omega
theorem absMul {a b A B : Int} (h1 : -A ≤ a) (h2 : a ≤ A) (h3 : -B ≤ b) (h4 : b ≤ B) : -(A * B) ≤ a * b ∧ a * b ≤ A * B := by
  have hA : 0 ≤ A := by omega
  have hB : 0 ≤ B := by omega
  have e : (a * b).natAbs ≤ (A * B).natAbs := by
    rw [Int.natAbs_mul, Int.natAbs_mul]
    exact Nat.mul_le_mul (by omega) (by omega)
  have e2 : 0 ≤ A * B := Int.mul_nonneg hA hB
  omega
theorem prodF_bd {x : Pt} (h : bdP x) (ks : List Bool) : ∀ j, j ≤ 2 → -100000000000000 ≤ prodF ks x j ∧ prodF ks x j ≤ 100000000000000
  | 0, _ => by simp [prodF]
  | 1, _ => by
    have := facV_bd h (ks[0]?.getD true)
    simp only [prodF, Int.one_mul]
    omega
  | 2, _ => by
    have h1 := facV_bd h (ks[0]?.getD true)
    have h2 := facV_bd h (ks[1]?.getD true)
    have h3 := absMul h1.1 h1.2 h2.1 h2.2
    simp only [prodF, Int.one_mul]
    omega
def sumV (ks : List Bool) (xs : List Pt) : Nat → Int := sumF fun j => prodF ks (xs[j]?.getD pt0) ks.length
theorem sumV_bd {ks : List Bool} {xs : List Pt} {n : Nat} (hk : ks.length ≤ 2) (h : ∀ k, k < n → bdP (xs[k]?.getD pt0)) (k : Nat) (hkn : k ≤ n) : -(100000000000000 * (k : Int)) ≤ sumV ks xs k ∧ sumV ks xs k ≤ 100000000000000 * (k : Int) :=
  sumF_bd fun j hj => prodF_bd (h j (by omega)) ks ks.length hk
theorem sumV_nil (xs : List Pt) (n : Nat) : sumV [] xs n = n := by
  have := sumF_const 1 n
  rw [Int.one_mul] at this
  exact this
theorem sumV_mag (xs : List Pt) (n : Nat) : sumV [false] xs n = sM xs n := by
  unfold sumV sM
  exact sumF_congr fun j _ => by simp [prodF, facV]
def facF (_b : Bool) : Nat := 47
def facC (b : Bool) : Value := .func (.func (facF b)) #[] #[]
/-- a slice of factors -/
def FacL (w : World) (a : Option Addr) (m : Nat) (ks : List Bool) : Prop :=
  ks.length = m ∧ ∀ j, j < m → ∃ b o, a = some ⟨b, o, none⟩ ∧ b < w.heap.size ∧ w.cell? ⟨b, o + j, none⟩ = some (facC (ks[j]?.getD true))
theorem FacL.mono {w w' : World} {a : Option Addr} {m : Nat} {ks : List Bool} (h : FacL w a m ks) (hb : Below w.heap.size w w') : FacL w' a m ks :=
  ⟨h.1, fun j hj => by
    obtain ⟨b, o, e, h1, h2⟩ := h.2 j hj
    exact ⟨b, o, e, Nat.lt_of_lt_of_le h1 hb.size, by rw [hb.cell (p := ⟨b, o + j, none⟩) h1]; exact h2⟩⟩
theorem FacL.nil (w : World) : FacL w none 0 [] := ⟨rfl, fun j hj => absurd hj (by omega)⟩
theorem FacL.one (w : World) (b : Bool) (T : TypeId) : FacL (w.alloc (.cells #[facC b] T)) (some ⟨w.heap.size, 0, none⟩) 1 [b] :=
  ⟨rfl, fun j hj => ⟨w.heap.size, 0, rfl, by simp, by
    match j, hj with
    | 0, _ => rw [World.cell?_alloc_new]; rfl⟩⟩
theorem FacL.two (w : World) (b c : Bool) (T : TypeId) : FacL (w.alloc (.cells #[facC b, facC c] T)) (some ⟨w.heap.size, 0, none⟩) 2 [b, c] :=
  ⟨rfl, fun j hj => ⟨w.heap.size, 0, rfl, by simp, by
    match j, hj with
    | 0, _ => rw [World.cell?_alloc_new]; rfl
    | 1, _ => rw [World.cell?_alloc_new]; rfl⟩⟩
set_option maxRecDepth 100000 in
set_option maxHeartbeats 4000000 in
theorem sumOf_any (a fa : Option Addr) (n c m fc : Nat) (xs : List Pt) (ks : List Bool) (w : World) (h : PtL w a n xs) (hn : n ≤ 100) (hbd : ∀ k, k < n → bdP (xs[k]?.getD pt0)) (hF : FacL w fa m ks) (hm : m ≤ 2) :
    Calls Try.prog 69 #[.slice a n c, .slice fa m fc] w fun e w' => e = .returned (.int .i64 (sumV ks xs n)) ∧ Below w.heap.size w w' := by
  have hl : (n : Int) ≤ 100 := by omega
  have hml : (m : Int) ≤ 2 := by omega
  have HBD := Lib.hid hbd
  have HKL := Lib.hid hF.1
  clear hbd
  go_enter Try.func69, Try.ntmps69
  go_wp2
  go_loopw [5, 13] (fun s i wr => ∃ k : Nat, k ≤ n ∧ i = .int .i64 k ∧ s = .int .i64 (sumV ks xs k) ∧ Below w.heap.size w wr) (fun _ i _ => n - (Go.RowKit.intOf i).toNat)
  case atStart => exact ⟨0, Nat.zero_le _, rfl, rfl, Below.refl _ _⟩
  case round =>
    obtain ⟨k, hk, rfl, rfl, hB⟩ := hrel
    by_cases hlt : k < n
    · obtain ⟨b1, o1, rfl, hc⟩ := h.2 k hlt
      have hbx := HBD.out k hlt
      obtain ⟨⟨x0, x1⟩, hx⟩ : ∃ x, xs[k]?.getD pt0 = x := ⟨_, rfl⟩
      have hS1 := sumV_bd (xs := xs) (by have := HKL.out; omega : ks.length ≤ 2) HBD.out k hk
      have hS2 : sumV ks xs (k + 1) = sumV ks xs k + prodF ks (x0, x1) m := by
        show sumV ks xs k + prodF ks (xs[k]?.getD pt0) ks.length = _
        rw [hx, HKL.out]
      have HS2 := Lib.hid hS2
      rw [hx] at hc hbx
      obtain ⟨-, p0, p1⟩ := (hc.mono hB).parts
      have hsz := hB.size
      have hkk : (k : Int) < (n : Int) := by omega
      have hFr := hF.mono hB
      have HPB := Lib.hid (prodF_bd hbx ks)
      have HFB := Lib.hid (facV_bd hbx)
      have hB1 : Below w.heap.size w (wr.alloc (.cells #[.int .i64 x0, .int .i64 x1] 28)) := by (repeat (first | assumption | exact Below.refl _ _ | refine belowDN ?_ _ | refine Below.drew ?_ | refine Below.setCell ?_ (by first | omega | (simp <;> omega)) _ | refine Below.alloc ?_ (by first | omega | (simp <;> omega)) _ | refine belowCall ?_ (by assumption)))
      clear hx hc hS2 hbx
      generalize sumV ks xs k = S at hS1 HS2 ⊢
      obtain ⟨v, rfl⟩ : ∃ v, v = wr := ⟨wr, rfl⟩
      go_wp2
      go_loopw [8, 19] (fun pr i wi => ∃ j : Nat, j ≤ m ∧ i = .int .i64 j ∧ pr = .int .i64 (prodF ks (x0, x1) j) ∧ Below (v.heap.size + 1) (v.alloc (.cells #[.int .i64 x0, .int .i64 x1] 28)) wi) (fun _ i _ => m - (Go.RowKit.intOf i).toNat)
      case atStart => exact ⟨0, Nat.zero_le _, rfl, rfl, Below.refl _ _⟩
      case round =>
        obtain ⟨j, hj, rfl, rfl, hBi⟩ := hrel
        have hzi := hBi.size
        simp only [World.size_alloc] at hzi
        by_cases hjm : j < m
        · obtain ⟨bf, of, rfl, hbf, hcf⟩ := hFr.2 j hjm
          have hzz : (v.alloc (.cells #[.int .i64 x0, .int .i64 x1] 28)).heap.size = v.heap.size + 1 := by simp
          have hcf' : wr.cell? ⟨bf, of + j, none⟩ = some (facC (ks[j]?.getD true)) := by rw [hBi.cell (p := ⟨bf, of + j, none⟩) (by show bf < _; omega)]; go_keep
          have t0 : wr.cell? ⟨v.heap.size, 0, none⟩ = some (.int .i64 x0) := by rw [hBi.cell (p := ⟨v.heap.size, 0, none⟩) (by show v.heap.size < _; omega)]; go_keep
          have t1 : wr.cell? ⟨v.heap.size, 1, none⟩ = some (.int .i64 x1) := by rw [hBi.cell (p := ⟨v.heap.size, 1, none⟩) (by show v.heap.size < _; omega)]; go_keep
          have hjj : (j : Int) < (m : Int) := by omega
          have hP := HPB.out j (by omega)
          have hP1 := HPB.out (j + 1) (by omega)
          have hv := HFB.out (ks[j]?.getD true)
          rw [prodF] at hP1
          have HE : Hid (prodF ks (x0, x1) (j + 1) = prodF ks (x0, x1) j * facV (ks[j]?.getD true) (x0, x1)) := Lib.hid rfl
          cases hb : ks[j]?.getD true
          · rw [hb] at hcf' hP1 HE hv
            replace hcf' : wr.cell? ⟨bf, of + j, none⟩ = some (.func (.func 47) #[] #[]) := hcf'
            replace hP1 : -100000000000000 ≤ prodF ks (x0, x1) j * x1 ∧ prodF ks (x0, x1) j * x1 ≤ 100000000000000 := hP1
            replace HE : Hid (prodF ks (x0, x1) (j + 1) = prodF ks (x0, x1) j * x1) := HE
            generalize prodF ks (x0, x1) j = P at hP hP1 HE
            clear hb hv
            go_wp2_with fail
            refine (ptMag_any x0 x1 wr).mono ?_
            rintro e w5 ⟨rfl, b5⟩
            go_wp2
            go_roundw
            case rel => exact ⟨j + 1, by omega, by go_num, by rw [HE.out], hBi.trans (b5.mono (by omega))⟩
            case measure => simp [Go.RowKit.intOf]; omega
          · rw [hb] at hcf' hP1 HE hv
            replace hcf' : wr.cell? ⟨bf, of + j, none⟩ = some (.func (.func 47) #[] #[]) := hcf'
            replace hP1 : -100000000000000 ≤ prodF ks (x0, x1) j * x1 ∧ prodF ks (x0, x1) j * x1 ≤ 100000000000000 := hP1
            replace HE : Hid (prodF ks (x0, x1) (j + 1) = prodF ks (x0, x1) j * x1) := HE
            generalize prodF ks (x0, x1) j = P at hP hP1 HE
            clear hb hv
            go_wp2_with fail
            refine (ptMag_any x0 x1 wr).mono ?_
            rintro e w5 ⟨rfl, b5⟩
            go_wp2
            go_roundw
            case rel => exact ⟨j + 1, by omega, by go_num, by rw [HE.out], hBi.trans (b5.mono (by omega))⟩
            case measure => simp [Go.RowKit.intOf]; omega
        · obtain rfl : j = m := by omega
          have hP := HPB.out j hm
          generalize prodF ks (x0, x1) j = P at hP HS2 ⊢
          go_wp2
          go_roundw
          case rel => exact ⟨k + 1, by omega, by go_num, by rw [HS2.out], hB1.trans (hBi.mono (by omega))⟩
          case measure => simp [Go.RowKit.intOf]; omega
    · obtain rfl : k = n := by omega
      go_wp2
      go_ret
      exact ⟨rfl, hB⟩
set_option maxRecDepth 100000 in
set_option maxHeartbeats 2000000 in
theorem meanG_any (a : Option Addr) (n c : Nat) (xs : List Pt) (b : Bool) (N : Nat) (hN : facC b = .func (.func N) #[] #[]) (w : World) (h : PtL w a n xs) (h0 : 0 < n) (hn : n ≤ 100) (hbd : ∀ k, k < n → bdP (xs[k]?.getD pt0)) :
    Calls Try.prog 46 #[.slice a n c, .func (.func N) #[] #[]] w fun e w' => e = .returned (.int .i64 (rnd (sumV [b] xs n) n)) ∧ Below w.heap.size w w' := by
  have hF1 : ∀ (w : World) (T : TypeId), FacL (w.alloc (.cells #[.func (.func N) #[] #[]] T)) (some ⟨w.heap.size, 0, none⟩) 1 [b] := fun w T => by rw [← hN]; exact FacL.one w b T
  have hs := sumV_bd (ks := [b]) (by simp) hbd n (Nat.le_refl _)
  have hs0 := sumV_nil xs n
  have HS0 := Lib.hid hs0
  have HBD := Lib.hid hbd
  have hl : (n : Int) ≤ 100 := by omega
  have hl0 : 1 ≤ (n : Int) := by omega
  clear hs0 hbd
  go_enter Try.func46, Try.ntmps46
  go_wp2_with fail
  refine (sumOf_any a _ n c 1 1 xs [b] _ (h.mono (by (repeat (first | assumption | exact Below.refl _ _ | refine belowDN ?_ _ | refine Below.drew ?_ | refine Below.setCell ?_ (by first | omega | (simp <;> omega)) _ | refine Below.alloc ?_ (by first | omega | (simp <;> omega)) _ | refine belowCall ?_ (by assumption))))) hn HBD.out (hF1 w _) (by omega)).mono ?_
  rintro e w2 ⟨rfl, b2⟩
  have B2 : Below w.heap.size w w2 := belowCall (by (repeat (first | assumption | exact Below.refl _ _ | refine belowDN ?_ _ | refine Below.drew ?_ | refine Below.setCell ?_ (by first | omega | (simp <;> omega)) _ | refine Below.alloc ?_ (by first | omega | (simp <;> omega)) _ | refine belowCall ?_ (by assumption)))) b2
  obtain ⟨S, hS⟩ : ∃ S, sumV [b] xs n = S := ⟨_, rfl⟩
  have HS := Lib.hid hS
  rw [hS] at hs
  rw [hS]
  clear hS
  go_wp2_with fail
  refine (sumOf_any a none n c 0 0 xs [] w2 (h.mono B2) hn HBD.out (FacL.nil _) (by omega)).mono ?_
  rintro e w3 ⟨rfl, b3⟩
  rw [HS0.out]
  have B3 := belowCall B2 b3
  go_wp2_with fail
  refine (nearest_any S n _ (by omega) (by omega) (by omega) (by omega)).mono ?_
  rintro e w4 ⟨rfl, b4⟩
  go_wp2
  go_ret
  exact ⟨by rw [HS.out]; rfl, belowCall B3 b4⟩
theorem meanOf_any (a : Option Addr) (n c : Nat) (xs : List Pt) (b : Bool) (w : World) (h : PtL w a n xs) (h0 : 0 < n) (hn : n ≤ 100) (hbd : ∀ k, k < n → bdP (xs[k]?.getD pt0)) :
    Calls Try.prog 46 #[.slice a n c, facC b] w fun e w' => e = .returned (.int .i64 (rnd (sumV [b] xs n) n)) ∧ Below w.heap.size w w' :=
  meanG_any a n c xs b (facF b) rfl w h h0 hn hbd
end Go.Proofs.Ytidiiladlmaigaa
