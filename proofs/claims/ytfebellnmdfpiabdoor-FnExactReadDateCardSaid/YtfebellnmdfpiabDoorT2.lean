/- The calendar in plain numbers: leap years, days of months, the day of a date; no program. -/
import Derived.Test.YtfebellnmdfpiabDoorT1
namespace Go.Proofs.YtfebellnmdfpiabDoor

def leapB (y : Int) : Bool := (y % 4 == 0 && y % 100 != 0) || y % 400 == 0
def leapN (y : Int) : Int := if leapB y then 1 else 0
theorem leapN_cases (y : Int) : (leapB y = true ∧ leapN y = 1 ∧ (y % 4 = 0 ∧ y % 100 ≠ 0 ∨ y % 400 = 0)) ∨ (leapB y = false ∧ leapN y = 0 ∧ ¬ (y % 4 = 0 ∧ y % 100 ≠ 0 ∨ y % 400 = 0)) := by
  have hi : leapB y = true ↔ (y % 4 = 0 ∧ y % 100 ≠ 0 ∨ y % 400 = 0) := by simp [leapB]
  cases h : leapB y
  · exact .inr ⟨rfl, by simp [leapN, h], fun hh => by have := hi.2 hh; simp [h] at this⟩
  · exact .inl ⟨rfl, by simp [leapN, h], hi.1 h⟩
/-- the days of the months from January on (1 to 12) -/
def mdL (b : Bool) : List Int := [0, 31, if b then 29 else 28, 31, 30, 31, 30, 31, 31, 30, 31, 30, 31]
def mdB (b : Bool) (k : Nat) : Int := (mdL b)[k]?.getD 0
/-- the days of a year before a month -/
def cuB (b : Bool) : Nat → Int
  | 0 => 0
  | 1 => 0
  | k + 1 => cuB b k + mdB b k
/-- the days of the months from March on (0 to 11), as the program's table has them -/
def mlL : List Int := [31, 30, 31, 30, 31, 31, 30, 31, 30, 31, 31, 28]
def mlB (k : Nat) : Int := mlL[k]?.getD 0
def cmB : Nat → Int
  | 0 => 0
  | k + 1 => cmB k + mlB k
def yst (y : Int) : Int := 365 * (y - 2001) + (y - 2001) / 4 - (y - 2001) / 100 + (y - 2001) / 400
def lyN (y : Int) : Int := y / 4 - y / 100 + y / 400
def mst (y : Int) : Int := 365 * (y - 2000) + lyN y - 485 - 306
theorem yst_next (y : Int) : yst (y + 1) = yst y + 365 + leapN y := by
  rcases leapN_cases y with ⟨_, h, hc⟩ | ⟨_, h, hc⟩ <;> rw [h] <;> unfold yst <;> omega
theorem mst_same (y : Int) : mst y = yst y + 59 + leapN y := by
  rcases leapN_cases y with ⟨_, h, hc⟩ | ⟨_, h, hc⟩ <;> rw [h] <;> unfold mst yst lyN <;> omega
theorem mst_before (y : Int) : mst (y - 1) = yst y - 306 := by
  unfold mst yst lyN; omega
theorem mst_next (y : Int) : mst (y + 1) = mst y + 365 + leapN (y + 1) := by
  have h1 := mst_same (y + 1)
  have h2 := mst_before (y + 1)
  rw [show y + 1 - 1 = y from by omega] at h2
  omega
theorem yst_bd (y : Int) (h : 2001 ≤ y) : 365 * (y - 2001) ≤ yst y ∧ yst y ≤ 366 * (y - 2001) := by
  unfold yst; omega
theorem mst_bd (y : Int) (h : 2000 ≤ y) : 365 * (y - 2000) - 306 ≤ mst y ∧ mst y ≤ 366 * (y - 2000) - 306 := by
  unfold mst lyN; omega
theorem yst_mono {y z : Int} (h : y + 1 ≤ z) : yst (y + 1) ≤ yst z := by
  unfold yst; omega
/-- the day of a date -/
def dnum (y : Int) (m : Nat) (d : Int) : Int := yst y + cuB (leapB y) m + d - 1
theorem cu_tab (b : Bool) : (cuB b 1 = 0 ∧ cuB b 2 = 31 ∧ cuB b 3 = 59 + (if b then 1 else 0) ∧ cuB b 4 = 90 + (if b then 1 else 0) ∧ cuB b 5 = 120 + (if b then 1 else 0) ∧ cuB b 6 = 151 + (if b then 1 else 0) ∧ cuB b 7 = 181 + (if b then 1 else 0) ∧ cuB b 8 = 212 + (if b then 1 else 0) ∧ cuB b 9 = 243 + (if b then 1 else 0) ∧ cuB b 10 = 273 + (if b then 1 else 0) ∧ cuB b 11 = 304 + (if b then 1 else 0) ∧ cuB b 12 = 334 + (if b then 1 else 0)) := by
  cases b <;> decide
theorem cm_shift (b : Bool) (k : Nat) (h : k < 10) : cuB b (k + 3) = 59 + (if b then 1 else 0) + cmB k := by
  have h2 : ∀ b : Bool, ∀ k : Fin 10, cuB b (k.1 + 3) = 59 + (if b then 1 else 0) + cmB k.1 := by decide
  exact h2 b ⟨k, h⟩
theorem ml_shift (b : Bool) (k : Nat) (h : k < 10) : mdB b (k + 3) = mlB k := by
  have h2 : ∀ b : Bool, ∀ k : Fin 10, mdB b (k.1 + 3) = mlB k.1 := by decide
  exact h2 b ⟨k, h⟩
theorem cu_mono (b : Bool) (m n : Nat) (h1 : 1 ≤ m) (h : m < n) (h2 : n ≤ 12) : cuB b m + mdB b m ≤ cuB b n := by
  have h3 : ∀ b : Bool, ∀ m n : Fin 13, 1 ≤ m.1 → m.1 < n.1 → cuB b m.1 + mdB b m.1 ≤ cuB b n.1 := by decide
  exact h3 b ⟨m, by omega⟩ ⟨n, by omega⟩ h1 h
theorem cu_bd (b : Bool) (m : Nat) (h1 : 1 ≤ m) (h2 : m ≤ 12) : 0 ≤ cuB b m ∧ 28 ≤ mdB b m ∧ mdB b m ≤ 31 ∧ cuB b m + mdB b m ≤ 365 + (if b then 1 else 0) := by
  have h3 : ∀ b : Bool, ∀ m : Fin 13, 1 ≤ m.1 → 0 ≤ cuB b m.1 ∧ 28 ≤ mdB b m.1 ∧ mdB b m.1 ≤ 31 ∧ cuB b m.1 + mdB b m.1 ≤ 365 + (if b then 1 else 0) := by decide
  exact h3 b ⟨m, by omega⟩ h1
theorem cu_next (b : Bool) (m : Nat) (h1 : 1 ≤ m) : cuB b (m + 1) = cuB b m + mdB b m := by
  cases m with
  | zero => omega
  | succ m => rfl
theorem cm_bd (k : Nat) (h : k ≤ 12) : 0 ≤ cmB k ∧ cmB k ≤ 365 := by
  have h3 : ∀ k : Fin 13, 0 ≤ cmB k.1 ∧ cmB k.1 ≤ 365 := by decide
  exact h3 ⟨k, by omega⟩
theorem ml_bd (k : Nat) (h : k < 12) : 28 ≤ mlB k ∧ mlB k ≤ 31 := by
  have h3 : ∀ k : Fin 12, 28 ≤ mlB k.1 ∧ mlB k.1 ≤ 31 := by decide
  exact h3 ⟨k, h⟩
/-- a date of the calendar, from the first year on -/
def okD (y : Int) (m : Nat) (d : Int) : Prop := 2001 ≤ y ∧ 1 ≤ m ∧ m ≤ 12 ∧ 1 ≤ d ∧ d ≤ mdB (leapB y) m
theorem leapN_if (y : Int) : leapN y = if leapB y then 1 else 0 := rfl
theorem dnum_bd {y : Int} {m : Nat} {d : Int} (h : okD y m d) : yst y ≤ dnum y m d ∧ dnum y m d < yst (y + 1) := by
  obtain ⟨h1, h2, h3, h4, h5⟩ := h
  have hb := cu_bd (leapB y) m h2 h3
  rw [← leapN_if] at hb
  rw [yst_next]; unfold dnum; omega
theorem dnum_inj {y z : Int} {m n : Nat} {d e : Int} (h : okD y m d) (k : okD z n e) (he : dnum y m d = dnum z n e) : y = z ∧ m = n ∧ d = e := by
  have b1 := dnum_bd h
  have b2 := dnum_bd k
  obtain ⟨h1, h2, h3, h4, h5⟩ := h
  obtain ⟨k1, k2, k3, k4, k5⟩ := k
  have hyz : y = z := by
    rcases Int.lt_trichotomy y z with hl | hl | hl
    · have := yst_mono (show y + 1 ≤ z by omega); omega
    · exact hl
    · have := yst_mono (show z + 1 ≤ y by omega); omega
  subst hyz
  have hmn : m = n := by
    rcases Nat.lt_trichotomy m n with hl | hl | hl
    · have := cu_mono (leapB y) m n h2 hl k3; unfold dnum at he; omega
    · exact hl
    · have := cu_mono (leapB y) n m k2 hl h3; unfold dnum at he; omega
  subst hmn
  refine ⟨rfl, rfl, ?_⟩
  unfold dnum at he; omega
/-- the program's years that begin with March: the year, the month from 0 on -/
def shY (y : Int) (m : Nat) : Int := if m < 3 then y - 1 else y
def shM (m : Nat) : Nat := if m < 3 then m + 9 else m - 3
theorem sh_num (y : Int) (m : Nat) (d : Int) (h1 : 1 ≤ m) (h2 : m ≤ 12) : mst (shY y m) + (d - 1) + cmB (shM m) = dnum y m d := by
  unfold shY shM dnum
  split
  · rw [mst_before]
    rcases (show m = 1 ∨ m = 2 by omega) with rfl | rfl
    · have e1 : cmB 10 = 306 := by decide
      have e2 := (cu_tab (leapB y)).1
      simp only [e2]; rw [show (1 + 9 : Nat) = 10 from rfl, e1]; omega
    · have e1 : cmB 11 = 337 := by decide
      have e2 := (cu_tab (leapB y)).2.1
      rw [show (2 + 9 : Nat) = 11 from rfl, e1, e2]; omega
  · have e := cm_shift (leapB y) (m - 3) (by omega)
    rw [show m - 3 + 3 = m from by omega] at e
    rw [mst_same, leapN_if, e]; omega
theorem sh_len (y : Int) (m : Nat) (h1 : 1 ≤ m) (h2 : m ≤ 12) : mlB (shM m) + (if shM m = 11 ∧ leapB (shY y m + 1) = true then 1 else 0) = mdB (leapB y) m := by
  unfold shY shM
  split
  · rw [show y - 1 + 1 = y from by omega]
    rcases (show m = 1 ∨ m = 2 by omega) with rfl | rfl
    · simp [mlB, mlL, mdB, mdL]
    · cases leapB y <;> simp [mlB, mlL, mdB, mdL]
  · have e := ml_shift (leapB y) (m - 3) (by omega)
    rw [show m - 3 + 3 = m from by omega] at e
    rw [if_neg (by omega), e]; omega
def mlen (y : Int) (k : Nat) : Int := mlB k + (if k = 11 ∧ leapB (y + 1) = true then 1 else 0)
/-- back from March: the date of a year, a month from 0 on, a day from 0 on -/
def bkY (y : Int) (k : Nat) : Int := if k > 9 then y + 1 else y
def bkM (k : Nat) : Nat := if k > 9 then k - 9 else k + 3
theorem bk_ok (y : Int) (k : Nat) (d : Int) (h1 : 2000 ≤ y) (h0 : y = 2000 → 9 < k) (h2 : k < 12) (h3 : 0 ≤ d) (h4 : d < mlen y k) :
    okD (bkY y k) (bkM k) (d + 1) ∧ dnum (bkY y k) (bkM k) (d + 1) = mst y + cmB k + d := by
  have hm1 : 1 ≤ bkM k := by unfold bkM; split <;> omega
  have hm2 : bkM k ≤ 12 := by unfold bkM; split <;> omega
  have hs1 : shM (bkM k) = k := by
    unfold bkM
    split
    · unfold shM; split <;> omega
    · unfold shM; split <;> omega
  have hs2 : shY (bkY y k) (bkM k) = y := by
    unfold bkM bkY
    split
    · unfold shY; split <;> omega
    · unfold shY; split <;> omega
  have e1 := sh_num (bkY y k) (bkM k) (d + 1) hm1 hm2
  have e2 := sh_len (bkY y k) (bkM k) hm1 hm2
  rw [hs1, hs2] at e1 e2
  have hy : 2001 ≤ bkY y k := by unfold bkY; split <;> omega
  have hl : d + 1 ≤ mdB (leapB (bkY y k)) (bkM k) := by rw [← e2]; unfold mlen at h4; omega
  exact ⟨⟨hy, hm1, hm2, by omega, hl⟩, by omega⟩
theorem cm_all (k : Nat) : cmB (k + 1) = cmB k + mlB k := rfl
theorem mlen_bd (y : Int) (k : Nat) (h : k < 12) : 28 ≤ mlen y k ∧ mlen y k ≤ 32 := by
  have := ml_bd k h
  unfold mlen; split <;> omega
theorem mlen_small (y : Int) (k : Nat) (h : k < 11) : mlen y k = mlB k := by unfold mlen; rw [if_neg (by omega)]; omega
theorem mlen_last (y : Int) : mst y + cmB 11 + mlen y 11 = mst (y + 1) := by
  rw [mst_next]
  have e1 : cmB 11 = 337 := by decide
  have e2 : mlB 11 = 28 := by decide
  unfold mlen
  rw [e1, e2, leapN_if]
  cases leapB (y + 1) <;> simp <;> omega
end Go.Proofs.YtfebellnmdfpiabDoor
