/- The vertex of the parabola through three points: plain numbers. -/
import Derived.Test.YtidiiladlmaigaaEX
import Derived.Test.YtidiiladlmaigaaEB
import Derived.Test.YtidiiladlmaigaaJ1
namespace Go.Proofs.Ytidiiladlmaigaa

def vxS (a b c : Pt) : Int := (c.2 - b.2) * (b.1 - a.1) * (b.1 - a.1) - (a.2 - b.2) * (c.1 - b.1) * (c.1 - b.1)
def vxB (a b c : Pt) : Int := (c.2 - b.2) * (b.1 - a.1) + (a.2 - b.2) * (c.1 - b.1)
def vxC (a b c : Pt) : Int := if okP [a, b, c] then (if 100000 < c.1 - a.1 then 2 else if vxB a b c = 0 then 6 else 0) else 1
def vxT (a b c : Pt) : Int := 2 * vxB a b c * b.1 - vxS a b c
def vxF (a b c : Pt) : Int × Int × Int := if vxC a b c = 0 then (qtN (vxT a b c) (2 * vxB a b c), qtD (vxT a b c) (2 * vxB a b c), 0) else (0, 0, vxC a b c)
theorem vx_1 {a b c : Pt} (h : okP [a, b, c] = false) : vxC a b c = 1 := by simp [vxC, h]
theorem vx_2 {a b c : Pt} (h : okP [a, b, c] = true) (h2 : 100000 < c.1 - a.1) : vxC a b c = 2 := by simp [vxC, h, h2]
theorem vx_6 {a b c : Pt} (h : okP [a, b, c] = true) (h2 : ¬ 100000 < c.1 - a.1) (h3 : vxB a b c = 0) : vxC a b c = 6 := by simp [vxC, h, h2, h3]
theorem vx_0 {a b c : Pt} (h : okP [a, b, c] = true) (h2 : ¬ 100000 < c.1 - a.1) (h3 : vxB a b c ≠ 0) : vxC a b c = 0 := by simp [vxC, h, h2, h3]
theorem vxF_no {a b c : Pt} {k : Int} (h : vxC a b c = k) (hk : k ≠ 0) : vxF a b c = (0, 0, k) := by subst h; simp [vxF, hk]
theorem vxF_yes {a b c : Pt} (h : vxC a b c = 0) : vxF a b c = (qtN (vxT a b c) (2 * vxB a b c), qtD (vxT a b c) (2 * vxB a b c), 0) := by simp [vxF, h]
/-- the model's words: from the first point -/
theorem vx_den (a0 a1 b0 b1 c0 c1 : Int) : (c1 - a1) * (b0 - a0) - (b1 - a1) * (c0 - a0) = vxB (a0, a1) (b0, b1) (c0, c1) := by
  simp only [vxB]; grind
theorem vx_num (a0 a1 b0 b1 c0 c1 : Int) : (c1 - a1) * (b0 - a0) * (b0 - a0) - (b1 - a1) * (c0 - a0) * (c0 - a0) + 2 * a0 * vxB (a0, a1) (b0, b1) (c0, c1) = vxT (a0, a1) (b0, b1) (c0, c1) := by
  simp only [vxT, vxB, vxS]; grind
theorem ok3 {a b c : Pt} (h : okP [a, b, c] = true) : (0 ≤ a.1 ∧ c.1 ≤ 10000000 ∧ a.1 < b.1 ∧ b.1 < c.1) ∧ (-2000 ≤ a.2 ∧ a.2 ≤ 20000) ∧ (-2000 ≤ b.2 ∧ b.2 ≤ 20000) ∧ (-2000 ≤ c.2 ∧ c.2 ≤ 20000) := by
  obtain ⟨-, h1, h2⟩ := okP_num (n := 3) rfl h
  have p0 := h1 0 (by omega)
  have p1 := h1 1 (by omega)
  have p2 := h1 2 (by omega)
  have q0 := h2 0 (by omega)
  have q1 := h2 1 (by omega)
  simp at p0 p1 p2 q0 q1
  omega
/-- all that is reckoned on the way is small -/
theorem vx_small {a0 a1 b0 b1 c0 c1 : Int} (h : okP [(a0, a1), (b0, b1), (c0, c1)] = true) (h2 : ¬ 100000 < c0 - a0) :
    (-2200000000 ≤ (c1 - b1) * (b0 - a0) ∧ (c1 - b1) * (b0 - a0) ≤ 2200000000) ∧ (-2200000000 ≤ (a1 - b1) * (c0 - b0) ∧ (a1 - b1) * (c0 - b0) ≤ 2200000000) ∧
    (-220000000000000 ≤ (c1 - b1) * (b0 - a0) * (b0 - a0) ∧ (c1 - b1) * (b0 - a0) * (b0 - a0) ≤ 220000000000000) ∧ (-220000000000000 ≤ (a1 - b1) * (c0 - b0) * (c0 - b0) ∧ (a1 - b1) * (c0 - b0) * (c0 - b0) ≤ 220000000000000) := by
  obtain ⟨h3, h4, h5, h6⟩ := ok3 h
  simp only at h3 h4 h5 h6
  have p := aMul (a := c1 - b1) (b := b0 - a0) (A := 22000) (B := 100000) (by omega) (by omega) (by omega) (by omega)
  have q := aMul (a := a1 - b1) (b := c0 - b0) (A := 22000) (B := 100000) (by omega) (by omega) (by omega) (by omega)
  have r := aMul (a := (c1 - b1) * (b0 - a0)) (b := b0 - a0) (A := 2200000000) (B := 100000) (by omega) (by omega) (by omega) (by omega)
  have s := aMul (a := (a1 - b1) * (c0 - b0)) (b := c0 - b0) (A := 2200000000) (B := 100000) (by omega) (by omega) (by omega) (by omega)
  omega
theorem vx_bd {a0 a1 b0 b1 c0 c1 : Int} (h : okP [(a0, a1), (b0, b1), (c0, c1)] = true) (h2 : ¬ 100000 < c0 - a0) :
    (-4400000000 ≤ vxB (a0, a1) (b0, b1) (c0, c1) ∧ vxB (a0, a1) (b0, b1) (c0, c1) ≤ 4400000000) ∧ (-440000000000000 ≤ vxS (a0, a1) (b0, b1) (c0, c1) ∧ vxS (a0, a1) (b0, b1) (c0, c1) ≤ 440000000000000) ∧
    (-88000000000000000 ≤ 2 * vxB (a0, a1) (b0, b1) (c0, c1) * b0 ∧ 2 * vxB (a0, a1) (b0, b1) (c0, c1) * b0 ≤ 88000000000000000) ∧ (-89000000000000000 ≤ vxT (a0, a1) (b0, b1) (c0, c1) ∧ vxT (a0, a1) (b0, b1) (c0, c1) ≤ 89000000000000000) := by
  obtain ⟨h3, h4, h5, h6⟩ := ok3 h
  obtain ⟨p, q, r, s⟩ := vx_small h h2
  simp only at h3
  have hB : -4400000000 ≤ vxB (a0, a1) (b0, b1) (c0, c1) ∧ vxB (a0, a1) (b0, b1) (c0, c1) ≤ 4400000000 := by simp only [vxB]; omega
  have hS : -440000000000000 ≤ vxS (a0, a1) (b0, b1) (c0, c1) ∧ vxS (a0, a1) (b0, b1) (c0, c1) ≤ 440000000000000 := by simp only [vxS]; omega
  have hT := aMul (a := 2 * vxB (a0, a1) (b0, b1) (c0, c1)) (b := b0) (A := 8800000000) (B := 10000000) (by omega) (by omega) (by omega) (by omega)
  refine ⟨hB, hS, by omega, ?_⟩
  simp only [vxT]
  omega
end Go.Proofs.Ytidiiladlmaigaa
