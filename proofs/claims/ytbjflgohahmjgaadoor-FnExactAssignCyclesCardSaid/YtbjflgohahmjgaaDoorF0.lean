/- Ephemerides in plain numbers: cycles, phases, the next extremum, all extrema in a time. -/
import Derived.Test.YtbjflgohahmjgaaDoorTM
namespace Go.Proofs.YtbjflgohahmjgaaDoor

def duo (a b : Int) : Value := .tuple #[.int .i64 a, .int .i64 b]
def perB (p : Int) : Bool := inB p 1 1000000
theorem perB_iff {p : Int} : perB p = true ↔ 1 ≤ p ∧ p ≤ 1000000 := inB_iff
theorem tmB_iff {t : Int} : tmB t = true ↔ 0 ≤ t ∧ t ≤ 10000000 := inB_iff
def ephB (e p : Int) : Bool := tmB e && perB p
theorem ephB_iff {e p : Int} : ephB e p = true ↔ (0 ≤ e ∧ e ≤ 10000000) ∧ 1 ≤ p ∧ p ≤ 1000000 := by
  rw [ephB, Bool.and_eq_true, tmB_iff, perB_iff]
def cyc (e p t : Int) : Int := (t - e) / p
def phs (e p t : Int) : Int := (t - e) % p
def nxt (e p t : Int) : Int := if phs e p t = 0 then t else t + p - phs e p t
/-- the code of an ephemeris and times -/
def ecd (e p : Int) (ts : List Int) : Int := if ephB e p then (if ts.all tmB then 0 else 2) else 1
theorem ecd_eph {e p : Int} {ts : List Int} (h : ephB e p = false) : ecd e p ts = 1 := by simp [ecd, h]
theorem ecd_tm {e p : Int} {ts : List Int} (h : ephB e p = true) (h2 : ts.all tmB = false) : ecd e p ts = 2 := by simp [ecd, h, h2]
theorem ecd_ok {e p : Int} {ts : List Int} (h : ephB e p = true) (h2 : ts.all tmB = true) : ecd e p ts = 0 := by rw [ecd, if_pos h, if_pos h2]
theorem phs_eq (e p t : Int) : t - (e + cyc e p t * p) = phs e p t := by
  unfold cyc phs; rw [Int.emod_def, Int.mul_comm]; omega
theorem phs_eq2 (e p t : Int) : t - e - cyc e p t * p = phs e p t := by
  rw [← phs_eq]; omega
theorem phs_bd {e p t : Int} (hp : 1 ≤ p) : 0 ≤ phs e p t ∧ phs e p t < p :=
  ⟨Int.emod_nonneg _ (by omega), Int.emod_lt_of_pos _ (by omega)⟩
theorem cyc_bd {e p t : Int} (hp : 1 ≤ p) : t - e - p < cyc e p t * p ∧ cyc e p t * p ≤ t - e := by
  have h1 := phs_bd (e := e) (t := t) hp
  have h2 := phs_eq e p t
  omega
theorem cyc_is {e p t c : Int} (hp : 1 ≤ p) (h1 : e + c * p ≤ t) (h2 : t < e + c * p + p) : cyc e p t = c := by
  have a := Int.le_ediv_of_mul_le (a := c) (b := t - e) (c := p) (by omega) (by omega)
  have b := Int.ediv_lt_of_lt_mul (a := t - e) (b := c + 1) (c := p) (by omega) (by rw [Int.add_mul]; omega)
  unfold cyc
  omega
theorem cyc_le {e p t c : Int} (hp : 1 ≤ p) : e + c * p ≤ t ↔ c ≤ cyc e p t := by
  have := Int.le_ediv_iff_mul_le (a := c) (b := t - e) (c := p) (by omega)
  unfold cyc
  omega
/-- the first extremum that is not before a time: the cycle behind the one of the time before -/
theorem nxt_eq {e p t : Int} (hp : 1 ≤ p) : e + (cyc e p (t - 1) + 1) * p = nxt e p t := by
  have h1 := phs_bd (e := e) (t := t) hp
  have h2 := phs_eq e p t
  unfold nxt
  by_cases h : phs e p t = 0
  · rw [if_pos h]
    have : cyc e p (t - 1) = cyc e p t - 1 := cyc_is hp (by rw [Int.sub_mul]; omega) (by rw [Int.sub_mul]; omega)
    rw [this, Int.sub_add_cancel]
    omega
  · rw [if_neg h]
    have : cyc e p (t - 1) = cyc e p t := cyc_is hp (by omega) (by omega)
    rw [this, Int.add_mul]
    omega
theorem nxt_bd {e p t : Int} (hp : 1 ≤ p) : t ≤ nxt e p t ∧ nxt e p t < t + p := by
  have h1 := phs_bd (e := e) (t := t) hp
  unfold nxt
  split <;> omega
def cycV (e p t : Int) : Value := if ephB e p then (if tmB t then duo (cyc e p t) 0 else duo 0 2) else duo 0 1
def phsV (e p t : Int) : Value := if ephB e p then (if tmB t then duo (phs e p t) 0 else duo 0 2) else duo 0 1
def nxtV (e p t : Int) : Value := if ephB e p then (if tmB t then duo (nxt e p t) 0 else duo 0 2) else duo 0 1
theorem cycV_form (e p t : Int) : ∃ m c, cycV e p t = duo m c := by unfold cycV; split; split; all_goals exact ⟨_, _, rfl⟩
theorem phsV_form (e p t : Int) : ∃ m c, phsV e p t = duo m c := by unfold phsV; split; split; all_goals exact ⟨_, _, rfl⟩
theorem nxtV_form (e p t : Int) : ∃ m c, nxtV e p t = duo m c := by unfold nxtV; split; split; all_goals exact ⟨_, _, rfl⟩
/-! ### all extrema in a time -/
def tiN (e p f t : Int) : Nat := (cyc e p t - cyc e p (f - 1)).toNat
def tiAll (e p f : Int) (k : Nat) : List Int := (List.range k).map fun i : Nat => nxt e p f + (i : Int) * p
def tiL (e p f t : Int) : List Int := if ephB e p && (tmB f && tmB t) && decide (tiN e p f t ≤ 200) then tiAll e p f (tiN e p f t) else []
def tiC (e p f t : Int) : Int := if ephB e p then (if tmB f && tmB t then (if tiN e p f t ≤ 200 then 0 else 5) else 2) else 1
theorem tiAll_len (e p f : Int) (k : Nat) : (tiAll e p f k).length = k := by simp [tiAll]
theorem tiAll_snoc (e p f : Int) (k : Nat) : tiAll e p f (k + 1) = tiAll e p f k ++ [nxt e p f + (k : Int) * p] := by simp [tiAll, List.range_succ]
theorem tiL_len {n : Nat} (h : 200 ≤ n) (e p f t : Int) : (tiL e p f t).length ≤ n := by
  unfold tiL
  split
  · rename_i hh
    simp only [Bool.and_eq_true, decide_eq_true_eq] at hh
    rw [tiAll_len]; omega
  · simp
theorem ti_more {e p f t : Int} (hp : 1 ≤ p) (k : Nat) : nxt e p f + (k : Int) * p ≤ t ↔ k < tiN e p f t := by
  rw [← nxt_eq hp]
  have h1 := cyc_le (e := e) (t := t) (c := cyc e p (f - 1) + 1 + k) hp
  have h2 : (cyc e p (f - 1) + 1 + (k : Int)) * p = (cyc e p (f - 1) + 1) * p + (k : Int) * p := Int.add_mul _ _ _
  unfold tiN
  omega
theorem ti_ext {e p f : Int} (hp : 1 ≤ p) (k : Nat) : e + (cyc e p (f - 1) + 1 + (k : Int)) * p = nxt e p f + (k : Int) * p := by
  rw [← nxt_eq hp, Int.add_mul _ (k : Int)]; omega
/-! ### aliases -/
def aliR (p g : Int) (k : Nat) : List Int := if k = 0 then [] else if k = 1 ∨ g = p then [rnd (p * g) (g + p)] else [rnd (p * g) (g + p), rnd (p * g) ((g - p).natAbs : Nat)]
def aliP (p g : Int) (k : Nat) : List Int := (aliR p g k).filter perB
def aliL (p g : Int) : List Int := if perB p && perB g then aliP p g 2 else []
def aliC (p g : Int) : Int := if perB p && perB g then 0 else 2
theorem aliR_len (p g : Int) (k : Nat) : (aliR p g k).length ≤ 2 := by unfold aliR; split; (simp); split; (simp); (simp)
theorem aliP_len (p g : Int) (k : Nat) : (aliP p g k).length ≤ 2 := Nat.le_trans (List.length_filter_le _ _) (aliR_len p g k)
theorem aliL_len {n : Nat} (h : 2 ≤ n) (p g : Int) : (aliL p g).length ≤ n := by
  unfold aliL
  split
  · exact Nat.le_trans (aliP_len _ _ _) h
  · simp
theorem aliP_0 (p g : Int) : aliP p g 0 = [] := rfl
theorem aliP_1 (p g : Int) : aliP p g 1 = if perB (rnd (p * g) (g + p)) then [rnd (p * g) (g + p)] else [] := by
  simp [aliP, aliR, List.filter_cons]
theorem aliP_same {p g : Int} (h : g = p) : aliP p g 2 = aliP p g 1 := by simp [aliP, aliR, h]
theorem aliP_2 {p g : Int} (h : g ≠ p) : aliP p g 2 = aliP p g 1 ++ (if perB (rnd (p * g) ((g - p).natAbs : Nat)) then [rnd (p * g) ((g - p).natAbs : Nat)] else []) := by
  have e : aliR p g 2 = aliR p g 1 ++ [rnd (p * g) ((g - p).natAbs : Nat)] := by simp [aliR, h]
  rw [aliP, e, List.filter_append, List.filter_cons]; rfl
theorem mul_pg {p g : Int} (h1 : 1 ≤ p) (h2 : p ≤ 1000000) (h3 : 1 ≤ g) (h4 : g ≤ 1000000) : 0 ≤ p * g ∧ p * g ≤ 1000000000000 := by
  have a := Int.mul_le_mul h2 h4 (by omega) (by omega)
  have b := Int.mul_nonneg (show 0 ≤ p by omega) (show 0 ≤ g by omega)
  omega
/-- the bin of a point -/
def bnI (e p b t : Int) : Int := (b * phs e p t).tdiv p
def bnN (e p b t : Int) : Nat := (bnI e p b t).toNat
theorem bnI_bd {e p b t : Int} (hp : 1 ≤ p) (hb : 1 ≤ b) : 0 ≤ bnI e p b t ∧ bnI e p b t < b := by
  obtain ⟨h1, h2⟩ := phs_bd (e := e) (t := t) hp
  have h3 := Int.mul_nonneg (show 0 ≤ b by omega) h1
  have h4 : b * phs e p t < b * p := Int.mul_lt_mul_of_pos_left h2 (by omega)
  unfold bnI
  rw [Int.tdiv_eq_ediv_of_nonneg h3]
  exact ⟨Int.ediv_nonneg h3 (by omega), Int.ediv_lt_of_lt_mul (by omega) h4⟩
theorem bnN_is {e p b t : Int} (hp : 1 ≤ p) (hb : 1 ≤ b) : bnI e p b t = (bnN e p b t : Int) := by
  have := bnI_bd (e := e) (t := t) hp hb
  unfold bnN; omega
theorem bnN_lt {e p b t : Int} (hp : 1 ≤ p) (hb : 1 ≤ b) : (bnN e p b t : Int) < b := by
  rw [← bnN_is hp hb]; exact (bnI_bd hp hb).2
end Go.Proofs.YtbjflgohahmjgaaDoor
