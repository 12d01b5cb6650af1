/- PutLabels, the program's: the search with jumps back. -/
import Derived.Test.YtfabpcdeppfmdaaDoorHG
import Derived.WalkMore
import Derived.ScopeJumps
import Derived.Deep.LoopGhost
namespace Go.Proofs.YtfabpcdeppfmdaaDoor
open Go.ChangeShapes Go.WideShapes Go.ChangeAt Go.RowKit Go.Deep

/-- a scope with jumps back to one label: a state that bears a number, which every jump lowers -/
theorem wp_scope_ghost {P : Program} {a : Act} {w : World} {Q : Exit → Act → World → Prop} {c rest : Code} (l : Nat) (J : Nat → Act → World → Prop) (hf : findLabel c l = some rest)
    (first : c.wp P (Exit.jump l (fun a w => ∃ m, J m a w) Q) a w)
    (pass : ∀ m a w, J m a w → rest.wp P (Exit.jump l (fun a' w' => ∃ m', m' < m ∧ J m' a' w') Q) a w) : (Code.scope c).wp P Q a w := by
  refine wp_scope_jumps l (fun a w => ∃ m, J m a w) (fun a w => leastOf (fun m => J m a w)) hf first ?_
  intro a w hJ
  refine Code.wp_mono ?_ (pass _ a w (leastOf_spec hJ).1)
  intro e a' w' hq
  cases e with
  | goto l' =>
    obtain ⟨h1, m', h2, h3⟩ := hq
    exact ⟨h1, ⟨m', h3⟩, Nat.lt_of_le_of_lt ((leastOf_spec ⟨m', h3⟩).2 m' h3) h2⟩
  | normal => exact hq
  | exit id => exact hq
  | ret => exact hq
  | panic c => exact hq
  | outgrown => exact hq
/-- the search goes on with side c behind the labels rp (the last one first) -/
def goR (xs : List Mk) (n : Nat) : List Int → Nat → Option (List Int)
  | [], c => tryS (canF xs (n - 1) []) (4 - c) c
  | p :: rp, c => match tryS (canF xs (n - 1 - (rp.length + 1)) (p :: rp).reverse) (4 - c) c with
    | some L => some L
    | none => goR xs n rp (p.toNat + 1)
theorem goR_start {xs : List Mk} {n : Nat} (hn : 0 < n) : goR xs n [] 0 = putF xs n [] := by
  obtain ⟨r, rfl⟩ : ∃ r, n = r + 1 := ⟨n - 1, by omega⟩
  rw [putF_succ, goR]
  rfl
theorem goR_end0 (xs : List Mk) (n : Nat) : goR xs n [] 4 = none := rfl
theorem goR_back (xs : List Mk) (n : Nat) (p : Int) (rp : List Int) : goR xs n (p :: rp) 4 = goR xs n rp (p.toNat + 1) := rfl
/-- what is left behind the last side of a label -/
def bkR (xs : List Mk) (n : Nat) : List Int → Option (List Int)
  | [] => none
  | p :: rp => goR xs n rp (p.toNat + 1)
theorem goR_eq (xs : List Mk) (n : Nat) (rp : List Int) (c : Nat) : goR xs n rp c = (tryS (canF xs (n - 1 - rp.length) rp.reverse) (4 - c) c).or (bkR xs n rp) := by
  cases rp with
  | nil =>
    show tryS (canF xs (n - 1) []) (4 - c) c = (tryS (canF xs (n - 1) []) (4 - c) c).or none
    cases tryS (canF xs (n - 1) []) (4 - c) c <;> rfl
  | cons p rp =>
    show (match tryS (canF xs (n - 1 - (rp.length + 1)) (p :: rp).reverse) (4 - c) c with | some L => some L | none => goR xs n rp (p.toNat + 1)) = (tryS (canF xs (n - 1 - (rp.length + 1)) (p :: rp).reverse) (4 - c) c).or (goR xs n rp (p.toNat + 1))
    cases tryS (canF xs (n - 1 - (rp.length + 1)) (p :: rp).reverse) (4 - c) c <;> rfl
theorem goR_skip {xs : List Mk} {n c : Nat} {rp : List Int} (hc : c < 4) (h : canF xs (n - 1 - rp.length) rp.reverse c = none) : goR xs n rp c = goR xs n rp (c + 1) := by
  have e : 4 - c = (4 - (c + 1)) + 1 := by omega
  rw [goR_eq, goR_eq, e, tryS_none h]
theorem goR_taken {xs : List Mk} {n c : Nat} {rp : List Int} (h : freTo xs rp.reverse (c : Int) rp.reverse.length = false) (hc : c < 4) : goR xs n rp c = goR xs n rp (c + 1) := goR_skip hc (by rw [canF, h]; rfl)
theorem goR_last {xs : List Mk} {n c : Nat} {rp : List Int} (hc : c < 4) (hn : rp.length + 1 = n) (h : freTo xs rp.reverse (c : Int) rp.reverse.length = true) : goR xs n rp c = some (((c : Int) :: rp).reverse) := by
  have e : 4 - c = (4 - (c + 1)) + 1 := by omega
  have hcan : canF xs (n - 1 - rp.length) rp.reverse c = some (rp.reverse ++ [(c : Int)]) := by
    rw [canF, if_pos h, show n - 1 - rp.length = 0 from by omega]
    rfl
  rw [goR_eq, e, tryS_some hcan, List.reverse_cons]
  rfl
theorem goR_deep {xs : List Mk} {n c : Nat} {rp : List Int} (hc : c < 4) (hn : rp.length + 1 < n) (h : freTo xs rp.reverse (c : Int) rp.reverse.length = true) : goR xs n rp c = goR xs n ((c : Int) :: rp) 0 := by
  have e : 4 - c = (4 - (c + 1)) + 1 := by omega
  have hcan : canF xs (n - 1 - rp.length) rp.reverse c = tryS (canF xs (n - 1 - (rp.length + 1)) ((c : Int) :: rp).reverse) 4 0 := by
    rw [canF, if_pos h, show n - 1 - rp.length = (n - 1 - (rp.length + 1)) + 1 from by omega, putF_succ, List.reverse_cons]
  have hr : goR xs n ((c : Int) :: rp) 0 = (tryS (canF xs (n - 1 - (rp.length + 1)) ((c : Int) :: rp).reverse) 4 0).or (goR xs n rp (c + 1)) := goR_eq xs n ((c : Int) :: rp) 0
  rw [hr, ← hcan]
  cases ht : canF xs (n - 1 - rp.length) rp.reverse c with
  | some L => rw [goR_eq, e, tryS_some ht]; rfl
  | none => exact goR_skip hc ht
/-- the numbers in the row: the labels that are put, the side that is tried, zeros -/
def sdR (rp : List Int) (c : Nat) (n : Nat) : List Int := rp.reverse ++ (c : Int) :: List.replicate (n - 1 - rp.length) 0
theorem sdR_len {rp : List Int} {c n : Nat} (h : rp.length < n) : (sdR rp c n).length = n := by simp [sdR]; omega
theorem sdR_at {rp : List Int} {c n : Nat} : (sdR rp c n)[rp.length]?.getD 0 = (c : Int) := by
  have h : rp.length = rp.reverse.length := by simp
  unfold sdR
  rw [h, List.getElem?_append_right (Nat.le_refl _), Nat.sub_self]
  rfl
theorem sdR_set {rp : List Int} {c d n : Nat} : (sdR rp c n).set rp.length (d : Int) = sdR rp d n := by
  have h : rp.length = rp.reverse.length := by simp
  unfold sdR
  rw [h, List.set_append_right _ _ (Nat.le_refl _), Nat.sub_self]
  simp
theorem sdR_down {p : Int} {q : Nat} {rp : List Int} {n : Nat} (hp : p = (q : Int)) (h : rp.length + 1 < n) : sdR (p :: rp) 0 n = sdR rp q n := by
  subst hp
  unfold sdR
  rw [List.reverse_cons, List.append_assoc, List.length_cons, show n - 1 - rp.length = (n - 1 - (rp.length + 1)) + 1 from by omega]
  rfl
theorem sdR_up {rp : List Int} {c n : Nat} (h : rp.length + 1 < n) : sdR rp c n = sdR ((c : Int) :: rp) 0 n := (sdR_down rfl h).symm
theorem sdR_full {rp : List Int} {c n : Nat} (h : rp.length + 1 = n) : sdR rp c n = ((c : Int) :: rp).reverse := by
  unfold sdR
  rw [show n - 1 - rp.length = 0 from by omega, List.reverse_cons]
  rfl
/-- the set of the labels that are put -/
def PmS (x : Nat) (rp : List Int) : Prop := x < 4294967296 ∧ ∀ b, x.testBit b = (decide (b / 4 < rp.length) && decide (rp.reverse[b / 4]?.getD 0 = ((b % 4 : Nat) : Int)))
theorem PmS_nil : PmS 0 [] := ⟨by decide, fun b => by simp⟩
theorem PmS_or {x c : Nat} {rp : List Int} (h : PmS x rp) (hi : rp.length < 8) (hc : c < 4) : PmS (x ||| 2 ^ (4 * rp.length + c)) ((c : Int) :: rp) := by
  have h32 := pow_lt32 (show 4 * rp.length + c < 32 by omega)
  refine ⟨Nat.or_lt_two_pow (n := 32) h.1 h32, fun b => ?_⟩
  rw [Nat.testBit_or, h.2 b, List.reverse_cons, List.length_cons]
  by_cases hb : b = 4 * rp.length + c
  · subst hb
    rw [Nat.testBit_two_pow_self, show (4 * rp.length + c) / 4 = rp.length from by omega, show (4 * rp.length + c) % 4 = c from by omega]
    simp
  · rw [Nat.testBit_two_pow_of_ne (fun e => hb e.symm), Bool.or_false]
    by_cases h1 : b / 4 < rp.length
    · rw [List.getElem?_append_left (by simpa using h1)]
      simp [h1, show b / 4 < rp.length + 1 by omega]
    · by_cases h2 : b / 4 = rp.length
      · have e2 : (rp.reverse ++ [(c : Int)])[b / 4]?.getD 0 = (c : Int) := by
          rw [h2, List.getElem?_append_right (by simp)]
          simp
        rw [e2]
        have hz : decide ((c : Int) = ((b % 4 : Nat) : Int)) = false := decide_eq_false (by omega)
        rw [hz, decide_eq_false h1]
        simp
      · simp [h1, show ¬ b / 4 < rp.length + 1 by omega]
theorem PmS_off {x q : Nat} {p : Int} {rp : List Int} (h : PmS x (p :: rp)) (hp : p = (q : Int)) (hi : rp.length < 8) (hq : q < 4) : PmS (x &&& (4294967295 - 2 ^ (4 * rp.length + q))) rp := by
  subst hp
  have h32 := pow_lt32 (show 4 * rp.length + q < 32 by omega)
  refine ⟨Nat.lt_of_le_of_lt Nat.and_le_left h.1, fun b => ?_⟩
  rw [Nat.testBit_and, h.2 b, show 4294967295 - 2 ^ (4 * rp.length + q) = 2 ^ 32 - (2 ^ (4 * rp.length + q) + 1) from by omega, Nat.testBit_two_pow_sub_succ (by omega), List.reverse_cons, List.length_cons]
  by_cases hb : b = 4 * rp.length + q
  · subst hb
    rw [Nat.testBit_two_pow_self, show (4 * rp.length + q) / 4 = rp.length from by omega]
    simp
  · rw [Nat.testBit_two_pow_of_ne (fun e => hb e.symm)]
    by_cases h1 : b / 4 < rp.length
    · rw [List.getElem?_append_left (by simpa using h1)]
      have hb32 : b < 32 := by omega
      simp [h1, show b / 4 < rp.length + 1 by omega, hb32]
    · by_cases h2 : b / 4 = rp.length
      · have e2 : (rp.reverse ++ [(q : Int)])[b / 4]?.getD 0 = (q : Int) := by
          rw [h2, List.getElem?_append_right (by simp)]
          simp
        rw [e2]
        have hz : decide ((q : Int) = ((b % 4 : Nat) : Int)) = false := decide_eq_false (by omega)
        rw [hz, decide_eq_false h1]
        simp
      · simp [h1, show ¬ b / 4 < rp.length + 1 by omega]
theorem ovB_symm (a b : Q4) : ovB a b = ovB b a := by
  unfold ovB
  cases decide (a.1 < b.2.2.1) <;> cases decide (b.1 < a.2.2.1) <;> cases decide (a.2.1 < b.2.2.2) <;> cases decide (b.2.1 < a.2.2.2) <;> rfl
/-- the label is free just if its set has nothing in common with those that are put -/
theorem free_and {xs : List Mk} {x c n : Nat} {rp : List Int} (h : PmS x rp) (hi : rp.length < n) (hs : ∀ j, j < rp.length → inB (rp.reverse[j]?.getD 0) 0 3 = true) :
    (msk (agP xs (bxQ (xs[rp.length]?.getD mk0) (c : Int))) (4 * n) &&& x = 0) ↔ freTo xs rp.reverse (c : Int) rp.reverse.length = true := by
  have hl : rp.reverse.length = rp.length := by simp
  rw [hl]
  constructor
  · intro h0
    unfold freTo
    rw [List.all_eq_true]
    intro j hj
    have hj := List.mem_range.1 hj
    obtain ⟨s1, s2⟩ := inB_iff.1 (hs j hj)
    obtain ⟨t, ht⟩ : ∃ t : Nat, rp.reverse[j]?.getD 0 = (t : Int) := ⟨(rp.reverse[j]?.getD 0).toNat, by omega⟩
    have hb := congrArg (fun m => m.testBit (4 * j + t)) h0
    simp only [Nat.testBit_and, Nat.zero_testBit, msk_bit, h.2] at hb
    rw [show (4 * j + t) / 4 = j from by omega, show (4 * j + t) % 4 = t from by omega] at hb
    simp only [ht, hj, show 4 * j + t < 4 * n by omega, decide_true, Bool.true_and, Bool.and_true] at hb
    unfold agP at hb
    rw [show (4 * j + t) / 4 = j from by omega, show (4 * j + t) % 4 = t from by omega] at hb
    rw [hl, ht, ovB_symm, hb]
    rfl
  · intro hf
    apply Nat.eq_of_testBit_eq
    intro b
    rw [Nat.testBit_and, Nat.zero_testBit, msk_bit, h.2 b]
    by_cases h1 : b / 4 < rp.length
    · by_cases h2 : rp.reverse[b / 4]?.getD 0 = ((b % 4 : Nat) : Int)
      · unfold freTo at hf
        rw [List.all_eq_true] at hf
        have h3 := hf (b / 4) (List.mem_range.2 h1)
        rw [hl, h2, ovB_symm] at h3
        have h4 : agP xs (bxQ (xs[rp.length]?.getD mk0) (c : Int)) b = false := by
          unfold agP
          simpa using h3
        rw [h4]
        simp
      · rw [decide_eq_false h2]
        simp
    · simp [h1]
/-- the digits as one number -/
def numR : List Int → Nat
  | [] => 0
  | p :: rp => numR rp * 5 + p.toNat
theorem numR_lt : ∀ {rp : List Int}, (∀ p ∈ rp, 0 ≤ p ∧ p ≤ 3) → numR rp < 5 ^ rp.length
  | [], _ => by simp [numR]
  | p :: rp, h => by
    have ih := numR_lt (rp := rp) (fun q hq => h q (List.mem_cons_of_mem _ hq))
    have h1 := h p (List.mem_cons_self ..)
    rw [numR, List.length_cons, Nat.pow_succ]
    omega
def valR (n : Nat) (rp : List Int) (c : Nat) : Nat := if rp.length < n then (numR rp * 5 + c) * 5 ^ (n - 1 - rp.length) else numR rp
/-- how much of the search is left -/
def lefR (n : Nat) (rp : List Int) (c : Nat) : Nat := (5 ^ n - valR n rp c) * (n + 1) + (n - rp.length)
theorem valR_lt {n c : Nat} {rp : List Int} (h : ∀ p ∈ rp, 0 ≤ p ∧ p ≤ 3) (hi : rp.length < n) (hc : c ≤ 4) : valR n rp c < 5 ^ n := by
  rw [valR, if_pos hi]
  have h1 := numR_lt h
  have h2 : numR rp * 5 + c < 5 ^ (rp.length + 1) := by rw [Nat.pow_succ]; omega
  have h3 : 5 ^ n = 5 ^ (rp.length + 1) * 5 ^ (n - 1 - rp.length) := by rw [← Nat.pow_add]; congr 1; omega
  rw [h3]
  exact Nat.mul_lt_mul_of_pos_right h2 (Nat.pow_pos (by decide))
theorem lef_less {n v v' i i' : Nat} (h1 : v < v') (h2 : v < 5 ^ n) (hi' : i' ≤ n) (hi : i ≤ n) : (5 ^ n - v') * (n + 1) + (n - i') < (5 ^ n - v) * (n + 1) + (n - i) := by
  obtain ⟨d, hd⟩ : ∃ d, 5 ^ n - v = (5 ^ n - v') + 1 + d := ⟨5 ^ n - v - (5 ^ n - v') - 1, by omega⟩
  rw [hd, Nat.add_mul, Nat.add_mul, Nat.one_mul]
  have : 0 ≤ d * (n + 1) := Nat.zero_le _
  omega
theorem lef_bump {n c : Nat} {rp : List Int} (h : ∀ p ∈ rp, 0 ≤ p ∧ p ≤ 3) (hi : rp.length < n) (hc : c < 4) : lefR n rp (c + 1) < lefR n rp c := by
  have hp : 0 < 5 ^ (n - 1 - rp.length) := Nat.pow_pos (by decide)
  refine lef_less ?_ (valR_lt h hi (by omega)) (by omega) (by omega)
  rw [valR, valR, if_pos hi, if_pos hi, ← Nat.add_assoc, Nat.add_mul (numR rp * 5 + c) 1]
  omega
theorem lef_back {n q : Nat} {p : Int} {rp : List Int} (hp : p = (q : Int)) (h : ∀ x ∈ p :: rp, 0 ≤ x ∧ x ≤ 3) (hi : rp.length + 1 < n) : lefR n rp (q + 1) < lefR n (p :: rp) 4 := by
  subst hp
  have hi2 : ((q : Int) :: rp).length < n := hi
  have hpos : 0 < 5 ^ (n - 1 - (rp.length + 1)) := Nat.pow_pos (by decide)
  refine lef_less ?_ (valR_lt h hi2 (by omega)) (by omega) (by rw [List.length_cons]; omega)
  rw [valR, valR, if_pos hi2, if_pos (by omega), List.length_cons, numR, show n - 1 - rp.length = (n - 1 - (rp.length + 1)) + 1 from by omega, Nat.pow_succ, Int.toNat_natCast]
  generalize 5 ^ (n - 1 - (rp.length + 1)) = z at hpos
  have e : (numR rp * 5 + (q + 1)) * (z * 5) = ((numR rp * 5 + q) * 5 + 4) * z + z := by
    rw [Nat.mul_comm z 5, ← Nat.mul_assoc, ← Nat.succ_mul]
    congr 1
    omega
  rw [e]
  omega
theorem lef_place {n c : Nat} {rp : List Int} (hi : rp.length < n) : lefR n ((c : Int) :: rp) 0 < lefR n rp c := by
  have hv : valR n ((c : Int) :: rp) 0 = valR n rp c := by
    rw [valR, valR, if_pos hi, List.length_cons]
    by_cases h1 : rp.length + 1 < n
    · rw [if_pos h1, numR, Int.toNat_natCast, Nat.add_zero, Nat.mul_assoc, show n - 1 - rp.length = (n - 1 - (rp.length + 1)) + 1 from by omega, Nat.pow_succ, Nat.mul_comm 5]
    · rw [if_neg h1, numR, Int.toNat_natCast, show n - 1 - rp.length = 0 from by omega, Nat.pow_zero, Nat.mul_one]
  unfold lefR
  rw [hv, List.length_cons]
  omega
theorem wp_scope_label {P : Program} {a : Act} {w : World} {Q : Exit → Act → World → Prop} {rest : Code} (l : Nat) (J : Nat → Act → World → Prop) (h0 : ∃ m, J m a w)
    (pass : ∀ m a w, J m a w → rest.wp P (Exit.jump l (fun a' w' => ∃ m', m' < m ∧ J m' a' w') Q) a w) : (Code.scope ((Code.label l).seq rest)).wp P Q a w := by
  refine wp_scope_ghost (rest := Code.skip.seq rest) l J (by simp [findLabel]) ?_ ?_
  · obtain ⟨m, hJ⟩ := h0
    have hp : rest.wp P (Exit.jump l (fun a w => ∃ m, J m a w) Q) a w := by
      refine Code.wp_mono ?_ (pass m a w hJ)
      intro e a' w' hq
      cases e with
      | goto l' => exact ⟨hq.1, hq.2.elim fun m' h => ⟨m', h.2⟩⟩
      | normal => exact hq
      | exit id => exact hq
      | ret => exact hq
      | panic c => exact hq
      | outgrown => exact hq
    refine wp_seq ?_
    refine wp_label ?_
    exact hp
  · intro m a w hJ
    refine wp_seq ?_
    refine wp_skip ?_
    exact pass m a w hJ
/-- the sides are sides -/
def SdO (rp : List Int) : Prop := ∀ p ∈ rp, 0 ≤ p ∧ p ≤ 3
theorem SdO_at {rp : List Int} (h : SdO rp) : ∀ j, j < rp.length → inB (rp.reverse[j]?.getD 0) 0 3 = true := fun j hj => by
  have hj' : j < rp.reverse.length := by simpa using hj
  rw [List.getElem?_eq_getElem hj', Option.getD_some]
  exact inB_iff.2 (h _ (List.mem_reverse.1 (List.getElem_mem hj')))
theorem SdO_cons {rp : List Int} {c : Nat} (h : SdO rp) (hc : c < 4) : SdO ((c : Int) :: rp) := fun p hp => by
  rcases List.mem_cons.1 hp with rfl | hp
  · omega
  · exact h p hp
theorem SdO_tail {rp : List Int} {p : Int} (h : SdO (p :: rp)) : SdO rp ∧ ∃ q : Nat, p = (q : Int) ∧ q < 4 := by
  have h1 := h p (List.mem_cons_self ..)
  exact ⟨fun x hx => h x (List.mem_cons_of_mem _ hx), p.toNat, by omega, by omega⟩
/-- at the label: rp is put, side c is tried -/
def JmS (ga n gk : Nat) (xs : List Mk) (w : World) (m : Nat) (a' : Act) (w' : World) : Prop := ∃ (rp : List Int) (c X : Nat) (u2 u3 u10 u11 u12 u13 u14 u15 u16 u17 u18 u19 u20 u21 u22 u23 u24 u25 u26 u27 u28 u29 u30 u31 u32 u33 u34 u35 u36 u37 u38 u39 u40 u41 u42 u43 u44 u45 u46 u47 u48 u49 u50 u51 u52 u53 u54 u55 u56 u57 u58 u59 u60 u61 u62 u63 u64 u65 u66 u67 u68 : Value), a' = { tmps := List.toArray (Value.slice (some ⟨ga, 0, none⟩) n n :: undef :: u2 :: u3 :: Value.slice (some ⟨w.heap.size, 0, none⟩) n n :: Value.int .u32 (X : Int) :: Value.int .i64 ((rp.length : Nat) : Int) :: Value.slice (some ⟨ga, 0, none⟩) n n :: Value.int .i64 (n : Int) :: Value.slice (some ⟨w.heap.size, 0, none⟩) n n :: u10 :: u11 :: u12 :: u13 :: u14 :: u15 :: u16 :: u17 :: u18 :: u19 :: u20 :: u21 :: u22 :: u23 :: u24 :: u25 :: u26 :: u27 :: u28 :: u29 :: u30 :: u31 :: u32 :: u33 :: u34 :: u35 :: u36 :: u37 :: u38 :: u39 :: u40 :: u41 :: u42 :: u43 :: u44 :: u45 :: u46 :: u47 :: u48 :: u49 :: u50 :: u51 :: u52 :: u53 :: u54 :: u55 :: u56 :: u57 :: u58 :: u59 :: u60 :: u61 :: u62 :: u63 :: u64 :: u65 :: u66 :: u67 :: u68 :: undef :: []), defers := [] } ∧ rp.length < n ∧ c ≤ 4 ∧ SdO rp ∧ PmS X rp ∧ w'.ownsRow w.heap.size 2 1 (.slice (some ⟨w.heap.size, 0, none⟩) n n) n ((sdR rp c n).map (Value.int .i64)) ∧ putF xs n [] = goR xs n rp c ∧ Below w.heap.size w w' ∧ lefR n rp c = m ∧ m ≤ gk
theorem sdR_cell {w : World} {B g n cap c : Nat} {T : TypeId} {rp : List Int} (h : w.ownsRow B T 1 (.slice (some ⟨g, 0, none⟩) n cap) n ((sdR rp c n).map (Value.int .i64))) (hi : rp.length < n) : w.cell? ⟨g, rp.length, none⟩ = some (.int .i64 (c : Int)) := by
  rw [h.cellAt rp.length (by omega), List.getElem?_map]
  have hl : rp.length < (sdR rp c n).length := by rw [sdR_len hi]; exact hi
  have e := sdR_at (rp := rp) (c := c) (n := n)
  rw [List.getElem?_eq_getElem hl, Option.getD_some] at e
  rw [List.getElem?_eq_getElem hl, e]
  rfl
theorem sdR_put {w : World} {B g n cap c : Nat} {T : TypeId} {rp : List Int} (h : w.ownsRow B T 1 (.slice (some ⟨g, 0, none⟩) n cap) n ((sdR rp c n).map (Value.int .i64))) (d : Nat) : (w.setCell ⟨g, rp.length, none⟩ (.int .i64 (d : Int))).ownsRow B T 1 (.slice (some ⟨g, 0, none⟩) n cap) n ((sdR rp d n).map (Value.int .i64)) ∧ w.grownBy (w.setCell ⟨g, rp.length, none⟩ (.int .i64 (d : Int))) (some g) := by
  have h1 := h.stored rp.length (.int .i64 (d : Int))
  rw [← sdR_set (c := c), List.map_set]
  exact h1
def TopL (n : Nat) (rp : List Int) : List Int := if rp.length < n then sdR rp 0 n else rp.reverse
def TopA (xs : List Mk) (n : Nat) (rp : List Int) : Option (List Int) := if rp.length < n then goR xs n rp 0 else some rp.reverse
set_option maxRecDepth 100000 in
set_option maxHeartbeats 8000000 in
theorem first_any (ga n : Nat) (xs : List Mk) (w : World) (hr : w.rowIs ga 94 (n * 4) (agF xs n (n * 4))) (hn8 : n ≤ 8) :
    Calls Tryd.prog 38 #[.slice (some ⟨ga, 0, none⟩) n n] w fun e w' => PutE w.heap.size (putF xs n []) w' e ∧ Below w.heap.size w w' := by
  obtain ⟨i0, hi, hz0, hz1, hz2⟩ := info_parts A_info
  have hni : (n : Int) ≤ 8 := by omega
  have hb : n ≤ maxLen := by unfold maxLen; omega
  have hgl := hr.lt
  go_enter Tryd.func38, Tryd.ntmps38
  go_wp2_with (at_make; refine wpList_make_full _ rfl _ _ 26 rfl w.heap.size 2 i0 (.int .i64 0) 1 Tryd.underlying26 hi hz0 hz1 .i64 .i64 n n n rfl rfl rfl rfl (by rw [hz2]; omega) hb (Nat.le_refl _) ?_; intro w1 hown hgrow)
  have hB1 : Below w.heap.size w w1 := (Below.refl _ _).grown hgrow (Nat.le_refl _) (fun k hk => by cases hk)
  have hown1 : w1.ownsRow w.heap.size 2 1 (.slice (some ⟨w.heap.size, 0, none⟩) n n) n ((TopL n []).map (Value.int .i64)) := by
    have e : (madeCells (Value.int .i64 0).cells (n * 1)).toList = (TopL n []).map (Value.int .i64) := by
      rw [cop_zero []]
      unfold TopL
      by_cases h0 : 0 < n
      · rw [if_pos (show ([] : List Int).length < n from h0)]
        obtain ⟨k, rfl⟩ : ∃ k, n = k + 1 := ⟨n - 1, by omega⟩
        simp [cop, sdR, List.replicate_succ]
      · obtain rfl : n = 0 := by omega
        rfl
    rw [← e]; exact hown
  have hans : putF xs n [] = TopA xs n [] := by
    unfold TopA
    by_cases h0 : 0 < n
    · rw [if_pos (show ([] : List Int).length < n from h0), goR_start h0]
    · obtain rfl : n = 0 := by omega
      rfl
  clear hown hgrow
  go_loopg [5, 6] (lefR n [] 0) (fun gm x i wr => ∃ (rp : List Int) (X : Nat), i = .int .i64 ((rp.length : Nat) : Int) ∧ x = .int .u32 (X : Int) ∧ rp.length ≤ n ∧ SdO rp ∧ PmS X rp ∧ wr.ownsRow w.heap.size 2 1 (.slice (some ⟨w.heap.size, 0, none⟩) n n) n ((TopL n rp).map (Value.int .i64)) ∧ putF xs n [] = TopA xs n rp ∧ Below w.heap.size w wr ∧ lefR n rp 0 ≤ gm)
  case atStart => exact ⟨[], 0, rfl, rfl, Nat.zero_le _, fun p hp => absurd hp (by simp), PmS_nil, hown1, hans, hB1, Nat.le_refl _⟩
  case round =>
    obtain ⟨rp, X, rfl, rfl, hin, hsd, hpm, hown, hans, hB, hm⟩ := hrel
    clear hown1 hB1
    by_cases hlt : rp.length < n
    · have hii : ((rp.length : Nat) : Int) < (n : Int) := by omega
      unfold TopL at hown
      unfold TopA at hans
      rw [if_pos hlt] at hown hans
      have HR := Lib.hid hr
      clear hr
      go_wp2
      refine wp_scope_label 0 (JmS ga n gk xs w) ⟨_, rp, 0, X, _, _, _, _, _, _, _, _, _, _, _, _, _, _, _, _, _, _, _, _, _, _, _, _, _, _, _, _, _, _, _, _, _, _, _, _, _, _, _, _, _, _, _, _, _, _, _, _, _, _, _, _, _, _, _, _, _, _, _, _, _, rfl, hlt, by omega, hsd, hpm, hown, hans, hB, rfl, hm⟩ ?_
      intro m aJ wJ hJ
      clear hown hans hB hsd hpm hm hlt hii
      obtain ⟨rp, c, X, v2, v3, v10, v11, v12, v13, v14, v15, v16, v17, v18, v19, v20, v21, v22, v23, v24, v25, v26, v27, v28, v29, v30, v31, v32, v33, v34, v35, v36, v37, v38, v39, v40, v41, v42, v43, v44, v45, v46, v47, v48, v49, v50, v51, v52, v53, v54, v55, v56, v57, v58, v59, v60, v61, v62, v63, v64, v65, v66, v67, v68, rfl, hlt, hc4, hsd, hpm, hown, hans, hB, hm, hmg⟩ := hJ
      have hii : ((rp.length : Nat) : Int) < (n : Int) := by omega
      have hco := sdR_cell hown hlt
      have hfz := hown.frozenAt rp.length
      by_cases hc : c < 4
      · obtain ⟨M, hM⟩ : ∃ m, msk (agP xs (bxQ (xs[rp.length]?.getD mk0) (c : Int))) (4 * n) = m := ⟨_, rfl⟩
        have hF : Hid ((M &&& X = 0) ↔ freTo xs rp.reverse (c : Int) rp.reverse.length = true) := Lib.hid (by rw [← hM]; exact free_and hpm hlt (SdO_at hsd))
        have hM32 : M < 4294967296 := by rw [← hM]; exact msk_lt32 _ (by omega)
        have hX32 := hpm.1
        have hr4 := rowB HR.out hB
        have d0 := hr4.cell (show rp.length * 4 + c < n * 4 by omega)
        have z0 := hr4.frozen (rp.length * 4 + c)
        have hag : agF xs n (n * 4) (rp.length * 4 + c) = .int .u32 (M : Int) := by
          rw [agF, if_pos (by omega), show (rp.length * 4 + c) / 4 = rp.length from by omega, show (rp.length * 4 + c) % 4 = c from by omega, hM]
        rw [hag] at d0
        have hS : inB (c : Int) 0 3 = true := inB_iff.2 ⟨by omega, by omega⟩
        have hand := u32_and_nat M X hM32 hX32
        have hc0 : (0 : Int) ≤ (c : Int) := by omega
        have hc4' : (c : Int) < 4 := by omega
        clear hag hM hr4 hc4
        have HS := Lib.hid hS
        obtain ⟨j, hj⟩ : ∃ j, rp.length = j := ⟨_, rfl⟩
        clear hS
        have HRW := Lib.hid hown
        have HSD := Lib.hid hsd
        have HPM0 := Lib.hid hpm
        have HH := Lib.hid hans
        have HM := Lib.hid hm
        clear hown hsd hpm hans hm HR
        by_cases hz : M &&& X = 0
        · have HFR := Lib.hid (hF.out.1 hz)
          have hb0 : (bits .and .u32 (M : Int) (X : Int) == 0) = true := by rw [hand, hz]; rfl
          have hj8 : j < 8 := by omega
          have h32 := pow_lt32 (show 4 * j + c < 32 by omega)
          obtain ⟨T, hT⟩ : ∃ t, 2 ^ (4 * j + c) = t := ⟨_, rfl⟩
          have HT := Lib.hid hT
          rw [hT] at h32
          have HOR := Lib.hid (u32_or_nat X T hX32 h32)
          have HPM : Hid (PmS (X ||| T) ((c : Int) :: rp)) := Lib.hid (by rw [← hT, ← hj]; exact PmS_or HPM0.out (by omega) hc)
          rw [hj] at hco hfz d0 z0 hii ⊢
          clear hand hF hT
          go_wp2_with (go_at_call 45; refine (isSide_any _ _).mono ?_; rintro e w' ⟨rfl, rfl⟩; rw [HS.out])
          go_big_quiet (fail)
          generalize hWD : wJ.drewN _ = wD
          have hco2 : wD.cell? ⟨w.heap.size, j, none⟩ = some (.int .i64 (c : Int)) := by rw [← hWD]; exact hco
          have hfz2 : wD.frozen? ⟨w.heap.size, j, none⟩ = false := by rw [← hWD]; exact hfz
          have HRW2 : Hid (wD.ownsRow w.heap.size 2 1 (.slice (some ⟨w.heap.size, 0, none⟩) n n) n ((sdR rp c n).map (Value.int .i64))) := Lib.hid (by rw [← hWD]; exact HRW.out)
          have hBD : Below w.heap.size w wD := by rw [← hWD]; exact below_drewN hB _
          have HTL : Hid (TopL n ((c : Int) :: rp) = sdR rp c n) := Lib.hid (by
            unfold TopL
            by_cases h1 : rp.length + 1 < n
            · rw [if_pos (show ((c : Int) :: rp).length < n from h1), sdR_up h1]
            · rw [if_neg (show ¬ ((c : Int) :: rp).length < n from h1), sdR_full (by omega)])
          have HTA : Hid (putF xs n [] = TopA xs n ((c : Int) :: rp)) := Lib.hid (by
            rw [HH.out]
            unfold TopA
            by_cases h1 : rp.length + 1 < n
            · rw [if_pos (show ((c : Int) :: rp).length < n from h1), goR_deep hc h1 HFR.out]
            · rw [if_neg (show ¬ ((c : Int) :: rp).length < n from h1), goR_last hc (by omega) HFR.out])
          clear hco hfz d0 z0 hB hWD
          go_wp2_with (go_at_call 67; refine (labelBit_any j c _ (by omega) (by omega)).mono ?_; rintro e w' ⟨he, rfl⟩; rw [HT.out] at he; subst he)
          simp only [Exit.jump, Exit.inBlock, Exit.then]
          go_at_K
          go_wp2
          go_roundg (lefR n ((c : Int) :: rp) 0)
          case measure => have h1 := lef_place (c := c) (show rp.length < n by omega); have := HM.out; omega
          case rel => exact ⟨(c : Int) :: rp, X ||| T, by rw [List.length_cons, hj]; go_num, by rw [HOR.out], by rw [List.length_cons]; omega, SdO_cons HSD.out hc, HPM.out, by rw [HTL.out]; exact HRW2.out, HTA.out, hBD, Nat.le_refl _⟩
        · have HFR : Hid (freTo xs rp.reverse (c : Int) rp.reverse.length = false) := Lib.hid (by
            cases hfr : freTo xs rp.reverse (c : Int) rp.reverse.length
            · rfl
            · exact absurd (hF.out.2 hfr) hz)
          have hb0 : (bits .and .u32 (M : Int) (X : Int) == 0) = false := by
            rw [hand, beq_eq_false_iff_ne]
            intro e
            exact hz (by omega)
          rw [hj] at hco hfz d0 z0 hii ⊢
          clear hand hF hz
          go_wp2_with (go_at_call 45; refine (isSide_any _ _).mono ?_; rintro e w' ⟨rfl, rfl⟩; rw [HS.out])
          go_big_quiet (fail)
          generalize hWD : wJ.drewN _ = wD
          have hco2 : wD.cell? ⟨w.heap.size, j, none⟩ = some (.int .i64 (c : Int)) := by rw [← hWD]; exact hco
          have hfz2 : wD.frozen? ⟨w.heap.size, j, none⟩ = false := by rw [← hWD]; exact hfz
          have HRW2 : Hid (wD.ownsRow w.heap.size 2 1 (.slice (some ⟨w.heap.size, 0, none⟩) n n) n ((sdR rp c n).map (Value.int .i64))) := Lib.hid (by rw [← hWD]; exact HRW.out)
          have hBD : Below w.heap.size w wD := by rw [← hWD]; exact below_drewN hB _
          have R1 := Lib.hid (sdR_put HRW2.out (c + 1)).1
          have B1 := Lib.hid (hBD.grown (sdR_put HRW2.out (c + 1)).2 hBD.size (fun k hk => by cases hk; exact Nat.le_refl _))
          clear hco hfz d0 z0 hB hWD
          go_wp2
          refine wp_goto ?_
          refine And.intro rfl ?_
          subst hj
          have HLF := Lib.hid (lef_bump HSD.out (show rp.length < n by omega) hc)
          rw [HM.out] at HLF
          refine ⟨lefR n rp (c + 1), HLF.out, rp, c + 1, X, _, _, _, _, _, _, _, _, _, _, _, _, _, _, _, _, _, _, _, _, _, _, _, _, _, _, _, _, _, _, _, _, _, _, _, _, _, _, _, _, _, _, _, _, _, _, _, _, _, _, _, _, _, _, _, _, _, _, _, _, _, rfl, by omega, by omega, HSD.out, HPM0.out, R1.out, HH.out.trans (goR_taken HFR.out hc), B1.out, rfl, by have := HLF.out; omega⟩
      · obtain rfl : c = 4 := by omega
        have HS : Hid (inB (4 : Int) 0 3 = false) := Lib.hid rfl
        have hco : wJ.cell? ⟨w.heap.size, rp.length, none⟩ = some (.int .i64 4) := hco
        cases rp with
        | nil =>
          have HN : Hid (putF xs n [] = none) := Lib.hid (hans.trans (goR_end0 xs n))
          rw [show ([] : List Int).length = 0 from rfl] at hco hfz hii ⊢
          clear hans hown hlt hsd hpm hm HR
          go_wp2_with (go_at_call 45; refine (isSide_any _ _).mono ?_; rintro e w' ⟨rfl, rfl⟩; rw [HS.out])
          simp only [Exit.jump]
          go_ret2
          exact ⟨by rw [HN.out]; exact rfl, hB⟩
        | cons p rp =>
          obtain ⟨hsd', q, hpq, hq4⟩ := SdO_tail hsd
          have HA := Lib.hid (hans.trans ((goR_back xs n p rp).trans (by rw [hpq, Int.toNat_natCast])))
          have hlt' : rp.length + 1 < n := hlt
          have HLF := Lib.hid (lef_back hpq hsd hlt')
          rw [hm] at HLF
          have hX32 := hpm.1
          have r0 : (wJ.setCell ⟨w.heap.size, rp.length + 1, none⟩ (.int .i64 0)).ownsRow w.heap.size 2 1 (.slice (some ⟨w.heap.size, 0, none⟩) n n) n ((sdR (p :: rp) 0 n).map (Value.int .i64)) := (sdR_put hown 0).1
          have b0 : Below w.heap.size w (wJ.setCell ⟨w.heap.size, rp.length + 1, none⟩ (.int .i64 0)) := hB.grown (sdR_put hown 0).2 hB.size (fun k hk => by cases hk; exact Nat.le_refl _)
          rw [sdR_down hpq hlt'] at r0
          have c0 := sdR_cell r0 (by omega)
          have f0 := r0.frozenAt rp.length
          have r1 := (sdR_put r0 (q + 1)).1
          have b1 := b0.grown (sdR_put r0 (q + 1)).2 b0.size (fun k hk => by cases hk; exact Nat.le_refl _)
          have HPM := Lib.hid (PmS_off hpm hpq (by omega) hq4)
          have h32 := pow_lt32 (show 4 * rp.length + q < 32 by omega)
          obtain ⟨T, hT⟩ : ∃ t, 2 ^ (4 * rp.length + q) = t := ⟨_, rfl⟩
          have HT := Lib.hid hT
          rw [hT] at h32
          have HAN := Lib.hid (u32_andNot_nat X T hX32 h32)
          rw [hT] at HPM
          rw [show (p :: rp).length = rp.length + 1 from rfl] at hco hfz hii ⊢
          have R1 := Lib.hid r1
          have B1 := Lib.hid b1
          have HSD := Lib.hid hsd'
          have hlt2 : rp.length < n := by omega
          clear hans hown hlt hsd hpm hm HR hT r1 b1 r0 b0 hX32 hsd'
          obtain ⟨j, hj⟩ : ∃ j, rp.length = j := ⟨_, rfl⟩
          rw [hj] at hco hfz hii c0 f0 hlt' HT hlt2 ⊢
          have hz1 : ((j : Int) + 1 == 0) = false := by rw [beq_eq_false_iff_ne]; omega
          go_wp2_with (first | (go_at_call 45; refine (isSide_any _ _).mono ?_; rintro e w' ⟨rfl, rfl⟩; rw [HS.out]) | (go_at_call 67; refine (labelBit_any j q _ (by omega) (by omega)).mono ?_; rintro e w' ⟨he, rfl⟩; rw [HT.out] at he; subst he))
          refine wp_goto ?_
          refine And.intro rfl ?_
          subst hj
          rw [HAN.out]
          refine ⟨lefR n rp (q + 1), HLF.out, rp, q + 1, X &&& (4294967295 - T), _, _, _, _, _, _, _, _, _, _, _, _, _, _, _, _, _, _, _, _, _, _, _, _, _, _, _, _, _, _, _, _, _, _, _, _, _, _, _, _, _, _, _, _, _, _, _, _, _, _, _, _, _, _, _, _, _, _, _, _, _, rfl, hlt2, by omega, HSD.out, HPM.out, R1.out, HA.out, B1.out, rfl, by have := HLF.out; omega⟩
    · obtain rfl : n = rp.length := by omega
      unfold TopL at hown
      unfold TopA at hans
      rw [if_neg hlt] at hown hans
      have HO := Lib.hid hown
      have HA := Lib.hid hans
      clear hown hans hr
      go_wp2
      go_ret2
      exact ⟨by rw [HA.out]; exact ⟨w.heap.size, rp.length, by rw [List.length_reverse]; rfl, by rw [List.length_reverse]; exact HO.out⟩, hB⟩
end Go.Proofs.YtfabpcdeppfmdaaDoor
