/- Sums of magnitudes: the squares of the differences of all pairs; PairSquares, VarianceOf, both sides. -/
import Derived.Test.YtcjipmpccmppiaaEB
import Derived.Test.YtcjipmpccmppiaaEX
import Derived.Test.YtcjipmpccmppiaaB4
import Derived.Deep.RegionHeld3
namespace Go.Proofs.Ytcjipmpccmppiaa
open Go.ChangeShapes Go.WideShapes Go.ChangeAt Go.RowKit Go.Deep

/-- block G holds the sums of some magnitudes -/
structure SmC (w : World) (G : Nat) (c s q : Int) : Prop where
  lt : G < w.heap.size
  c0 : w.cell? ⟨G, 0, none⟩ = some (.int .i64 c)
  c1 : w.cell? ⟨G, 1, none⟩ = some (.int .i64 s)
  c2 : w.cell? ⟨G, 2, none⟩ = some (.int .i64 q)
  f0 : w.frozen? ⟨G, 0, none⟩ = false
  f1 : w.frozen? ⟨G, 1, none⟩ = false
  f2 : w.frozen? ⟨G, 2, none⟩ = false
theorem SmC.mono {w w' : World} {G : Nat} {c s q : Int} (h : SmC w G c s q) (hb : Below w.heap.size w w') : SmC w' G c s q :=
  ⟨Nat.lt_of_lt_of_le h.lt hb.size, (hb.cell (p := ⟨G, 0, none⟩) h.lt).trans h.c0, (hb.cell (p := ⟨G, 1, none⟩) h.lt).trans h.c1, (hb.cell (p := ⟨G, 2, none⟩) h.lt).trans h.c2, (hb.frozen (p := ⟨G, 0, none⟩) h.lt).trans h.f0, (hb.frozen (p := ⟨G, 1, none⟩) h.lt).trans h.f1, (hb.frozen (p := ⟨G, 2, none⟩) h.lt).trans h.f2⟩
theorem SmC.fresh (w : World) (T : TypeId) (c s q : Int) : SmC (w.alloc (.cells #[.int .i64 c, .int .i64 s, .int .i64 q] T)) w.heap.size c s q :=
  ⟨by simp, by rw [World.cell?_alloc_new]; rfl, by rw [World.cell?_alloc_new]; rfl, by rw [World.cell?_alloc_new]; rfl, by go_keep, by go_keep, by go_keep⟩
theorem SmC.put {w : World} {G : Nat} {c s q : Int} (h : SmC w G c s q) (c' s' q' : Int) : SmC (((w.setCell ⟨G, 0, none⟩ (.int .i64 c')).setCell ⟨G, 1, none⟩ (.int .i64 s')).setCell ⟨G, 2, none⟩ (.int .i64 q')) G c' s' q' :=
  ⟨by simp only [World.size_setCell]; exact h.lt, scO (by decide) (scO (by decide) (scS h.c0)), scO (by decide) (scS (scO (by decide) h.c1)), scS (scO (by decide) (scO (by decide) h.c2)), by simp only [World.frozen?_setCell]; exact h.f0, by simp only [World.frozen?_setCell]; exact h.f1, by simp only [World.frozen?_setCell]; exact h.f2⟩
theorem with_any (c s q m : Int) (w : World) (h1 : 0 ≤ c) (h2 : c ≤ 1000) (h3 : -1000000000 ≤ s) (h4 : s ≤ 1000000000) (h5 : 0 ≤ q) (h6 : q ≤ 1000000000000) (h7 : -2000 ≤ m) (h8 : m ≤ 20000) :
    Calls Try.prog 113 #[.agg #[.int .i64 c, .int .i64 s, .int .i64 q], .int .i64 m] w fun e w' => e = .returned (.agg #[.int .i64 (c + 1), .int .i64 (s + m), .int .i64 (q + m * m)]) ∧ Below w.heap.size w w' := by
  have hm := mag_sq (x := m) ⟨h7, h8⟩
  have w1 : IntKind.i64.wrap (m * m) = m * m := IntWalk.i64_in _ (by omega)
  go_enter Try.func113, Try.ntmps113
  go_wp2
  exact bodyPost_ret (v := .agg #[.int .i64 (c + 1), .int .i64 (s + m), .int .i64 (q + m * m)]) (by simp [results, Try.results113, go_sem]) rfl ⟨rfl, by (repeat (first | assumption | exact Below.refl _ _ | refine belowDN ?_ _ | refine Below.drew ?_ | refine Below.setCell ?_ (by first | omega | (simp <;> omega)) _ | refine Below.alloc ?_ (by first | omega | (simp <;> omega)) _ | refine belowCall ?_ (by assumption)))⟩
theorem pSq_any (c s q : Int) (w : World) (h1 : 0 ≤ c) (h2 : c ≤ 1000) (h3 : -100000000 ≤ s) (h4 : s ≤ 100000000) (h5 : 0 ≤ q) (h6 : q ≤ 1000000000000) :
    Calls Try.prog 114 #[.agg #[.int .i64 c, .int .i64 s, .int .i64 q]] w fun e w' => e = .returned (.int .i64 (c * q - s * s)) ∧ Below w.heap.size w w' := by
  have p1 := aMul (a := c) (b := q) (A := 1000) (B := 1000000000000) (by omega) (by omega) (by omega) (by omega)
  have p2 := aMul (a := s) (b := s) (A := 100000000) (B := 100000000) (by omega) (by omega) (by omega) (by omega)
  have w1 : IntKind.i64.wrap (c * q) = c * q := IntWalk.i64_in _ (by omega)
  have w2 : IntKind.i64.wrap (s * s) = s * s := IntWalk.i64_in _ (by omega)
  have w3 : IntKind.i64.wrap (c * q - s * s) = c * q - s * s := IntWalk.i64_in _ (by omega)
  go_enter Try.func114, Try.ntmps114
  go_wp2
  go_ret
  exact ⟨rfl, by (repeat (first | assumption | exact Below.refl _ _ | refine belowDN ?_ _ | refine Below.drew ?_ | refine Below.setCell ?_ (by first | omega | (simp <;> omega)) _ | refine Below.alloc ?_ (by first | omega | (simp <;> omega)) _ | refine belowCall ?_ (by assumption)))⟩
theorem pPr_any (c s q : Int) (w : World) (h1 : 0 ≤ c) (h2 : c ≤ 1000) :
    Calls Try.prog 121 #[.agg #[.int .i64 c, .int .i64 s, .int .i64 q]] w fun e w' => e = .returned (.int .i64 (c * (c - 1) / 2)) ∧ Below w.heap.size w w' := by
  have h0 : 0 ≤ c * (c - 1) := by
    by_cases e : c = 0
    · rw [e]; simp
    · exact Int.mul_nonneg (by omega) (by omega)
  have p1 := aMul (a := c) (b := c - 1) (A := 1000) (B := 1000) (by omega) (by omega) (by omega) (by omega)
  have w1 : IntKind.i64.wrap (c * (c - 1)) = c * (c - 1) := IntWalk.i64_in _ (by omega)
  have e1 : (c * (c - 1)).tdiv 2 = c * (c - 1) / 2 := Int.tdiv_eq_ediv_of_nonneg h0
  have HE := Lib.hid e1
  go_enter Try.func121, Try.ntmps121
  go_wp2
  go_ret
  exact ⟨by first | rfl | (rw [HE.out]) | (rw [HE.out]; rfl), by (repeat (first | assumption | exact Below.refl _ _ | refine belowDN ?_ _ | refine Below.drew ?_ | refine Below.setCell ?_ (by first | omega | (simp <;> omega)) _ | refine Below.alloc ?_ (by first | omega | (simp <;> omega)) _ | refine belowCall ?_ (by assumption)))⟩
def mgI (xs : List Int) (j : Nat) : Int := xs[j]?.getD 0
/-- the squares of the differences of all pairs -/
def psN (xs : List Int) (k : Nat) : Int := outQ (fun _ => 0) (mgI xs) k
theorem okM_bd {xs : List Int} (h : okMags xs = true) {n : Nat} (hn : xs.length = n) : ∀ j, j < n → -2000 ≤ mgI xs j ∧ mgI xs j ≤ 20000 := fun j hj => okMags_at h j (by omega)
theorem okM_len {xs : List Int} (h : okMags xs = true) {n : Nat} (hn : xs.length = n) : n ≤ 100 := by
  simp only [okMags, Bool.and_eq_true, decide_eq_true_eq] at h
  omega
theorem bCN_one (k : Nat) : bCN (fun _ => 0) 0 k = k := by
  induction k with
  | zero => rfl
  | succ k ih => rw [bCN_yes rfl, ih]; omega
theorem psN_tr (xs : List Int) (k : Nat) : psN xs k = (k : Int) * bCQ (fun _ => 0) (mgI xs) 0 k - bCS (fun _ => 0) (mgI xs) 0 k * bCS (fun _ => 0) (mgI xs) 0 k := by
  rw [psN, ← outQ_bins (K := 1) k (fun _ _ => by decide)]
  simp [sumF, trQ, bCN_one]
def psC (xs : List Int) : Int := listCode xs
def psA (xs : List Int) : Int := if okMags xs then psN xs xs.length else 0
theorem ps_no {xs : List Int} (h : okMags xs = false) : psA xs = 0 ∧ psC xs = 2 := by simp [psA, psC, listCode, h]
theorem ps_yes {xs : List Int} {n : Nat} (hn : xs.length = n) (h : okMags xs = true) : psA xs = psN xs n ∧ psC xs = 0 := by simp [psA, psC, listCode, h, hn]
def vaF (xs : List Int) : Int × Int × Int := if someCode xs = 0 then (lowN (psN xs xs.length) (xs.length * xs.length), lowD (psN xs xs.length) (xs.length * xs.length), 0) else (0, 0, someCode xs)
theorem va_no {xs : List Int} {c : Int} (h : someCode xs = c) (hc : c ≠ 0) : vaF xs = (0, 0, c) := by subst h; simp [vaF, hc]
theorem va_yes {xs : List Int} {n : Nat} (hn : xs.length = n) (h : someCode xs = 0) : vaF xs = (lowN (psN xs n) (n * n), lowD (psN xs n) (n * n), 0) := by subst hn; simp [vaF, h]
theorem some_parts {xs : List Int} (h : someCode xs = 0) : okMags xs = true ∧ xs.length ≠ 0 := by
  unfold someCode at h
  cases h1 : okMags xs
  · simp [h1] at h
  · by_cases h2 : xs.length = 0
    · simp [h1, h2] at h
    · exact ⟨rfl, h2⟩
set_option maxRecDepth 100000 in
set_option maxHeartbeats 4000000 in
theorem l11Sq_any (a : Option Addr) (n c : Nat) (xs : List Int) (w : World) (h : Lst w a n xs) (hok : okMags xs = true) :
    Calls Try.prog 69 #[.slice a n c] w fun e w' => e = .returned (.int .i64 (psN xs n)) ∧ Below w.heap.size w w' := by
  have hn := okM_len hok h.1
  have hbd := okM_bd hok h.1
  have hl : (n : Int) ≤ 100 := by omega
  have HMB := Lib.hid hbd
  have HTA : Hid (∀ k, xs[k]?.getD 0 = mgI xs k) := Lib.hid fun _ => rfl
  obtain ⟨m, hm⟩ : ∃ m, mgI xs = m := ⟨_, rfl⟩
  unfold psN
  rw [hm] at HMB HTA ⊢
  clear hm hbd hok
  go_enter Try.func69, Try.ntmps69
  go_wp2
  go_loopw [3, 4] (fun nu i wr => ∃ k : Nat, k ≤ n ∧ i = .int .i64 k ∧ nu = .int .i64 (outQ (fun _ => 0) m k) ∧ Below w.heap.size w wr) (fun _ i _ => n - (Go.RowKit.intOf i).toNat)
  case atStart => exact ⟨0, Nat.zero_le _, rfl, rfl, Below.refl _ _⟩
  case round =>
    obtain ⟨i, hi, rfl, rfl, hB⟩ := hrel
    by_cases hlt : i < n
    · have hii : (i : Int) < (n : Int) := by omega
      have hN := outQ_bd (B := fun _ => 0) hn HMB.out i hi
      have HE1 : Hid (outQ (fun _ => 0) m (i + 1) = outQ (fun _ => 0) m i + inQ (fun _ => 0) m i i) := Lib.hid rfl
      obtain ⟨ba, oa, rfl, hla, hca⟩ := h.2 i hlt
      rw [HTA.out] at hca
      have hti := HMB.out i hlt
      generalize outQ (fun _ => 0) m i = N at hN HE1 ⊢
      obtain ⟨v, rfl⟩ : ∃ v, v = wr := ⟨wr, rfl⟩
      have hbv : Below w.heap.size w v := hB
      clear hB
      go_wp2
      go_loopw [3, 5] (fun nu k wi => ∃ j : Nat, j ≤ i ∧ k = .int .i64 j ∧ nu = .int .i64 (N + inQ (fun _ => 0) m i j) ∧ Below w.heap.size w wi) (fun _ k _ => i - (Go.RowKit.intOf k).toNat)
      case atStart => exact ⟨0, Nat.zero_le _, rfl, by simp [inQ, sumF], hbv⟩
      case round =>
        obtain ⟨j, hj, rfl, rfl, hB⟩ := hrel
        have hNj := inQ_bd (B := fun _ => 0) hlt HMB.out j (by omega)
        by_cases hji : j < i
        · have hjj : (j : Int) < (i : Int) := by omega
          have hjn : (j : Int) < (n : Int) := by omega
          obtain ⟨ba', oa', he, -, hcaj⟩ := h.2 j (by omega)
          cases he
          rw [HTA.out] at hcaj
          have htj := HMB.out j (by omega)
          have q1 : wr.cell? ⟨ba, oa + i, none⟩ = some (.int .i64 (m i)) := by rw [hB.cell (p := ⟨ba, oa + i, none⟩) hla]; exact hca
          have q2 : wr.cell? ⟨ba, oa + j, none⟩ = some (.int .i64 (m j)) := by rw [hB.cell (p := ⟨ba, oa + j, none⟩) hla]; exact hcaj
          have HS1 : Hid (inQ (fun _ => 0) m i (j + 1) = inQ (fun _ => 0) m i j + (m i - m j) * (m i - m j)) := Lib.hid (inQ_yes rfl)
          have hp1 := aMul (a := m i - m j) (b := m i - m j) (A := 22000) (B := 22000) (by omega) (by omega) (by omega) (by omega)
          clear hca hcaj hbv
          generalize inQ (fun _ => 0) m i j = X at hNj HS1 ⊢
          generalize m i = ti at hti hp1 q1 HS1
          generalize m j = tj at htj hp1 q2 HS1
          have w1 : IntKind.i64.wrap (ti - tj) = ti - tj := IntWalk.i64_in _ (by omega)
          have w3 : IntKind.i64.wrap ((ti - tj) * (ti - tj)) = (ti - tj) * (ti - tj) := IntWalk.i64_in _ (by omega)
          have w4 : IntKind.i64.wrap (N + X + (ti - tj) * (ti - tj)) = N + X + (ti - tj) * (ti - tj) := IntWalk.i64_in _ (by omega)
          go_wp2
          go_big_quiet (fail)
          go_wp2
          go_roundw
          case rel => exact ⟨j + 1, by omega, by go_num, by rw [HS1.out, ← Int.add_assoc], by (repeat (first | assumption | exact Below.refl _ _ | refine belowDN ?_ _ | refine Below.drew ?_ | refine Below.setCell ?_ (by first | omega | (simp <;> omega)) _ | refine Below.alloc ?_ (by first | omega | (simp <;> omega)) _ | refine belowCall ?_ (by assumption)))⟩
          case measure => simp [Go.RowKit.intOf]; omega
        · obtain rfl : j = i := by omega
          go_wp2
          go_roundw
          case rel => exact ⟨j + 1, by omega, by go_num, by rw [HE1.out], hB⟩
          case measure => simp [Go.RowKit.intOf]; omega
    · obtain rfl : i = n := by omega
      go_wp2
      go_ret
      exact ⟨rfl, hB⟩
set_option maxRecDepth 100000 in
set_option maxHeartbeats 2000000 in
theorem pSqOf_any (a : Option Addr) (n c : Nat) (xs : List Int) (w : World) (h : Lst w a n xs) (hok : okMags xs = true) :
    Calls Try.prog 65 #[.slice a n c] w fun e w' => e = .returned (.int .i64 (psN xs n)) ∧ Below w.heap.size w w' := by
  have hn := okM_len hok h.1
  have hl : (n : Int) ≤ 100 := by omega
  have HMB := Lib.hid (okM_bd hok h.1)
  have HTR := Lib.hid (psN_tr xs n)
  have HTA : Hid (∀ k, xs[k]?.getD 0 = mgI xs k) := Lib.hid fun _ => rfl
  generalize psN xs n = PN at HTR ⊢
  generalize mgI xs = m at HMB HTA HTR
  clear hok
  have hs0 := SmC.fresh w 113 0 0 0
  have B1 : Below w.heap.size w (w.alloc (.cells #[.int .i64 0, .int .i64 0, .int .i64 0] 113)) := (Below.refl _ w).alloc (Nat.le_refl _) _
  go_enter Try.func65, Try.ntmps65
  go_wp2
  generalize w.alloc (.cells #[.int .i64 0, .int .i64 0, .int .i64 0] 113) = v at hs0 B1 ⊢
  go_loopw [8] (fun i wr => ∃ k : Nat, k ≤ n ∧ i = .int .i64 k ∧ SmC wr w.heap.size (k : Int) (bCS (fun _ => 0) m 0 k) (bCQ (fun _ => 0) m 0 k) ∧ Below w.heap.size w wr) (fun i _ => n - (Go.RowKit.intOf i).toNat)
  case atStart => exact ⟨0, Nat.zero_le _, rfl, hs0, B1⟩
  case round =>
    obtain ⟨k, hk, rfl, hS, hB⟩ := hrel
    clear hs0 B1
    have b1 := bCS_bd (B := fun _ => 0) (b := 0) HMB.out k hk
    have b2 := bCQ_bd (B := fun _ => 0) (b := 0) HMB.out k hk
    by_cases hlt : k < n
    · obtain ⟨ba, oa, rfl, hla, hca⟩ := h.2 k hlt
      rw [HTA.out] at hca
      have hx := HMB.out k hlt
      have q1 : wr.cell? ⟨ba, oa + k, none⟩ = some (.int .i64 (m k)) := by rw [hB.cell (p := ⟨ba, oa + k, none⟩) hla]; exact hca
      have HS1 : Hid (bCS (fun _ => 0) m 0 (k + 1) = bCS (fun _ => 0) m 0 k + m k) := Lib.hid (bCS_yes rfl)
      have HS2 : Hid (bCQ (fun _ => 0) m 0 (k + 1) = bCQ (fun _ => 0) m 0 k + m k * m k) := Lib.hid (bCQ_yes rfl)
      generalize bCS (fun _ => 0) m 0 k = S at b1 HS1 hS
      generalize bCQ (fun _ => 0) m 0 k = Q at b2 HS2 hS
      generalize m k = x at hx q1 HS1 HS2
      obtain ⟨hz, c0, c1, c2, f0, f1, f2⟩ := hS
      have hkk : (k : Int) < (n : Int) := by omega
      go_wp2_with fail
      refine (with_any (k : Int) S Q x _ (by omega) (by omega) (by omega) (by omega) (by omega) (by omega) (by omega) (by omega)).mono ?_
      rintro e w2 ⟨rfl, hb2⟩
      have hS2 := SmC.mono ⟨hz, c0, c1, c2, f0, f1, f2⟩ hb2
      have hB2 := belowCall hB hb2
      have hSP := Lib.hid (hS2.put ((k : Int) + 1) (S + x) (Q + x * x))
      obtain ⟨hz', c0', c1', c2', f0', f1', f2'⟩ := hS2
      clear c0 c1 c2 f0 f1 f2 q1
      go_wp2
      go_roundw
      case rel => exact ⟨k + 1, by omega, by go_num, by rw [HS1.out, HS2.out]; exact hSP.out, by (repeat (first | assumption | exact Below.refl _ _ | refine belowDN ?_ _ | refine Below.drew ?_ | refine Below.setCell ?_ (by first | omega | (simp <;> omega)) _ | refine Below.alloc ?_ (by first | omega | (simp <;> omega)) _ | refine belowCall ?_ (by assumption)))⟩
      case measure => simp [Go.RowKit.intOf]; omega
    · obtain rfl : k = n := by omega
      obtain ⟨hz, c0, c1, c2, f0, f1, f2⟩ := hS
      go_wp2_with fail
      refine (pSq_any (k : Int) _ _ _ (by omega) (by omega) (by omega) (by omega) (by omega) (by omega)).mono ?_
      rintro e w2 ⟨rfl, hb2⟩
      go_wp2
      go_ret
      exact ⟨by rw [HTR.out]; rfl, belowCall hB hb2⟩
theorem iPsq_any (a : Option Addr) (n c : Nat) (xs : List Int) (w : World) (h : Lst w a n xs) (hn : n ≤ 1048576) :
    Calls Try.prog 18 #[.slice a n c] w fun e w' => e = .returned (.tuple #[.int .i64 (psA xs), .int .i64 (psC xs)]) ∧ Below w.heap.size w w' := by
  cases hok : okMags xs
  · have HD := Lib.hid (ps_no hok)
    go_enter Try.func18, Try.ntmps18
    go_wp2_with fail
    refine (areMags_any a n c xs w h hn).mono ?_
    rintro e w2 ⟨rfl, b2⟩
    rw [hok]
    go_wp2
    go_ret2
    exact ⟨by rw [HD.out.1, HD.out.2]; rfl, b2⟩
  · have HD := Lib.hid (ps_yes h.1 hok)
    have HP := Lib.hid (fun (W : World) (hW : Lst W a n xs) => pSqOf_any a n c xs W hW hok)
    generalize psN xs n = P at HD HP
    go_enter Try.func18, Try.ntmps18
    go_wp2_with fail
    refine (areMags_any a n c xs w h hn).mono ?_
    rintro e w2 ⟨rfl, b2⟩
    rw [hok]
    go_wp2_with fail
    refine (HP.out _ (h.mono b2)).mono ?_
    rintro e w3 ⟨rfl, b3⟩
    go_wp2
    go_ret2
    exact ⟨by rw [HD.out.1, HD.out.2]; rfl, belowCall b2 b3⟩
theorem sPsq_any (a : Option Addr) (n c : Nat) (xs : List Int) (w : World) (h : Lst w a n xs) (hn : n ≤ 1048576) :
    Calls Try.prog 19 #[.slice a n c] w fun e w' => e = .returned (.tuple #[.int .i64 (psA xs), .int .i64 (psC xs)]) ∧ Below w.heap.size w w' := by
  cases hok : okMags xs
  · have HD := Lib.hid (ps_no hok)
    have HL : Hid (listCode xs = 2) := Lib.hid (by simp [listCode, hok])
    go_enter Try.func19, Try.ntmps19
    go_wp2_with fail
    refine (l02List_any a n c xs w h hn).mono ?_
    rintro e w2 ⟨rfl, b2⟩
    rw [HL.out]
    go_wp2
    go_ret2
    exact ⟨by rw [HD.out.1, HD.out.2]; rfl, b2⟩
  · have HD := Lib.hid (ps_yes h.1 hok)
    have HL : Hid (listCode xs = 0) := Lib.hid (by simp [listCode, hok])
    have HP := Lib.hid (fun (W : World) (hW : Lst W a n xs) => l11Sq_any a n c xs W hW hok)
    generalize psN xs n = P at HD HP
    go_enter Try.func19, Try.ntmps19
    go_wp2_with fail
    refine (l02List_any a n c xs w h hn).mono ?_
    rintro e w2 ⟨rfl, b2⟩
    rw [HL.out]
    go_wp2_with fail
    refine (HP.out _ (h.mono b2)).mono ?_
    rintro e w3 ⟨rfl, b3⟩
    go_wp2
    go_ret2
    exact ⟨by rw [HD.out.1, HD.out.2]; rfl, belowCall b2 b3⟩
end Go.Proofs.Ytcjipmpccmppiaa
