/- MagAt, both sides. -/
import Derived.Test.YtiogffjhhhpolaaJF
import Derived.Test.YtiogffjhhhpolaaB2M
namespace Go.Proofs.Ytiogffjhhhpolaa
open Go.ChangeShapes Go.WideShapes Go.ChangeAt Go.RowKit Go.Deep

/-- the magnitude at a time between two points -/
def btwP (x y : Pt) (t : Int) : Int := rnd (x.2 * (y.1 - t) + y.2 * (t - x.1)) (t - x.1 + (y.1 - t))
def maC (xs : List Pt) (t : Int) : Int := if okP xs then (if tmB t then (if exB xs t then 0 else if plc xs t = 0 ∨ plc xs t = xs.length then 3 else 0) else 2) else 1
def maA (xs : List Pt) (t : Int) : Int := if maC xs t = 0 then (if exB xs t then (xs[plc xs t]?.getD pt0).2 else btwP (xs[plc xs t - 1]?.getD pt0) (xs[plc xs t]?.getD pt0) t) else 0
theorem ma_1 {xs : List Pt} {t : Int} (h : okP xs = false) : maC xs t = 1 ∧ maA xs t = 0 := by simp [maA, maC, h]
theorem ma_2 {xs : List Pt} {t : Int} (h : okP xs = true) (h2 : tmB t = false) : maC xs t = 2 ∧ maA xs t = 0 := by simp [maA, maC, h, h2]
theorem ma_ex {xs : List Pt} {t : Int} {k : Nat} {x : Pt} (h : okP xs = true) (h2 : tmB t = true) (h3 : exB xs t = true) (hk : plc xs t = k) (hx : xs[k]?.getD pt0 = x) : maC xs t = 0 ∧ maA xs t = x.2 := by simp [maA, maC, h, h2, h3, hk, hx]
theorem ma_3 {xs : List Pt} {t : Int} {k n : Nat} (hn : xs.length = n) (h : okP xs = true) (h2 : tmB t = true) (h3 : exB xs t = false) (hk : plc xs t = k) (h4 : k = 0 ∨ k = n) : maC xs t = 3 ∧ maA xs t = 0 := by simp [maA, maC, h, h2, h3, hk, hn, h4]
theorem ma_0 {xs : List Pt} {t : Int} {k n : Nat} {x y : Pt} (hn : xs.length = n) (h : okP xs = true) (h2 : tmB t = true) (h3 : exB xs t = false) (hk : plc xs t = k) (h4 : ¬ (k = 0 ∨ k = n)) (hx : xs[k - 1]?.getD pt0 = x) (hy : xs[k]?.getD pt0 = y) : maC xs t = 0 ∧ maA xs t = btwP x y t := by simp [maA, maC, h, h2, h3, hk, hn, h4, hx, hy]
theorem btw_model {x0 x1 y0 y1 t : Int} : rnd (x1 * (y0 - x0) + (y1 - x1) * (t - x0)) (y0 - x0) = btwP (x0, x1) (y0, y1) t := by
  unfold btwP
  have e1 : x1 * (y0 - t) + y1 * (t - x0) = x1 * (y0 - x0) + (y1 - x1) * (t - x0) := by grind
  have e2 : t - x0 + (y0 - t) = y0 - x0 := by omega
  simp only [e1, e2]
set_option maxRecDepth 100000 in
set_option maxHeartbeats 4000000 in
theorem iMagAt_any (a : Option Addr) (n c : Nat) (xs : List Pt) (t : Int) (w : World) (h : PtL w a n xs) (hn : n ≤ 1048576) :
    Calls Try.prog 28 #[.slice a n c, .int .i64 t] w fun e w' => e = .returned (.tuple #[.int .i64 (maA xs t), .int .i64 (maC xs t)]) ∧ Below w.heap.size w w' := by
  cases hok : okP xs
  · have HA := Lib.hid (ma_1 (t := t) hok)
    go_enter Try.func28, Try.ntmps28
    go_wp2_with fail
    refine (iValidCv_any a n c xs w h hn).mono ?_
    rintro e w2 ⟨rfl, b2⟩
    rw [hok]
    go_wp2
    go_ret2
    exact ⟨by rw [HA.out.1, HA.out.2]; rfl, b2⟩
  cases htm : tmB t
  · have HA := Lib.hid (ma_2 hok htm)
    go_enter Try.func28, Try.ntmps28
    go_wp2_with fail
    refine (iValidCv_any a n c xs w h hn).mono ?_
    rintro e w2 ⟨rfl, b2⟩
    rw [hok]
    go_wp2_with (go_at_call 67; refine (iTm_any _ _).mono ?_; rintro e w' ⟨rfl, rfl⟩; rw [htm])
    go_ret2
    exact ⟨by rw [HA.out.1, HA.out.2]; rfl, b2⟩
  obtain ⟨h100, hbd, -⟩ := okP_num h.1 hok
  have HSB := Lib.hid (SB.of_ok hok)
  have hmono : Hid (∀ a b, a ≤ b → b < n → (xs[a]?.getD pt0).1 ≤ (xs[b]?.getD pt0).1) := Lib.hid fun a b h1 h2 => HSB.out.2 a b h1 (by rw [h.1]; exact h2)
  obtain ⟨hk1, hk2, hk3⟩ := plc_at h.1 t
  have ht : 0 ≤ t ∧ t ≤ 10000000 := by simpa [tmB, inB_iff] using htm
  have HEX := Lib.hid (fun (k : Nat) (x : Pt) (e1 : exB xs t = true) (e2 : plc xs t = k) (e3 : xs[k]?.getD pt0 = x) => ma_ex hok htm e1 e2 e3)
  have H3 := Lib.hid (fun (k : Nat) (e1 : exB xs t = false) (e2 : plc xs t = k) (e3 : k = 0 ∨ k = n) => ma_3 h.1 hok htm e1 e2 e3)
  have H0 := Lib.hid (fun (k : Nat) (x y : Pt) (e1 : exB xs t = false) (e2 : plc xs t = k) (e3 : ¬ (k = 0 ∨ k = n)) (e4 : xs[k - 1]?.getD pt0 = x) (e5 : xs[k]?.getD pt0 = y) => ma_0 h.1 hok htm e1 e2 e3 e4 e5)
  have hxb : exB xs t = true → plc xs t < n := fun e => by simp only [exB, Bool.and_eq_true, decide_eq_true_eq] at e; rw [← h.1]; exact e.1
  have hl : (n : Int) ≤ 100 := by omega
  have HK2 := Lib.hid hk2
  have HK3 := Lib.hid hk3
  have HBD := Lib.hid hbd
  clear hbd hk2 hk3
  obtain ⟨k, hk⟩ : ∃ k, plc xs t = k := ⟨_, rfl⟩
  have HK := Lib.hid hk
  rw [hk] at hk1 hxb HK2 HK3
  cases hex : exB xs t
  rotate_left
  · have hkn := hxb hex
    obtain ⟨b1, o1, rfl, hc⟩ := h.2 k hkn
    obtain ⟨⟨x0, x1⟩, hx⟩ : ∃ x, xs[k]?.getD pt0 = x := ⟨_, rfl⟩
    have HA := Lib.hid (HEX.out k _ hex hk hx)
    rw [hx] at hc
    have hkk : (k : Int) < (n : Int) := by omega
    have HE := Lib.hid hex
    clear hx hk hxb hex HEX H3 H0
    go_enter Try.func28, Try.ntmps28
    go_wp2_with fail
    refine (iValidCv_any _ n c xs w h hn).mono ?_
    rintro e w2 ⟨rfl, b2⟩
    rw [hok]
    clear hok
    go_wp2_with (go_at_call 67; refine (iTm_any _ _).mono ?_; rintro e w' ⟨rfl, rfl⟩; rw [htm])
    refine (bsP_any _ n c xs t 0 w2 (h.mono b2) h100 hmono.out).mono ?_
    rintro e w3 ⟨rfl, b3⟩
    rw [HK.out, HE.out]
    have B3 := belowCall b2 b3
    obtain ⟨-, p0, p1⟩ := (hc.mono B3).parts
    go_wp2
    go_ret2
    exact ⟨by rw [HA.out.1, HA.out.2]; rfl, B3⟩
  by_cases h03 : k = 0 ∨ k = n
  · have HA := Lib.hid (H3.out k hex hk h03)
    have HE := Lib.hid hex
    have hkk : k = 0 ∨ (¬ k = 0 ∧ k = n) := by omega
    clear hk hxb hex HEX H3 H0 h03
    rcases hkk with rfl | ⟨hk0, rfl⟩
    · go_enter Try.func28, Try.ntmps28
      go_wp2_with fail
      refine (iValidCv_any _ n c xs w h hn).mono ?_
      rintro e w2 ⟨rfl, b2⟩
      rw [hok]
      clear hok
      go_wp2_with (go_at_call 67; refine (iTm_any _ _).mono ?_; rintro e w' ⟨rfl, rfl⟩; rw [htm])
      refine (bsP_any _ n c xs t 0 w2 (h.mono b2) h100 hmono.out).mono ?_
      rintro e w3 ⟨rfl, b3⟩
      rw [HK.out, HE.out]
      have B3 := belowCall b2 b3
      go_wp2
      go_ret2
      exact ⟨by rw [HA.out.1, HA.out.2]; rfl, B3⟩
    · have hkz : ((k : Int) == 0) = false := by simp; omega
      go_enter Try.func28, Try.ntmps28
      go_wp2_with fail
      refine (iValidCv_any _ k c xs w h hn).mono ?_
      rintro e w2 ⟨rfl, b2⟩
      rw [hok]
      clear hok
      go_wp2_with (go_at_call 67; refine (iTm_any _ _).mono ?_; rintro e w' ⟨rfl, rfl⟩; rw [htm])
      refine (bsP_any _ k c xs t 0 w2 (h.mono b2) h100 hmono.out).mono ?_
      rintro e w3 ⟨rfl, b3⟩
      rw [HK.out, HE.out]
      have B3 := belowCall b2 b3
      go_wp2
      go_ret2
      exact ⟨by rw [HA.out.1, HA.out.2]; rfl, B3⟩
  · have hkn : k < n := by omega
    obtain ⟨k', rfl⟩ : ∃ k', k = k' + 1 := ⟨k - 1, by omega⟩
    obtain ⟨b1, o1, rfl, hc⟩ := h.2 (k' + 1) hkn
    obtain ⟨b1', o1', he, hd⟩ := h.2 k' (by omega)
    cases he
    obtain ⟨⟨y0, y1⟩, hy⟩ : ∃ x, xs[k' + 1]?.getD pt0 = x := ⟨_, rfl⟩
    obtain ⟨⟨x0, x1⟩, hx⟩ : ∃ x, xs[k']?.getD pt0 = x := ⟨_, rfl⟩
    have HA := Lib.hid (H0.out (k' + 1) _ _ hex hk h03 hx hy)
    have hb1 := HBD.out (k' + 1) hkn
    have hb2 := HBD.out k' (by omega)
    have hlt1 := HK2.out k' (by omega)
    have hlt2 : t ≤ (xs[k' + 1]?.getD pt0).1 := by rcases HK3.out with h | h; omega; exact h
    rw [hy] at hc hb1 hlt2
    rw [hx] at hd hb2 hlt1
    have m1 := absMul (a := x1) (b := y0 - t) (A := 20000) (B := 10000000) (by omega) (by omega) (by omega) (by omega)
    have m2 := absMul (a := y1) (b := t - x0) (A := 20000) (B := 10000000) (by omega) (by omega) (by omega) (by omega)
    have hkk : (k' : Int) + 1 < (n : Int) := by omega
    have hki : (k' : Int) < (n : Int) := by omega
    have hkz : ((k' : Int) + 1 == 0) = false := by simp; omega
    have hkz2 : ((k' : Int) + 1 == (n : Int)) = false := by simp; omega
    have HE := Lib.hid hex
    clear hx hy hk hxb hex HEX H3 H0 h03
    go_enter Try.func28, Try.ntmps28
    go_wp2_with fail
    refine (iValidCv_any _ n c xs w h hn).mono ?_
    rintro e w2 ⟨rfl, b2⟩
    rw [hok]
    clear hok
    go_wp2_with (go_at_call 67; refine (iTm_any _ _).mono ?_; rintro e w' ⟨rfl, rfl⟩; rw [htm])
    refine (bsP_any _ n c xs t 0 w2 (h.mono b2) h100 hmono.out).mono ?_
    rintro e w3 ⟨rfl, b3⟩
    rw [HK.out, HE.out]
    have B3 := belowCall b2 b3
    obtain ⟨hq, p0, p1⟩ := (hc.mono B3).parts
    obtain ⟨-, q0, q1⟩ := (hd.mono B3).parts
    go_wp2_with fail
    go_region
    all_goals
      go_wp2_with fail
      refine (magBetw_any x1 y1 (t - x0) (y0 - t) _ (by omega) (by omega) (by omega) (by omega) (by omega) (by omega)).mono ?_
      rintro e w5 ⟨rfl, b5⟩
      go_wp2
      go_ret2
      exact ⟨by rw [HA.out.1, HA.out.2]; rfl, belowCall B3 (by (repeat (first | assumption | exact Below.refl _ _ | refine belowDN ?_ _ | refine Below.drew ?_ | refine Below.setCell ?_ (by first | omega | (simp <;> omega)) _ | refine Below.alloc ?_ (by first | omega | (simp <;> omega)) _ | refine belowCall ?_ (by assumption))))⟩
theorem exB_yes {xs : List Pt} {t : Int} {n k : Nat} {x : Pt} (hn : xs.length = n) (hk : plc xs t = k) (hkn : k < n) (hx : xs[k]?.getD pt0 = x) (h : x.1 = t) : exB xs t = true := by
  rw [exB, hk, hn, hx]
  simp [hkn, h]
theorem exB_not {xs : List Pt} {t : Int} {k : Nat} {x : Pt} (hk : plc xs t = k) (hx : xs[k]?.getD pt0 = x) (h : x.1 ≠ t) : exB xs t = false := by
  rw [exB, hk, hx]
  simp [h]
theorem exB_end {xs : List Pt} {t : Int} {n : Nat} (hn : xs.length = n) (hk : plc xs t = n) : exB xs t = false := by
  rw [exB, hk, hn]
  simp
def l8B (xs : List Pt) (t : Int) : Bool := exB xs t || !(decide (plc xs t = 0) || decide (plc xs t = xs.length))
def l8A (xs : List Pt) (t : Int) : Int := if l8B xs t then (if exB xs t then (xs[plc xs t]?.getD pt0).2 else btwP (xs[plc xs t - 1]?.getD pt0) (xs[plc xs t]?.getD pt0) t) else 0
theorem l8_ex {xs : List Pt} {t : Int} {k : Nat} {x : Pt} (h3 : exB xs t = true) (hk : plc xs t = k) (hx : xs[k]?.getD pt0 = x) : l8B xs t = true ∧ l8A xs t = x.2 := by simp [l8A, l8B, h3, hk, hx]
theorem l8_no {xs : List Pt} {t : Int} {k n : Nat} (hn : xs.length = n) (h3 : exB xs t = false) (hk : plc xs t = k) (h4 : k = 0 ∨ k = n) : l8B xs t = false ∧ l8A xs t = 0 := by
  have : l8B xs t = false := by
    rw [l8B, h3, hk, hn]
    rcases h4 with h4 | h4 <;> simp [h4]
  simp [l8A, this]
theorem l8_in {xs : List Pt} {t : Int} {k n : Nat} {x y : Pt} (hn : xs.length = n) (h3 : exB xs t = false) (hk : plc xs t = k) (h4 : ¬ (k = 0 ∨ k = n)) (hx : xs[k - 1]?.getD pt0 = x) (hy : xs[k]?.getD pt0 = y) : l8B xs t = true ∧ l8A xs t = btwP x y t := by
  have : l8B xs t = true := by
    rw [l8B, h3, hk, hn]
    simp
    omega
  simp [l8A, this, h3, hk, hx, hy]
theorem ma_l8 {xs : List Pt} {t : Int} (h : okP xs = true) (h2 : tmB t = true) : (l8B xs t = true → maC xs t = 0 ∧ maA xs t = l8A xs t) ∧ (l8B xs t = false → maC xs t = 3 ∧ maA xs t = 0) := by
  unfold l8A maA maC l8B
  simp only [h, h2, if_true]
  cases exB xs t
  · by_cases e0 : plc xs t = 0
    · simp [e0]
    · by_cases e1 : plc xs t = xs.length
      · have e2 : ¬ xs.length = 0 := by omega
        simp [e1]
      · simp [e0, e1]
  · simp
set_option maxRecDepth 100000 in
set_option maxHeartbeats 4000000 in
theorem l08At_any (a : Option Addr) (n c : Nat) (xs : List Pt) (t : Int) (w : World) (h : PtL w a n xs) (hok : okP xs = true) (ht : 0 ≤ t ∧ t ≤ 10000000) :
    Calls Try.prog 92 #[.slice a n c, .int .i64 t] w fun e w' => e = .returned (.tuple #[.int .i64 (l8A xs t), .bool (l8B xs t)]) ∧ Below w.heap.size w w' := by
  obtain ⟨h100, hbd, -⟩ := okP_num h.1 hok
  have HL := Lib.hid h.1
  have HBD := Lib.hid hbd
  have hl : (n : Int) ≤ 100 := by omega
  clear hbd hok
  go_enter Try.func92, Try.ntmps92
  go_wp2
  go_loopw [6] (fun i wr => ∃ k : Nat, k ≤ n ∧ i = .int .i64 k ∧ (∀ j, j < k → (xs[j]?.getD pt0).1 < t) ∧ Below w.heap.size w wr) (fun i _ => n - (Go.RowKit.intOf i).toNat)
  case atStart => exact ⟨0, Nat.zero_le _, rfl, fun j hj => absurd hj (by omega), Below.refl _ _⟩
  case round =>
    obtain ⟨k, hk, rfl, hall, hB⟩ := hrel
    have HALL := Lib.hid hall
    clear hall
    have hsz := hB.size
    by_cases hlt : k < n
    · obtain ⟨b1, o1, rfl, hc⟩ := h.2 k hlt
      obtain ⟨⟨y0, y1⟩, hy⟩ : ∃ x, xs[k]?.getD pt0 = x := ⟨_, rfl⟩
      have hb1 := HBD.out k hlt
      rw [hy] at hc hb1
      obtain ⟨hq, p0, p1⟩ := (hc.mono hB).parts
      have hkk : (k : Int) < (n : Int) := by omega
      have HY := Lib.hid hy
      clear hy
      by_cases heq : y0 = t
      · have hpl := plc_is HL.out hk HALL.out (.inr (by rw [HY.out]; exact Int.le_of_eq heq.symm))
        have HA := Lib.hid (l8_ex (exB_yes HL.out hpl hlt HY.out heq) hpl HY.out)
        have hbe : (y0 == t) = true := by simp [heq]
        clear heq hpl
        go_wp2
        go_ret2
        exact ⟨by rw [HA.out.1, HA.out.2]; rfl, by (repeat (first | assumption | exact Below.refl _ _ | refine belowDN ?_ _ | refine Below.drew ?_ | refine Below.setCell ?_ (by first | omega | (simp <;> omega)) _ | refine Below.alloc ?_ (by first | omega | (simp <;> omega)) _ | refine belowCall ?_ (by assumption)))⟩
      have hbe : (y0 == t) = false := by simp [heq]
      by_cases hgt : t < y0
      · have hpl := plc_is HL.out hk HALL.out (.inr (by rw [HY.out]; exact Int.le_of_lt hgt))
        have hex := exB_not hpl HY.out heq
        by_cases hk0 : k = 0
        · have HA := Lib.hid (l8_no HL.out hex hpl (.inl hk0))
          subst hk0
          simp only [Nat.zero_mul, Nat.add_zero] at p0 p1
          clear heq hpl hex
          go_wp2
          go_ret2
          exact ⟨by rw [HA.out.1, HA.out.2]; rfl, by (repeat (first | assumption | exact Below.refl _ _ | refine belowDN ?_ _ | refine Below.drew ?_ | refine Below.setCell ?_ (by first | omega | (simp <;> omega)) _ | refine Below.alloc ?_ (by first | omega | (simp <;> omega)) _ | refine belowCall ?_ (by assumption)))⟩
        · obtain ⟨k', rfl⟩ : ∃ k', k = k' + 1 := ⟨k - 1, by omega⟩
          obtain ⟨b1', o1', he, hd⟩ := h.2 k' (by omega)
          cases he
          obtain ⟨⟨x0, x1⟩, hx⟩ : ∃ x, xs[k']?.getD pt0 = x := ⟨_, rfl⟩
          have hb2 := HBD.out k' (by omega)
          have hlo := HALL.out k' (by omega)
          have HA := Lib.hid (l8_in HL.out hex hpl (by omega) hx HY.out)
          have HBM := Lib.hid (btw_model (x0 := x0) (x1 := x1) (y0 := y0) (y1 := y1) (t := t))
          rw [hx] at hd hb2 hlo
          obtain ⟨-, q0, q1⟩ := (hd.mono hB).parts
          have m1 := absMul (a := x1) (b := y0 - x0) (A := 20000) (B := 10000000) (by omega) (by omega) (by omega) (by omega)
          have m2 := absMul (a := y1 - x1) (b := t - x0) (A := 22000) (B := 10000000) (by omega) (by omega) (by omega) (by omega)
          have hki : (k' : Int) < (n : Int) := by omega
          have hkz : ((k' : Int) + 1 == 0) = false := by simp; omega
          have hlo' : x0 < t := hlo
          clear heq hpl hex hx hk0 hlo
          go_wp2_with fail
          refine (l02Round_any (x1 * (y0 - x0) + (y1 - x1) * (t - x0)) (y0 - x0) _ (by omega) (by omega) (by omega) (by omega)).mono ?_
          rintro e w' ⟨rfl, rfl⟩
          go_wp2
          exact bodyPost_ret (v := .tuple #[.int .i64 (rnd (x1 * (y0 - x0) + (y1 - x1) * (t - x0)) (y0 - x0)), .bool true]) (by simp [results, Try.results92, go_sem]) rfl ⟨by rw [HA.out.1, HA.out.2, ← HBM.out], by (repeat (first | assumption | exact Below.refl _ _ | refine belowDN ?_ _ | refine Below.drew ?_ | refine Below.setCell ?_ (by first | omega | (simp <;> omega)) _ | refine Below.alloc ?_ (by first | omega | (simp <;> omega)) _ | refine belowCall ?_ (by assumption)))⟩
      · have HN : Hid (∀ j, j < k + 1 → (xs[j]?.getD pt0).1 < t) := Lib.hid fun j hj => by
          by_cases e : j = k
          · subst e
            rw [HY.out]
            show y0 < t
            omega
          · exact HALL.out j (by omega)
        have hng : ¬ t < y0 := hgt
        clear heq
        go_wp2
        go_roundw
        case rel => exact ⟨k + 1, by omega, by go_num, HN.out, by (repeat (first | assumption | exact Below.refl _ _ | refine belowDN ?_ _ | refine Below.drew ?_ | refine Below.setCell ?_ (by first | omega | (simp <;> omega)) _ | refine Below.alloc ?_ (by first | omega | (simp <;> omega)) _ | refine belowCall ?_ (by assumption)))⟩
        case measure => simp [Go.RowKit.intOf]; omega
    · obtain rfl : k = n := by omega
      have hpl := plc_is HL.out hk HALL.out (.inl rfl)
      have HA := Lib.hid (l8_no HL.out (exB_end HL.out hpl) hpl (.inr rfl))
      clear hpl
      go_wp2
      go_ret2
      exact ⟨by rw [HA.out.1, HA.out.2]; rfl, hB⟩
set_option maxRecDepth 100000 in
set_option maxHeartbeats 2000000 in
theorem sMagAt_any (a : Option Addr) (n c : Nat) (xs : List Pt) (t : Int) (w : World) (h : PtL w a n xs) (hn : n ≤ 1048576) :
    Calls Try.prog 46 #[.slice a n c, .int .i64 t] w fun e w' => e = .returned (.tuple #[.int .i64 (maA xs t), .int .i64 (maC xs t)]) ∧ Below w.heap.size w w' := by
  cases hok : okP xs
  · have HA := Lib.hid (ma_1 (t := t) hok)
    go_enter Try.func46, Try.ntmps46
    go_wp2_with fail
    refine (l08Ok_below a n c xs w h hn).mono ?_
    rintro e w2 ⟨rfl, b2⟩
    rw [hok]
    go_wp2
    go_ret2
    exact ⟨by rw [HA.out.1, HA.out.2]; rfl, b2⟩
  cases htm : tmB t
  · have HA := Lib.hid (ma_2 hok htm)
    go_enter Try.func46, Try.ntmps46
    go_wp2_with fail
    refine (l08Ok_below a n c xs w h hn).mono ?_
    rintro e w2 ⟨rfl, b2⟩
    rw [hok]
    go_wp2_with (go_at_call 91; refine (l06Time_any _ _).mono ?_; rintro e w' ⟨rfl, rfl⟩; rw [htm])
    go_ret2
    exact ⟨by rw [HA.out.1, HA.out.2]; rfl, b2⟩
  have ht : 0 ≤ t ∧ t ≤ 10000000 := by simpa [tmB, inB_iff] using htm
  obtain ⟨hy, hn8⟩ := ma_l8 hok htm
  have HY := Lib.hid hy
  have HN := Lib.hid hn8
  clear hy hn8
  go_enter Try.func46, Try.ntmps46
  go_wp2_with fail
  refine (l08Ok_below a n c xs w h hn).mono ?_
  rintro e w2 ⟨rfl, b2⟩
  rw [hok]
  go_wp2_with (go_at_call 91; refine (l06Time_any _ _).mono ?_; rintro e w' ⟨rfl, rfl⟩; rw [htm])
  refine (l08At_any a n c xs t w2 (h.mono b2) hok ht).mono ?_
  rintro e w3 ⟨rfl, b3⟩
  cases hb : l8B xs t
  · have HA := Lib.hid (HN.out hb)
    clear hb hok
    go_wp2
    go_ret2
    exact ⟨by rw [HA.out.1, HA.out.2]; rfl, belowCall b2 b3⟩
  · have HA := Lib.hid (HY.out hb)
    clear hb hok
    go_wp2
    go_ret2
    exact ⟨by rw [HA.out.1, HA.out.2]; rfl, belowCall b2 b3⟩
end Go.Proofs.Ytiogffjhhhpolaa
