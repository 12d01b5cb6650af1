/- The kind of an extremum at a point, the model's; all of them. -/
import Derived.Test.YtcjipmpccmppiabEY
import Derived.Test.YtcjipmpccmppiabJ3
import Derived.Test.YtcjipmpccmppiabGI
import Derived.Deep.AppendLies
namespace Go.Proofs.Ytcjipmpccmppiab
open Go.ChangeShapes Go.WideShapes Go.ChangeAt Go.RowKit Go.Deep

/-- the u-th point around the i-th one lets it be bright, or faint -/
def okU (m : Nat → Int) (i s u : Nat) : Bool := decide (u = s) || (if u < s then decide (m i < m (i - s + u)) else decide (m i ≤ m (i - s + u)))
def okD (m : Nat → Int) (i s u : Nat) : Bool := decide (u = s) || (if u < s then decide (m (i - s + u) < m i) else decide (m (i - s + u) ≤ m i))
def brU (m : Nat → Int) (i s t : Nat) : Bool := (List.range t).all (okU m i s)
def brD (m : Nat → Int) (i s t : Nat) : Bool := (List.range t).all (okD m i s)
theorem brU_step (m : Nat → Int) (i s t : Nat) : brU m i s (t + 1) = (brU m i s t && okU m i s t) := by simp [brU, List.range_succ]
theorem brD_step (m : Nat → Int) (i s t : Nat) : brD m i s (t + 1) = (brD m i s t && okD m i s t) := by simp [brD, List.range_succ]
theorem kb_lt {x y : Int} : kb x y = 1 ↔ x < y := by
  unfold kb
  by_cases h : x < y
  · simp [h]
  · rw [if_neg h]; split <;> simp [h]
theorem kb_gt {x y : Int} : kb x y = 2 ↔ y < x := by
  unfold kb
  by_cases h : x < y
  · rw [if_pos h]; simp; omega
  · rw [if_neg h]; split <;> simp [*]
theorem kb_eq {x y : Int} : kb x y = 0 ↔ x = y := by
  unfold kb
  by_cases h : x < y
  · rw [if_pos h]; simp; omega
  · rw [if_neg h]; split <;> simp <;> omega
theorem brU_H {m : Nat → Int} {i s : Nat} (hs : s ≤ i) : brU m i s (2 * s + 1) = exH m i s 1 := by
  rw [Bool.eq_iff_iff, exH_iff]
  simp only [brU, List.all_eq_true, List.mem_range, okU, Bool.or_eq_true, decide_eq_true_eq]
  constructor
  · intro h
    refine ⟨fun j hj => ?_, fun j hj => ?_⟩
    · have := h j (by omega)
      rw [if_pos hj] at this
      rcases this with h1 | h1
      · omega
      · exact kb_lt.2 (by simpa using h1)
    · have := h (s + 1 + j) (by omega)
      rw [if_neg (by omega), show i - s + (s + 1 + j) = i + 1 + j by omega] at this
      rcases this with h1 | h1
      · omega
      · have h1' : m i ≤ m (i + 1 + j) := by simpa using h1
        by_cases e : m i = m (i + 1 + j)
        · exact .inr (kb_eq.2 e)
        · exact .inl (kb_lt.2 (by omega))
  · rintro ⟨h1, h2⟩ u hu
    by_cases e : u = s
    · exact .inl e
    · right
      by_cases hl : u < s
      · rw [if_pos hl]
        simpa using kb_lt.1 (h1 u hl)
      · rw [if_neg hl]
        have := h2 (u - s - 1) (by omega)
        rw [show i + 1 + (u - s - 1) = i - s + u by omega, kb_lt, kb_eq] at this
        simp; omega
theorem brD_H {m : Nat → Int} {i s : Nat} (hs : s ≤ i) : brD m i s (2 * s + 1) = exH m i s 2 := by
  rw [Bool.eq_iff_iff, exH_iff]
  simp only [brD, List.all_eq_true, List.mem_range, okD, Bool.or_eq_true, decide_eq_true_eq]
  constructor
  · intro h
    refine ⟨fun j hj => ?_, fun j hj => ?_⟩
    · have := h j (by omega)
      rw [if_pos hj] at this
      rcases this with h1 | h1
      · omega
      · exact kb_gt.2 (by simpa using h1)
    · have := h (s + 1 + j) (by omega)
      rw [if_neg (by omega), show i - s + (s + 1 + j) = i + 1 + j by omega] at this
      rcases this with h1 | h1
      · omega
      · have h1' : m (i + 1 + j) ≤ m i := by simpa using h1
        by_cases e : m i = m (i + 1 + j)
        · exact .inr (kb_eq.2 e)
        · exact .inl (kb_gt.2 (by omega))
  · rintro ⟨h1, h2⟩ u hu
    by_cases e : u = s
    · exact .inl e
    · right
      by_cases hl : u < s
      · rw [if_pos hl]
        simpa using kb_gt.1 (h1 u hl)
      · rw [if_neg hl]
        have := h2 (u - s - 1) (by omega)
        rw [show i + 1 + (u - s - 1) = i - s + u by omega, kb_gt, kb_eq] at this
        simp; omega
theorem exK_of {m : Nat → Int} {n s i : Nat} (h1 : s ≤ i) (h2 : i + s < n) (hs : 1 ≤ s) : exK m n s i = if brU m i s (2 * s + 1) && !brD m i s (2 * s + 1) then 1 else if brD m i s (2 * s + 1) && !brU m i s (2 * s + 1) then 2 else 0 := by
  rw [exK_in h1 h2, brU_H h1, brD_H h1]
  cases a : exH m i s 1
  · cases b : exH m i s 2 <;> simp
  · cases b : exH m i s 2
    · simp
    · have x := (exH_iff.1 a).1 0 (by omega)
      have y := (exH_iff.1 b).1 0 (by omega)
      rw [x] at y; cases y
set_option maxRecDepth 100000 in
set_option maxHeartbeats 4000000 in
theorem l12K_any (a : Option Addr) (n c : Nat) (xs : List Pt) (i s : Nat) (w : World) (h : PtL w a n xs) (hn : n ≤ 100) (hi : i < n) (hs1 : 1 ≤ s) (hs2 : s ≤ 10) :
    Calls Try.prog 105 #[.slice a n c, .int .i64 (i : Int), .int .i64 (s : Int)] w fun x w' => x = .returned (.int .i64 (exK (mgX xs) n s i)) ∧ Below w.heap.size w w' := by
  have hl : (n : Int) ≤ 100 := by omega
  have hsz : (s : Int) ≤ 10 := by omega
  have hiz : (i : Int) < (n : Int) := by omega
  by_cases h1 : i < s
  · have HD : Hid (exK (mgX xs) n s i = 0) := Lib.hid (by rw [exK, if_pos (.inl h1)])
    have h1z : (i : Int) < (s : Int) := by omega
    go_enter Try.func105, Try.ntmps105
    go_wp2
    go_ret
    exact ⟨by rw [HD.out]; rfl, Below.refl _ _⟩
  by_cases h2 : n ≤ i + s
  · have HD : Hid (exK (mgX xs) n s i = 0) := Lib.hid (by rw [exK, if_pos (.inr h2)])
    have h1z : ¬ (i : Int) < (s : Int) := by omega
    have h2z : (n : Int) ≤ (i : Int) + (s : Int) := by omega
    go_enter Try.func105, Try.ntmps105
    go_wp2
    go_ret
    exact ⟨by rw [HD.out]; rfl, Below.refl _ _⟩
  have HD := Lib.hid (exK_of (m := mgX xs) (n := n) (s := s) (i := i) (by omega) (by omega) hs1)
  have HU := Lib.hid (fun t => brU_step (mgX xs) i s t)
  have HV := Lib.hid (fun t => brD_step (mgX xs) i s t)
  have h1z : ¬ (i : Int) < (s : Int) := by omega
  have h2z : ¬ (n : Int) ≤ (i : Int) + (s : Int) := by omega
  obtain ⟨b1, o1, rfl, hI⟩ := h.2 i hi
  obtain ⟨⟨y0, y1⟩, hy⟩ : ∃ x, xs[i]?.getD pt0 = x := ⟨_, rfl⟩
  rw [hy] at hI
  have HMI : Hid (mgX xs i = y1) := Lib.hid (by rw [mgX, hy])
  generalize exK (mgX xs) n s i = EE at HD ⊢
  clear hy
  go_enter Try.func105, Try.ntmps105
  go_wp2
  go_loopw [7, 8, 9] (fun p q k wr => ∃ u : Nat, u ≤ 2 * s + 1 ∧ k = .int .i64 ((i - s + u : Nat) : Int) ∧ p = .bool (brU (mgX xs) i s u) ∧ q = .bool (brD (mgX xs) i s u) ∧ Below w.heap.size w wr) (fun _ _ k _ => i + s + 1 - (Go.RowKit.intOf k).toNat)
  case atStart => exact ⟨0, by omega, by congr 1; omega, rfl, rfl, Below.refl _ _⟩
  case round =>
    obtain ⟨u, hu, rfl, rfl, rfl, hB⟩ := hrel
    obtain ⟨kk, hkk⟩ : ∃ kk, i - s + u = kk := ⟨_, rfl⟩
    rw [hkk]
    by_cases hlt : u < 2 * s + 1
    · have hkn : kk < n := by omega
      have hle : (kk : Int) ≤ (i : Int) + (s : Int) := by omega
      have hnx : ((i - s + (u + 1) : Nat) : Int) = (kk : Int) + 1 := by omega
      have HNX := Lib.hid hnx
      have hms : i + s + 1 - (kk + 1) < i + s + 1 - kk := by omega
      have hkz : (kk : Int) < (n : Int) := by omega
      obtain ⟨-, r0, r1⟩ := (hI.mono hB).parts
      obtain ⟨b1', o1', he, hS⟩ := h.2 kk hkn
      cases he
      obtain ⟨⟨x0, x1⟩, hx⟩ : ∃ x, xs[kk]?.getD pt0 = x := ⟨_, rfl⟩
      rw [hx] at hS
      obtain ⟨-, p0, p1⟩ := (hS.mono hB).parts
      have HMK : Hid (mgX xs (i - s + u) = x1) := Lib.hid (by rw [hkk, mgX, hx])
      have hu1 := HU.out u
      have hv1 := HV.out u
      simp only [okU, okD, HMK.out, HMI.out] at hu1 hv1
      obtain ⟨bu, hbu⟩ : ∃ b, brU (mgX xs) i s u = b := ⟨_, rfl⟩
      obtain ⟨bd, hbd⟩ : ∃ b, brD (mgX xs) i s u = b := ⟨_, rfl⟩
      rw [hbu] at hu1 ⊢
      rw [hbd] at hv1 ⊢
      have hSS := hS
      clear hnx hx hS hbu hbd
      by_cases hus : u = s
      · have hki : kk = i := by omega
        have hkd : ((kk : Int) == (i : Int)) = true := by simp [hki]
        have HN1 : Hid (brU (mgX xs) i s (u + 1) = bu) := Lib.hid (by rw [hu1]; simp [hus])
        have HN2 : Hid (brD (mgX xs) i s (u + 1) = bd) := Lib.hid (by rw [hv1]; simp [hus])
        clear hu1 hv1 hki hkk hus
        go_wp2
        go_roundw
        case rel => exact ⟨u + 1, by omega, by rw [HNX.out], by rw [HN1.out], by rw [HN2.out], hB⟩
        case measure => simp [Go.RowKit.intOf]; omega
      · have hkd : ((kk : Int) == (i : Int)) = false := by simp; omega
        have hux : u < s ∨ s < u := by omega
        by_cases c1 : x1 < y1
        · rcases hux with hl | hl
          all_goals
            have a1 : decide (x1 < y1) = true := by simp; omega
            have a2 : (x1 == y1) = false := by simp; omega
            have a3 : decide (y1 < x1) = false := by simp; omega
            have HN1 : Hid (brU (mgX xs) i s (u + 1) = false) := Lib.hid (by rw [hu1]; (first | rw [if_pos (by omega)] | rw [if_neg (by omega)]); simp; omega)
            have HN2 : Hid (brD (mgX xs) i s (u + 1) = bd) := Lib.hid (by rw [hv1]; (first | rw [if_pos (by omega)] | rw [if_neg (by omega)]); simp; omega)
            clear hu1 hv1 hkk
            go_wp2
            go_big_quiet (fail)
            go_wp2
            have D1 : Below w.heap.size w (wr.drewN nq) := belowDN hB _
            obtain ⟨-, p0', p1'⟩ := (hSS.mono D1).parts
            obtain ⟨-, r0', r1'⟩ := (hI.mono D1).parts
            clear p0 p1 r0 r1
            generalize wr.drewN nq = w5 at D1 p0' p1' r0' r1' ⊢
            go_big_quiet (fail)
            go_wp2
            go_roundw
            case rel => exact ⟨u + 1, by omega, by rw [HNX.out], by rw [HN1.out], by rw [HN2.out], by (repeat (first | assumption | exact Below.refl _ _ | refine belowDN ?_ _ | refine Below.drew ?_ | refine Below.setCell ?_ (by first | omega | (simp <;> omega)) _ | refine Below.alloc ?_ (by first | omega | (simp <;> omega)) _ | refine belowCall ?_ (by assumption)))⟩
            case measure => simp [Go.RowKit.intOf]; omega
        by_cases c2 : y1 < x1
        · rcases hux with hl | hl
          all_goals
            have a1 : decide (x1 < y1) = false := by simp; omega
            have a2 : (x1 == y1) = false := by simp; omega
            have a3 : decide (y1 < x1) = true := by simp; omega
            have HN1 : Hid (brU (mgX xs) i s (u + 1) = bu) := Lib.hid (by rw [hu1]; (first | rw [if_pos (by omega)] | rw [if_neg (by omega)]); simp; omega)
            have HN2 : Hid (brD (mgX xs) i s (u + 1) = false) := Lib.hid (by rw [hv1]; (first | rw [if_pos (by omega)] | rw [if_neg (by omega)]); simp; omega)
            clear hu1 hv1 hkk
            go_wp2
            go_big_quiet (fail)
            go_wp2
            have D1 : Below w.heap.size w (wr.drewN nq) := belowDN hB _
            obtain ⟨-, p0', p1'⟩ := (hSS.mono D1).parts
            obtain ⟨-, r0', r1'⟩ := (hI.mono D1).parts
            clear p0 p1 r0 r1
            generalize wr.drewN nq = w5 at D1 p0' p1' r0' r1' ⊢
            go_big_quiet (fail)
            go_wp2
            go_roundw
            case rel => exact ⟨u + 1, by omega, by rw [HNX.out], by rw [HN1.out], by rw [HN2.out], by (repeat (first | assumption | exact Below.refl _ _ | refine belowDN ?_ _ | refine Below.drew ?_ | refine Below.setCell ?_ (by first | omega | (simp <;> omega)) _ | refine Below.alloc ?_ (by first | omega | (simp <;> omega)) _ | refine belowCall ?_ (by assumption)))⟩
            case measure => simp [Go.RowKit.intOf]; omega
        rcases hux with hl | hl
        · have a1 : decide (x1 < y1) = false := by simp; omega
          have a2 : (x1 == y1) = true := by simp; omega
          have a3 : decide (y1 < x1) = false := by simp; omega
          have a4 : decide ((kk : Int) < (i : Int)) = true := by simp; omega
          have a5 : decide (kk < i) = true := by simp; omega
          have HN1 : Hid (brU (mgX xs) i s (u + 1) = false) := Lib.hid (by rw [hu1]; (first | rw [if_pos (by omega)] | rw [if_neg (by omega)]); simp; omega)
          have HN2 : Hid (brD (mgX xs) i s (u + 1) = false) := Lib.hid (by rw [hv1]; (first | rw [if_pos (by omega)] | rw [if_neg (by omega)]); simp; omega)
          clear hu1 hv1 hkk
          go_wp2
          go_big_quiet (fail)
          go_wp2
          have D1 : Below w.heap.size w (wr.drewN nq) := belowDN hB _
          obtain ⟨-, p0', p1'⟩ := (hSS.mono D1).parts
          obtain ⟨-, r0', r1'⟩ := (hI.mono D1).parts
          clear p0 p1 r0 r1
          generalize wr.drewN nq = w5 at D1 p0' p1' r0' r1' ⊢
          go_big_quiet (fail)
          go_wp2
          go_roundw
          case rel => exact ⟨u + 1, by omega, by rw [HNX.out], by rw [HN1.out], by rw [HN2.out], by (repeat (first | assumption | exact Below.refl _ _ | refine belowDN ?_ _ | refine Below.drew ?_ | refine Below.setCell ?_ (by first | omega | (simp <;> omega)) _ | refine Below.alloc ?_ (by first | omega | (simp <;> omega)) _ | refine belowCall ?_ (by assumption)))⟩
          case measure => simp [Go.RowKit.intOf]; omega
        · have a1 : decide (x1 < y1) = false := by simp; omega
          have a2 : (x1 == y1) = true := by simp; omega
          have a3 : decide (y1 < x1) = false := by simp; omega
          have a4 : decide ((kk : Int) < (i : Int)) = false := by simp; omega
          have a5 : decide (kk < i) = false := by simp; omega
          have HN1 : Hid (brU (mgX xs) i s (u + 1) = bu) := Lib.hid (by rw [hu1]; (first | rw [if_pos (by omega)] | rw [if_neg (by omega)]); simp; omega)
          have HN2 : Hid (brD (mgX xs) i s (u + 1) = bd) := Lib.hid (by rw [hv1]; (first | rw [if_pos (by omega)] | rw [if_neg (by omega)]); simp; omega)
          clear hu1 hv1 hkk
          go_wp2
          go_big_quiet (fail)
          go_wp2
          have D1 : Below w.heap.size w (wr.drewN nq) := belowDN hB _
          obtain ⟨-, p0', p1'⟩ := (hSS.mono D1).parts
          obtain ⟨-, r0', r1'⟩ := (hI.mono D1).parts
          clear p0 p1 r0 r1
          generalize wr.drewN nq = w5 at D1 p0' p1' r0' r1' ⊢
          go_big_quiet (fail)
          go_wp2
          go_roundw
          case rel => exact ⟨u + 1, by omega, by rw [HNX.out], by rw [HN1.out], by rw [HN2.out], by (repeat (first | assumption | exact Below.refl _ _ | refine belowDN ?_ _ | refine Below.drew ?_ | refine Below.setCell ?_ (by first | omega | (simp <;> omega)) _ | refine Below.alloc ?_ (by first | omega | (simp <;> omega)) _ | refine belowCall ?_ (by assumption)))⟩
          case measure => simp [Go.RowKit.intOf]; omega
    · have hge : ¬ (kk : Int) ≤ (i : Int) + (s : Int) := by omega
      obtain rfl : u = 2 * s + 1 := by omega
      generalize brU (mgX xs) i s (2 * s + 1) = bu at HD ⊢
      generalize brD (mgX xs) i s (2 * s + 1) = bd at HD ⊢
      clear hkk hlt hu
      cases bu <;> cases bd
      all_goals
        have HE := Lib.hid HD.out
        go_wp2
        go_ret
        exact ⟨by rw [HE.out]; rfl, hB⟩
end Go.Proofs.Ytcjipmpccmppiab
