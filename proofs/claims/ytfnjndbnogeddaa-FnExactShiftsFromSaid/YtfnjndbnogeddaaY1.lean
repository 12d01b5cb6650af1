/- ValidCommons, both sides. -/
import Derived.Test.YtfnjndbnogeddaaO1
import Derived.Test.YtfnjndbnogeddaaGCm3
import Derived.Test.YtfnjndbnogeddaaQR
import Derived.Deep.RegionHeld3
import Derived.WalkLawsBesides
namespace Go.Proofs.Ytfnjndbnogeddaa
open Go.ChangeShapes Go.WideShapes Go.ChangeAt Go.RowKit Go.Deep

/-- a common estimate of two of c observers -/
def cmB (c : Int) (x : Cm) : Bool := inB x.1 0 (c - 1) && inB x.2.1 0 (c - 1) && (x.1 != x.2.1) && inB x.2.2 (-2000) 2000
def cmsB (c : Int) (xs : List Cm) : Bool := inB c 1 40 && decide (xs.length ≤ 60) && xs.all (cmB c)
def cmF (c : Int) (xs : List Cm) (k : Nat) : Bool := cmB c (xs[k]?.getD cm0)
theorem all_cm {c : Int} {xs : List Cm} {n : Nat} (hn : xs.length = n) (h : ∀ j, j < n → cmF c xs j = true) : xs.all (cmB c) = true := by
  rw [List.all_eq_true]
  intro x hx
  obtain ⟨j, hj, rfl⟩ := List.getElem_of_mem hx
  have := h j (by omega)
  simpa [cmF, hj] using this
theorem not_all_cm {c : Int} {xs : List Cm} {n k : Nat} (hn : xs.length = n) (hk : k < n) (h : cmF c xs k = false) : xs.all (cmB c) = false := by
  rw [List.all_eq_false]
  refine ⟨xs[k]'(by omega), List.getElem_mem _, ?_⟩
  have hk' : k < xs.length := by omega
  simpa [cmF, hk'] using h
theorem cmF_of {c : Int} {xs : List Cm} {k : Nat} {x : Cm} {b : Bool} (hx : xs[k]?.getD cm0 = x) (h : cmB c x = b) : cmF c xs k = b := by rw [cmF, hx, h]
theorem cmF_next {c : Int} {xs : List Cm} {k : Nat} (h : ∀ j, j < k → cmF c xs j = true) (hk : cmF c xs k = true) : ∀ j, j < k + 1 → cmF c xs j = true := fun j hj => by
  by_cases e : j = k
  · subst e; exact hk
  · exact h j (by omega)
theorem isObs_any (c n : Int) (w : World) (h1 : 1 ≤ c) (h2 : c ≤ 41) :
    Calls Try.prog 64 #[.int .i64 c, .int .i64 n] w fun e w' => e = .returned (.bool (inB n 0 (c - 1))) ∧ w = w' := by
  go_enter Try.func64, Try.ntmps64
  go_wp2_with (go_at_call 73; refine (inRange_any _ _ _ _).mono ?_; rintro e w' ⟨rfl, rfl⟩)
  go_ret
  exact ⟨rfl, rfl⟩
theorem cmValid_any (c a b d : Int) (w : World) (hc1 : 1 ≤ c) (hc2 : c ≤ 41) :
    Calls Try.prog 82 #[.agg #[.int .i64 a, .int .i64 b, .int .i64 d], .int .i64 c] w fun e w' => e = .returned (.bool (cmB c (a, b, d))) ∧ Below w.heap.size w w' := by
  cases h1 : inB a 0 (c - 1)
  · (go_enter Try.func82, Try.ntmps82; go_wp2_with (first | (go_at_call 64; refine (isObs_any _ _ _ (by omega) (by omega)).mono ?_; rintro e w' ⟨rfl, rfl⟩) | (go_at_call 96; refine (isShift_any _ _).mono ?_; rintro e w' ⟨rfl, rfl⟩)); go_ret; exact ⟨by simp [cmB, *], by (repeat (first | assumption | exact Below.refl _ _ | refine belowDN ?_ _ | refine Below.drew ?_ | refine Below.setCell ?_ (by first | omega | (simp <;> omega)) _ | refine Below.alloc ?_ (by first | omega | (simp <;> omega)) _ | refine belowCall ?_ (by assumption)))⟩)
  cases h2 : inB b 0 (c - 1)
  · (go_enter Try.func82, Try.ntmps82; go_wp2_with (first | (go_at_call 64; refine (isObs_any _ _ _ (by omega) (by omega)).mono ?_; rintro e w' ⟨rfl, rfl⟩) | (go_at_call 96; refine (isShift_any _ _).mono ?_; rintro e w' ⟨rfl, rfl⟩)); go_ret; exact ⟨by simp [cmB, *], by (repeat (first | assumption | exact Below.refl _ _ | refine belowDN ?_ _ | refine Below.drew ?_ | refine Below.setCell ?_ (by first | omega | (simp <;> omega)) _ | refine Below.alloc ?_ (by first | omega | (simp <;> omega)) _ | refine belowCall ?_ (by assumption)))⟩)
  cases h3 : (a != b)
  · (go_enter Try.func82, Try.ntmps82; go_wp2_with (first | (go_at_call 64; refine (isObs_any _ _ _ (by omega) (by omega)).mono ?_; rintro e w' ⟨rfl, rfl⟩) | (go_at_call 96; refine (isShift_any _ _).mono ?_; rintro e w' ⟨rfl, rfl⟩)); go_ret; exact ⟨by simp [cmB, *], by (repeat (first | assumption | exact Below.refl _ _ | refine belowDN ?_ _ | refine Below.drew ?_ | refine Below.setCell ?_ (by first | omega | (simp <;> omega)) _ | refine Below.alloc ?_ (by first | omega | (simp <;> omega)) _ | refine belowCall ?_ (by assumption)))⟩)
  · (go_enter Try.func82, Try.ntmps82; go_wp2_with (first | (go_at_call 64; refine (isObs_any _ _ _ (by omega) (by omega)).mono ?_; rintro e w' ⟨rfl, rfl⟩) | (go_at_call 96; refine (isShift_any _ _).mono ?_; rintro e w' ⟨rfl, rfl⟩)); go_ret; exact ⟨by simp [cmB, *], by (repeat (first | assumption | exact Below.refl _ _ | refine belowDN ?_ _ | refine Below.drew ?_ | refine Below.setCell ?_ (by first | omega | (simp <;> omega)) _ | refine Below.alloc ?_ (by first | omega | (simp <;> omega)) _ | refine belowCall ?_ (by assumption)))⟩)
theorem cmClos_any (B : Nat) (c a b d : Int) (w : World) (hm : w.cell? ⟨B, 0, none⟩ = some (.int .i64 c)) (hc1 : 1 ≤ c) (hc2 : c ≤ 41) :
    Calls Try.prog 81 #[.agg #[.int .i64 a, .int .i64 b, .int .i64 d], .pointer (some ⟨B, 0, none⟩)] w fun e w' => e = .returned (.bool (!cmB c (a, b, d))) ∧ Below w.heap.size w w' := by
  have hlt := World.block_lt_of_cell? w _ hm
  go_enter Try.func81, Try.ntmps81
  go_wp2_with (go_at_call 82; refine (cmValid_any _ _ _ _ _ hc1 hc2).mono ?_; rintro e w' ⟨rfl, hbel⟩; obtain ⟨hc, hf⟩ := bcell hbel; have hz := hbel.size; (try simp at hz); (try simp only [Nat.add_one_le_iff] at hz); (try (have hzw : w.heap.size < w'.heap.size := by omega)))
  go_ret
  exact ⟨rfl, by (repeat (first | assumption | exact Below.refl _ _ | refine belowDN ?_ _ | refine Below.drew ?_ | refine Below.setCell ?_ (by first | omega | (simp <;> omega)) _ | refine Below.alloc ?_ (by first | omega | (simp <;> omega)) _ | refine belowCall ?_ (by assumption)))⟩
def IdxP (c : Int) (xs : List Cm) (w : World) (e : Ending) (w' : World) : Prop := ∃ r : Int, e = .returned (.int .i64 r) ∧ decide (0 ≤ r) = (!xs.all (cmB c)) ∧ Below w.heap.size w w'
set_option maxRecDepth 100000 in
set_option maxHeartbeats 1000000 in
theorem idxCm_any (a : Option Addr) (n cap B : Nat) (c : Int) (xs : List Cm) (w : World) (h : CmL w a n xs) (hn : n ≤ 1048576) (hm : w.cell? ⟨B, 0, none⟩ = some (.int .i64 c)) (hc1 : 1 ≤ c) (hc2 : c ≤ 41) :
    Calls Try.prog 97 #[.slice a n cap, .func (.func 81) #[] #[.pointer (some ⟨B, 0, none⟩)]] w (IdxP c xs w) := by
  have hl : (n : Int) ≤ 1048576 := by omega
  have HL := Lib.hid h.1
  have hB0 := World.block_lt_of_cell? w _ hm
  dsimp only at hB0
  go_enter Try.func97, Try.ntmps97
  go_wp2
  go_loopw [8] (fun i wr => ∃ k : Nat, k ≤ n ∧ i = .int .i64 k ∧ (∀ j, j < k → cmF c xs j = true) ∧ Below w.heap.size w wr) (fun i _ => n - (Go.RowKit.intOf i).toNat)
  case atStart => exact ⟨0, Nat.zero_le _, rfl, fun j hj => absurd hj (by omega), Below.refl _ _⟩
  case round =>
    obtain ⟨k, hk, rfl, hall, hB⟩ := hrel
    have HALL := Lib.hid hall
    clear hall
    by_cases hlt : k < n
    · obtain ⟨b1, o1, rfl, hc⟩ := h.2 k hlt
      obtain ⟨⟨x0, x1, x2⟩, hx⟩ : ∃ x, xs[k]?.getD cm0 = x := ⟨_, rfl⟩
      rw [hx] at hc
      obtain ⟨p, p0, p1, p2⟩ := (hc.mono hB).parts
      have HX := Lib.hid hx
      clear hx
      have hkk : (k : Int) < (n : Int) := by omega
      have hm' := (hB.cell (p := ⟨B, 0, none⟩) hB0).trans hm
      cases hv : cmB c (x0, x1, x2)
      · have HD := Lib.hid (not_all_cm HL.out hlt (cmF_of HX.out hv))
        go_wp2_with fail
        refine (cmClos_any B c x0 x1 x2 wr hm' hc1 hc2).mono ?_
        rintro e w2 ⟨rfl, b2⟩
        rw [hv]
        have hB2 := belowCall hB b2
        go_wp2
        go_ret
        exact ⟨k, rfl, by rw [HD.out]; simp, hB2⟩
      · have HK := Lib.hid (cmF_of HX.out hv)
        go_wp2_with fail
        refine (cmClos_any B c x0 x1 x2 wr hm' hc1 hc2).mono ?_
        rintro e w2 ⟨rfl, b2⟩
        rw [hv]
        have hB2 := belowCall hB b2
        go_wp2
        go_roundw
        case rel => exact ⟨k + 1, by omega, by go_num, cmF_next HALL.out HK.out, hB2⟩
        case measure => simp [Go.RowKit.intOf]; omega
    · obtain rfl : k = n := by omega
      have HD := Lib.hid (all_cm HL.out HALL.out)
      go_wp2
      go_ret
      exact ⟨-1, rfl, by rw [HD.out]; simp, hB⟩
theorem conCm_any (a : Option Addr) (n cap B : Nat) (c : Int) (xs : List Cm) (w : World) (h : CmL w a n xs) (hn : n ≤ 1048576) (hm : w.cell? ⟨B, 0, none⟩ = some (.int .i64 c)) (hc1 : 1 ≤ c) (hc2 : c ≤ 41) :
    Calls Try.prog 83 #[.slice a n cap, .func (.func 81) #[] #[.pointer (some ⟨B, 0, none⟩)]] w fun e w' => e = .returned (.bool (!xs.all (cmB c))) ∧ Below w.heap.size w w' := by
  go_enter Try.func83, Try.ntmps83
  go_wp2_with fail
  refine (idxCm_any a n cap B c xs w h hn hm hc1 hc2).mono ?_
  rintro e w2 ⟨r, rfl, hr, b2⟩
  have HR := Lib.hid hr
  clear hr
  go_wp2
  go_ret
  exact ⟨by rw [← HR.out]; rfl, b2⟩
set_option maxHeartbeats 1000000 in
theorem iCommons_any (c : Int) (a : Option Addr) (n cap : Nat) (xs : List Cm) (w : World) (h : CmL w a n xs) (hn : n ≤ 1048576) :
    Calls Try.prog 63 #[.int .i64 c, .slice a n cap] w fun e w' => e = .returned (.bool (cmsB c xs)) ∧ Below w.heap.size w w' := by
  have HL := Lib.hid h.1
  have hl : (n : Int) ≤ 1048576 := by omega
  cases h1 : inB c 1 40
  · go_enter Try.func63, Try.ntmps63
    go_wp2_with (go_at_call 73; refine (inRange_any _ _ _ _).mono ?_; rintro e w' ⟨rfl, rfl⟩)
    go_ret
    exact ⟨by simp [cmsB, h1], by (repeat (first | assumption | exact Below.refl _ _ | refine belowDN ?_ _ | refine Below.drew ?_ | refine Below.setCell ?_ (by first | omega | (simp <;> omega)) _ | refine Below.alloc ?_ (by first | omega | (simp <;> omega)) _ | refine belowCall ?_ (by assumption)))⟩
  obtain ⟨c1, c2⟩ := inB_iff.1 h1
  by_cases h60 : n ≤ 60
  · have hd : decide ((60 : Int) < (n : Int)) = false := by simp; omega
    have hd2 : Hid (decide (xs.length ≤ 60) = true) := Lib.hid (by rw [HL.out]; simpa using h60)
    have B1 : Below w.heap.size w (w.alloc (.cells #[.int .i64 c] 2)) := (Below.refl _ w).alloc (Nat.le_refl _) _
    go_enter Try.func63, Try.ntmps63
    go_wp2_with (first | (go_at_call 73; refine (inRange_any _ _ _ _).mono ?_; rintro e w' ⟨rfl, rfl⟩) | (go_at_call 83; refine (conCm_any a n cap w.heap.size c xs _ (h.mono B1) hn (by go_keep) (by omega) (by omega)).mono ?_; rintro e w' ⟨rfl, hbel⟩))
    go_ret
    exact ⟨by simp [cmsB, h1, hd2.out], belowCall B1 hbel⟩
  · have hd : decide ((60 : Int) < (n : Int)) = true := by simp; omega
    have hd2 : Hid (decide (xs.length ≤ 60) = false) := Lib.hid (by rw [HL.out]; simpa using h60)
    go_enter Try.func63, Try.ntmps63
    go_wp2_with (go_at_call 73; refine (inRange_any _ _ _ _).mono ?_; rintro e w' ⟨rfl, rfl⟩)
    go_ret
    exact ⟨by simp [cmsB, hd2.out], by (repeat (first | assumption | exact Below.refl _ _ | refine belowDN ?_ _ | refine Below.drew ?_ | refine Below.setCell ?_ (by first | omega | (simp <;> omega)) _ | refine Below.alloc ?_ (by first | omega | (simp <;> omega)) _ | refine belowCall ?_ (by assumption)))⟩
end Go.Proofs.Ytfnjndbnogeddaa
