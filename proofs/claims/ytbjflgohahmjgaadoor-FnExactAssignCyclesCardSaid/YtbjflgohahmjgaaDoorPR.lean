/- AssignCycles, the program's: times, minimumAt, mapped at (int64, Minimum), assigned. -/
import Derived.Test.YtbjflgohahmjgaaDoorPH
import Derived.Test.YtbjflgohahmjgaaDoorPL
import Derived.Test.YtbjflgohahmjgaaDoorPQ
namespace Go.Proofs.YtbjflgohahmjgaaDoor
open Go.ChangeShapes Go.WideShapes Go.ChangeAt Go.RowKit Go.Deep

def okAtT (ts : List Int) (k : Nat) : Bool := tmB (ts[k]?.getD 0) && (decide (k = 0) || decide (ts[k - 1]?.getD 0 < ts[k]?.getD 0))
def okT (ts : List Int) : Bool := decide (ts.length ≤ 50) && (List.range ts.length).all (okAtT ts)
theorem okT_long {ts : List Int} {n : Nat} (hn : ts.length = n) (h : ¬ n ≤ 50) : okT ts = false := by simp [okT, hn, h]
theorem okT_bad {ts : List Int} {n k : Nat} (hn : ts.length = n) (hk : k < n) (h : okAtT ts k = false) : okT ts = false := by
  rw [okT, not_all_rangeM (k := k) (by omega) h]; simp
theorem okT_yes {ts : List Int} {n : Nat} (hn : ts.length = n) (h1 : n ≤ 50) (h : ∀ k, k < n → okAtT ts k = true) : okT ts = true := by
  rw [okT, all_rangeM (fun k hk => h k (by omega))]; simp; omega
theorem okT_num {ts : List Int} {n : Nat} (hn : ts.length = n) (h : okT ts = true) : n ≤ 50 ∧ ∀ k, k < n → 0 ≤ ts[k]?.getD 0 ∧ ts[k]?.getD 0 ≤ 10000000 := by
  simp only [okT, Bool.and_eq_true, decide_eq_true_eq, List.all_eq_true, List.mem_range] at h
  refine ⟨by omega, fun k hk => ?_⟩
  have := h.2 k (by omega)
  simp only [okAtT, Bool.and_eq_true] at this
  exact tmB_iff.1 this.1
theorem okAtT_no {ts : List Int} {k : Nat} {x : Int} (hx : ts[k]?.getD 0 = x) (h : tmB x = false) : okAtT ts k = false := by simp [okAtT, hx, h]
theorem okAtT_zero {ts : List Int} {k : Nat} {x : Int} (hx : ts[k]?.getD 0 = x) (h : tmB x = true) (hk : k = 0) : okAtT ts k = true := by subst hk; simp [okAtT, hx, h]
theorem okAtT_succ {ts : List Int} {k : Nat} {x y : Int} {b : Bool} (hx : ts[k + 1]?.getD 0 = x) (hy : ts[k]?.getD 0 = y) (h : tmB x = true) (hb : decide (y < x) = b) : okAtT ts (k + 1) = b := by
  simp only [okAtT, hx, h, Nat.add_sub_cancel, hy, hb]
  simp
theorem okT_next {ts : List Int} {k : Nat} (h : ∀ j, j < k → okAtT ts j = true) (hk : okAtT ts k = true) : ∀ j, j < k + 1 → okAtT ts j = true := fun j hj => by
  by_cases e : j = k
  · subst e; exact hk
  · exact h j (by omega)
/-- a time as the minimum of the nearest cycle -/
def acM (e p t : Int) : Mi := (rnd (t - e) p, t)
def acL (e p : Int) (ts : List Int) : List Mi := ts.map (acM e p)
theorem acL_len (e p : Int) (ts : List Int) : (acL e p ts).length = ts.length := by simp [acL]
theorem acL_at {e p : Int} {ts : List Int} {n k : Nat} {x : Int} (hn : ts.length = n) (hk : k < n) (hx : ts[k]?.getD 0 = x) : (acL e p ts)[k]?.getD mi0 = acM e p x := by
  have h : k < ts.length := by omega
  rw [List.getElem?_eq_getElem h, Option.getD_some] at hx
  simp [acL, h, hx]
theorem acL_step {e p : Int} {ts : List Int} {n k : Nat} {x : Int} (hn : ts.length = n) (hk : k < n) (hx : ts[k]?.getD 0 = x) : flatMi (acL e p (ts.take (k + 1))) = flatMi (acL e p (ts.take k)) ++ [fldMi (acM e p x) 0, fldMi (acM e p x) 1] := by
  have h : k < ts.length := by omega
  rw [List.getElem?_eq_getElem h, Option.getD_some] at hx
  rw [List.take_succ_eq_append_getElem h, acL, acL, List.map_append, hx]
  exact flatMi_snoc _ _
theorem rndP_bd {n d : Int} (hd : 1 ≤ d) : 2 * (rnd n d * d) ≤ 2 * n + d ∧ 2 * n - d < 2 * (rnd n d * d) := by
  have h1 := Int.emod_add_mul_ediv (2 * n + d) (2 * d)
  have h2 := Int.emod_nonneg (2 * n + d) (show 2 * d ≠ 0 by omega)
  have h3 := Int.emod_lt_of_pos (2 * n + d) (show 0 < 2 * d by omega)
  have e : 2 * (rnd n d * d) = 2 * d * ((2 * n + d) / (2 * d)) := by rw [rnd, Int.mul_comm _ d, ← Int.mul_assoc]
  rw [e]
  omega
theorem acL_near {e p : Int} {ts : List Int} {n : Nat} (hn : ts.length = n) (hok : okT ts = true) (he : ephB e p = true) : nrOk p n (acL e p ts) := by
  obtain ⟨h50, hbd⟩ := okT_num hn hok
  obtain ⟨⟨e1, e2⟩, p1, p2⟩ := ephB_iff.1 he
  refine ⟨h50, fun k hk => ?_⟩
  rw [acL_at hn hk rfl]
  have h1 := hbd k hk
  have h2 := rndP_bd (n := ts[k]?.getD 0 - e) (d := p) p1
  show (-100000000000 ≤ rnd (ts[k]?.getD 0 - e) p * p ∧ rnd (ts[k]?.getD 0 - e) p * p ≤ 100000000000) ∧ 0 ≤ ts[k]?.getD 0 ∧ ts[k]?.getD 0 ≤ 10000000
  omega
/-- AssignCycles' answer -/
def acA (ts : List Int) (e p m : Int) : List Mi := if ephB e p && (okT ts && inB m 0 1000000) && allNear e p m (acL e p ts) && okM (acL e p ts) then acL e p ts else []
def acC (ts : List Int) (e p m : Int) : Int := if ephB e p then (if okT ts && inB m 0 1000000 then (if allNear e p m (acL e p ts) then (if okM (acL e p ts) then 0 else 6) else 9) else 2) else 1
theorem acA_len {ts : List Int} {n : Nat} (e p m : Int) (h : ts.length ≤ n) : (acA ts e p m).length ≤ n := by
  unfold acA
  split
  · rw [acL_len]; exact h
  · simp
theorem ac_1 {ts : List Int} {e p m : Int} (h : ephB e p = false) : acA ts e p m = [] ∧ acC ts e p m = 1 := by simp [acA, acC, h]
theorem ac_2 {ts : List Int} {e p m : Int} (h : ephB e p = true) (h2 : (okT ts && inB m 0 1000000) = false) : acA ts e p m = [] ∧ acC ts e p m = 2 := by simp [acA, acC, h, h2]
theorem ac_9 {ts : List Int} {e p m : Int} (h : ephB e p = true) (h2 : (okT ts && inB m 0 1000000) = true) (h3 : allNear e p m (acL e p ts) = false) : acA ts e p m = [] ∧ acC ts e p m = 9 := by simp [acA, acC, h, h2, h3]
theorem ac_6 {ts : List Int} {e p m : Int} (h : ephB e p = true) (h2 : (okT ts && inB m 0 1000000) = true) (h3 : allNear e p m (acL e p ts) = true) (h4 : okM (acL e p ts) = false) : acA ts e p m = [] ∧ acC ts e p m = 6 := by simp [acA, acC, h, h2, h3, h4]
theorem ac_0 {ts : List Int} {e p m : Int} (h : ephB e p = true) (h2 : (okT ts && inB m 0 1000000) = true) (h3 : allNear e p m (acL e p ts) = true) (h4 : okM (acL e p ts) = true) : acA ts e p m = acL e p ts ∧ acC ts e p m = 0 := by simp [acA, acC, h, h2, h3, h4]
set_option maxRecDepth 100000 in
set_option maxHeartbeats 2000000 in
theorem areTm_any (a : Option Addr) (n c : Nat) (ts : List Int) (w : World) (h : Lst w a n ts) (hn : n ≤ 1048576) :
    Calls Tryd.prog 47 #[.slice a n c] w fun e w' => e = .returned (.bool (okT ts)) ∧ Below w.heap.size w w' := by
  have hl : (n : Int) ≤ 1048576 := by omega
  have HL := Lib.hid h.1
  by_cases h50 : n ≤ 50
  rotate_left
  · have hd : decide ((50 : Int) < (n : Int)) = true := by simp; omega
    have HD := Lib.hid (okT_long HL.out h50)
    go_enter Tryd.func47, Tryd.ntmps47
    go_wp2
    go_ret
    exact ⟨by rw [HD.out]; rfl, by (repeat (first | assumption | exact Below.refl _ _ | refine belowDN ?_ _ | refine Below.drew ?_ | refine Below.setCell ?_ (by first | omega | (simp <;> omega)) _ | refine Below.alloc ?_ (by first | omega | (simp <;> omega)) _ | refine belowCall ?_ (by assumption)))⟩
  have hd : decide ((50 : Int) < (n : Int)) = false := by simp; omega
  go_enter Tryd.func47, Tryd.ntmps47
  go_wp2
  go_loopw [10] (fun i wr => ∃ k : Nat, k ≤ n ∧ i = .int .i64 k ∧ (∀ j, j < k → okAtT ts j = true) ∧ Below w.heap.size w wr) (fun i _ => n - (Go.RowKit.intOf i).toNat)
  case atStart => exact ⟨0, Nat.zero_le _, rfl, fun j hj => absurd hj (by omega), Below.refl _ _⟩
  case round =>
    obtain ⟨k, hk, rfl, hall, hB⟩ := hrel
    have HALL := Lib.hid hall
    clear hall
    by_cases hlt : k < n
    · obtain ⟨b1, o1, rfl, hb1, hc⟩ := h.2 k hlt
      obtain ⟨x, hx⟩ : ∃ x, ts[k]?.getD 0 = x := ⟨_, rfl⟩
      rw [hx] at hc
      have HX := Lib.hid hx
      clear hx
      have q0 := (hB.cell (p := ⟨b1, o1 + k, none⟩) hb1).trans hc
      have hkk : (k : Int) < (n : Int) := by omega
      clear hc
      cases h0 : tmB x
      · have HD := Lib.hid (okT_bad HL.out hlt (okAtT_no HX.out h0))
        go_wp2_with (go_at_call 75; refine (iTm_any _ _).mono ?_; rintro x w' ⟨rfl, rfl⟩; rw [h0])
        go_ret
        exact ⟨by rw [HD.out]; rfl, by (repeat (first | assumption | exact Below.refl _ _ | refine belowDN ?_ _ | refine Below.drew ?_ | refine Below.setCell ?_ (by first | omega | (simp <;> omega)) _ | refine Below.alloc ?_ (by first | omega | (simp <;> omega)) _ | refine belowCall ?_ (by assumption)))⟩
      by_cases hk0 : 0 < k
      · obtain ⟨k', rfl⟩ : ∃ k', k = k' + 1 := ⟨k - 1, by omega⟩
        obtain ⟨b1', o1', he, -, hc'⟩ := h.2 k' (by omega)
        cases he
        obtain ⟨y, hy⟩ : ∃ x, ts[k']?.getD 0 = x := ⟨_, rfl⟩
        rw [hy] at hc'
        have HY := Lib.hid hy
        clear hy
        have q1 := (hB.cell (p := ⟨b1, o1 + k', none⟩) hb1).trans hc'
        clear hc'
        have hi0 : (0 : Int) ≤ (k' : Int) := by omega
        have hi1 : (k' : Int) < (n : Int) := by omega
        have hw1 : IntKind.i64.wrap ((k' : Int) + 1 - 1) = (k' : Int) := by rw [IntWalk.i64_in _ (by omega)]; omega
        have hw2 : IntKind.i64.wrap (k' : Int) = (k' : Int) := IntWalk.i64_in _ (by omega)
        by_cases hless : y < x
        · have HK := Lib.hid (okAtT_succ (b := true) HX.out HY.out h0 (by simpa using hless))
          have hge : decide (x ≤ y) = false := by simpa using hless
          go_wp2_with (go_at_call 75; refine (iTm_any _ _).mono ?_; rintro x w' ⟨rfl, rfl⟩; rw [h0])
          go_roundw
          case rel => exact ⟨k' + 1 + 1, by omega, by go_num, okT_next HALL.out HK.out, by (repeat (first | assumption | exact Below.refl _ _ | refine belowDN ?_ _ | refine Below.drew ?_ | refine Below.setCell ?_ (by first | omega | (simp <;> omega)) _ | refine Below.alloc ?_ (by first | omega | (simp <;> omega)) _ | refine belowCall ?_ (by assumption)))⟩
          case measure => simp [Go.RowKit.intOf]; omega
        · have HD := Lib.hid (okT_bad HL.out hlt (okAtT_succ (b := false) HX.out HY.out h0 (by simpa using hless)))
          have hge : decide (x ≤ y) = true := by simpa using hless
          go_wp2_with (go_at_call 75; refine (iTm_any _ _).mono ?_; rintro x w' ⟨rfl, rfl⟩; rw [h0])
          go_ret
          exact ⟨by rw [HD.out]; rfl, by (repeat (first | assumption | exact Below.refl _ _ | refine belowDN ?_ _ | refine Below.drew ?_ | refine Below.setCell ?_ (by first | omega | (simp <;> omega)) _ | refine Below.alloc ?_ (by first | omega | (simp <;> omega)) _ | refine belowCall ?_ (by assumption)))⟩
      · obtain rfl : k = 0 := by omega
        have HK := Lib.hid (okAtT_zero HX.out h0 rfl)
        rw [Nat.add_zero] at q0
        go_wp2_with (go_at_call 75; refine (iTm_any _ _).mono ?_; rintro x w' ⟨rfl, rfl⟩; rw [h0])
        go_roundw
        case rel => exact ⟨0 + 1, by omega, by go_num, okT_next HALL.out HK.out, by (repeat (first | assumption | exact Below.refl _ _ | refine belowDN ?_ _ | refine Below.drew ?_ | refine Below.setCell ?_ (by first | omega | (simp <;> omega)) _ | refine Below.alloc ?_ (by first | omega | (simp <;> omega)) _ | refine belowCall ?_ (by assumption)))⟩
        case measure => simp [Go.RowKit.intOf]; omega
    · obtain rfl : k = n := by omega
      have HD := Lib.hid (okT_yes HL.out h50 HALL.out)
      go_wp2
      go_ret
      exact ⟨by rw [HD.out]; rfl, hB⟩
set_option maxHeartbeats 1000000 in
theorem minAt_any (e p t : Int) (w : World) (h1 : 0 ≤ e) (h2 : e ≤ 10000000) (p1 : 1 ≤ p) (p2 : p ≤ 1000000) (t1 : 0 ≤ t) (t2 : t ≤ 10000000) :
    Calls Tryd.prog 81 #[.agg #[.int .i64 e, .int .i64 p], .int .i64 t] w fun r w' => r = .returned (.agg #[.int .i64 (rnd (t - e) p), .int .i64 t]) ∧ Below w.heap.size w w' := by
  have e1 : (w.alloc (.cells #[.int .i64 e, .int .i64 p] 27)).heap.size = w.heap.size + 1 := by simp
  have hbx := (PtC.fresh w 27 e p).mono ((Below.refl _ _).alloc (Nat.le_refl _) (.cells #[.int .i64 0, .int .i64 0] 34))
  have hR := MiC.fresh (w.alloc (.cells #[.int .i64 e, .int .i64 p] 27)) 34 0 0
  have z0 : ((w.alloc (.cells #[.int .i64 e, .int .i64 p] 27)).alloc (.cells #[.int .i64 0, .int .i64 0] 34)).frozen? ⟨w.heap.size + 1, 0, none⟩ = false := by rw [← e1]; go_keep
  have z1 : ((w.alloc (.cells #[.int .i64 e, .int .i64 p] 27)).alloc (.cells #[.int .i64 0, .int .i64 0] 34)).frozen? ⟨w.heap.size + 1, 1, none⟩ = false := by rw [← e1]; go_keep
  have hB : Below w.heap.size w ((w.alloc (.cells #[.int .i64 e, .int .i64 p] 27)).alloc (.cells #[.int .i64 0, .int .i64 0] 34)) := ((Below.refl w.heap.size w).alloc (Nat.le_refl _) _).alloc (by rw [e1]; omega) _
  rw [e1] at hR
  have HN : ∀ W, Calls Tryd.prog 61 #[.agg #[.int .i64 (t - e), .int .i64 p]] W fun r w' => r = .returned (.int .i64 (rnd (t - e) p)) ∧ Below W.heap.size W w' := fun W => nearest_any (t - e) p W p1 (by omega) (by omega) (by omega)
  generalize rnd (t - e) p = R at HN ⊢
  go_enter Tryd.func81, Tryd.ntmps81
  go_upto_region 1 with fail
  generalize (w.alloc (.cells #[.int .i64 e, .int .i64 p] 27)).alloc (.cells #[.int .i64 0, .int .i64 0] 34) = v at hbx hR z0 z1 hB ⊢
  obtain ⟨-, c0, c1⟩ := hbx.parts
  rw [Nat.zero_add] at c1
  go_wp2_with fail
  refine (HN _).mono ?_
  rintro r w2 ⟨rfl, b2⟩
  have hR2 := hR.mono b2
  have y0 := (b2.frozen (p := ⟨w.heap.size + 1, 0, none⟩) hR.1).trans z0
  have y1 := (b2.frozen (p := ⟨w.heap.size + 1, 1, none⟩) hR.1).trans z1
  have B2 := belowCall hB b2
  obtain ⟨-, r0, r1⟩ := hR2.parts
  rw [Nat.zero_add] at r1
  clear c0 c1 z0 z1
  go_wp2
  have t0 : ((w2.setCell ⟨w.heap.size + 1, 0, none⟩ (.int .i64 R)).setCell ⟨w.heap.size + 1, 1, none⟩ (.int .i64 t)).cell? ⟨w.heap.size + 1, 0, none⟩ = some (.int .i64 R) := scO (by decide) (scS r0)
  have t1 : ((w2.setCell ⟨w.heap.size + 1, 0, none⟩ (.int .i64 R)).setCell ⟨w.heap.size + 1, 1, none⟩ (.int .i64 t)).cell? ⟨w.heap.size + 1, 1, none⟩ = some (.int .i64 t) := scS (scO (by decide) r1)
  exact bodyPost_ret (v := .agg #[.int .i64 R, .int .i64 t]) (by simp [results, Tryd.results81, go_sem, t0, t1]) rfl ⟨rfl, (B2.setCell (by show w.heap.size ≤ w.heap.size + 1; omega) _).setCell (by show w.heap.size ≤ w.heap.size + 1; omega) _⟩
set_option maxRecDepth 100000 in
set_option maxHeartbeats 2000000 in
theorem mapT_any (a : Option Addr) (n c : Nat) (ts : List Int) (e p : Int) (w : World) (h : Lst w a n ts) (hok : okT ts = true) (he : ephB e p = true) :
    Calls Tryd.prog 80 #[.slice a n c, .func (.func 81) #[.agg #[.int .i64 e, .int .i64 p]] #[]] w fun x w' => ∃ g, x = .returned (.slice (some ⟨g, 0, none⟩) n n) ∧ w'.ownsRow w.heap.size 34 2 (.slice (some ⟨g, 0, none⟩) n n) n (flatMi (acL e p ts)) ∧ Below w.heap.size w w' := by
  obtain ⟨i0, hi, hz0, hz1, hz2⟩ := info_parts Mi_info
  obtain ⟨hn, hbd⟩ := okT_num h.1 hok
  obtain ⟨⟨e1, e2⟩, p1, p2⟩ := ephB_iff.1 he
  have HBD := Lib.hid hbd
  have HL := Lib.hid h.1
  have HSL : Hid ((acL e p ts).length = n) := Lib.hid ((acL_len e p ts).trans h.1)
  have hl : (n : Int) ≤ 50 := by omega
  have hb : n ≤ maxLen := by unfold maxLen; omega
  clear hok he hbd
  go_enter Tryd.func80, Tryd.ntmps80
  go_wp2_with (at_make; refine wpList_make_full _ rfl _ _ 24 rfl w.heap.size 34 i0 (.agg #[.int .i64 0, .int .i64 0]) 2 Tryd.underlying24 hi hz0 hz1 .i64 .i64 n n n rfl rfl rfl rfl (by rw [hz2]; omega) hb (Nat.le_refl _) ?_; intro w1 hown hgrow)
  go_loopw [13] (fun i wr => ∃ k : Nat, k ≤ n ∧ i = .int .i64 k ∧ wr.ownsRow w.heap.size 34 2 (.slice (some ⟨w.heap.size, 0, none⟩) n n) n (flM (acL e p ts) k n) ∧ Below w.heap.size w wr) (fun i _ => n - (Go.RowKit.intOf i).toNat)
  case atStart => exact ⟨0, Nat.zero_le _, rfl, by rw [← flM_zero]; exact hown, (Below.refl _ _).grown hgrow (Nat.le_refl _) (fun k hk => by cases hk)⟩
  case round =>
    obtain ⟨k, hk, rfl, hownr, hB⟩ := hrel
    clear hown hgrow
    by_cases hlt : k < n
    · obtain ⟨b1, o1, rfl, hb1, hc⟩ := h.2 k hlt
      obtain ⟨x, hx⟩ : ∃ x, ts[k]?.getD 0 = x := ⟨_, rfl⟩
      have HAT : Hid ((acL e p ts)[k]?.getD mi0 = (rnd (x - e) p, x)) := Lib.hid (acL_at (e := e) (p := p) HL.out hlt hx)
      have hbx := HBD.out k hlt
      rw [hx] at hc hbx
      have q0 := (hB.cell (p := ⟨b1, o1 + k, none⟩) hb1).trans hc
      have hkk : (k : Int) < (n : Int) := by omega
      have hsz := hB.size
      have hgl := hownr.lt w.heap.size rfl
      have HCL : ∀ W, Calls Tryd.prog 81 #[.agg #[.int .i64 e, .int .i64 p], .int .i64 x] W fun r w' => r = .returned (.agg #[.int .i64 (rnd (x - e) p), .int .i64 x]) ∧ Below W.heap.size W w' := fun W => minAt_any e p x W e1 e2 p1 p2 hbx.1 hbx.2
      generalize rnd (x - e) p = R at HAT HCL
      clear hx hc
      go_wp2_with fail
      refine (HCL _).mono ?_
      rintro r w5 ⟨rfl, D5⟩
      have hown5 := ownKeepF hownr D5
      have hB5 := hB.trans (D5.mono hsz)
      have hs5 := hB5.size
      have hf0 := hown5.frozenAt (k * 2)
      have hf1 := hown5.frozenAt (k * 2 + 1)
      have hc0 : w5.cell? ⟨w.heap.size, k * 2, none⟩ = some (.int .i64 0) := by rw [hown5.cellAt (k * 2) (by omega)]; exact flM_at HSL.out hlt (f := 0) (by decide)
      have hc1 : w5.cell? ⟨w.heap.size, k * 2 + 1, none⟩ = some (.int .i64 0) := by rw [hown5.cellAt (k * 2 + 1) (by omega)]; exact flM_at HSL.out hlt (f := 1) (by decide)
      obtain ⟨hs1, hg1⟩ := hown5.stored (k * 2) (.int .i64 R)
      obtain ⟨hs2, hg2⟩ := hs1.stored (k * 2 + 1) (.int .i64 x)
      rw [flM_set HSL.out hlt HAT.out] at hs2
      have HS := Lib.hid hs2
      have HG := Lib.hid ((hB5.grown hg1 hs5 (fun j hj => by cases hj; exact Nat.le_refl _)).grown hg2 (by simpa using hs5) (fun j hj => by cases hj; exact Nat.le_refl _))
      clear hs1 hs2 hg1 hg2 hown5 hownr
      go_wp2
      go_roundw
      case rel => exact ⟨k + 1, by omega, by go_num, HS.out, HG.out⟩
      case measure => simp [Go.RowKit.intOf]; omega
    · obtain rfl : k = n := by omega
      go_wp2
      go_ret
      rw [flM_full HSL.out] at hownr
      exact ⟨_, rfl, hownr, hB⟩
/-- what assigned hands back: the minima and no error, or none and a failure -/
def AsPost (B : Nat) (e p m : Int) (ts : List Int) (w' : World) (r : Ending) : Prop :=
  if allNear e p m (acL e p ts) then (if okM (acL e p ts) then ∃ g, r = .returned (.tuple #[.slice (some ⟨g, 0, none⟩) ts.length ts.length, .nilIface]) ∧ w'.ownsRow B 34 2 (.slice (some ⟨g, 0, none⟩) ts.length ts.length) ts.length (flatMi (acL e p ts)) else r = .returned (.tuple #[.slice none 0 0, .iface 97 (.int .i64 6)])) else r = .returned (.tuple #[.slice none 0 0, .iface 97 (.int .i64 9)])
set_option maxRecDepth 100000 in
set_option maxHeartbeats 2000000 in
theorem assigned_any (a : Option Addr) (n c : Nat) (ts : List Int) (e p m : Int) (w : World) (h : Lst w a n ts) (hok : okT ts = true) (he : ephB e p = true) :
    Calls Tryd.prog 49 #[.agg #[.int .i64 e, .int .i64 p], .slice a n c, .int .i64 m] w fun r w' => AsPost w.heap.size e p m ts w' r ∧ Below w.heap.size w w' := by
  have hbx := PtC.fresh w 27 e p
  have B1 : Below w.heap.size w (w.alloc (.cells #[.int .i64 e, .int .i64 p] 27)) := (Below.refl _ w).alloc (Nat.le_refl _) _
  obtain ⟨⟨e1, e2⟩, -, -⟩ := ephB_iff.1 he
  have hnk : nrOk p n (acL e p ts) := acL_near h.1 hok he
  have hn : n ≤ 1048576 := by have := (okT_num h.1 hok).1; omega
  have HL := Lib.hid h.1
  have HSL : Hid ((acL e p ts).length = n) := Lib.hid ((acL_len e p ts).trans h.1)
  go_enter Tryd.func49, Tryd.ntmps49
  go_upto_region 1 with fail
  generalize w.alloc (.cells #[.int .i64 e, .int .i64 p] 27) = v at hbx B1 ⊢
  obtain ⟨-, k0, k1⟩ := hbx.parts
  rw [Nat.zero_add] at k1
  go_wp2_with fail
  refine (mapT_any a n c ts e p v (h.mono B1) hok he).mono ?_
  rintro x w2 ⟨g, rfl, hown, b2⟩
  have B2 := belowCall B1 b2
  have hL2 := MiL.of_own hown HSL.out
  obtain ⟨-, l0, l1⟩ := (hbx.mono b2).parts
  rw [Nat.zero_add] at l1
  clear k0 k1
  go_wp2_with fail
  refine (areNear_any _ n n e p m _ w2 hL2 hnk e1 e2).mono ?_
  rintro x w3 ⟨rfl, b3⟩
  have B3 := belowCall B2 b3
  cases hnr : allNear e p m (acL e p ts)
  · have HP : ∀ (W : World) (r : Ending), r = .returned (.tuple #[.slice none 0 0, .iface 97 (.int .i64 9)]) → AsPost w.heap.size e p m ts W r := fun W r hr => by rw [AsPost, hnr]; exact hr
    go_wp2
    go_ret2
    exact ⟨HP _ _ rfl, B3⟩
  cases hok2 : okM (acL e p ts)
  · have HP : ∀ (W : World) (r : Ending), r = .returned (.tuple #[.slice none 0 0, .iface 97 (.int .i64 6)]) → AsPost w.heap.size e p m ts W r := fun W r hr => by rw [AsPost, hnr, hok2]; exact hr
    go_wp2_with fail
    refine (iValidMi_any _ n n _ _ (hL2.mono b3) hn).mono ?_
    rintro x w4 ⟨rfl, b4⟩
    rw [hok2]
    go_wp2
    go_ret2
    exact ⟨HP _ _ rfl, belowCall B3 b4⟩
  · have HP : ∀ (W : World) (g : Nat), W.ownsRow w.heap.size 34 2 (.slice (some ⟨g, 0, none⟩) n n) n (flatMi (acL e p ts)) → AsPost w.heap.size e p m ts W (.returned (.tuple #[.slice (some ⟨g, 0, none⟩) n n, .nilIface])) := fun W g hg => by rw [AsPost, hnr, hok2, HL.out]; exact ⟨g, rfl, hg⟩
    have hs1 := B1.size
    go_wp2_with fail
    refine (iValidMi_any _ n n _ _ (hL2.mono b3) hn).mono ?_
    rintro x w4 ⟨rfl, b4⟩
    rw [hok2]
    have HO := Lib.hid (ownLow (ownKeepF (ownKeepF hown b3) b4) hs1)
    clear hown
    go_wp2
    go_ret2
    exact ⟨HP _ _ HO.out, belowCall B3 b4⟩
end Go.Proofs.YtbjflgohahmjgaaDoor
