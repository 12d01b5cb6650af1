/- Ephemerides: the methods, the codes, single times; both sides. -/
import Derived.Test.YtejkflacpbjkjaaF0
import Derived.Test.YtejkflacpbjkjaaGPt1
import Derived.Test.YtejkflacpbjkjaaB3
import Derived.Deep.RegionHeld3
namespace Go.Proofs.Ytejkflacpbjkjaa
open Go.ChangeShapes Go.WideShapes Go.ChangeAt Go.RowKit Go.Deep

theorem toEp_any (e p : Int) (w : World) :
    Calls Try.prog 24 #[.agg #[.int .i64 e, .int .i64 p]] w fun x w' => x = .returned (.agg #[.int .i64 e, .int .i64 p]) ∧ Below w.heap.size w w' := by
  go_enter Try.func24, Try.ntmps24
  go_wp2
  exact bodyPost_ret (v := .agg #[.int .i64 e, .int .i64 p]) (by simp [results, Try.results24, go_sem]) rfl ⟨rfl, by (repeat (first | assumption | exact Below.refl _ _ | refine belowDN ?_ _ | refine Below.drew ?_ | refine Below.setCell ?_ (by first | omega | (simp <;> omega)) _ | refine Below.alloc ?_ (by first | omega | (simp <;> omega)) _ | refine belowCall ?_ (by assumption)))⟩
theorem isPer_any (p : Int) (w : World) :
    Calls Try.prog 62 #[.int .i64 p] w fun e w' => e = .returned (.bool (perB p)) ∧ w = w' := by
  go_enter Try.func62, Try.ntmps62
  go_wp2_with (go_at_call 87; refine (inRange_any _ _ _ _).mono ?_; rintro e w' ⟨rfl, rfl⟩)
  go_ret
  exact ⟨rfl, rfl⟩
theorem l09Per_any (p : Int) (w : World) :
    Calls Try.prog 77 #[.int .i64 p] w fun e w' => e = .returned (.bool (perB p)) ∧ w = w' := by
  go_enter Try.func77, Try.ntmps77
  go_wp2_with (go_at_call 92; refine (l00In_any _ _ _ _).mono ?_; rintro e w' ⟨rfl, rfl⟩)
  go_ret
  exact ⟨rfl, rfl⟩
theorem iValidEp_any (e p : Int) (w : World) :
    Calls Try.prog 25 #[.agg #[.int .i64 e, .int .i64 p]] w fun x w' => x = .returned (.bool (ephB e p)) ∧ Below w.heap.size w w' := by
  cases h0 : tmB e
  all_goals
    go_enter Try.func25, Try.ntmps25
    go_wp2_with (first | (go_at_call 61; refine (iTm_any _ _).mono ?_; rintro x w' ⟨rfl, rfl⟩) | (go_at_call 62; refine (isPer_any _ _).mono ?_; rintro x w' ⟨rfl, rfl⟩))
    go_ret
    exact ⟨by simp [ephB, h0], by (repeat (first | assumption | exact Below.refl _ _ | refine belowDN ?_ _ | refine Below.drew ?_ | refine Below.setCell ?_ (by first | omega | (simp <;> omega)) _ | refine Below.alloc ?_ (by first | omega | (simp <;> omega)) _ | refine belowCall ?_ (by assumption)))⟩
theorem l09Ok_any (e p : Int) (w : World) :
    Calls Try.prog 60 #[.agg #[.int .i64 e, .int .i64 p]] w fun x w' => x = .returned (.bool (ephB e p)) ∧ Below w.heap.size w w' := by
  cases h0 : tmB e
  all_goals
    go_enter Try.func60, Try.ntmps60
    go_wp2_with (first | (go_at_call 69; refine (l06Time_any _ _).mono ?_; rintro x w' ⟨rfl, rfl⟩) | (go_at_call 77; refine (l09Per_any _ _).mono ?_; rintro x w' ⟨rfl, rfl⟩))
    go_ret
    exact ⟨by simp [ephB, h0], by (repeat (first | assumption | exact Below.refl _ _ | refine belowDN ?_ _ | refine Below.drew ?_ | refine Below.setCell ?_ (by first | omega | (simp <;> omega)) _ | refine Below.alloc ?_ (by first | omega | (simp <;> omega)) _ | refine belowCall ?_ (by assumption)))⟩
theorem sValidEp_any (e p : Int) (w : World) :
    Calls Try.prog 23 #[.agg #[.int .i64 e, .int .i64 p]] w fun x w' => x = .returned (.bool (ephB e p)) ∧ Below w.heap.size w w' := by
  go_enter Try.func23, Try.ntmps23
  go_wp2_with fail
  refine (l09Ok_any e p _).mono ?_
  rintro x w2 ⟨rfl, b2⟩
  go_wp2
  go_ret
  exact ⟨rfl, belowCall (by (repeat (first | assumption | exact Below.refl _ _ | refine belowDN ?_ _ | refine Below.drew ?_ | refine Below.setCell ?_ (by first | omega | (simp <;> omega)) _ | refine Below.alloc ?_ (by first | omega | (simp <;> omega)) _ | refine belowCall ?_ (by assumption)))) b2⟩
theorem iCyc_any (e p t : Int) (w : World) (h1 : 0 ≤ e) (h2 : e ≤ 10000000) (h3 : 1 ≤ p) (h4 : p ≤ 1000000) (h5 : -1 ≤ t) (h6 : t ≤ 20000000) :
    Calls Try.prog 65 #[.agg #[.int .i64 e, .int .i64 p], .int .i64 t] w fun x w' => x = .returned (.int .i64 (cyc e p t)) ∧ Below w.heap.size w w' := by
  go_enter Try.func65, Try.ntmps65
  go_wp2_with (go_at_call 91; refine (floorDiv_any _ _ _ (by omega) (by omega) (by omega) (by omega)).mono ?_; rintro x w' ⟨rfl, rfl⟩)
  go_ret
  exact ⟨rfl, by (repeat (first | assumption | exact Below.refl _ _ | refine belowDN ?_ _ | refine Below.drew ?_ | refine Below.setCell ?_ (by first | omega | (simp <;> omega)) _ | refine Below.alloc ?_ (by first | omega | (simp <;> omega)) _ | refine belowCall ?_ (by assumption)))⟩
theorem iExt_any (e p c : Int) (w : World) (h1 : 0 ≤ e) (h2 : e ≤ 10000000) (h5 : -100000000 ≤ c * p) (h6 : c * p ≤ 100000000) :
    Calls Try.prog 67 #[.agg #[.int .i64 e, .int .i64 p], .int .i64 c] w fun x w' => x = .returned (.int .i64 (e + c * p)) ∧ Below w.heap.size w w' := by
  go_enter Try.func67, Try.ntmps67
  go_wp2
  go_ret
  exact ⟨rfl, by (repeat (first | assumption | exact Below.refl _ _ | refine belowDN ?_ _ | refine Below.drew ?_ | refine Below.setCell ?_ (by first | omega | (simp <;> omega)) _ | refine Below.alloc ?_ (by first | omega | (simp <;> omega)) _ | refine belowCall ?_ (by assumption)))⟩
set_option maxHeartbeats 1000000 in
theorem iPhs_any (e p t : Int) (w : World) (h1 : 0 ≤ e) (h2 : e ≤ 10000000) (h3 : 1 ≤ p) (h4 : p ≤ 1000000) (h5 : 0 ≤ t) (h6 : t ≤ 20000000) :
    Calls Try.prog 53 #[.agg #[.int .i64 e, .int .i64 p], .int .i64 t] w fun x w' => x = .returned (.int .i64 (phs e p t)) ∧ Below w.heap.size w w' := by
  have hc := cyc_bd (e := e) (t := t) h3
  have HC : ∀ W, Calls Try.prog 65 #[.agg #[.int .i64 e, .int .i64 p], .int .i64 t] W fun x w' => x = .returned (.int .i64 (cyc e p t)) ∧ Below W.heap.size W w' := fun W => iCyc_any e p t W h1 h2 h3 h4 (by omega) h6
  have HX : ∀ W, Calls Try.prog 67 #[.agg #[.int .i64 e, .int .i64 p], .int .i64 (cyc e p t)] W fun x w' => x = .returned (.int .i64 (e + cyc e p t * p)) ∧ Below W.heap.size W w' := fun W => iExt_any e p _ W h1 h2 (by omega) (by omega)
  have HV := Lib.hid (phs_eq e p t)
  obtain ⟨m, hm⟩ : ∃ m, cyc e p t * p = m := ⟨_, rfl⟩
  rw [hm] at hc HX HV
  generalize cyc e p t = c at HC HX HV
  clear hm
  replace HV : Hid (IntKind.i64.wrap (t - (e + m)) = phs e p t) := Lib.hid (by rw [IntWalk.i64_in _ (by omega)]; exact HV.out)
  obtain ⟨hlt, k0, k1⟩ := (PtC.fresh w 25 e p).parts
  rw [Nat.zero_add] at k1
  have B1 : Below w.heap.size w (w.alloc (.cells #[.int .i64 e, .int .i64 p] 25)) := (Below.refl _ w).alloc (Nat.le_refl _) _
  go_enter Try.func53, Try.ntmps53
  go_wp2_with fail
  generalize w.alloc (.cells #[.int .i64 e, .int .i64 p] 25) = v at hlt k0 k1 B1 ⊢
  go_region_held3 (fun W' => W'.cell? ⟨w.heap.size, 0, none⟩ = some (.int .i64 e) ∧ W'.cell? ⟨w.heap.size, 1, none⟩ = some (.int .i64 p)) (refine ⟨?_, ?_⟩ <;> first | assumption | exact ((show Below v.heap.size v _ by (repeat (first | assumption | exact Below.refl _ _ | refine belowDN ?_ _ | refine Below.drew ?_ | refine Below.setCell ?_ (by first | omega | (simp <;> omega)) _ | refine Below.alloc ?_ (by first | omega | (simp <;> omega)) _ | refine belowCall ?_ (by assumption)))).cell (p := ⟨w.heap.size, 0, none⟩) hlt).trans k0 | exact ((show Below v.heap.size v _ by (repeat (first | assumption | exact Below.refl _ _ | refine belowDN ?_ _ | refine Below.drew ?_ | refine Below.setCell ?_ (by first | omega | (simp <;> omega)) _ | refine Below.alloc ?_ (by first | omega | (simp <;> omega)) _ | refine belowCall ?_ (by assumption)))).cell (p := ⟨w.heap.size, 1, none⟩) hlt).trans k1) (first | (go_at_call 65; refine (HC _).mono ?_; rintro x wA ⟨rfl, bA⟩) | (go_at_call 67; refine (HX _).mono ?_; rintro x wB ⟨rfl, bB⟩))
  all_goals
    go_wp2
    go_ret
    exact ⟨ret_int HV.out, belowCall B1 (by (repeat (first | assumption | exact Below.refl _ _ | refine belowDN ?_ _ | refine Below.drew ?_ | refine Below.setCell ?_ (by first | omega | (simp <;> omega)) _ | refine Below.alloc ?_ (by first | omega | (simp <;> omega)) _ | refine belowCall ?_ (by assumption))))⟩
theorem iCycF_any (e p t : Int) (w : World) (h1 : 0 ≤ e) (h2 : e ≤ 10000000) (h3 : 1 ≤ p) (h4 : p ≤ 1000000) (h5 : 0 ≤ t) (h6 : t ≤ 10000000) :
    Calls Try.prog 68 #[.agg #[.int .i64 e, .int .i64 p], .int .i64 t] w fun x w' => x = .returned (.int .i64 (cyc e p (t - 1) + 1)) ∧ Below w.heap.size w w' := by
  have hq := ediv_bd (t - 1 - e) p 20000000 (by omega) (by omega)
  have B1 : Below w.heap.size w (w.alloc (.cells #[.int .i64 e, .int .i64 p] 25)) := (Below.refl _ w).alloc (Nat.le_refl _) _
  have HC : ∀ W, Calls Try.prog 65 #[.agg #[.int .i64 e, .int .i64 p], .int .i64 (t - 1)] W fun x w' => x = .returned (.int .i64 (cyc e p (t - 1))) ∧ Below W.heap.size W w' := fun W => iCyc_any e p (t - 1) W h1 h2 h3 h4 (by omega) (by omega)
  change -20000000 ≤ cyc e p (t - 1) ∧ cyc e p (t - 1) ≤ 20000000 at hq
  generalize cyc e p (t - 1) = c at HC hq ⊢
  go_enter Try.func68, Try.ntmps68
  go_wp2_with fail
  refine (HC _).mono ?_
  rintro x w2 ⟨rfl, b2⟩
  go_wp2
  go_ret
  exact ⟨rfl, belowCall B1 b2⟩
theorem sCyc_any (e p t : Int) (w : World) (h1 : 0 ≤ e) (h2 : e ≤ 10000000) (h3 : 1 ≤ p) (h4 : p ≤ 1000000) (h5 : -1 ≤ t) (h6 : t ≤ 20000000) :
    Calls Try.prog 63 #[.agg #[.int .i64 e, .int .i64 p], .int .i64 t] w fun x w' => x = .returned (.int .i64 (cyc e p t)) ∧ Below w.heap.size w w' := by
  go_enter Try.func63, Try.ntmps63
  go_wp2_with (go_at_call 90; refine (l02Floor_any _ _ _ (by omega) (by omega) (by omega) (by omega)).mono ?_; rintro x w' ⟨rfl, rfl⟩)
  go_ret
  exact ⟨rfl, by (repeat (first | assumption | exact Below.refl _ _ | refine belowDN ?_ _ | refine Below.drew ?_ | refine Below.setCell ?_ (by first | omega | (simp <;> omega)) _ | refine Below.alloc ?_ (by first | omega | (simp <;> omega)) _ | refine belowCall ?_ (by assumption)))⟩
set_option maxHeartbeats 1000000 in
theorem sPhs_any (e p t : Int) (w : World) (h1 : 0 ≤ e) (h2 : e ≤ 10000000) (h3 : 1 ≤ p) (h4 : p ≤ 1000000) (h5 : 0 ≤ t) (h6 : t ≤ 20000000) :
    Calls Try.prog 55 #[.agg #[.int .i64 e, .int .i64 p], .int .i64 t] w fun x w' => x = .returned (.int .i64 (phs e p t)) ∧ Below w.heap.size w w' := by
  have hc := cyc_bd (e := e) (t := t) h3
  have HC : ∀ W, Calls Try.prog 63 #[.agg #[.int .i64 e, .int .i64 p], .int .i64 t] W fun x w' => x = .returned (.int .i64 (cyc e p t)) ∧ Below W.heap.size W w' := fun W => sCyc_any e p t W h1 h2 h3 h4 (by omega) h6
  have HV := Lib.hid (phs_eq2 e p t)
  generalize cyc e p t = c at HC hc HV
  replace HV : Hid (IntKind.i64.wrap (IntKind.i64.wrap (t - e) - IntKind.i64.wrap (c * p)) = phs e p t) := Lib.hid (by rw [IntWalk.i64_in (t - e) (by omega), IntWalk.i64_in (c * p) (by omega), IntWalk.i64_in _ (by omega)]; exact HV.out)
  obtain ⟨hlt, k0, k1⟩ := (PtC.fresh w 25 e p).parts
  rw [Nat.zero_add] at k1
  have B1 : Below w.heap.size w (w.alloc (.cells #[.int .i64 e, .int .i64 p] 25)) := (Below.refl _ w).alloc (Nat.le_refl _) _
  go_enter Try.func55, Try.ntmps55
  go_wp2_with fail
  generalize w.alloc (.cells #[.int .i64 e, .int .i64 p] 25) = v at hlt k0 k1 B1 ⊢
  go_region_held3 (fun W' => W'.cell? ⟨w.heap.size, 0, none⟩ = some (.int .i64 e) ∧ W'.cell? ⟨w.heap.size, 1, none⟩ = some (.int .i64 p)) (refine ⟨?_, ?_⟩ <;> first | assumption | exact ((show Below v.heap.size v _ by (repeat (first | assumption | exact Below.refl _ _ | refine belowDN ?_ _ | refine Below.drew ?_ | refine Below.setCell ?_ (by first | omega | (simp <;> omega)) _ | refine Below.alloc ?_ (by first | omega | (simp <;> omega)) _ | refine belowCall ?_ (by assumption)))).cell (p := ⟨w.heap.size, 0, none⟩) hlt).trans k0 | exact ((show Below v.heap.size v _ by (repeat (first | assumption | exact Below.refl _ _ | refine belowDN ?_ _ | refine Below.drew ?_ | refine Below.setCell ?_ (by first | omega | (simp <;> omega)) _ | refine Below.alloc ?_ (by first | omega | (simp <;> omega)) _ | refine belowCall ?_ (by assumption)))).cell (p := ⟨w.heap.size, 1, none⟩) hlt).trans k1) (first | (go_at_call 63; refine (HC _).mono ?_; rintro x wA ⟨rfl, bA⟩))
  all_goals
    go_wp2
    go_ret
    exact ⟨ret_int HV.out, belowCall B1 (by (repeat (first | assumption | exact Below.refl _ _ | refine belowDN ?_ _ | refine Below.drew ?_ | refine Below.setCell ?_ (by first | omega | (simp <;> omega)) _ | refine Below.alloc ?_ (by first | omega | (simp <;> omega)) _ | refine belowCall ?_ (by assumption))))⟩
theorem Lst.one (w : World) (x : Int) (T : TypeId) : Lst (w.alloc (.cells #[.int .i64 x] T)) (some ⟨w.heap.size, 0, none⟩) 1 [x] :=
  ⟨rfl, fun j hj => ⟨w.heap.size, 0, rfl, by simp, by
    match j, hj with
    | 0, _ => rw [World.cell?_alloc_new]; rfl⟩⟩
theorem Lst.two (w : World) (x y : Int) (T : TypeId) : Lst (w.alloc (.cells #[.int .i64 x, .int .i64 y] T)) (some ⟨w.heap.size, 0, none⟩) 2 [x, y] :=
  ⟨rfl, fun j hj => ⟨w.heap.size, 0, rfl, by simp, by
    match j, hj with
    | 0, _ => rw [World.cell?_alloc_new]; rfl
    | 1, _ => rw [World.cell?_alloc_new]; rfl⟩⟩
theorem all_at {ts : List Int} {n k : Nat} (hn : ts.length = n) (hk : k < n) (h : tmB (ts[k]?.getD 0) = false) : ts.all tmB = false := by
  rw [List.all_eq_false]
  have hkl : k < ts.length := by omega
  rw [List.getElem?_eq_getElem hkl, Option.getD_some] at h
  exact ⟨ts[k], List.getElem_mem hkl, by simp [h]⟩
theorem all_yes {ts : List Int} {n : Nat} (hn : ts.length = n) (h : ∀ k, k < n → tmB (ts[k]?.getD 0) = true) : ts.all tmB = true := by
  rw [List.all_eq_true]
  intro x hx
  obtain ⟨k, hk, rfl⟩ := List.getElem_of_mem hx
  have := h k (by omega)
  rwa [List.getElem?_eq_getElem hk, Option.getD_some] at this
set_option maxHeartbeats 1000000 in
theorem checkT_any (e p : Int) (a : Option Addr) (n c : Nat) (ts : List Int) (w : World) (h : Lst w a n ts) (hn : n ≤ 100) :
    Calls Try.prog 64 #[.agg #[.int .i64 e, .int .i64 p], .slice a n c] w fun x w' => x = .returned (.int .i64 (ecd e p ts)) ∧ Below w.heap.size w w' := by
  have hl : (n : Int) ≤ 100 := by omega
  have HL := Lib.hid h.1
  have B1 : Below w.heap.size w (w.alloc (.cells #[.int .i64 e, .int .i64 p] 25)) := (Below.refl _ w).alloc (Nat.le_refl _) _
  cases he : ephB e p
  · have HD := Lib.hid (ecd_eph (ts := ts) he)
    go_enter Try.func64, Try.ntmps64
    go_wp2_with fail
    refine (iValidEp_any e p _).mono ?_
    rintro x w2 ⟨rfl, b2⟩
    rw [he]
    go_wp2
    go_ret
    exact ⟨by rw [HD.out]; rfl, belowCall B1 b2⟩
  · go_enter Try.func64, Try.ntmps64
    go_wp2_with fail
    refine (iValidEp_any e p _).mono ?_
    rintro x w2 ⟨rfl, b2⟩
    rw [he]
    have B2 := belowCall B1 b2
    have hh := h.mono B2
    clear b2 B1
    have HE := Lib.hid he
    clear he
    go_wp2
    go_loopw [12] (fun i wr => ∃ k : Nat, k ≤ n ∧ i = .int .i64 k ∧ (∀ j, j < k → tmB (ts[j]?.getD 0) = true) ∧ wr = w2) (fun i _ => n - (Go.RowKit.intOf i).toNat)
    case atStart => exact ⟨0, Nat.zero_le _, rfl, fun j hj => absurd hj (by omega), rfl⟩
    case round =>
      obtain ⟨k, hk, rfl, hall, rfl⟩ := hrel
      have HALL := Lib.hid hall
      clear hall
      by_cases hlt : k < n
      · obtain ⟨b1, o1, rfl, hb1, hc⟩ := hh.2 k hlt
        have hkk : (k : Int) < (n : Int) := by omega
        obtain ⟨x, hx⟩ : ∃ x, ts[k]?.getD 0 = x := ⟨_, rfl⟩
        rw [hx] at hc
        have HX := Lib.hid hx
        clear hx
        cases hv : tmB x
        · have HD := Lib.hid (ecd_tm HE.out (all_at HL.out hlt (by rw [HX.out]; exact hv)))
          go_wp2_with (go_at_call 61; refine (iTm_any _ _).mono ?_; rintro x w' ⟨rfl, rfl⟩; rw [hv])
          go_ret
          exact ⟨by rw [HD.out]; rfl, B2⟩
        · go_wp2_with (go_at_call 61; refine (iTm_any _ _).mono ?_; rintro x w' ⟨rfl, rfl⟩; rw [hv])
          go_roundw
          case rel =>
            refine ⟨k + 1, by omega, by go_num, fun j hj => ?_, by first | rfl | trivial⟩
            by_cases e : j = k
            · subst e; rw [HX.out]; exact hv
            · exact HALL.out j (by omega)
          case measure => simp [Go.RowKit.intOf]; omega
      · obtain rfl : k = n := by omega
        have HD := Lib.hid (ecd_ok HE.out (all_yes HL.out HALL.out))
        go_wp2
        go_ret
        exact ⟨by rw [HD.out]; rfl, B2⟩
theorem l09Code_any (e p t : Int) (w : World) :
    Calls Try.prog 54 #[.agg #[.int .i64 e, .int .i64 p], .int .i64 t] w fun x w' => x = .returned (.int .i64 (ecd e p [t])) ∧ Below w.heap.size w w' := by
  have B1 : Below w.heap.size w (w.alloc (.cells #[.int .i64 e, .int .i64 p] 25)) := (Below.refl _ w).alloc (Nat.le_refl _) _
  cases he : ephB e p
  · have HD := Lib.hid (ecd_eph (ts := [t]) he)
    go_enter Try.func54, Try.ntmps54
    go_wp2_with fail
    refine (l09Ok_any e p _).mono ?_
    rintro x w2 ⟨rfl, b2⟩
    rw [he]
    go_wp2
    go_ret
    exact ⟨by rw [HD.out]; rfl, belowCall B1 b2⟩
  cases ht : tmB t
  · have HD := Lib.hid (ecd_tm (ts := [t]) he (by simp [ht]))
    go_enter Try.func54, Try.ntmps54
    go_wp2_with fail
    refine (l09Ok_any e p _).mono ?_
    rintro x w2 ⟨rfl, b2⟩
    rw [he]
    go_wp2_with (go_at_call 69; refine (l06Time_any _ _).mono ?_; rintro x w' ⟨rfl, rfl⟩; rw [ht])
    go_ret
    exact ⟨by rw [HD.out]; rfl, belowCall B1 b2⟩
  · have HD := Lib.hid (ecd_ok (ts := [t]) he (by simp [ht]))
    go_enter Try.func54, Try.ntmps54
    go_wp2_with fail
    refine (l09Ok_any e p _).mono ?_
    rintro x w2 ⟨rfl, b2⟩
    rw [he]
    go_wp2_with (go_at_call 69; refine (l06Time_any _ _).mono ?_; rintro x w' ⟨rfl, rfl⟩; rw [ht])
    go_ret
    exact ⟨by rw [HD.out]; rfl, belowCall B1 b2⟩
end Go.Proofs.Ytejkflacpbjkjaa
