/- Running medians, the model's; SmoothCurve and OutliersOf, the model's. -/
import Derived.Test.YtiogffjhhhpolaaJ5
import Derived.Test.YtiogffjhhhpolaaQR
namespace Go.Proofs.Ytiogffjhhhpolaa
open Go.ChangeShapes Go.WideShapes Go.ChangeAt Go.RowKit Go.Deep

theorem part_len {ms : List Int} {n : Nat} (hn : ms.length = n) (i s t : Nat) : (part ms i s t).length ≤ n := by
  unfold part
  rw [List.length_take, List.length_drop]
  omega
theorem win_bd {xs : List Pt} {n : Nat} (hn : xs.length = n) (hok : okP xs = true) {i s : Nat} : ∀ x ∈ winL (mgP xs) i s, -1000000000000 ≤ x ∧ x ≤ 1000000000000 := fun x hx => by
  have h := mags_bd (mgP_ok hn hok) x (winL_mem hx)
  exact h
theorem part_snoc {ms : List Int} {i s t n : Nat} {x : Int} (hn : ms.length = n) (h1 : s ≤ i + t) (h : i + t - s < n) (hx : ms[i + t - s]?.getD 0 = x) : (part ms i s (t + 1)).map (Value.int .i64) = (part ms i s t).map (Value.int .i64) ++ [.int .i64 x] ∧ (part ms i s (t + 1)).length = (part ms i s t).length + 1 := by
  rw [part_in hn h1 h (by omega), hx]
  simp
set_option maxRecDepth 100000 in
set_option maxHeartbeats 4000000 in
theorem l08Median_any (a : Option Addr) (n c : Nat) (xs : List Pt) (i s : Nat) (w : World) (h : PtL w a n xs) (hok : okP xs = true) (hin : i < n) (hs : s ≤ 10) :
    Calls Try.prog 90 #[.slice a n c, .int .i64 i, .int .i64 s] w fun e w' => e = .returned (.int .i64 (rmed xs s i)) ∧ Below w.heap.size w w' := by
  obtain ⟨i0, hi, hz0, hz1, hz2⟩ := info_parts A_info
  obtain ⟨h100, hbd, -⟩ := okP_num h.1 hok
  have hl : (n : Int) ≤ 100 := by omega
  have hml : (mgP xs).length = n := by rw [mgP_len, h.1]
  have HML := Lib.hid hml
  have HWB := Lib.hid (win_bd h.1 hok (i := i) (s := s))
  have hii : (i : Int) < (n : Int) := by omega
  have hss : (s : Int) ≤ 10 := by omega
  clear hml hbd hok
  go_enter Try.func90, Try.ntmps90
  go_wp2
  go_loopw [7, 8] (fun o k wr => ∃ t : Nat, t ≤ 2 * s + 1 ∧ k = .int .i64 ((i : Int) - s + t) ∧ wr.ownsRow w.heap.size 2 1 o (part (mgP xs) i s t).length ((part (mgP xs) i s t).map (Value.int .i64)) ∧ Below w.heap.size w wr) (fun _ k _ => ((i : Int) + s + 1 - Go.RowKit.intOf k).toNat)
  case atStart => exact ⟨0, by omega, by simp, (by rw [part_zero]; exact World.ownsRow_lit w #[] 0 (Nat.le_refl _) (by unfold maxLen; omega) rfl), by (repeat (first | assumption | exact Below.refl _ _ | refine belowDN ?_ _ | refine Below.drew ?_ | refine Below.setCell ?_ (by first | omega | (simp <;> omega)) _ | refine Below.alloc ?_ (by first | omega | (simp <;> omega)) _ | refine belowCall ?_ (by assumption)))⟩
  case round =>
    obtain ⟨t, ht, rfl, hown, hB⟩ := hrel
    have hsz := hB.size
    obtain ⟨p, hp⟩ : ∃ p : Int, (i : Int) - s + t = p := ⟨_, rfl⟩
    have hp1 : -10 ≤ p := by omega
    have hp2 : p ≤ 111 := by omega
    have HP0 := Lib.hid hp
    rw [hp]
    clear hp
    by_cases hend : t = 2 * s + 1
    · have hgt : ¬ p ≤ (i : Int) + s := by have := HP0.out; omega
      rw [hend, part_full] at hown
      have hwl := winL_len HML.out i s
      have hpos := winL_pos (n := n) s hin
      rw [← hwl] at hpos
      obtain ⟨a3, c3, rfl, hO⟩ := IntO.of_owns (m := 1) hown
      have hLs := hO.toL
      have hWn : (winL (mgP xs) i s).length ≤ 1048576 := by rw [hwl]; simp only [wT, wF]; omega
      have HR := Lib.hid (show ∀ ys, Rising ys → ys.Perm (winL (mgP xs) i s) → medP ys = rmed xs s i from fun ys h1 h2 => medP_srt h1 h2)
      clear hown hO hwl hend ht
      generalize winL (mgP xs) i s = W at hpos hLs hWn HR HWB ⊢
      generalize W.length = L at hpos hLs hWn ⊢
      go_wp2_with fail
      refine (l02Median_any a3 L c3 W wr hLs hWn hpos HWB.out).mono ?_
      rintro e w4 ⟨ys, hr, hp, rfl, b4⟩
      have HV := Lib.hid (HR.out ys hr hp)
      clear hr hp
      go_wp2
      go_ret
      exact ⟨by rw [HV.out]; rfl, belowCall hB b4⟩
    · have hle : p ≤ (i : Int) + s := by have := HP0.out; omega
      by_cases hlow : i + t < s
      · have HP := Lib.hid (part_low (ms := mgP xs) hlow)
        have hneg : ¬ (0 : Int) ≤ p := by have := HP0.out; omega
        have HT := Lib.hid ht
        have HE := Lib.hid hend
        clear hlow ht hend
        go_wp2
        go_roundw
        case rel => exact ⟨t + 1, by have := HT.out; have := HE.out; omega, by rw [show (i : Int) - s + ((t + 1 : Nat) : Int) = p + 1 by have := HP0.out; omega]; (first | done | go_num), by rw [HP.out]; exact hown, hB⟩
        case measure => simp [Go.RowKit.intOf]; omega
      · have hp0 : (0 : Int) ≤ p := by have := HP0.out; omega
        by_cases hhigh : n ≤ i + t - s
        · have HP := Lib.hid (part_high HML.out (by omega) hhigh)
          have hge : ¬ p < (n : Int) := by have := HP0.out; omega
          have HT := Lib.hid ht
          have HE := Lib.hid hend
          clear hlow ht hend hhigh
          go_wp2
          go_roundw
          case rel => exact ⟨t + 1, by have := HT.out; have := HE.out; omega, by rw [show (i : Int) - s + ((t + 1 : Nat) : Int) = p + 1 by have := HP0.out; omega]; (first | done | go_num), by rw [HP.out]; exact hown, hB⟩
          case measure => simp [Go.RowKit.intOf]; omega
        · obtain ⟨p, rfl⟩ : ∃ k : Nat, p = k := ⟨p.toNat, by omega⟩
          have hpe : i + t - s = p := by have := HP0.out; omega
          have hpn : p < n := by omega
          obtain ⟨b1, o1, rfl, hc⟩ := h.2 p hpn
          obtain ⟨⟨x0, x1⟩, hx⟩ : ∃ x, xs[p]?.getD pt0 = x := ⟨_, rfl⟩
          have hgk : (mgP xs)[i + t - s]?.getD 0 = x1 := by rw [hpe, mgP_at, hx]
          have HP := Lib.hid (part_snoc HML.out (by omega) (by omega) hgk)
          rw [hx] at hc
          obtain ⟨-, q0, q1⟩ := (hc.mono hB).parts
          have hpl := part_len HML.out i s t
          have hlt : (p : Int) < (n : Int) := by omega
          have HT := Lib.hid ht
          have HE := Lib.hid hend
          clear hx hc hgk hlow ht hend hhigh hpe
          generalize part (mgP xs) i s t = L at hown hpl HP
          go_wp2_with (at_builtin; refine wpList_append_own _ rfl _ _ 29 rfl w.heap.size 2 i0 (.int .i64 0) 1 8 Try.underlying29 hi hz0 hz1 hz2 rfl (by decide) _ _ _ rfl (hown.alloc _) ⟨wr.heap.size, 0, none⟩ 1 1 [.int .i64 x1] rfl rfl (cell_one_new _ _ _) (by intro u hu; simp at hu; subst hu; rfl) (by unfold maxLen; omega) (by omega) (by have := hB.size; simp; omega) ?_; intro v7 w7 hown7 hg7 hnil7; have hB7 : Below w.heap.size w w7 := (show Below w.heap.size w (wr.alloc (.cells #[.int .i64 x1] 2)) by (repeat (first | assumption | exact Below.refl _ _ | refine belowDN ?_ _ | refine Below.drew ?_ | refine Below.setCell ?_ (by first | omega | (simp <;> omega)) _ | refine Below.alloc ?_ (by first | omega | (simp <;> omega)) _ | refine belowCall ?_ (by assumption)))).grown hg7 (by have := hB.size; simp; omega) (fun j e => (hown.lt j e).1); clear hg7 hnil7)
          have HO := Lib.hid hown7
          clear hown hown7
          go_wp2
          go_roundw
          case rel => exact ⟨t + 1, by have := HT.out; have := HE.out; omega, by rw [show (i : Int) - s + ((t + 1 : Nat) : Int) = (p : Int) + 1 by have := HP0.out; omega]; (first | done | go_num), by rw [HP.out.1, HP.out.2]; exact HO.out, hB7⟩
          case measure => simp [Go.RowKit.intOf]; omega
/-- SmoothCurve's and OutliersOf's answers -/
def smP (xs : List Pt) (s : Nat) (k : Nat) : List Pt := (List.range k).map fun i => ((xs[i]?.getD pt0).1, rmed xs s i)
theorem smP_len (xs : List Pt) (s k : Nat) : (smP xs s k).length = k := by simp [smP]
theorem smP_step {xs : List Pt} {s k : Nat} {x0 x1 : Int} (hx : xs[k]?.getD pt0 = (x0, x1)) : smP xs s (k + 1) = smP xs s k ++ [(x0, rmed xs s k)] := by
  simp [smP, List.range_succ, hx]
def sideB (s : Int) : Bool := inB s 0 10
def smC (xs : List Pt) (s : Int) : Int := if okP xs then (if sideB s then 0 else 2) else 1
def smL (xs : List Pt) (s : Int) : List Pt := if smC xs s = 0 then smP xs s.toNat xs.length else []
theorem sm_1 {xs : List Pt} {s : Int} (h : okP xs = false) : smC xs s = 1 ∧ smL xs s = [] := by simp [smL, smC, h]
theorem sm_2 {xs : List Pt} {s : Int} (h : okP xs = true) (h2 : sideB s = false) : smC xs s = 2 ∧ smL xs s = [] := by simp [smL, smC, h, h2]
theorem sm_0 {xs : List Pt} {s : Nat} {n : Nat} (hn : xs.length = n) (h : okP xs = true) (h2 : sideB s = true) : smC xs s = 0 ∧ smL xs s = smP xs s n := by simp [smL, smC, h, h2, hn]
theorem smL_len {xs : List Pt} {s : Int} {n : Nat} (h : xs.length ≤ n) : (smL xs s).length ≤ n := by
  unfold smL
  split
  · rw [smP_len]; exact h
  · simp
theorem side_nat {s : Int} (h : sideB s = true) : ∃ k : Nat, s = k ∧ k ≤ 10 := by
  rw [sideB, inB_iff] at h
  exact ⟨s.toNat, by omega, by omega⟩
/-- the far points among the first k -/
def farP (xs : List Pt) (s : Nat) (b : Int) (i : Nat) : Bool := decide (b < (((xs[i]?.getD pt0).2 - rmed xs s i).natAbs : Int))
def ouP (xs : List Pt) (s : Nat) (b : Int) (k : Nat) : List Int := ((List.range k).filter (farP xs s b)).map fun (i : Nat) => (i : Int)
theorem ouP_zero (xs : List Pt) (s : Nat) (b : Int) : ouP xs s b 0 = [] := rfl
theorem ouP_yes {xs : List Pt} {s k : Nat} {b : Int} (h : farP xs s b k = true) : (ouP xs s b (k + 1)).map (Value.int .i64) = (ouP xs s b k).map (Value.int .i64) ++ [.int .i64 k] ∧ (ouP xs s b (k + 1)).length = (ouP xs s b k).length + 1 := by
  simp [ouP, List.range_succ, List.filter_append, h]
theorem ouP_no {xs : List Pt} {s k : Nat} {b : Int} (h : farP xs s b k = false) : ouP xs s b (k + 1) = ouP xs s b k := by
  simp [ouP, List.range_succ, List.filter_append, h]
theorem ouP_len (xs : List Pt) (s : Nat) (b : Int) (k : Nat) : (ouP xs s b k).length ≤ k := by
  have := List.length_filter_le (farP xs s b) (List.range k)
  simp only [ouP, List.length_map, List.length_range] at *
  exact this
def byB (b : Int) : Bool := inB b 1 20000
def ouC (xs : List Pt) (s b : Int) : Int := if okP xs then (if sideB s && byB b then 0 else 2) else 1
def ouL (xs : List Pt) (s b : Int) : List Int := if ouC xs s b = 0 then ouP xs s.toNat b xs.length else []
theorem ou_1 {xs : List Pt} {s b : Int} (h : okP xs = false) : ouC xs s b = 1 ∧ ouL xs s b = [] := by simp [ouL, ouC, h]
theorem ou_2 {xs : List Pt} {s b : Int} (h : okP xs = true) (h2 : (sideB s && byB b) = false) : ouC xs s b = 2 ∧ ouL xs s b = [] := by simp [ouL, ouC, h, h2]
theorem ou_0 {xs : List Pt} {s : Nat} {b : Int} {n : Nat} (hn : xs.length = n) (h : okP xs = true) (h2 : sideB s = true) (h3 : byB b = true) : ouC xs s b = 0 ∧ ouL xs s b = ouP xs s b n := by simp [ouL, ouC, h, h2, h3, hn]
theorem ouL_len {xs : List Pt} {s b : Int} {n : Nat} (h : xs.length ≤ n) : (ouL xs s b).length ≤ n := by
  unfold ouL
  split
  · have := ouP_len xs s.toNat b xs.length; omega
  · simp
/-- medians of numbers that are bounded are bounded -/
theorem rmed_bd {xs : List Pt} {n i s : Nat} (hn : xs.length = n) (hok : okP xs = true) (hi : i < n) : -20000 ≤ rmed xs s i ∧ rmed xs s i ≤ 20000 := by
  obtain ⟨-, hbd, -⟩ := okP_num hn hok
  have hb : ∀ x ∈ winL (mgP xs) i s, -20000 ≤ x ∧ x ≤ 20000 := fun x hx => by
    obtain ⟨j, hj, rfl⟩ := List.mem_iff_getElem.1 (winL_mem hx)
    have := hbd j (by rw [mgP_len] at hj; omega)
    have h2 := mgP_at xs j
    rw [List.getElem?_eq_getElem hj, Option.getD_some] at h2
    omega
  have hp := srt_perm (winL (mgP xs) i s)
  have hlen : 0 < (srt (winL (mgP xs) i s)).length := by
    rw [hp.length_eq, winL_len (n := n) (by rw [mgP_len, hn])]
    exact winL_pos s hi
  unfold rmed
  generalize srt (winL (mgP xs) i s) = ys at hp hlen
  have h1 := perm_bd hp hb (ys.length / 2) (by omega)
  have h2 := perm_bd hp hb (ys.length / 2 - 1) (by omega)
  unfold medP
  split
  · exact h1
  · unfold rnd; omega
