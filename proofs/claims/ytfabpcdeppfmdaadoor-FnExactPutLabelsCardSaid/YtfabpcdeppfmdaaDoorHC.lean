/- LabelClashes in plain lists; the model's. -/
import Derived.Test.YtfabpcdeppfmdaaDoorHL
import Derived.Test.YtfabpcdeppfmdaaDoorHP
namespace Go.Proofs.YtfabpcdeppfmdaaDoor
open Go.ChangeShapes Go.WideShapes Go.ChangeAt Go.RowKit Go.Deep

def ovB (a b : Q4) : Bool := decide (a.1 < b.2.2.1) && (decide (b.1 < a.2.2.1) && (decide (a.2.1 < b.2.2.2) && decide (b.2.1 < a.2.2.2)))
/-- four numbers in a block -/
def Q4C (w : World) (g : Nat) (t : Q4) : Prop := g < w.heap.size ∧ w.cell? ⟨g, 0, none⟩ = some (.int .i64 t.1) ∧ w.cell? ⟨g, 1, none⟩ = some (.int .i64 t.2.1) ∧ w.cell? ⟨g, 2, none⟩ = some (.int .i64 t.2.2.1) ∧ w.cell? ⟨g, 3, none⟩ = some (.int .i64 t.2.2.2)
theorem Q4C.mono {w w' : World} {g : Nat} {t : Q4} (h : Q4C w g t) (hb : Below w.heap.size w w') : Q4C w' g t :=
  ⟨Nat.lt_of_lt_of_le h.1 hb.size, (hb.cell (p := ⟨g, 0, none⟩) h.1).trans h.2.1, (hb.cell (p := ⟨g, 1, none⟩) h.1).trans h.2.2.1, (hb.cell (p := ⟨g, 2, none⟩) h.1).trans h.2.2.2.1, (hb.cell (p := ⟨g, 3, none⟩) h.1).trans h.2.2.2.2⟩
theorem Q4C.of_own {w : World} {B e g : Nat} {t : Q4} (h : w.ownsRow B e 1 (.slice (some ⟨g, 0, none⟩) 4 4) 4 ((q4L t).map (Value.int .i64))) : Q4C w g t :=
  ⟨(h.lt g rfl).2, by rw [h.cellAt 0 (by omega)]; rfl, by rw [h.cellAt 1 (by omega)]; rfl, by rw [h.cellAt 2 (by omega)]; rfl, by rw [h.cellAt 3 (by omega)]; rfl⟩
def sdB (ss : List Int) (n : Nat) : Bool := ss.all (fun s => inB s 0 3) && decide (ss.length = n)
theorem sd_bad {ss : List Int} {m k n : Nat} (hm : ss.length = m) (hk : k < m) (h : inB (ss[k]?.getD 0) 0 3 = false) : sdB ss n = false := by
  have : ss.all (fun s => inB s 0 3) = false := by
    rw [List.all_eq_false]
    refine ⟨ss[k]'(by omega), List.getElem_mem _, ?_⟩
    have hk' : k < ss.length := by omega
    rw [List.getElem?_eq_getElem hk', Option.getD_some] at h
    simp [h]
  simp [sdB, this]
theorem sd_len {ss : List Int} {n : Nat} (h : ¬ ss.length = n) : sdB ss n = false := by simp [sdB, h]
theorem sd_yes {ss : List Int} {m n : Nat} (hm : ss.length = m) (h : m = n) (ha : ∀ k, k < m → inB (ss[k]?.getD 0) 0 3 = true) : sdB ss n = true := by
  have : ss.all (fun s => inB s 0 3) = true := by
    rw [List.all_eq_true]
    intro s hs
    obtain ⟨j, hj, rfl⟩ := List.getElem_of_mem hs
    have := ha j (by omega)
    simpa [hj] using this
  rw [sdB, this, hm, h]; simp
theorem sd_at {ss : List Int} {n k : Nat} (h : sdB ss n = true) (hk : k < n) : ss.length = n ∧ inB (ss[k]?.getD 0) 0 3 = true := by
  simp only [sdB, Bool.and_eq_true, decide_eq_true_eq, List.all_eq_true] at h
  refine ⟨h.2, ?_⟩
  have hk' : k < ss.length := by omega
  rw [List.getElem?_eq_getElem hk', Option.getD_some]
  exact h.1 _ (List.getElem_mem _)
def clP (xs : List Mk) (ss : List Int) (i j : Nat) : Bool := ovB (bxQ (xs[i]?.getD mk0) (ss[i]?.getD 0)) (bxQ (xs[j]?.getD mk0) (ss[j]?.getD 0))
def clC (xs : List Mk) (ss : List Int) : Int := if okC xs then (if sdB ss xs.length then 0 else 2) else 1
def clL (xs : List Mk) (ss : List Int) : List (Int × Int) := if clC xs ss = 0 then prP (clP xs ss) xs.length xs.length else []
theorem cl_1 {xs : List Mk} {ss : List Int} (h : okC xs = false) : clC xs ss = 1 ∧ clL xs ss = [] := by simp [clL, clC, h]
theorem cl_2 {xs : List Mk} {ss : List Int} {n : Nat} (hn : xs.length = n) (h : okC xs = true) (h2 : sdB ss n = false) : clC xs ss = 2 ∧ clL xs ss = [] := by simp [clL, clC, h, hn, h2]
theorem cl_0 {xs : List Mk} {ss : List Int} {n : Nat} (hn : xs.length = n) (h : okC xs = true) (h2 : sdB ss n = true) : clC xs ss = 0 ∧ clL xs ss = prP (clP xs ss) n n := by simp [clL, clC, h, hn, h2]
theorem clL_len (xs : List Mk) (ss : List Int) : (clL xs ss).length ≤ 1048576 := by
  unfold clL
  split
  · rename_i h
    have hok : okC xs = true := by
      cases hh : okC xs
      · rw [(cl_1 hh).1] at h; omega
      · rfl
    have h1 := (okC_at rfl hok).1
    have h2 := prP_len (clP xs ss) xs.length xs.length
    have h3 : xs.length * xs.length ≤ 30 * 30 := Nat.mul_le_mul h1 h1
    omega
  · simp
set_option maxHeartbeats 2000000 in
theorem l07Meet_any (ga gb : Nat) (a0 a1 a2 a3 b0 b1 b2 b3 : Int) (w : World) (ha : Q4C w ga (a0, a1, a2, a3)) (hb : Q4C w gb (b0, b1, b2, b3)) :
    Calls Tryd.prog 50 #[.slice (some ⟨ga, 0, none⟩) 4 4, .slice (some ⟨gb, 0, none⟩) 4 4] w fun e w' => e = .returned (.bool (ovB (a0, a1, a2, a3) (b0, b1, b2, b3))) ∧ Below w.heap.size w w' := by
  obtain ⟨hla, p0, p1, p2, p3⟩ := ha
  obtain ⟨hlb, r0, r1, r2, r3⟩ := hb
  cases c0 : decide (a0 < b2)
  · have HV : Hid (ovB (a0, a1, a2, a3) (b0, b1, b2, b3) = false) := Lib.hid (by simp only [ovB, c0, Bool.false_and])
    (go_enter Tryd.func50, Tryd.ntmps50; go_wp2; go_big_quiet (fail); go_wp2; go_ret; exact ⟨by rw [HV.out]; rfl, by (repeat (first | assumption | exact Below.refl _ _ | refine belowDN ?_ _ | refine Below.drew ?_ | refine Below.setCell ?_ (by first | omega | (simp <;> omega)) _ | refine Below.alloc ?_ (by first | omega | (simp <;> omega)) _ | refine belowCall ?_ (by assumption)))⟩)
  cases c1 : decide (b0 < a2)
  · have HV : Hid (ovB (a0, a1, a2, a3) (b0, b1, b2, b3) = false) := Lib.hid (by simp only [ovB, c0, c1, Bool.false_and, Bool.and_false])
    (go_enter Tryd.func50, Tryd.ntmps50; go_wp2; go_big_quiet (fail); go_wp2; go_ret; exact ⟨by rw [HV.out]; rfl, by (repeat (first | assumption | exact Below.refl _ _ | refine belowDN ?_ _ | refine Below.drew ?_ | refine Below.setCell ?_ (by first | omega | (simp <;> omega)) _ | refine Below.alloc ?_ (by first | omega | (simp <;> omega)) _ | refine belowCall ?_ (by assumption)))⟩)
  cases c2 : decide (a1 < b3)
  · have HV : Hid (ovB (a0, a1, a2, a3) (b0, b1, b2, b3) = false) := Lib.hid (by simp only [ovB, c0, c1, c2, Bool.false_and, Bool.and_false])
    (go_enter Tryd.func50, Tryd.ntmps50; go_wp2; go_big_quiet (fail); go_wp2; go_ret; exact ⟨by rw [HV.out]; rfl, by (repeat (first | assumption | exact Below.refl _ _ | refine belowDN ?_ _ | refine Below.drew ?_ | refine Below.setCell ?_ (by first | omega | (simp <;> omega)) _ | refine Below.alloc ?_ (by first | omega | (simp <;> omega)) _ | refine belowCall ?_ (by assumption)))⟩)
  cases c3 : decide (b1 < a3)
  · have HV : Hid (ovB (a0, a1, a2, a3) (b0, b1, b2, b3) = false) := Lib.hid (by simp only [ovB, c0, c1, c2, c3, Bool.and_false])
    (go_enter Tryd.func50, Tryd.ntmps50; go_wp2; go_big_quiet (fail); go_wp2; go_ret; exact ⟨by rw [HV.out]; rfl, by (repeat (first | assumption | exact Below.refl _ _ | refine belowDN ?_ _ | refine Below.drew ?_ | refine Below.setCell ?_ (by first | omega | (simp <;> omega)) _ | refine Below.alloc ?_ (by first | omega | (simp <;> omega)) _ | refine belowCall ?_ (by assumption)))⟩)
  · have HV : Hid (ovB (a0, a1, a2, a3) (b0, b1, b2, b3) = true) := Lib.hid (by simp only [ovB, c0, c1, c2, c3, Bool.and_self])
    (go_enter Tryd.func50, Tryd.ntmps50; go_wp2; go_big_quiet (fail); go_wp2; go_ret; exact ⟨by rw [HV.out]; rfl, by (repeat (first | assumption | exact Below.refl _ _ | refine belowDN ?_ _ | refine Below.drew ?_ | refine Below.setCell ?_ (by first | omega | (simp <;> omega)) _ | refine Below.alloc ?_ (by first | omega | (simp <;> omega)) _ | refine belowCall ?_ (by assumption)))⟩)
set_option maxHeartbeats 1000000 in
theorem l07Sides_any (a b : Option Addr) (n c m c' : Nat) (ss : List Int) (w : World) (hs : Lst w b m ss) (hn : n ≤ 1048576) (hm : m ≤ 1048576) :
    Calls Tryd.prog 49 #[.slice a n c, .slice b m c'] w fun e w' => e = .returned (.bool (sdB ss n)) ∧ Below w.heap.size w w' := by
  have HM := Lib.hid hs.1
  have hl : (n : Int) ≤ 1048576 := by omega
  have hl2 : (m : Int) ≤ 1048576 := by omega
  go_enter Tryd.func49, Tryd.ntmps49
  go_wp2
  go_loopw [5] (fun i wr => ∃ k : Nat, k ≤ m ∧ i = .int .i64 k ∧ (∀ j, j < k → inB (ss[j]?.getD 0) 0 3 = true) ∧ Below w.heap.size w wr) (fun i _ => m - (Go.RowKit.intOf i).toNat)
  case atStart => exact ⟨0, Nat.zero_le _, rfl, fun j hj => absurd hj (by omega), Below.refl _ _⟩
  case round =>
    obtain ⟨k, hk, rfl, hall, hB⟩ := hrel
    have HALL := Lib.hid hall
    clear hall
    by_cases hlt : k < m
    · obtain ⟨b1, o1, rfl, hbl, hc⟩ := hs.2 k hlt
      obtain ⟨s, hse⟩ : ∃ s, ss[k]?.getD 0 = s := ⟨_, rfl⟩
      rw [hse] at hc
      replace hc := (hB.cell (p := ⟨b1, o1 + k, none⟩) hbl).trans hc
      have HS := Lib.hid hse
      clear hse
      have hkk : (k : Int) < (m : Int) := by omega
      cases h1 : inB s 0 3
      · have HD := Lib.hid (sd_bad (n := n) HM.out hlt (by rw [HS.out]; exact h1))
        go_wp2_with (go_at_call 56; refine (l00In_any _ _ _ _).mono ?_; rintro e w' ⟨rfl, rfl⟩)
        go_ret
        exact ⟨by rw [HD.out]; rfl, by (repeat (first | assumption | exact Below.refl _ _ | refine belowDN ?_ _ | refine Below.drew ?_ | refine Below.setCell ?_ (by first | omega | (simp <;> omega)) _ | refine Below.alloc ?_ (by first | omega | (simp <;> omega)) _ | refine belowCall ?_ (by assumption)))⟩
      · have HK := Lib.hid (show ∀ j, j < k + 1 → inB (ss[j]?.getD 0) 0 3 = true from fun j hj => by
          by_cases e : j = k
          · subst e; rw [HS.out]; exact h1
          · exact HALL.out j (by omega))
        go_wp2_with (go_at_call 56; refine (l00In_any _ _ _ _).mono ?_; rintro e w' ⟨rfl, rfl⟩)
        go_roundw
        case rel => exact ⟨k + 1, by omega, by go_num, HK.out, hB⟩
        case measure => simp [Go.RowKit.intOf]; omega
    · obtain rfl : m = k := by omega
      by_cases hmn : m = n
      · have HD := Lib.hid (sd_yes HM.out hmn HALL.out)
        have hd : ((m : Int) == (n : Int)) = true := by simp; omega
        clear hmn
        go_wp2
        go_ret
        exact ⟨by rw [HD.out]; rfl, by (repeat (first | assumption | exact Below.refl _ _ | refine belowDN ?_ _ | refine Below.drew ?_ | refine Below.setCell ?_ (by first | omega | (simp <;> omega)) _ | refine Below.alloc ?_ (by first | omega | (simp <;> omega)) _ | refine belowCall ?_ (by assumption)))⟩
      · have HD : Hid (sdB ss n = false) := Lib.hid (sd_len (by rw [HM.out]; exact hmn))
        have hd : ((m : Int) == (n : Int)) = false := by simp; omega
        clear hmn
        go_wp2
        go_ret
        exact ⟨by rw [HD.out]; rfl, by (repeat (first | assumption | exact Below.refl _ _ | refine belowDN ?_ _ | refine Below.drew ?_ | refine Below.setCell ?_ (by first | omega | (simp <;> omega)) _ | refine Below.alloc ?_ (by first | omega | (simp <;> omega)) _ | refine belowCall ?_ (by assumption)))⟩
set_option maxRecDepth 100000 in
set_option maxHeartbeats 8000000 in
theorem sClash_any (a b : Option Addr) (n c m c' : Nat) (xs : List Mk) (ss : List Int) (w : World) (h : MkL w a n xs) (hs : Lst w b m ss) (hn : n ≤ 1048576) (hm : m ≤ 1048576) :
    Calls Tryd.prog 14 #[.slice a n c, .slice b m c'] w fun e w' => QqRes w.heap.size (clL xs ss) (.int .i64 (clC xs ss)) w' e ∧ Below w.heap.size w w' := by
  have HL := Lib.hid h.1
  have hl : (n : Int) ≤ 1048576 := by omega
  obtain ⟨iq, hiq, hzq0, hzq1, hzq2⟩ := info_parts QJ_info
  cases hok : okC xs
  · have HC := Lib.hid (cl_1 (ss := ss) hok)
    go_enter Tryd.func14, Tryd.ntmps14
    go_wp2_with fail
    refine (l07Ok_any a n c xs w h hn).mono ?_
    rintro e w2 ⟨rfl, b2⟩
    rw [hok]
    go_wp2
    go_ret2
    exact ⟨by rw [HC.out.1, HC.out.2]; exact QqRes.nil _ _ _, b2⟩
  cases hsd : sdB ss n
  · have HC := Lib.hid (cl_2 HL.out hok hsd)
    go_enter Tryd.func14, Tryd.ntmps14
    go_wp2_with fail
    refine (l07Ok_any a n c xs w h hn).mono ?_
    rintro e w1 ⟨rfl, b1⟩
    rw [hok]
    go_wp2_with fail
    refine (l07Sides_any a b n c m c' ss w1 (hs.mono b1) hn hm).mono ?_
    rintro e w2 ⟨rfl, b2⟩
    rw [hsd]
    go_wp2
    go_ret2
    exact ⟨by rw [HC.out.1, HC.out.2]; exact QqRes.nil _ _ _, belowCall b1 b2⟩
  have HC := Lib.hid (cl_0 HL.out hok hsd)
  have HOK := Lib.hid hok
  have HSD := Lib.hid hsd
  have hn30 := (okC_at h.1 hok).1
  go_enter Tryd.func14, Tryd.ntmps14
  go_wp2_with fail
  refine (l07Ok_any a n c xs w h hn).mono ?_
  rintro e w1 ⟨rfl, b1⟩
  rw [hok]
  go_wp2_with fail
  refine (l07Sides_any a b n c m c' ss w1 (hs.mono b1) hn hm).mono ?_
  rintro e w2 ⟨rfl, b2⟩
  rw [hsd]
  have B2 := belowCall b1 b2
  have h2 := h.mono B2
  have hs2 := hs.mono B2
  clear hok hsd b1 b2
  go_wp2
  go_loopw [6, 7, 8] (fun oo i _ wr => ∃ k : Nat, k ≤ n ∧ i = .int .i64 k ∧ QqB w2.heap.size 26 wr oo (prP (clP xs ss) n k) ∧ Below w2.heap.size w2 wr) (fun _ i _ _ => n - (Go.RowKit.intOf i).toNat)
  case atStart => exact ⟨0, Nat.zero_le _, rfl, QqB.lit _ _, by (repeat (first | assumption | exact Below.refl _ _ | refine belowDN ?_ _ | refine Below.drew ?_ | refine Below.setCell ?_ (by first | omega | (simp <;> omega)) _ | refine Below.alloc ?_ (by first | omega | (simp <;> omega)) _ | refine belowCall ?_ (by assumption)))⟩
  case round =>
    obtain ⟨i, hin, rfl, hQ, hB⟩ := hrel
    by_cases hlt : i < n
    · obtain ⟨b1, o1, rfl, hc⟩ := h2.2 i hlt
      obtain ⟨⟨x0, x1, x2⟩, hx⟩ : ∃ x, xs[i]?.getD mk0 = x := ⟨_, rfl⟩
      have HVX := Lib.hid (okC_mark HL.out HOK.out hlt hx)
      rw [hx] at hc
      obtain ⟨hsl, hsi⟩ := sd_at HSD.out hlt
      obtain ⟨sb, so, rfl, hsbl, hsc⟩ := hs2.2 i (by have := hs2.1; omega)
      obtain ⟨si, hsie⟩ : ∃ s, ss[i]?.getD 0 = s := ⟨_, rfl⟩
      rw [hsie] at hsi hsc
      obtain ⟨hsi0, hsi3⟩ := inB_iff.1 hsi
      have HX := Lib.hid hx
      have HSI := Lib.hid hsie
      have HSL := Lib.hid hsl
      clear hx hsie hsi hsl
      have hii : (i : Int) < (n : Int) := by omega
      have hi0 : (0 : Int) ≤ (i : Int) := by omega
      have him : (i : Int) < (m : Int) := by have := hs2.1; have := HSL.out; omega
      have e0 : prP (clP xs ss) n i = prP (clP xs ss) n i ++ prR (clP xs ss) i (i + 1) := by rw [prR_none (Nat.le_refl _), List.append_nil]
      have hQ0 := hQ
      rw [e0] at hQ0
      clear hQ e0
      go_wp2
      go_loopw [6, 8] (fun oo k wi => ∃ j : Nat, i < j ∧ j ≤ n ∧ k = .int .i64 j ∧ QqB w2.heap.size 26 wi oo (prP (clP xs ss) n i ++ prR (clP xs ss) i j) ∧ Below w2.heap.size w2 wi) (fun _ k _ => n - (Go.RowKit.intOf k).toNat)
      case atStart => exact ⟨i + 1, by omega, by omega, by go_num, hQ0, hB⟩
      case round =>
        obtain ⟨j, hij, hjn, rfl, hQj, hBi⟩ := hrel
        clear hQ0 hB
        by_cases hj : j < n
        · obtain ⟨b1', o1', he, hc'⟩ := h2.2 j hj
          cases he
          obtain ⟨⟨y0, y1, y2⟩, hy⟩ : ∃ x, xs[j]?.getD mk0 = x := ⟨_, rfl⟩
          have HVY := Lib.hid (okC_mark HL.out HOK.out hj hy)
          rw [hy] at hc'
          obtain ⟨-, hsj⟩ := sd_at HSD.out hj
          obtain ⟨sb', so', he, -, hsc'⟩ := hs2.2 j (by have := hs2.1; have := HSL.out; omega)
          cases he
          obtain ⟨sj, hsje⟩ : ∃ s, ss[j]?.getD 0 = s := ⟨_, rfl⟩
          rw [hsje] at hsj hsc'
          obtain ⟨hsj0, hsj3⟩ := inB_iff.1 hsj
          have HY := Lib.hid hy
          have HSJ := Lib.hid hsje
          clear hy hsje hsj
          have hjj : (j : Int) < (n : Int) := by omega
          have hj0 : (0 : Int) ≤ (j : Int) := by omega
          have hjm : (j : Int) < (m : Int) := by have := hs2.1; have := HSL.out; omega
          have hcl := prP_len (clP xs ss) n i
          have hcr := prR_len (clP xs ss) i j
          have hml : i * n ≤ 30 * 30 := Nat.mul_le_mul (by omega) hn30
          obtain ⟨L, hLe⟩ : ∃ L, prP (clP xs ss) n i ++ prR (clP xs ss) i j = L := ⟨_, rfl⟩
          have hLl : L.length ≤ 2000 := by rw [← hLe, List.length_append]; omega
          rw [hLe] at hQj
          have HLE := Lib.hid hLe
          clear hLe hcl hcr hml
          obtain ⟨hb1, p0, p1, p2⟩ := (hc.mono hBi).parts
          obtain ⟨-, r0, r1, r2⟩ := (hc'.mono hBi).parts
          have hsb : sb < wr.heap.size := Nat.lt_of_lt_of_le hsbl hBi.size
          have t0 := (hBi.cell (p := ⟨sb, so + i, none⟩) hsbl).trans hsc
          have t1 := (hBi.cell (p := ⟨sb, so + j, none⟩) hsbl).trans hsc'
          obtain ⟨⟨a0, a1, a2, a3⟩, ha⟩ : ∃ q, bxQ (x0, x1, x2) si = q := ⟨_, rfl⟩
          obtain ⟨⟨b0, b1', b2, b3⟩, hbq⟩ : ∃ q, bxQ (y0, y1, y2) sj = q := ⟨_, rfl⟩
          have HA := Lib.hid ha
          have HB := Lib.hid hbq
          clear ha hbq
          have hbl := hBi.size
          have hcp : clP xs ss i j = ovB (a0, a1, a2, a3) (b0, b1', b2, b3) := by rw [clP, HX.out, HY.out, HSI.out, HSJ.out, HA.out, HB.out]
          cases hov : ovB (a0, a1, a2, a3) (b0, b1', b2, b3)
          · have HS := Lib.hid (prR_no (p := clP xs ss) (i := i) (k := j) (by rw [hcp]; exact hov))
            have HQ := Lib.hid hQj
            clear hQj hcp
            go_wp2
            go_region_held3 (fun W' => W'.cell? ⟨b1, o1 + i * 3, none⟩ = some (.int .i64 x0) ∧ W'.cell? ⟨b1, o1 + i * 3 + 1, none⟩ = some (.int .i64 x1) ∧ W'.cell? ⟨b1, o1 + i * 3 + 2, none⟩ = some (.int .i64 x2) ∧ W'.cell? ⟨b1, o1 + j * 3, none⟩ = some (.int .i64 y0) ∧ W'.cell? ⟨b1, o1 + j * 3 + 1, none⟩ = some (.int .i64 y1) ∧ W'.cell? ⟨b1, o1 + j * 3 + 2, none⟩ = some (.int .i64 y2) ∧ W'.cell? ⟨sb, so + i, none⟩ = some (.int .i64 si) ∧ W'.cell? ⟨sb, so + j, none⟩ = some (.int .i64 sj)) (refine ⟨?_, ?_, ?_, ?_, ?_, ?_, ?_, ?_⟩ <;> first | assumption | exact ((show Below wr.heap.size wr _ by (repeat (first | assumption | exact Below.refl _ _ | refine belowDN ?_ _ | refine Below.drew ?_ | refine Below.setCell ?_ (by first | omega | (simp <;> omega)) _ | refine Below.alloc ?_ (by first | omega | (simp <;> omega)) _ | refine belowCall ?_ (by assumption)))).cell (p := ⟨b1, o1 + i * 3, none⟩) hb1).trans p0 | exact ((show Below wr.heap.size wr _ by (repeat (first | assumption | exact Below.refl _ _ | refine belowDN ?_ _ | refine Below.drew ?_ | refine Below.setCell ?_ (by first | omega | (simp <;> omega)) _ | refine Below.alloc ?_ (by first | omega | (simp <;> omega)) _ | refine belowCall ?_ (by assumption)))).cell (p := ⟨b1, o1 + i * 3 + 1, none⟩) hb1).trans p1 | exact ((show Below wr.heap.size wr _ by (repeat (first | assumption | exact Below.refl _ _ | refine belowDN ?_ _ | refine Below.drew ?_ | refine Below.setCell ?_ (by first | omega | (simp <;> omega)) _ | refine Below.alloc ?_ (by first | omega | (simp <;> omega)) _ | refine belowCall ?_ (by assumption)))).cell (p := ⟨b1, o1 + i * 3 + 2, none⟩) hb1).trans p2 | exact ((show Below wr.heap.size wr _ by (repeat (first | assumption | exact Below.refl _ _ | refine belowDN ?_ _ | refine Below.drew ?_ | refine Below.setCell ?_ (by first | omega | (simp <;> omega)) _ | refine Below.alloc ?_ (by first | omega | (simp <;> omega)) _ | refine belowCall ?_ (by assumption)))).cell (p := ⟨b1, o1 + j * 3, none⟩) hb1).trans r0 | exact ((show Below wr.heap.size wr _ by (repeat (first | assumption | exact Below.refl _ _ | refine belowDN ?_ _ | refine Below.drew ?_ | refine Below.setCell ?_ (by first | omega | (simp <;> omega)) _ | refine Below.alloc ?_ (by first | omega | (simp <;> omega)) _ | refine belowCall ?_ (by assumption)))).cell (p := ⟨b1, o1 + j * 3 + 1, none⟩) hb1).trans r1 | exact ((show Below wr.heap.size wr _ by (repeat (first | assumption | exact Below.refl _ _ | refine belowDN ?_ _ | refine Below.drew ?_ | refine Below.setCell ?_ (by first | omega | (simp <;> omega)) _ | refine Below.alloc ?_ (by first | omega | (simp <;> omega)) _ | refine belowCall ?_ (by assumption)))).cell (p := ⟨b1, o1 + j * 3 + 2, none⟩) hb1).trans r2 | exact ((show Below wr.heap.size wr _ by (repeat (first | assumption | exact Below.refl _ _ | refine belowDN ?_ _ | refine Below.drew ?_ | refine Below.setCell ?_ (by first | omega | (simp <;> omega)) _ | refine Below.alloc ?_ (by first | omega | (simp <;> omega)) _ | refine belowCall ?_ (by assumption)))).cell (p := ⟨sb, so + i, none⟩) hsb).trans t0 | exact ((show Below wr.heap.size wr _ by (repeat (first | assumption | exact Below.refl _ _ | refine belowDN ?_ _ | refine Below.drew ?_ | refine Below.setCell ?_ (by first | omega | (simp <;> omega)) _ | refine Below.alloc ?_ (by first | omega | (simp <;> omega)) _ | refine belowCall ?_ (by assumption)))).cell (p := ⟨sb, so + j, none⟩) hsb).trans t1) (first | (go_at_call 51; refine (l07Box_any _ _ _ _ _ (by first | exact HVX.out | exact HVY.out) (by first | exact hsi0 | exact hsj0) (by first | exact hsi3 | exact hsj3)).mono ?_; rintro e wN ⟨gN, rfl, hoN, bN⟩; have hqN := Q4C.of_own hoN; (first | rw [HA.out] at hqN | rw [HB.out] at hqN); clear hoN) | (go_at_call 50; refine (l07Meet_any _ _ a0 a1 a2 a3 b0 b1' b2 b3 _ (by first | assumption | exact Q4C.mono (by assumption) (by assumption)) (by first | assumption | exact Q4C.mono (by assumption) (by assumption))).mono ?_; rintro e wM ⟨rfl, bM⟩; rw [hov]; have hbD : Below wr.heap.size wr wM := (by (repeat (first | assumption | exact Below.refl _ _ | refine belowDN ?_ _ | refine Below.drew ?_ | refine Below.setCell ?_ (by first | omega | (simp <;> omega)) _ | refine Below.alloc ?_ (by first | omega | (simp <;> omega)) _ | refine belowCall ?_ (by assumption))))))
            all_goals
              have HF := Lib.hid (HQ.out.below hbD)
              have hBM := belowCall hBi hbD
              clear bM
              go_wp2
              go_roundw
              case rel => exact ⟨j + 1, by omega, by omega, by go_num, by rw [HS.out, HLE.out]; exact HF.out, hBM⟩
              case measure => simp [Go.RowKit.intOf]; omega
          · have HS := Lib.hid (prR_yes (p := clP xs ss) hij (by rw [hcp]; exact hov))
            obtain ⟨bs, hq1, hq2, hq3⟩ := hQj
            clear hcp
            go_wp2
            go_region_held3 (fun W' => W'.cell? ⟨b1, o1 + i * 3, none⟩ = some (.int .i64 x0) ∧ W'.cell? ⟨b1, o1 + i * 3 + 1, none⟩ = some (.int .i64 x1) ∧ W'.cell? ⟨b1, o1 + i * 3 + 2, none⟩ = some (.int .i64 x2) ∧ W'.cell? ⟨b1, o1 + j * 3, none⟩ = some (.int .i64 y0) ∧ W'.cell? ⟨b1, o1 + j * 3 + 1, none⟩ = some (.int .i64 y1) ∧ W'.cell? ⟨b1, o1 + j * 3 + 2, none⟩ = some (.int .i64 y2) ∧ W'.cell? ⟨sb, so + i, none⟩ = some (.int .i64 si) ∧ W'.cell? ⟨sb, so + j, none⟩ = some (.int .i64 sj)) (refine ⟨?_, ?_, ?_, ?_, ?_, ?_, ?_, ?_⟩ <;> first | assumption | exact ((show Below wr.heap.size wr _ by (repeat (first | assumption | exact Below.refl _ _ | refine belowDN ?_ _ | refine Below.drew ?_ | refine Below.setCell ?_ (by first | omega | (simp <;> omega)) _ | refine Below.alloc ?_ (by first | omega | (simp <;> omega)) _ | refine belowCall ?_ (by assumption)))).cell (p := ⟨b1, o1 + i * 3, none⟩) hb1).trans p0 | exact ((show Below wr.heap.size wr _ by (repeat (first | assumption | exact Below.refl _ _ | refine belowDN ?_ _ | refine Below.drew ?_ | refine Below.setCell ?_ (by first | omega | (simp <;> omega)) _ | refine Below.alloc ?_ (by first | omega | (simp <;> omega)) _ | refine belowCall ?_ (by assumption)))).cell (p := ⟨b1, o1 + i * 3 + 1, none⟩) hb1).trans p1 | exact ((show Below wr.heap.size wr _ by (repeat (first | assumption | exact Below.refl _ _ | refine belowDN ?_ _ | refine Below.drew ?_ | refine Below.setCell ?_ (by first | omega | (simp <;> omega)) _ | refine Below.alloc ?_ (by first | omega | (simp <;> omega)) _ | refine belowCall ?_ (by assumption)))).cell (p := ⟨b1, o1 + i * 3 + 2, none⟩) hb1).trans p2 | exact ((show Below wr.heap.size wr _ by (repeat (first | assumption | exact Below.refl _ _ | refine belowDN ?_ _ | refine Below.drew ?_ | refine Below.setCell ?_ (by first | omega | (simp <;> omega)) _ | refine Below.alloc ?_ (by first | omega | (simp <;> omega)) _ | refine belowCall ?_ (by assumption)))).cell (p := ⟨b1, o1 + j * 3, none⟩) hb1).trans r0 | exact ((show Below wr.heap.size wr _ by (repeat (first | assumption | exact Below.refl _ _ | refine belowDN ?_ _ | refine Below.drew ?_ | refine Below.setCell ?_ (by first | omega | (simp <;> omega)) _ | refine Below.alloc ?_ (by first | omega | (simp <;> omega)) _ | refine belowCall ?_ (by assumption)))).cell (p := ⟨b1, o1 + j * 3 + 1, none⟩) hb1).trans r1 | exact ((show Below wr.heap.size wr _ by (repeat (first | assumption | exact Below.refl _ _ | refine belowDN ?_ _ | refine Below.drew ?_ | refine Below.setCell ?_ (by first | omega | (simp <;> omega)) _ | refine Below.alloc ?_ (by first | omega | (simp <;> omega)) _ | refine belowCall ?_ (by assumption)))).cell (p := ⟨b1, o1 + j * 3 + 2, none⟩) hb1).trans r2 | exact ((show Below wr.heap.size wr _ by (repeat (first | assumption | exact Below.refl _ _ | refine belowDN ?_ _ | refine Below.drew ?_ | refine Below.setCell ?_ (by first | omega | (simp <;> omega)) _ | refine Below.alloc ?_ (by first | omega | (simp <;> omega)) _ | refine belowCall ?_ (by assumption)))).cell (p := ⟨sb, so + i, none⟩) hsb).trans t0 | exact ((show Below wr.heap.size wr _ by (repeat (first | assumption | exact Below.refl _ _ | refine belowDN ?_ _ | refine Below.drew ?_ | refine Below.setCell ?_ (by first | omega | (simp <;> omega)) _ | refine Below.alloc ?_ (by first | omega | (simp <;> omega)) _ | refine belowCall ?_ (by assumption)))).cell (p := ⟨sb, so + j, none⟩) hsb).trans t1) (first | (go_at_call 51; refine (l07Box_any _ _ _ _ _ (by first | exact HVX.out | exact HVY.out) (by first | exact hsi0 | exact hsj0) (by first | exact hsi3 | exact hsj3)).mono ?_; rintro e wN ⟨gN, rfl, hoN, bN⟩; have hqN := Q4C.of_own hoN; (first | rw [HA.out] at hqN | rw [HB.out] at hqN); clear hoN) | (go_at_call 50; refine (l07Meet_any _ _ a0 a1 a2 a3 b0 b1' b2 b3 _ (by first | assumption | exact Q4C.mono (by assumption) (by assumption)) (by first | assumption | exact Q4C.mono (by assumption) (by assumption))).mono ?_; rintro e wM ⟨rfl, bM⟩; rw [hov]; have hbD : Below wr.heap.size wr wM := (by (repeat (first | assumption | exact Below.refl _ _ | refine belowDN ?_ _ | refine Below.drew ?_ | refine Below.setCell ?_ (by first | omega | (simp <;> omega)) _ | refine Below.alloc ?_ (by first | omega | (simp <;> omega)) _ | refine belowCall ?_ (by assumption))))))
            all_goals
              obtain ⟨hrA, hcA, hbA', hszA⟩ := two_newsP wM (i : Int) (j : Int) 2 26 rfl
              have hzD := hbD.size
              have hbA := belowCall hbD hbA'
              have hBA := belowCall hBi hbA
              clear bM
              go_wp2_with (at_builtin; refine wpList_append_own_at _ rfl _ _ 31 rfl w2.heap.size 26 iq _ 1 24 Tryd.underlying31 hiq hzq0 hzq1 hzq2 rfl (by decide) _ _ _ rfl (ownKeepQ hq1 hbA) ⟨wM.heap.size + 1, 0, none⟩ 1 1 [.slice (some ⟨wM.heap.size, 0, none⟩) 2 2] rfl rfl hcA (by intro u hu; simp at hu; subst hu; rfl) (by unfold maxLen; omega) (by omega) (by rw [hszA]; omega) ?_; intro v7 w7 hown7 hg7 hnil7 hl7)
              have hQ' := QqB.snoc hq1 hq2 hq3 hbA hrA (by omega) (by omega) hown7 hg7 hl7
              have hB7 : Below w2.heap.size w2 w7 := hBA.grown hg7 hBA.size (fun r e => (hq1.lt r e).1)
              have HQ := Lib.hid hQ'
              clear hQ' hown7 hg7 hl7 hnil7 hq1 hq2 hq3
              go_wp2
              go_roundw
              case rel => exact ⟨j + 1, by omega, by omega, by go_num, by rw [HS.out, ← List.append_assoc, HLE.out]; exact HQ.out, hB7⟩
              case measure => simp [Go.RowKit.intOf]; omega
        · obtain rfl : n = j := by omega
          rw [← prP_step] at hQj
          have HQ := Lib.hid hQj
          clear hQj
          go_wp2
          go_roundw
          case rel => exact ⟨i + 1, by omega, by go_num, HQ.out, hBi⟩
          case measure => simp [Go.RowKit.intOf]; omega
    · obtain rfl : n = i := by omega
      have HQ := Lib.hid (hQ.low B2.size)
      clear hQ
      go_wp2
      go_ret2
      exact ⟨by rw [HC.out.1, HC.out.2]; exact QqRes.own HQ.out, belowCall B2 hB⟩
end Go.Proofs.YtfabpcdeppfmdaaDoor
