/- TimesIn, both sides. -/
import Derived.Test.YtejkflacpbjkjaaDoorF2
import Derived.Test.YtejkflacpbjkjaaDoorH7R
import Derived.Test.YtejkflacpbjkjaaDoorFK
import Derived.Deep.AppendLies
namespace Go.Proofs.YtejkflacpbjkjaaDoor
open Go.ChangeShapes Go.WideShapes Go.ChangeAt Go.RowKit Go.Deep

theorem ti_1 {e p f t : Int} (h : ephB e p = false) : tiC e p f t = 1 ∧ tiL e p f t = [] := by simp [tiC, tiL, h]
theorem ti_2 {e p f t : Int} (h : ephB e p = true) (h2 : (tmB f && tmB t) = false) : tiC e p f t = 2 ∧ tiL e p f t = [] := by simp only [tiC, tiL, h, h2]; simp
theorem ti_5 {e p f t : Int} (h : ephB e p = true) (h2 : (tmB f && tmB t) = true) (h3 : ¬ tiN e p f t ≤ 200) : tiC e p f t = 5 ∧ tiL e p f t = [] := by simp only [tiC, tiL, h, h2]; simp [h3]
theorem ti_0 {e p f t : Int} (h : ephB e p = true) (h2 : (tmB f && tmB t) = true) (h3 : tiN e p f t ≤ 200) : tiC e p f t = 0 ∧ tiL e p f t = tiAll e p f (tiN e p f t) := by simp only [tiC, tiL, h, h2]; simp [h3]
theorem ecd2_2 {e p f t : Int} (h : ephB e p = true) (h2 : (tmB f && tmB t) = false) : ecd e p [f, t] = 2 := ecd_tm h (by simpa using h2)
theorem ecd2_0 {e p f t : Int} (h : ephB e p = true) (h2 : (tmB f && tmB t) = true) : ecd e p [f, t] = 0 := ecd_ok h (by simpa using h2)
theorem tiAll_map (e p f : Int) (k : Nat) : (tiAll e p f (k + 1)).map (Value.int .i64) = (tiAll e p f k).map (Value.int .i64) ++ [.int .i64 (nxt e p f + (k : Int) * p)] := by rw [tiAll_snoc, List.map_append]; rfl
theorem nxt_mul_bd {e p f t : Int} {k : Nat} (hp : 1 ≤ p) (hp2 : p ≤ 1000000) (hf : 0 ≤ f) (hf2 : f ≤ 10000000) (ht : t ≤ 10000000) (hk : k ≤ tiN e p f t) : 0 ≤ nxt e p f + (k : Int) * p ∧ nxt e p f + (k : Int) * p ≤ 12000000 := by
  have hb := nxt_bd (e := e) (t := f) hp
  have h0 : 0 ≤ (k : Int) * p := Int.mul_nonneg (by omega) (by omega)
  refine ⟨by omega, ?_⟩
  by_cases hz : k = 0
  · subst hz; simp; omega
  · have h1 := (ti_more (e := e) (f := f) (t := t) hp (k - 1)).2 (by omega)
    have h2 : ((k - 1 : Nat) : Int) * p = (k : Int) * p - p := by
      rw [show ((k - 1 : Nat) : Int) = (k : Int) - 1 by omega, Int.sub_mul, Int.one_mul]
    omega
set_option maxRecDepth 100000 in
set_option maxHeartbeats 4000000 in
theorem iTi_any (e p f t : Int) (w : World) :
    Calls Tryd.prog 11 #[.agg #[.int .i64 e, .int .i64 p], .int .i64 f, .int .i64 t] w fun x w' => IntRes w.heap.size (tiL e p f t) (.int .i64 (tiC e p f t)) w' x ∧ Below w.heap.size w w' := by
  (have hbx := PtC.fresh w 25 e p; have B1 : Below w.heap.size w (w.alloc (.cells #[.int .i64 e, .int .i64 p] 25)) := (Below.refl _ w).alloc (Nat.le_refl _) _)
  cases he : ephB e p
  · have HC := Lib.hid (ecd_eph (ts := [f, t]) he)
    have HD := Lib.hid (ti_1 (f := f) (t := t) he)
    go_enter Tryd.func11, Tryd.ntmps11
    go_wp2_with fail
    (refine (checkT_any e p _ 2 2 [f, t] _ (lst2 e p f t w _ _) (by omega)).mono ?_; rintro x w2 ⟨rfl, b2'⟩; have b2 : Below (w.alloc (.cells #[.int .i64 e, .int .i64 p] 25)).heap.size (w.alloc (.cells #[.int .i64 e, .int .i64 p] 25)) w2 := belowCall ((Below.refl _ _).alloc (Nat.le_refl _) _) b2'; clear b2'; have B2 := belowCall B1 b2; obtain ⟨hlt, k0, k1⟩ := (hbx.mono b2).parts; rw [Nat.zero_add] at k1)
    rw [HC.out]
    go_wp2
    go_ret2
    exact ⟨by rw [HD.out.1, HD.out.2]; exact IntRes.nil _ _ _, B2⟩
  cases ht : (tmB f && tmB t)
  · have HC := Lib.hid (ecd2_2 he ht)
    have HD := Lib.hid (ti_2 he ht)
    go_enter Tryd.func11, Tryd.ntmps11
    go_wp2_with fail
    (refine (checkT_any e p _ 2 2 [f, t] _ (lst2 e p f t w _ _) (by omega)).mono ?_; rintro x w2 ⟨rfl, b2'⟩; have b2 : Below (w.alloc (.cells #[.int .i64 e, .int .i64 p] 25)).heap.size (w.alloc (.cells #[.int .i64 e, .int .i64 p] 25)) w2 := belowCall ((Below.refl _ _).alloc (Nat.le_refl _) _) b2'; clear b2'; have B2 := belowCall B1 b2; obtain ⟨hlt, k0, k1⟩ := (hbx.mono b2).parts; rw [Nat.zero_add] at k1)
    rw [HC.out]
    go_wp2
    go_ret2
    exact ⟨by rw [HD.out.1, HD.out.2]; exact IntRes.nil _ _ _, B2⟩
  have HC := Lib.hid (ecd2_0 he ht)
  have H5 := Lib.hid (ti_5 (e := e) (p := p) he ht)
  have H0 := Lib.hid (ti_0 (e := e) (p := p) he ht)
  obtain ⟨⟨h1, h2⟩, h3, h4⟩ := ephB_iff.1 he
  rw [Bool.and_eq_true, tmB_iff, tmB_iff] at ht
  obtain ⟨⟨h5, h6⟩, h7, h8⟩ := ht
  obtain ⟨i0, hi, hz0, hz1, hz2⟩ := info_parts A_info
  have hcf : ∀ W, Calls Tryd.prog 22 #[.agg #[.int .i64 e, .int .i64 p], .int .i64 f] W fun x w' => x = .returned (.int .i64 (cyc e p (f - 1) + 1)) ∧ Below W.heap.size W w' := fun W => iCycF_any e p f W h1 h2 h3 h4 h5 h6
  have hcy : ∀ W, Calls Tryd.prog 19 #[.agg #[.int .i64 e, .int .i64 p], .int .i64 t] W fun x w' => x = .returned (.int .i64 (cyc e p t)) ∧ Below W.heap.size W w' := fun W => iCyc_any e p t W h1 h2 h3 h4 (by omega) (by omega)
  have hq1 := ediv_bd (f - 1 - e) p 20000000 (by omega) (by omega)
  have hq2 := ediv_bd (t - e) p 20000000 (by omega) (by omega)
  change -20000000 ≤ cyc e p (f - 1) ∧ cyc e p (f - 1) ≤ 20000000 at hq1
  change -20000000 ≤ cyc e p t ∧ cyc e p t ≤ 20000000 at hq2
  have hN : tiN e p f t = (cyc e p t - cyc e p (f - 1)).toNat := rfl
  have HXT := Lib.hid (fun k : Nat => ti_ext (e := e) (f := f) h3 k)
  have HBD := Lib.hid (fun (k : Nat) (hk : k ≤ tiN e p f t) => nxt_mul_bd (e := e) h3 h4 h5 h6 h8 hk)
  have HMP := Lib.hid (fun k : Nat => tiAll_map e p f k)
  have HLN := Lib.hid (fun k : Nat => tiAll_len e p f k)
  generalize cyc e p (f - 1) = cf at hcf hq1 hN HXT
  generalize cyc e p t = cl at hcy hq2 hN
  generalize tiN e p f t = K at hN H5 H0 HBD
  go_enter Tryd.func11, Tryd.ntmps11
  go_wp2_with fail
  (refine (checkT_any e p _ 2 2 [f, t] _ (lst2 e p f t w _ _) (by omega)).mono ?_; rintro x w2 ⟨rfl, b2'⟩; have b2 : Below (w.alloc (.cells #[.int .i64 e, .int .i64 p] 25)).heap.size (w.alloc (.cells #[.int .i64 e, .int .i64 p] 25)) w2 := belowCall ((Below.refl _ _).alloc (Nat.le_refl _) _) b2'; clear b2'; have B2 := belowCall B1 b2; obtain ⟨hlt, k0, k1⟩ := (hbx.mono b2).parts; rw [Nat.zero_add] at k1)
  rw [HC.out]
  go_wp2_with fail
  go_region_held3 (fun W' => W'.cell? ⟨w.heap.size, 0, none⟩ = some (.int .i64 e) ∧ W'.cell? ⟨w.heap.size, 1, none⟩ = some (.int .i64 p)) (refine ⟨?_, ?_⟩ <;> first | assumption | exact ((show Below w2.heap.size w2 _ by (repeat (first | assumption | exact Below.refl _ _ | refine belowDN ?_ _ | refine Below.drew ?_ | refine Below.setCell ?_ (by first | omega | (simp <;> omega)) _ | refine Below.alloc ?_ (by first | omega | (simp <;> omega)) _ | refine belowCall ?_ (by assumption)))).cell (p := ⟨w.heap.size, 0, none⟩) hlt).trans k0 | exact ((show Below w2.heap.size w2 _ by (repeat (first | assumption | exact Below.refl _ _ | refine belowDN ?_ _ | refine Below.drew ?_ | refine Below.setCell ?_ (by first | omega | (simp <;> omega)) _ | refine Below.alloc ?_ (by first | omega | (simp <;> omega)) _ | refine belowCall ?_ (by assumption)))).cell (p := ⟨w.heap.size, 1, none⟩) hlt).trans k1) (first | (go_at_call 22; refine (hcf _).mono ?_; rintro x w3 ⟨rfl, b3⟩) | (go_at_call 19; refine (hcy _).mono ?_; rintro x w4 ⟨rfl, b4⟩))
  have B4 := belowCall (belowCall (Below.drew B2) b3) b4
  have hbx4 := (((hbx.mono b2).mono (Below.drew (Below.refl _ _))).mono b3).mono b4
  have hz4 := B4.size
  clear k0 k1 hcf hcy
  by_cases hfull : 200 ≤ cl - (cf + 1)
  · have hfl : decide (200 ≤ cl - (cf + 1)) = true := by simpa using hfull
    have HD := Lib.hid (H5.out (by omega))
    go_wp2
    go_ret2
    exact ⟨by rw [HD.out.1, HD.out.2]; exact IntRes.nil _ _ _, B4⟩
  have hfl : decide (200 ≤ cl - (cf + 1)) = false := by simpa using hfull
  have HD := Lib.hid (H0.out (by omega))
  have hK : K ≤ 200 := by omega
  go_wp2
  go_loopw [11, 12] (fun o i wr => ∃ k : Nat, k ≤ K ∧ i = .int .i64 (cf + 1 + (k : Int)) ∧ wr.ownsRow w4.heap.size 2 1 o k ((tiAll e p f k).map (Value.int .i64)) ∧ Below w4.heap.size w4 wr) (fun _ i _ => (cl + 1 - Go.RowKit.intOf i).toNat)
  case atStart => exact ⟨0, Nat.zero_le _, by simp, World.ownsRow_nil _ _ _ _, Below.refl _ _⟩
  case round =>
    obtain ⟨k, hk, rfl, hown, hB⟩ := hrel
    have hsz := hB.size
    by_cases hlt' : k < K
    · have hle : cf + 1 + (k : Int) ≤ cl := by omega
      have hx := HXT.out k
      have hbd := HBD.out k (by omega)
      rw [← hx] at hbd
      have HM := Lib.hid (HMP.out k)
      have hXT : ∀ W, Calls Tryd.prog 21 #[.agg #[.int .i64 e, .int .i64 p], .int .i64 (cf + 1 + (k : Int))] W fun x w' => x = .returned (.int .i64 (nxt e p f + (k : Int) * p)) ∧ Below W.heap.size W w' := fun W => by rw [← hx]; exact iExt_any e p _ W h1 h2 (by omega) (by omega)
      generalize nxt e p f + (k : Int) * p = X at hXT HM
      obtain ⟨-, q0, q1⟩ := (hbx4.mono hB).parts
      rw [Nat.zero_add] at q1
      clear hx hbd
      go_wp2_with fail
      refine (hXT _).mono ?_
      rintro x w5 ⟨rfl, b5⟩
      have hown5 := ownKeepF hown b5
      have hB5 := hB.trans (b5.mono hsz)
      have hs5 := hB5.size
      clear hXT hown
      go_wp2_with (at_builtin; refine wpList_append_own _ rfl _ _ 30 rfl w4.heap.size 2 i0 (.int .i64 0) 1 8 Tryd.underlying30 hi hz0 hz1 hz2 rfl (by decide) _ _ _ rfl (hown5.alloc _) ⟨w5.heap.size, 0, none⟩ 1 1 [.int .i64 X] rfl rfl (cell_one_new _ _ _) (by intro u hu; simp at hu; subst hu; rfl) (by unfold maxLen; omega) (by omega) (by simp; omega) ?_; intro v7 w7 hown7 hg7 hnil7; have hB7 : Below w4.heap.size w4 w7 := (show Below w4.heap.size w4 (w5.alloc (.cells #[.int .i64 X] 2)) from hB5.alloc (by omega) _).grown hg7 (by simp; omega) (fun j e => (hown5.lt j e).1); clear hg7 hnil7)
      have HO := Lib.hid hown7
      clear hown7 hown5
      go_roundw
      case rel => exact ⟨k + 1, by omega, by (congr 1; omega), by rw [HM.out]; exact HO.out, hB7⟩
      case measure => simp [Go.RowKit.intOf]; omega
    · have hle : ¬ cf + 1 + (k : Int) ≤ cl := by omega
      have hkK : k = K := by omega
      have HK := Lib.hid hkK
      have HO := Lib.hid hown
      clear hkK hown
      go_wp2
      go_ret2
      exact ⟨by rw [HD.out.1, HD.out.2, ← HK.out]; exact IntRes.own (ownLow HO.out hz4) (HLN.out k), belowCall B4 hB⟩
end Go.Proofs.YtejkflacpbjkjaaDoor
