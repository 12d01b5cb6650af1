/- ShiftCycles, both sides. -/
import Derived.Test.YtbjflgohahmjgaaDoorPB
import Derived.Test.YtbjflgohahmjgaaDoorPF
import Derived.Test.YtbjflgohahmjgaaDoorFK
import Derived.Deep.AppendLies
namespace Go.Proofs.YtbjflgohahmjgaaDoor
open Go.ChangeShapes Go.WideShapes Go.ChangeAt Go.RowKit Go.Deep

def shM (by' : Int) (x : Mi) : Mi := (x.1 + by', x.2)
def shL (by' : Int) (xs : List Mi) : List Mi := xs.map (shM by')
theorem shL_len (d : Int) (xs : List Mi) : (shL d xs).length = xs.length := by simp [shL]
theorem shL_at {d : Int} {xs : List Mi} {n k : Nat} {x : Mi} (hn : xs.length = n) (hk : k < n) (hx : xs[k]?.getD mi0 = x) : (shL d xs)[k]?.getD mi0 = shM d x := by
  have h : k < xs.length := by omega
  rw [List.getElem?_eq_getElem h, Option.getD_some] at hx
  simp [shL, h, hx]
theorem shL_step {d : Int} {xs : List Mi} {n k : Nat} {x : Mi} (hn : xs.length = n) (hk : k < n) (hx : xs[k]?.getD mi0 = x) : flatMi (shL d (xs.take (k + 1))) = flatMi (shL d (xs.take k)) ++ [fldMi (shM d x) 0, fldMi (shM d x) 1] := by
  have h : k < xs.length := by omega
  rw [List.getElem?_eq_getElem h, Option.getD_some] at hx
  rw [List.take_succ_eq_append_getElem h, shL, shL, List.map_append, hx]
  exact flatMi_snoc _ _
/-- ShiftCycles' answer -/
def siA (xs : List Mi) (d : Int) : List Mi := if okM xs && cyB d && okM (shL d xs) then shL d xs else []
def siC (xs : List Mi) (d : Int) : Int := if okM xs then (if cyB d then (if okM (shL d xs) then 0 else 5) else 2) else 1
theorem siA_len {xs : List Mi} {n : Nat} (d : Int) (h : xs.length ≤ n) : (siA xs d).length ≤ n := by
  unfold siA
  split
  · rw [shL_len]; exact h
  · simp
theorem si_1 {xs : List Mi} {d : Int} (h : okM xs = false) : siA xs d = [] ∧ siC xs d = 1 := by simp [siA, siC, h]
theorem si_2 {xs : List Mi} {d : Int} (h : okM xs = true) (h2 : cyB d = false) : siA xs d = [] ∧ siC xs d = 2 := by simp [siA, siC, h, h2]
theorem si_5 {xs : List Mi} {d : Int} (h : okM xs = true) (h2 : cyB d = true) (h3 : okM (shL d xs) = false) : siA xs d = [] ∧ siC xs d = 5 := by simp [siA, siC, h, h2, h3]
theorem si_0 {xs : List Mi} {d : Int} (h : okM xs = true) (h2 : cyB d = true) (h3 : okM (shL d xs) = true) : siA xs d = shL d xs ∧ siC xs d = 0 := by simp [siA, siC, h, h2, h3]
/-- n elements, the first k of them shifted, as cells -/
def flM (xs : List Mi) (k n : Nat) : List Value := flatMi (xs.take k ++ List.replicate (n - k) mi0)
theorem flM_zero (xs : List Mi) (n : Nat) : (madeCells (Value.agg #[.int .i64 0, .int .i64 0]).cells (n * 2)).toList = flM xs 0 n := by
  refine List.ext_getElem? fun j => ?_
  by_cases hj : j < n * 2
  · have h1 := made_colMi n j hj xs
    have hl : (madeCells (Value.agg #[.int .i64 0, .int .i64 0]).cells (n * 2)).toList.length = n * 2 := by simp [madeCells]
    have hl2 : (flM xs 0 n).length = n * 2 := by rw [flM, flatMi_len]; simp
    rw [List.getElem?_eq_getElem (by omega), Option.getD_some] at h1
    rw [List.getElem?_eq_getElem (by omega), h1]
    have e : j = j / 2 * 2 + j % 2 := by omega
    have h2 := flatMi_at (xs.take 0 ++ List.replicate (n - 0) mi0) (j / 2) (j % 2) (by simp; omega) (by omega)
    rw [← e] at h2
    rw [flM, h2]
    simp only [colMi]
    rw [if_neg (by omega)]
    congr 2
    simp [List.getElem?_replicate]
    split <;> rfl
  · rw [List.getElem?_eq_none (by simp [madeCells]; omega), List.getElem?_eq_none (by rw [flM, flatMi_len]; simp; omega)]
theorem flM_at {xs : List Mi} {k n : Nat} (hn : xs.length = n) (hk : k < n) {f : Nat} (hf : f < 2) : (flM xs k n)[k * 2 + f]? = some (.int .i64 0) := by
  rw [flM, flatMi_at _ _ _ (by simp; omega) hf]
  have e : (xs.take k ++ List.replicate (n - k) mi0)[k]?.getD mi0 = mi0 := by
    rw [List.getElem?_append_right (by simp; omega), List.getElem?_replicate]
    split <;> rfl
  rw [e]
  match f, hf with
  | 0, _ => rfl
  | 1, _ => rfl
theorem flM_full {xs : List Mi} {n : Nat} (hn : xs.length = n) : flM xs n n = flatMi xs := by
  subst hn; simp [flM]
theorem flM_set {xs : List Mi} {k n : Nat} {x0 x1 : Int} (hn : xs.length = n) (hk : k < n) (hx : xs[k]?.getD mi0 = (x0, x1)) : ((flM xs k n).set (k * 2) (.int .i64 x0)).set (k * 2 + 1) (.int .i64 x1) = flM xs (k + 1) n := by
  have h : k < xs.length := by omega
  rw [List.getElem?_eq_getElem h, Option.getD_some] at hx
  have e1 : (xs.take k).length = k := by simp; omega
  have e2 : (flatMi (xs.take k)).length = k * 2 := by rw [flatMi_len, e1]
  have e3 : n - k = (n - (k + 1)) + 1 := by omega
  rw [flM, flM, List.take_succ_eq_append_getElem h, hx, e3, List.replicate_succ, flatMi_app, flatMi_app, flatMi_app, List.append_assoc]
  rw [List.set_append_right _ _ (by omega), e2, Nat.sub_self, List.set_append_right _ _ (by omega), e2, show k * 2 + 1 - k * 2 = 1 from by omega]
  simp [flatMi, fldMi, mi0]
set_option maxHeartbeats 1000000 in
theorem shCl_any (x0 x1 d : Int) (db : Nat) (w : World) (h1 : -10000 ≤ x0) (h2 : x0 ≤ 10000) (h3 : -10000 ≤ d) (h4 : d ≤ 10000) (q0 : db < w.heap.size) (k0 : w.cell? ⟨db, 0, none⟩ = some (.int .i64 d)) :
    Calls Tryd.prog 52 #[.agg #[.int .i64 x0, .int .i64 x1], .pointer (some ⟨db, 0, none⟩)] w fun r w' => r = .returned (.agg #[.int .i64 (x0 + d), .int .i64 x1]) ∧ Below w.heap.size w w' := by
  have e1 : (w.alloc (.cells #[.int .i64 x0, .int .i64 x1] 34)).heap.size = w.heap.size + 1 := by simp
  have hbx := (MiC.fresh w 34 x0 x1).mono ((Below.refl _ _).alloc (Nat.le_refl _) (.cells #[.int .i64 0, .int .i64 0] 34))
  have hR := MiC.fresh (w.alloc (.cells #[.int .i64 x0, .int .i64 x1] 34)) 34 0 0
  have z0 : ((w.alloc (.cells #[.int .i64 x0, .int .i64 x1] 34)).alloc (.cells #[.int .i64 0, .int .i64 0] 34)).frozen? ⟨w.heap.size + 1, 0, none⟩ = false := by rw [← e1]; go_keep
  have z1 : ((w.alloc (.cells #[.int .i64 x0, .int .i64 x1] 34)).alloc (.cells #[.int .i64 0, .int .i64 0] 34)).frozen? ⟨w.heap.size + 1, 1, none⟩ = false := by rw [← e1]; go_keep
  have hB : Below w.heap.size w ((w.alloc (.cells #[.int .i64 x0, .int .i64 x1] 34)).alloc (.cells #[.int .i64 0, .int .i64 0] 34)) := ((Below.refl w.heap.size w).alloc (Nat.le_refl _) _).alloc (by rw [e1]; omega) _
  rw [e1] at hR
  have hd := (hB.cell (p := ⟨db, 0, none⟩) q0).trans k0
  go_enter Tryd.func52, Tryd.ntmps52
  go_upto_region 1 with fail
  generalize (w.alloc (.cells #[.int .i64 x0, .int .i64 x1] 34)).alloc (.cells #[.int .i64 0, .int .i64 0] 34) = v at hbx hR z0 z1 hB hd ⊢
  obtain ⟨-, c0, c1⟩ := hbx.parts
  obtain ⟨-, r0, r1⟩ := hR.parts
  rw [Nat.zero_add] at c1 r1
  go_wp2
  have t0 : ((v.setCell ⟨w.heap.size + 1, 0, none⟩ (.int .i64 (x0 + d))).setCell ⟨w.heap.size + 1, 1, none⟩ (.int .i64 x1)).cell? ⟨w.heap.size + 1, 0, none⟩ = some (.int .i64 (x0 + d)) := scO (by decide) (scS r0)
  have t1 : ((v.setCell ⟨w.heap.size + 1, 0, none⟩ (.int .i64 (x0 + d))).setCell ⟨w.heap.size + 1, 1, none⟩ (.int .i64 x1)).cell? ⟨w.heap.size + 1, 1, none⟩ = some (.int .i64 x1) := scS (scO (by decide) r1)
  exact bodyPost_ret (v := .agg #[.int .i64 (x0 + d), .int .i64 x1]) (by simp [results, Tryd.results52, go_sem, t0, t1]) rfl ⟨rfl, (hB.setCell (by show w.heap.size ≤ w.heap.size + 1; omega) _).setCell (by show w.heap.size ≤ w.heap.size + 1; omega) _⟩
set_option maxRecDepth 100000 in
set_option maxHeartbeats 2000000 in
theorem mapS_any (a : Option Addr) (n c : Nat) (xs : List Mi) (d : Int) (db : Nat) (w : World) (h : MiL w a n xs) (hok : okM xs = true) (hd : cyB d = true) (q0 : db < w.heap.size) (k0 : w.cell? ⟨db, 0, none⟩ = some (.int .i64 d)) :
    Calls Tryd.prog 51 #[.slice a n c, .func (.func 52) #[] #[.pointer (some ⟨db, 0, none⟩)]] w fun x w' => ∃ g, x = .returned (.slice (some ⟨g, 0, none⟩) n n) ∧ w'.ownsRow w.heap.size 34 2 (.slice (some ⟨g, 0, none⟩) n n) n (flatMi (shL d xs)) ∧ Below w.heap.size w w' := by
  obtain ⟨i0, hi, hz0, hz1, hz2⟩ := info_parts Mi_info
  obtain ⟨hn, hbd, -⟩ := okM_num h.1 hok
  obtain ⟨d1, d2⟩ := cyB_iff.1 hd
  have HBD := Lib.hid hbd
  have HL := Lib.hid h.1
  have HSL : Hid ((shL d xs).length = n) := Lib.hid ((shL_len d xs).trans h.1)
  have hl : (n : Int) ≤ 50 := by omega
  have hb : n ≤ maxLen := by unfold maxLen; omega
  clear hok hd hbd
  go_enter Tryd.func51, Tryd.ntmps51
  go_wp2_with (at_make; refine wpList_make_full _ rfl _ _ 24 rfl w.heap.size 34 i0 (.agg #[.int .i64 0, .int .i64 0]) 2 Tryd.underlying24 hi hz0 hz1 .i64 .i64 n n n rfl rfl rfl rfl (by rw [hz2]; omega) hb (Nat.le_refl _) ?_; intro w1 hown hgrow)
  go_loopw [13] (fun i wr => ∃ k : Nat, k ≤ n ∧ i = .int .i64 k ∧ wr.ownsRow w.heap.size 34 2 (.slice (some ⟨w.heap.size, 0, none⟩) n n) n (flM (shL d xs) k n) ∧ Below w.heap.size w wr) (fun i _ => n - (Go.RowKit.intOf i).toNat)
  case atStart => exact ⟨0, Nat.zero_le _, rfl, by rw [← flM_zero]; exact hown, (Below.refl _ _).grown hgrow (Nat.le_refl _) (fun k hk => by cases hk)⟩
  case round =>
    obtain ⟨k, hk, rfl, hownr, hB⟩ := hrel
    clear hown hgrow
    by_cases hlt : k < n
    · obtain ⟨b1, o1, rfl, hc⟩ := h.2 k hlt
      obtain ⟨⟨x0, x1⟩, hx⟩ : ∃ x, xs[k]?.getD mi0 = x := ⟨_, rfl⟩
      have HAT := Lib.hid (shL_at (d := d) HL.out hlt hx)
      have hbx := HBD.out k hlt
      rw [hx] at hc hbx
      simp only at hbx
      obtain ⟨⟨v1, v2⟩, v3, v4⟩ := hbx
      obtain ⟨-, r0, r1⟩ := (hc.mono hB).parts
      have hkk : (k : Int) < (n : Int) := by omega
      have hsz := hB.size
      have hgl := hownr.lt w.heap.size rfl
      have t0 := (hB.cell (p := ⟨db, 0, none⟩) q0).trans k0
      have b1w : Below wr.heap.size wr (wr.alloc (.cells #[.int .i64 x0, .int .i64 x1] 34)) := (Below.refl _ _).alloc (Nat.le_refl _) _
      have t1 := (b1w.cell (p := ⟨db, 0, none⟩) (by show db < _; omega)).trans t0
      have z1 : (wr.alloc (.cells #[.int .i64 x0, .int .i64 x1] 34)).heap.size = wr.heap.size + 1 := by simp
      have HCL := shCl_any x0 x1 d db _ v1 v2 d1 d2 (by omega) t1
      clear hx hc
      go_wp2_with fail
      refine HCL.mono ?_
      rintro r w5 ⟨rfl, b5⟩
      have D5 : Below wr.heap.size wr w5 := belowCall b1w b5
      have hown5 := ownKeepF hownr D5
      have hB5 := hB.trans (D5.mono hsz)
      have hs5 := hB5.size
      have hf0 := hown5.frozenAt (k * 2)
      have hf1 := hown5.frozenAt (k * 2 + 1)
      have hc0 : w5.cell? ⟨w.heap.size, k * 2, none⟩ = some (.int .i64 0) := by rw [hown5.cellAt (k * 2) (by omega)]; exact flM_at HSL.out hlt (f := 0) (by decide)
      have hc1 : w5.cell? ⟨w.heap.size, k * 2 + 1, none⟩ = some (.int .i64 0) := by rw [hown5.cellAt (k * 2 + 1) (by omega)]; exact flM_at HSL.out hlt (f := 1) (by decide)
      obtain ⟨hs1, hg1⟩ := hown5.stored (k * 2) (.int .i64 (x0 + d))
      obtain ⟨hs2, hg2⟩ := hs1.stored (k * 2 + 1) (.int .i64 x1)
      rw [flM_set HSL.out hlt HAT.out] at hs2
      have HS := Lib.hid hs2
      have HG := Lib.hid ((hB5.grown hg1 hs5 (fun j hj => by cases hj; exact Nat.le_refl _)).grown hg2 (by simpa using hs5) (fun j hj => by cases hj; exact Nat.le_refl _))
      clear hs1 hs2 hg1 hg2 hown5 hownr
      go_wp2
      go_roundw
      case rel => exact ⟨k + 1, by omega, by go_num, HS.out, HG.out⟩
      case measure => simp [Go.RowKit.intOf]; omega
    · obtain rfl : k = n := by omega
      go_wp2
      go_ret
      rw [flM_full HSL.out] at hownr
      exact ⟨_, rfl, hownr, hB⟩
set_option maxRecDepth 100000 in
set_option maxHeartbeats 2000000 in
theorem iShf_any (a : Option Addr) (n c : Nat) (xs : List Mi) (d : Int) (w : World) (h : MiL w a n xs) (hn : n ≤ 1048576) :
    Calls Tryd.prog 18 #[.slice a n c, .int .i64 d] w fun x w' => MiRes w.heap.size (siA xs d) (.int .i64 (siC xs d)) w' x ∧ Below w.heap.size w w' := by
  have B1 : Below w.heap.size w (w.alloc (.cells #[.int .i64 d] 2)) := (Below.refl _ w).alloc (Nat.le_refl _) _
  have hbd : (w.alloc (.cells #[.int .i64 d] 2)).cell? ⟨w.heap.size, 0, none⟩ = some (.int .i64 d) := by go_keep
  have hz : (w.alloc (.cells #[.int .i64 d] 2)).heap.size = w.heap.size + 1 := by simp
  cases hok : okM xs
  · have HD := Lib.hid (si_1 (d := d) hok)
    go_enter Tryd.func18, Tryd.ntmps18
    go_upto_region 1 with fail
    generalize w.alloc (.cells #[.int .i64 d] 2) = v at hbd B1 hz ⊢
    go_wp2_with fail
    refine (iValidMi_any a n c xs _ (h.mono (by (repeat (first | assumption | exact Below.refl _ _ | refine belowDN ?_ _ | refine Below.drew ?_ | refine Below.setCell ?_ (by first | omega | (simp <;> omega)) _ | refine Below.alloc ?_ (by first | omega | (simp <;> omega)) _ | refine belowCall ?_ (by assumption))))) hn).mono ?_
    rintro x w2 ⟨rfl, b2⟩
    rw [hok]
    go_wp2
    go_ret2
    exact ⟨by rw [HD.out.1, HD.out.2]; exact MiRes.nil _ _ _, belowCall B1 b2⟩
  cases hd : cyB d
  · have HD := Lib.hid (si_2 hok hd)
    go_enter Tryd.func18, Tryd.ntmps18
    go_upto_region 1 with fail
    generalize w.alloc (.cells #[.int .i64 d] 2) = v at hbd B1 hz ⊢
    go_wp2_with fail
    refine (iValidMi_any a n c xs _ (h.mono (by (repeat (first | assumption | exact Below.refl _ _ | refine belowDN ?_ _ | refine Below.drew ?_ | refine Below.setCell ?_ (by first | omega | (simp <;> omega)) _ | refine Below.alloc ?_ (by first | omega | (simp <;> omega)) _ | refine belowCall ?_ (by assumption))))) hn).mono ?_
    rintro x w2 ⟨rfl, b2⟩
    rw [hok]
    have t0 := (b2.cell (p := ⟨w.heap.size, 0, none⟩) (by show w.heap.size < _; omega)).trans hbd
    go_wp2_with (go_at_call 50; refine (isCy_any _ _).mono ?_; rintro x w' ⟨rfl, rfl⟩; rw [hd])
    go_ret2
    exact ⟨by rw [HD.out.1, HD.out.2]; exact MiRes.nil _ _ _, belowCall B1 b2⟩
  have HSL : Hid ((shL d xs).length = n) := Lib.hid ((shL_len d xs).trans h.1)
  cases hok2 : okM (shL d xs)
  · have HD := Lib.hid (si_5 hok hd hok2)
    go_enter Tryd.func18, Tryd.ntmps18
    go_upto_region 1 with fail
    generalize w.alloc (.cells #[.int .i64 d] 2) = v at hbd B1 hz ⊢
    go_wp2_with fail
    refine (iValidMi_any a n c xs _ (h.mono (by (repeat (first | assumption | exact Below.refl _ _ | refine belowDN ?_ _ | refine Below.drew ?_ | refine Below.setCell ?_ (by first | omega | (simp <;> omega)) _ | refine Below.alloc ?_ (by first | omega | (simp <;> omega)) _ | refine belowCall ?_ (by assumption))))) hn).mono ?_
    rintro x w2 ⟨rfl, b2⟩
    rw [hok]
    have hs2 := b2.size
    have t0 := (b2.cell (p := ⟨w.heap.size, 0, none⟩) (by show w.heap.size < _; omega)).trans hbd
    have B2 := belowCall B1 b2
    go_wp2_with (go_at_call 50; refine (isCy_any _ _).mono ?_; rintro x w' ⟨rfl, rfl⟩; rw [hd])
    refine (mapS_any a n c xs d w.heap.size w2 (h.mono B2) hok hd (by omega) t0).mono ?_
    rintro x w3 ⟨g, rfl, hown, b3⟩
    have B3 := belowCall B2 b3
    have hL := MiL.of_own hown HSL.out
    go_wp2_with fail
    refine (iValidMi_any _ n n _ _ hL hn).mono ?_
    rintro x w4 ⟨rfl, b4⟩
    rw [hok2]
    go_wp2
    go_ret2
    exact ⟨by rw [HD.out.1, HD.out.2]; exact MiRes.nil _ _ _, belowCall B3 b4⟩
  · have HD := Lib.hid (si_0 hok hd hok2)
    go_enter Tryd.func18, Tryd.ntmps18
    go_upto_region 1 with fail
    generalize w.alloc (.cells #[.int .i64 d] 2) = v at hbd B1 hz ⊢
    go_wp2_with fail
    refine (iValidMi_any a n c xs _ (h.mono (by (repeat (first | assumption | exact Below.refl _ _ | refine belowDN ?_ _ | refine Below.drew ?_ | refine Below.setCell ?_ (by first | omega | (simp <;> omega)) _ | refine Below.alloc ?_ (by first | omega | (simp <;> omega)) _ | refine belowCall ?_ (by assumption))))) hn).mono ?_
    rintro x w2 ⟨rfl, b2⟩
    rw [hok]
    have hs2 := b2.size
    have t0 := (b2.cell (p := ⟨w.heap.size, 0, none⟩) (by show w.heap.size < _; omega)).trans hbd
    have B2 := belowCall B1 b2
    go_wp2_with (go_at_call 50; refine (isCy_any _ _).mono ?_; rintro x w' ⟨rfl, rfl⟩; rw [hd])
    refine (mapS_any a n c xs d w.heap.size w2 (h.mono B2) hok hd (by omega) t0).mono ?_
    rintro x w3 ⟨g, rfl, hown, b3⟩
    have B3 := belowCall B2 b3
    have hL := MiL.of_own hown HSL.out
    go_wp2_with fail
    refine (iValidMi_any _ n n _ _ hL hn).mono ?_
    rintro x w4 ⟨rfl, b4⟩
    rw [hok2]
    have HO := Lib.hid (ownKeepF hown b4)
    have hs3 := B2.size
    clear hown hL
    go_wp2
    go_ret2
    exact ⟨by rw [HD.out.1, HD.out.2]; exact MiRes.own (ownLow HO.out (by omega)) HSL.out, belowCall B3 b4⟩
end Go.Proofs.YtbjflgohahmjgaaDoor
