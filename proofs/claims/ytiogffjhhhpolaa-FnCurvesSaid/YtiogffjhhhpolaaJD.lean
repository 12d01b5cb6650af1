/- CurveOf, the program's. -/
import Derived.Test.YtiogffjhhhpolaaJX
import Derived.Test.YtiogffjhhhpolaaJC
import Derived.Test.YtiogffjhhhpolaaE3
namespace Go.Proofs.Ytiogffjhhhpolaa
open Go.ChangeShapes Go.WideShapes Go.ChangeAt Go.RowKit Go.Deep

theorem coClos_any (B0 : Nat) (o : ByteArray) (x0 : Int) (x1 x2 : ByteArray) (x3 : Int) (x4 : Bool) (w : World) (hm : w.cell? ⟨B0, 0, none⟩ = some (.string o)) :
    Calls Try.prog 78 #[.agg #[.int .i64 x0, .string x1, .string x2, .int .i64 x3, .bool x4], .pointer (some ⟨B0, 0, none⟩)] w fun e w' => e = .returned (.bool (pSeen o (x0, x1, x2, x3, x4))) ∧ Below w.heap.size w w' := by
  have hlt := World.block_lt_of_cell? w _ hm
  dsimp only at hlt
  cases hne : (x1.toList == o.toList)
  · have HV : Hid (pSeen o (x0, x1, x2, x3, x4) = false) := Lib.hid (by simp [pSeen, hne])
    go_enter Try.func78, Try.ntmps78
    go_wp2
    go_ret
    exact ⟨by rw [HV.out]; rfl, by (repeat (first | assumption | exact Below.refl _ _ | refine belowDN ?_ _ | refine Below.drew ?_ | refine Below.setCell ?_ (by first | omega | (simp <;> omega)) _ | refine Below.alloc ?_ (by first | omega | (simp <;> omega)) _ | refine belowCall ?_ (by assumption)))⟩
  · have HV : Hid (pSeen o (x0, x1, x2, x3, x4) = !x4) := Lib.hid (by simp [pSeen, hne])
    go_enter Try.func78, Try.ntmps78
    go_wp2
    go_ret
    exact ⟨by rw [HV.out]; rfl, by (repeat (first | assumption | exact Below.refl _ _ | refine belowDN ?_ _ | refine Below.drew ?_ | refine Below.setCell ?_ (by first | omega | (simp <;> omega)) _ | refine Below.alloc ?_ (by first | omega | (simp <;> omega)) _ | refine belowCall ?_ (by assumption)))⟩
set_option maxRecDepth 100000 in
set_option maxHeartbeats 2000000 in
theorem thatC_any (a : Option Addr) (n cap : Nat) (B0 : Nat) (o : ByteArray) (xs : List Es) (w : World) (h : EsL w a n xs) (hn : n ≤ 1048576) (hm0 : w.cell? ⟨B0, 0, none⟩ = some (.string o)) :
    Calls Try.prog 77 #[.slice a n cap, .func (.func 78) #[] #[.pointer (some ⟨B0, 0, none⟩)]] w fun e w' => ∃ v, e = .returned v ∧ w'.ownsRow w.heap.size 50 5 v (xs.filter (pSeen o)).length (flatEs (xs.filter (pSeen o))) ∧ Below w.heap.size w w' := by
  have HL := Lib.hid h.1
  have hl : (n : Int) ≤ 1048576 := by omega
  obtain ⟨i0, hi, hz0, hz1, hz2⟩ := info_parts Es_info
  have hB0 := World.block_lt_of_cell? w _ hm0
  dsimp only at hB0
  go_enter Try.func77, Try.ntmps77
  go_wp2
  go_loopw [5, 10] (fun oo i wr => ∃ k : Nat, k ≤ n ∧ i = .int .i64 k ∧ wr.ownsRow w.heap.size 50 5 oo (selE (pSeen o) xs k).length (flatEs (selE (pSeen o) xs k)) ∧ Below w.heap.size w wr) (fun _ i _ => n - (Go.RowKit.intOf i).toNat)
  case atStart => exact ⟨0, Nat.zero_le _, rfl, World.ownsRow_nil _ _ _ _, Below.refl _ _⟩
  case round =>
    obtain ⟨k, hk, rfl, hown, hB⟩ := hrel
    by_cases hlt : k < n
    · obtain ⟨b1, o1, rfl, hc⟩ := h.2 k hlt
      obtain ⟨⟨x0, x1, x2, x3, x4⟩, hx⟩ : ∃ x, xs[k]?.getD es0 = x := ⟨_, rfl⟩
      rw [hx] at hc
      obtain ⟨p, p0, p1, p2, p3, p4⟩ := (hc.mono hB).parts
      have hkk : (k : Int) < (n : Int) := by omega
      have hsz := hB.size
      have hLk := selE_len (pSeen o) xs k
      have hm0' := (hB.cell (p := ⟨B0, 0, none⟩) hB0).trans hm0
      cases hp : pSeen o (x0, x1, x2, x3, x4)
      · have HS := Lib.hid (selE_no HL.out hlt hx hp)
        clear hx hc
        go_wp2_with fail
        refine (coClos_any B0 o x0 x1 x2 x3 x4 _ (by go_keep)).mono ?_
        rintro e w2 ⟨rfl, b2⟩
        rw [hp]
        have hB2 : Below w.heap.size w w2 := belowCall (show Below w.heap.size w (wr.alloc (.cells #[.int .i64 x0, .string x1, .string x2, .int .i64 x3, .bool x4] 50)) by (repeat (first | assumption | exact Below.refl _ _ | refine belowDN ?_ _ | refine Below.drew ?_ | refine Below.setCell ?_ (by first | omega | (simp <;> omega)) _ | refine Below.alloc ?_ (by first | omega | (simp <;> omega)) _ | refine belowCall ?_ (by assumption)))) b2
        have hown2 := ownKeepJ (hown.alloc (.cells #[.int .i64 x0, .string x1, .string x2, .int .i64 x3, .bool x4] 50)) b2
        have hsz2 := hB2.size
        go_wp2
        go_roundw
        case rel => exact ⟨k + 1, by omega, by go_num, by rw [HS.out]; exact hown2, hB2⟩
        case measure => simp [Go.RowKit.intOf]; omega
      · have HS := Lib.hid (selE_yes HL.out hlt hx hp)
        clear hx hc
        obtain ⟨zs, hzs⟩ : ∃ zs, selE (pSeen o) xs k = zs := ⟨_, rfl⟩
        obtain ⟨L, hL⟩ : ∃ L, zs.length = L := ⟨_, rfl⟩
        rw [hzs] at hown hLk HS
        rw [hL] at hown hLk
        have HZL := Lib.hid hL
        clear hzs hL
        go_wp2_with fail
        refine (coClos_any B0 o x0 x1 x2 x3 x4 _ (by go_keep)).mono ?_
        rintro e w2 ⟨rfl, b2⟩
        rw [hp]
        have hB2 : Below w.heap.size w w2 := belowCall (show Below w.heap.size w (wr.alloc (.cells #[.int .i64 x0, .string x1, .string x2, .int .i64 x3, .bool x4] 50)) by (repeat (first | assumption | exact Below.refl _ _ | refine belowDN ?_ _ | refine Below.drew ?_ | refine Below.setCell ?_ (by first | omega | (simp <;> omega)) _ | refine Below.alloc ?_ (by first | omega | (simp <;> omega)) _ | refine belowCall ?_ (by assumption)))) b2
        have hown2 := ownKeepJ (hown.alloc (.cells #[.int .i64 x0, .string x1, .string x2, .int .i64 x3, .bool x4] 50)) b2
        have hsz2 := hB2.size
        have k0 : w2.cell? ⟨wr.heap.size, 0, none⟩ = some (.int .i64 x0) := (b2.cell (p := ⟨wr.heap.size, 0, none⟩) (by simp)).trans (by go_keep)
        have k1 : w2.cell? ⟨wr.heap.size, 1, none⟩ = some (.string x1) := (b2.cell (p := ⟨wr.heap.size, 1, none⟩) (by simp)).trans (by go_keep)
        have k2 : w2.cell? ⟨wr.heap.size, 2, none⟩ = some (.string x2) := (b2.cell (p := ⟨wr.heap.size, 2, none⟩) (by simp)).trans (by go_keep)
        have k3 : w2.cell? ⟨wr.heap.size, 3, none⟩ = some (.int .i64 x3) := (b2.cell (p := ⟨wr.heap.size, 3, none⟩) (by simp)).trans (by go_keep)
        have k4 : w2.cell? ⟨wr.heap.size, 4, none⟩ = some (.bool x4) := (b2.cell (p := ⟨wr.heap.size, 4, none⟩) (by simp)).trans (by go_keep)
        go_wp2_with (at_builtin; refine wpList_append_own _ rfl _ _ 46 rfl w.heap.size 50 i0 _ 5 56 Try.underlying46 hi hz0 hz1 hz2 rfl (by decide) _ _ _ rfl (hown2.alloc _) ⟨w2.heap.size, 0, none⟩ 1 1 [.int .i64 x0, .string x1, .string x2, .int .i64 x3, .bool x4] rfl rfl (cellsEs _ _ _ _ _ _ _) (by intro u hu; simp at hu; rcases hu with rfl | rfl | rfl | rfl | rfl <;> rfl) (by unfold maxLen; omega) (by omega) (by have := hB2.size; simp; omega) ?_; intro v7 w7 hown7 hg7 hnil7; have hBb : Below w.heap.size w w7 := (show Below w.heap.size w _ by (repeat (first | assumption | exact Below.refl _ _ | refine belowDN ?_ _ | refine Below.drew ?_ | refine Below.setCell ?_ (by first | omega | (simp <;> omega)) _ | refine Below.alloc ?_ (by first | omega | (simp <;> omega)) _ | refine belowCall ?_ (by assumption)))).grown hg7 (by have := hB2.size; simp; omega) (fun j e => (hown2.lt j e).1))
        have hownb' : w7.ownsRow w.heap.size 50 5 v7 (L + 1) (flatEs (selE (pSeen o) xs (k + 1))) := by rw [HS.out, flatEs_snoc]; exact hown7
        have HLL : Hid ((selE (pSeen o) xs (k + 1)).length = L + 1) := Lib.hid (by rw [HS.out, List.length_append, HZL.out]; rfl)
        clear hown7 hown hown2
        go_roundw
        case rel => exact ⟨k + 1, by omega, by go_num, by rw [HLL.out]; exact hownb', hBb⟩
        case measure => simp [Go.RowKit.intOf]; omega
    · obtain rfl : k = n := by omega
      rw [selE_full HL.out] at hown
      go_wp2
      go_ret
      exact ⟨_, rfl, hown, hB⟩
/-- the seen estimates' points are in order -/
theorem okE_le {xs : List Es} {n : Nat} (hn : xs.length = n) (h : okE xs = true) : ∀ b a, a ≤ b → b < n → (xs[a]?.getD es0).1 ≤ (xs[b]?.getD es0).1 := by
  obtain ⟨-, h2⟩ := okE_at hn h
  intro b
  induction b with
  | zero => intro a h1 _; have : a = 0 := by omega
            subst this; exact Int.le_refl _
  | succ b ih =>
    intro a h1 hb
    by_cases e : a = b + 1
    · subst e; exact Int.le_refl _
    · have h3 := ih a (by omega) (by omega)
      have h4 := h2 (b + 1) hb
      simp only [okAtE, Bool.and_eq_true, Bool.or_eq_true, decide_eq_true_eq, Nat.add_sub_cancel] at h4
      have h5 := h4.2
      simp only [Nat.succ_ne_zero, false_or] at h5
      rcases esLt_iff.1 h5 with h6 | ⟨h6, _⟩ <;> omega
theorem es_bd {xs : List Es} (h : okE xs = true) : ∀ x ∈ xs, bdP (ptE x) := by
  intro x hx
  obtain ⟨j, hj, rfl⟩ := List.getElem_of_mem hx
  have := (okE_at rfl h).2 j hj
  simp only [okAtE, Bool.and_eq_true] at this
  have h1 := this.1
  rw [List.getElem?_eq_getElem hj, Option.getD_some] at h1
  simp only [esB, Bool.and_eq_true, tmB, magB, inB_iff] at h1
  unfold bdP ptE
  simp only
  omega
theorem SB.of_es {xs : List Es} (h : okE xs = true) (s : ByteArray) : SB (ptsE s xs) := by
  refine ⟨fun k hk => ?_, ?_⟩
  · obtain ⟨x, hx, e⟩ := ptsE_mem (getD_mem hk)
    rw [e]; exact es_bd h x hx
  · have hp : xs.Pairwise (fun a b => a.1 ≤ b.1) := by
      rw [List.pairwise_iff_getElem]
      intro i j hi hj hij
      have := okE_le rfl h j i (by omega) hj
      rw [List.getElem?_eq_getElem hi, List.getElem?_eq_getElem hj] at this
      simpa using this
    have hq : (ptsE s xs).Pairwise (fun a b => a.1 ≤ b.1) := by
      unfold ptsE
      rw [List.pairwise_map]
      exact hp.sublist List.filter_sublist
    intro a b hab hb
    by_cases e : a = b
    · subst e; exact Int.le_refl _
    · have := (List.pairwise_iff_getElem.1 hq) a b (by omega) hb (by omega)
      rw [List.getElem?_eq_getElem (by omega), List.getElem?_eq_getElem hb]
      simpa using this
theorem ptsE_at {s : ByteArray} {xs : List Es} {k : Nat} {x0 : Int} {x1 x2 : ByteArray} {x3 : Int} {x4 : Bool} (hk : k < (xs.filter (pSeen s)).length) (hx : (xs.filter (pSeen s))[k]?.getD es0 = (x0, x1, x2, x3, x4)) : (ptsE s xs)[k]?.getD pt0 = (x0, x3) := by
  rw [List.getElem?_eq_getElem hk, Option.getD_some] at hx
  rw [ptsE, List.getElem?_map, List.getElem?_eq_getElem hk, hx]
  rfl
set_option maxRecDepth 100000 in
set_option maxHeartbeats 4000000 in
theorem iCurveOf_any (a : Option Addr) (n c : Nat) (xs : List Es) (o : ByteArray) (w : World) (h : EsL w a n xs) (hn : n ≤ 1048576) :
    Calls Try.prog 32 #[.slice a n c, .string o] w fun e w' => PtRes w.heap.size (coL xs o) (.int .i64 (coC xs o)) w' e ∧ Below w.heap.size w w' := by
  have B1 : Below w.heap.size w (w.alloc (.cells #[.string o] 9)) := by (repeat (first | assumption | exact Below.refl _ _ | refine belowDN ?_ _ | refine Below.drew ?_ | refine Below.setCell ?_ (by first | omega | (simp <;> omega)) _ | refine Below.alloc ?_ (by first | omega | (simp <;> omega)) _ | refine belowCall ?_ (by assumption)))
  have h1 := h.mono B1
  have k0 : (w.alloc (.cells #[.string o] 9)).cell? ⟨w.heap.size, 0, none⟩ = some (.string o) := by go_keep
  have hsw : w.heap.size + 1 = (w.alloc (.cells #[.string o] 9)).heap.size := by simp
  cases hok : okE xs
  · have HC := Lib.hid (co_1 (s := o) hok)
    go_enter Try.func32, Try.ntmps32
    go_wp2_with fail
    generalize (w.alloc (.cells #[.string o] 9)) = w1 at B1 h1 hsw k0 ⊢
    refine (iValidEs_any a n c xs w1 h1 hn).mono ?_
    rintro e w2 ⟨rfl, b2⟩
    rw [hok]
    go_wp2
    go_ret2
    exact ⟨by rw [HC.out.1, HC.out.2]; exact PtRes.nil _ _ _, belowCall B1 b2⟩
  cases hnm : nameB o
  · have HC := Lib.hid (co_2 (s := o) hok hnm)
    go_enter Try.func32, Try.ntmps32
    go_wp2_with fail
    generalize (w.alloc (.cells #[.string o] 9)) = w1 at B1 h1 hsw k0 ⊢
    refine (iValidEs_any a n c xs w1 h1 hn).mono ?_
    rintro e w2 ⟨rfl, b2⟩
    rw [hok]
    have m0 := (b2.cell (p := ⟨w.heap.size, 0, none⟩) (by show w.heap.size < _; omega)).trans k0
    go_wp2_with (go_at_call 76; refine (iIsName_any _ _).mono ?_; rintro e w3 ⟨rfl, b3⟩; rw [hnm])
    go_ret2
    exact ⟨by rw [HC.out.1, HC.out.2]; exact PtRes.nil _ _ _, belowCall (belowCall B1 b2) (by (repeat (first | assumption | exact Below.refl _ _ | refine belowDN ?_ _ | refine Below.drew ?_ | refine Below.setCell ?_ (by first | omega | (simp <;> omega)) _ | refine Below.alloc ?_ (by first | omega | (simp <;> omega)) _ | refine belowCall ?_ (by assumption))))⟩
  have HC := Lib.hid (co_0 (s := o) hok hnm)
  have HOK := Lib.hid hok
  obtain ⟨h100, -⟩ := okE_at h.1 hok
  have HL := Lib.hid h.1
  obtain ⟨i0, hi, hz0, hz1, hz2⟩ := info_parts Pt_info
  go_enter Try.func32, Try.ntmps32
  go_wp2_with fail
  generalize (w.alloc (.cells #[.string o] 9)) = w1 at B1 h1 hsw k0 ⊢
  refine (iValidEs_any a n c xs w1 h1 hn).mono ?_
  rintro e w2 ⟨rfl, b2⟩
  rw [hok]
  have m0 := (b2.cell (p := ⟨w.heap.size, 0, none⟩) (by show w.heap.size < _; omega)).trans k0
  have B2 := belowCall B1 b2
  have hs2 := B2.size
  have hs12 := b2.size
  clear hok
  go_wp2_with (first | (go_at_call 76; refine (iIsName_any _ _).mono ?_; rintro e w3 ⟨rfl, b3⟩; rw [hnm]; have n0 := (b3.cell (p := ⟨w.heap.size, 0, none⟩) (by show w.heap.size < _; omega)).trans m0))
  have B3 := belowCall B2 b3
  have hs3 := b3.size
  refine (thatC_any a n c w.heap.size o xs w3 (h.mono B3) hn n0).mono ?_
  rintro e w4 ⟨v4, rfl, hown4, b4⟩
  have B4 := belowCall B3 b4
  have hs4 := b4.size
  have hfl := List.length_filter_le (pSeen o) xs
  have HPL : Hid ((ptsE o xs).length = (xs.filter (pSeen o)).length) := Lib.hid (by simp [ptsE])
  have HPA := Lib.hid (fun k x0 x1 x2 x3 x4 hk hx => ptsE_at (s := o) (xs := xs) (k := k) (x0 := x0) (x1 := x1) (x2 := x2) (x3 := x3) (x4 := x4) hk hx)
  have hES : ∃ a4 c4, v4 = .slice a4 (xs.filter (pSeen o)).length c4 ∧ EsL w4 a4 (xs.filter (pSeen o)).length (xs.filter (pSeen o)) := by
    rcases hown4.2 with ⟨e, h0⟩ | ⟨g, cap, cur, e, _⟩
    · refine ⟨none, 0, by rw [e, h0], rfl, fun i hi => absurd hi (by omega)⟩
    · exact ⟨_, cap, e, EsL.of_own (by rw [e] at hown4; exact hown4) rfl⟩
  obtain ⟨a4, c4, rfl, hE⟩ := hES
  rw [HL.out] at hfl
  generalize xs.filter (pSeen o) = F at hE hfl HPL HPA
  obtain ⟨L, hL⟩ : ∃ L, F.length = L := ⟨_, rfl⟩
  rw [hL] at hE hfl HPL HPA
  have HFL := Lib.hid hL
  rw [hL]
  have hLb : L ≤ maxLen := by unfold maxLen; omega
  have hLn : (L : Int) ≤ 100 := by omega
  clear hL hown4 n0 m0
  go_wp2_with (at_make; refine wpList_make_full _ rfl _ _ 24 rfl w4.heap.size 37 i0 _ 2 Try.underlying24 hi hz0 hz1 .i64 .i64 L L L rfl rfl rfl rfl (by rw [hz2]; omega) hLb (Nat.le_refl _) ?_; intro w5 hown hgrow)
  have hrow := (rowM hown).congr (fun j hj => made_colPt L j hj (ptsE o xs))
  have hB5 : Below w4.heap.size w4 w5 := (Below.refl _ _).grown hgrow (Nat.le_refl _) (fun k hk => by cases hk)
  have hlt4 : w4.heap.size < w5.heap.size := (hown.lt _ rfl).2
  clear hown hgrow
  go_loopw [24] (fun i wr => ∃ k : Nat, k ≤ L ∧ i = .int .i64 k ∧ wr.rowIs w4.heap.size 37 (L * 2) (colPt (ptsE o xs) k) ∧ Below w4.heap.size w4 wr) (fun i _ => L - (Go.RowKit.intOf i).toNat)
  case atStart => exact ⟨0, Nat.zero_le _, rfl, hrow, hB5⟩
  case round =>
    obtain ⟨k, hk, rfl, hr, hB⟩ := hrel
    clear hrow hB5
    have hrs := hr.lt
    by_cases hlt : k < L
    · obtain ⟨b1, o1, rfl, hc⟩ := hE.2 k hlt
      obtain ⟨⟨x0, x1, x2, x3, x4⟩, hx⟩ : ∃ x, F[k]?.getD es0 = x := ⟨_, rfl⟩
      have HX := Lib.hid (HPA.out k x0 x1 x2 x3 x4 hlt hx)
      rw [hx] at hc
      obtain ⟨p, p0, p1, p2, p3, p4⟩ := (hc.mono hB).parts
      have hkk : (k : Int) < (L : Int) := by omega
      have HP := Lib.hid (colPt_put hr HX.out)
      have e0 := hr.cell (show k * 2 < L * 2 by omega)
      have e1 := hr.cell (show k * 2 + 1 < L * 2 by omega)
      have f0 := hr.frozen (k * 2)
      have f1 := hr.frozen (k * 2 + 1)
      clear hx hc hr
      go_wp2
      go_roundw
      case rel => exact ⟨k + 1, by omega, by go_num, HP.out.alloc _, by (repeat (first | assumption | exact Below.refl _ _ | refine belowDN ?_ _ | refine Below.drew ?_ | refine Below.setCell ?_ (by first | omega | (simp <;> omega)) _ | refine Below.alloc ?_ (by first | omega | (simp <;> omega)) _ | refine belowCall ?_ (by assumption)))⟩
      case measure => simp [Go.RowKit.intOf]; omega
    · obtain rfl : k = L := by omega
      have hP := PtL.of_row HPL.out hr
      have BR := belowCall B4 hB
      clear hr
      go_wp2_with fail
      refine (binned_any _ k k (ptsE o xs) 1 wr hP (by omega) (Nat.le_refl _) (SB.of_es HOK.out o) (by omega) (by omega)).mono ?_
      rintro e w7 ⟨v7, rfl, hown7, b7⟩
      go_wp2
      go_ret2
      exact ⟨by rw [HC.out.1, HC.out.2]; exact PtRes.own (ownLow hown7 BR.size) rfl, belowCall BR b7⟩
end Go.Proofs.Ytiogffjhhhpolaa
