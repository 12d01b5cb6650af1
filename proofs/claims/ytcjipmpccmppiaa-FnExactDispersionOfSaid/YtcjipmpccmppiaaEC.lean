/- BinOfPoints, both sides; the codes; the model's list of bins. -/
import Derived.Test.YtcjipmpccmppiaaEQ
import Derived.Test.YtcjipmpccmppiaaFB
import Derived.Test.YtcjipmpccmppiaaFK
import Derived.Test.YtcjipmpccmppiaaJ2
import Derived.Deep.AppendLies
namespace Go.Proofs.Ytcjipmpccmppiaa
open Go.ChangeShapes Go.WideShapes Go.ChangeAt Go.RowKit Go.Deep

theorem chkF_any (p b : Int) (a : Option Addr) (n c : Nat) (xs : List Pt) (w : World) (h : PtL w a n xs) (hn : n ≤ 1048576) :
    Calls Try.prog 75 #[.slice a n c, .int .i64 p, .int .i64 b] w fun x w' => x = .returned (.int .i64 (foC xs p b)) ∧ Below w.heap.size w w' := by
  cases hok : okP xs
  · have HD := Lib.hid (fo_1 (p := p) (b := b) hok)
    go_enter Try.func75, Try.ntmps75
    go_wp2_with fail
    refine (iValidCv_any a n c xs w h hn).mono ?_
    rintro x w2 ⟨rfl, b2⟩
    rw [hok]
    go_wp2
    go_ret
    exact ⟨by rw [HD.out]; rfl, b2⟩
  cases hp : perB p
  · have HD := Lib.hid (fo_2 (p := p) (b := b) hok (by rw [hp]; rfl))
    go_enter Try.func75, Try.ntmps75
    go_wp2_with fail
    refine (iValidCv_any a n c xs w h hn).mono ?_
    rintro x w2 ⟨rfl, b2⟩
    rw [hok]
    go_wp2_with (first | (go_at_call 120; refine (isPer_any _ _).mono ?_; rintro x w' ⟨rfl, rfl⟩; rw [hp]))
    go_ret
    exact ⟨by rw [HD.out]; rfl, b2⟩
  cases hb : inB b 1 20
  · have HD := Lib.hid (fo_2 (p := p) (b := b) hok (by rw [hp, hb]; rfl))
    go_enter Try.func75, Try.ntmps75
    go_wp2_with fail
    refine (iValidCv_any a n c xs w h hn).mono ?_
    rintro x w2 ⟨rfl, b2⟩
    rw [hok]
    go_wp2_with (first | (go_at_call 120; refine (isPer_any _ _).mono ?_; rintro x w' ⟨rfl, rfl⟩; rw [hp]) | (go_at_call 93; refine (inRange_any _ _ _ _).mono ?_; rintro x w' ⟨rfl, rfl⟩; rw [hb]))
    go_ret
    exact ⟨by rw [HD.out]; rfl, b2⟩
  · have HD := Lib.hid (fo_0 (p := p) (b := b) hok (by rw [hp, hb]; rfl))
    go_enter Try.func75, Try.ntmps75
    go_wp2_with fail
    refine (iValidCv_any a n c xs w h hn).mono ?_
    rintro x w2 ⟨rfl, b2⟩
    rw [hok]
    go_wp2_with (first | (go_at_call 120; refine (isPer_any _ _).mono ?_; rintro x w' ⟨rfl, rfl⟩; rw [hp]) | (go_at_call 93; refine (inRange_any _ _ _ _).mono ?_; rintro x w' ⟨rfl, rfl⟩; rw [hb]))
    go_ret
    exact ⟨by rw [HD.out]; rfl, b2⟩
theorem l11Code_any (p b : Int) (a : Option Addr) (n c : Nat) (xs : List Pt) (w : World) (h : PtL w a n xs) (hn : n ≤ 1048576) :
    Calls Try.prog 74 #[.slice a n c, .int .i64 p, .int .i64 b] w fun x w' => x = .returned (.int .i64 (foC xs p b)) ∧ Below w.heap.size w w' := by
  cases hok : okP xs
  · have HD := Lib.hid (fo_1 (p := p) (b := b) hok)
    go_enter Try.func74, Try.ntmps74
    go_wp2_with fail
    refine (l08Ok_below a n c xs w h hn).mono ?_
    rintro x w2 ⟨rfl, b2⟩
    rw [hok]
    go_wp2
    go_ret
    exact ⟨by rw [HD.out]; rfl, b2⟩
  cases hp : perB p
  · have HD := Lib.hid (fo_2 (p := p) (b := b) hok (by rw [hp]; rfl))
    go_enter Try.func74, Try.ntmps74
    go_wp2_with fail
    refine (l08Ok_below a n c xs w h hn).mono ?_
    rintro x w2 ⟨rfl, b2⟩
    rw [hok]
    go_wp2_with (first | (go_at_call 119; refine (l09Per_any _ _).mono ?_; rintro x w' ⟨rfl, rfl⟩; rw [hp]))
    go_ret
    exact ⟨by rw [HD.out]; rfl, b2⟩
  cases hb : inB b 1 20
  · have HD := Lib.hid (fo_2 (p := p) (b := b) hok (by rw [hp, hb]; rfl))
    go_enter Try.func74, Try.ntmps74
    go_wp2_with fail
    refine (l08Ok_below a n c xs w h hn).mono ?_
    rintro x w2 ⟨rfl, b2⟩
    rw [hok]
    go_wp2_with (first | (go_at_call 119; refine (l09Per_any _ _).mono ?_; rintro x w' ⟨rfl, rfl⟩; rw [hp]) | (go_at_call 94; refine (l00In_any _ _ _ _).mono ?_; rintro x w' ⟨rfl, rfl⟩; rw [hb]))
    go_ret
    exact ⟨by rw [HD.out]; rfl, b2⟩
  · have HD := Lib.hid (fo_0 (p := p) (b := b) hok (by rw [hp, hb]; rfl))
    go_enter Try.func74, Try.ntmps74
    go_wp2_with fail
    refine (l08Ok_below a n c xs w h hn).mono ?_
    rintro x w2 ⟨rfl, b2⟩
    rw [hok]
    go_wp2_with (first | (go_at_call 119; refine (l09Per_any _ _).mono ?_; rintro x w' ⟨rfl, rfl⟩; rw [hp]) | (go_at_call 94; refine (l00In_any _ _ _ _).mono ?_; rintro x w' ⟨rfl, rfl⟩; rw [hb]))
    go_ret
    exact ⟨by rw [HD.out]; rfl, b2⟩
theorem folded_any (p b : Int) (w : World) :
    Calls Try.prog 76 #[.int .i64 p, .int .i64 b] w fun x w' => x = .returned (.agg #[.int .i64 0, .int .i64 p, .int .i64 b]) ∧ Below w.heap.size w w' := by
  go_enter Try.func76, Try.ntmps76
  go_wp2
  exact bodyPost_ret (v := .agg #[.int .i64 0, .int .i64 p, .int .i64 b]) (by simp [results, Try.results76, go_sem]) rfl ⟨rfl, by (repeat (first | assumption | exact Below.refl _ _ | refine belowDN ?_ _ | refine Below.drew ?_ | refine Below.setCell ?_ (by first | omega | (simp <;> omega)) _ | refine Below.alloc ?_ (by first | omega | (simp <;> omega)) _ | refine belowCall ?_ (by assumption)))⟩
theorem bnI_div {p b t : Int} (ht : 0 ≤ t) : bnI 0 p b t = (b * (t.tmod p)).tdiv p := by
  unfold bnI phs
  rw [Int.sub_zero, Int.tmod_eq_emod_of_nonneg ht]
set_option maxRecDepth 100000 in
set_option maxHeartbeats 2000000 in
theorem l11Bins_any (p b : Int) (a : Option Addr) (n c : Nat) (xs : List Pt) (w : World) (h : PtL w a n xs) (hok : okP xs = true) (h1 : 1 ≤ p) (h2 : p ≤ 1000000) (h3 : 1 ≤ b) (h4 : b ≤ 20) :
    Calls Try.prog 103 #[.slice a n c, .int .i64 p, .int .i64 b] w fun x w' => ∃ g c', x = .returned (.slice (some ⟨g, 0, none⟩) n c') ∧ w'.ownsRow w.heap.size 2 1 (.slice (some ⟨g, 0, none⟩) n c') n ((boE p b xs n).map (Value.int .i64)) ∧ Below w.heap.size w w' := by
  obtain ⟨h100, hbd, -⟩ := okP_num h.1 hok
  obtain ⟨i0, hi, hz0, hz1, hz2⟩ := info_parts A_info
  have hl : (n : Int) ≤ 100 := by omega
  have HBD := Lib.hid hbd
  have HMP := Lib.hid (boE_map p b xs)
  have hE0 : (w.alloc (.cells #[] 2)).ownsRow w.heap.size 2 1 (.slice (some ⟨w.heap.size, 0, none⟩) 0 0) 0 [] := World.ownsRow_lit w #[] 0 (Nat.le_refl _) (by unfold maxLen; omega) rfl
  have b0 : Below w.heap.size w (w.alloc (.cells #[] 2)) := (Below.refl _ _).alloc (Nat.le_refl _) _
  clear hbd hok
  go_enter Try.func103, Try.ntmps103
  go_wp2
  go_loopw [7, 8] (fun o i wr => ∃ k g c : Nat, k ≤ n ∧ i = .int .i64 k ∧ o = .slice (some ⟨g, 0, none⟩) k c ∧ wr.ownsRow w.heap.size 2 1 (.slice (some ⟨g, 0, none⟩) k c) k ((boE p b xs k).map (Value.int .i64)) ∧ Below w.heap.size w wr) (fun _ i _ => n - (Go.RowKit.intOf i).toNat)
  case atStart => exact ⟨0, w.heap.size, 0, Nat.zero_le _, rfl, rfl, hE0, b0⟩
  case round =>
    obtain ⟨k, g, c, hk, rfl, rfl, hown, hB⟩ := hrel
    clear hE0 b0
    have hsz := hB.size
    by_cases hlt : k < n
    · obtain ⟨b1, o1, rfl, hS⟩ := h.2 k hlt
      obtain ⟨⟨x0, x1⟩, hx⟩ : ∃ x, xs[k]?.getD pt0 = x := ⟨_, rfl⟩
      have hxb := HBD.out k hlt
      have hbi := bf_is h1 h3 hx
      rw [hx] at hS hxb
      simp only at hxb hbi
      rw [bnI_div hxb.1] at hbi
      obtain ⟨-, p0, p1⟩ := (hS.mono hB).parts
      have hkk : (k : Int) < (n : Int) := by omega
      have hm := HMP.out k
      obtain ⟨q, hq⟩ : ∃ q, bf p b xs k = q := ⟨_, rfl⟩
      rw [hq] at hbi hm
      have HM := Lib.hid hm
      have hpn : ¬ p = 0 := by omega
      have hmo : 0 ≤ x0.tmod p ∧ x0.tmod p < p := ⟨by rw [Int.tmod_eq_emod_of_nonneg hxb.1]; exact Int.emod_nonneg _ (by omega), by rw [Int.tmod_eq_emod_of_nonneg hxb.1]; exact Int.emod_lt_of_pos _ (by omega)⟩
      have hpr := aMul (a := b) (b := x0.tmod p) (A := 20) (B := 1000000) (by omega) (by omega) (by omega) (by omega)
      have hqd := tdiv_bd (b * x0.tmod p) p 20000000 (by omega) (by omega)
      have hql := bf_lt h1 h3 xs (K := 20) (by omega) k
      rw [hq] at hql
      obtain ⟨r, hr⟩ : ∃ r, x0.tmod p = r := ⟨_, rfl⟩
      rw [hr] at hbi hmo hpr hqd
      obtain ⟨X, hX⟩ : ∃ X, X = (q : Int) := ⟨_, rfl⟩
      rw [← hX] at hbi
      have hX0 : 0 ≤ X ∧ X < 20 := by omega
      have w2 : IntKind.i64.wrap (b * r) = b * r := IntWalk.i64_in _ (by omega)
      have HXQ := Lib.hid hX
      clear hx hS hm hq hX
      go_wp2_with (at_builtin; refine wpList_append_lies _ rfl _ _ 24 rfl w.heap.size 2 i0 (.int .i64 0) 1 8 Try.underlying24 hi hz0 hz1 hz2 rfl (by decide) _ _ _ rfl (hown.alloc _) ⟨wr.heap.size, 0, none⟩ 1 1 [.int .i64 X] rfl rfl (cell_one_new _ _ _) (by intro u hu; simp at hu; subst hu; rfl) (by decide) (by unfold maxLen; omega) (by omega) (by simp; omega) _ rfl ?_; intro g7 c7 w7 hown7 hg7 hat7 hlt7; have hB7 : Below w.heap.size w w7 := (show Below w.heap.size w (wr.alloc (.cells #[.int .i64 X] 2)) from hB.alloc (by omega) _).grown hg7 (by simp; omega) (fun j e => (hown.lt j e).1); clear hg7 hat7)
      have HO := Lib.hid hown7
      clear hown7 hown
      go_roundw
      case rel => exact ⟨k + 1, g7, c7, by omega, by go_num, rfl, by rw [HM.out, ← HXQ.out]; exact HO.out, hB7⟩
      case measure => simp [Go.RowKit.intOf]; omega
    · obtain rfl : k = n := by omega
      have HO := Lib.hid hown
      clear hown
      go_wp2
      go_ret
      exact ⟨_, _, rfl, HO.out, hB⟩
theorem sBinO_any (a : Option Addr) (n c : Nat) (xs : List Pt) (p b : Int) (w : World) (h : PtL w a n xs) (hn : n ≤ 1048576) :
    Calls Try.prog 46 #[.slice a n c, .int .i64 p, .int .i64 b] w fun x w' => IntRes w.heap.size (boL xs p b) (.int .i64 (boC xs p b)) w' x ∧ Below w.heap.size w w' := by
  by_cases hz : foC xs p b = 0
  rotate_left
  · have HD := Lib.hid (bo_no hz)
    obtain ⟨cc, hcc⟩ : ∃ cc, foC xs p b = cc := ⟨_, rfl⟩
    rw [hcc] at hz
    have HC := Lib.hid hcc
    have HC2 : Hid (boC xs p b = cc) := Lib.hid hcc
    have hzd : (cc != 0) = true := by simpa using hz
    clear hz hcc
    go_enter Try.func46, Try.ntmps46
    go_wp2_with fail
    refine (l11Code_any p b a n c xs w h hn).mono ?_
    rintro x w2 ⟨rfl, b2⟩
    rw [HC.out]
    go_wp2
    go_ret2
    exact ⟨by rw [HD.out, HC2.out]; exact IntRes.nil _ _ _, b2⟩
  obtain ⟨hok, ⟨p1, p2⟩, q1, q2⟩ := fo_parts hz
  have HD := Lib.hid (bo_yes h.1 hz)
  have HC := Lib.hid hz
  have HC2 : Hid (boC xs p b = 0) := Lib.hid hz
  have HBI := Lib.hid (fun (W : World) (hW : PtL W a n xs) => l11Bins_any p b a n c xs W hW hok p1 p2 q1 q2)
  have HLN := Lib.hid (boE_len p b xs n)
  clear hz hok
  go_enter Try.func46, Try.ntmps46
  go_wp2_with fail
  refine (l11Code_any p b a n c xs w h hn).mono ?_
  rintro x w2 ⟨rfl, b2⟩
  rw [HC.out]
  go_wp2_with fail
  refine (HBI.out _ (h.mono b2)).mono ?_
  rintro x w3 ⟨g, c', rfl, hown, b3⟩
  have HO := Lib.hid hown
  clear hown
  go_wp2
  go_ret2
  exact ⟨by rw [HD.out, HC2.out]; exact IntRes.own (ownLow HO.out b2.size) HLN.out, belowCall b2 b3⟩
set_option maxRecDepth 100000 in
set_option maxHeartbeats 2000000 in
theorem iBinO_any (a : Option Addr) (n c : Nat) (xs : List Pt) (p b : Int) (w : World) (h : PtL w a n xs) (hn : n ≤ 1048576) :
    Calls Try.prog 48 #[.slice a n c, .int .i64 p, .int .i64 b] w fun x w' => IntRes w.heap.size (boL xs p b) (.int .i64 (boC xs p b)) w' x ∧ Below w.heap.size w w' := by
  by_cases hz : foC xs p b = 0
  rotate_left
  · have HD := Lib.hid (bo_no hz)
    obtain ⟨cc, hcc⟩ : ∃ cc, foC xs p b = cc := ⟨_, rfl⟩
    rw [hcc] at hz
    have HC := Lib.hid hcc
    have HC2 : Hid (boC xs p b = cc) := Lib.hid hcc
    have hzd : (cc != 0) = true := by simpa using hz
    clear hz hcc
    go_enter Try.func48, Try.ntmps48
    go_wp2_with fail
    refine (chkF_any p b a n c xs w h hn).mono ?_
    rintro x w2 ⟨rfl, b2⟩
    rw [HC.out]
    go_wp2
    go_ret2
    exact ⟨by rw [HD.out, HC2.out]; exact IntRes.nil _ _ _, b2⟩
  obtain ⟨hok, ⟨p1', p2⟩, q1', q2'⟩ := fo_parts hz
  obtain ⟨h100, hbd, -⟩ := okP_num h.1 hok
  have HBD := Lib.hid hbd
  have HD := Lib.hid (bo_yes h.1 hz)
  have HC := Lib.hid hz
  have HC2 : Hid (boC xs p b = 0) := Lib.hid hz
  have HLN := Lib.hid (boE_len p b xs n)
  have HIA : Hid (∀ k, k < n → (boE p b xs n)[k]?.getD 0 = (bf p b xs k : Int)) := Lib.hid (fun k hk => boE_at hk)
  have HIS : Hid (∀ k x, xs[k]?.getD pt0 = x → bnI 0 p b x.1 = (bf p b xs k : Int)) := Lib.hid (fun k x hx => bf_is p1' q1' hx)
  obtain ⟨i0, hi, hz0, hz1, hz2⟩ := info_parts A_info
  generalize boE p b xs n = L at HD HLN HIA
  clear hz hok hbd
  have hl : (n : Int) ≤ 100 := by omega
  go_enter Try.func48, Try.ntmps48
  go_wp2_with fail
  refine (chkF_any p b a n c xs w h hn).mono ?_
  rintro x w2 ⟨rfl, b2⟩
  rw [HC.out]
  go_wp2_with fail
  refine (folded_any p b _).mono ?_
  rintro x w3 ⟨rfl, b3⟩
  have B3 := belowCall b2 b3
  have hbx := bp_fresh 0 p b w3
  have B4 : Below w.heap.size w (w3.alloc (.cells #[.int .i64 0, .int .i64 p, .int .i64 b] 85)) := B3.alloc B3.size _
  obtain ⟨hlt4, k0, k1, k2⟩ := hbx
  have h4 := h.mono B4
  have hz4 := B4.size
  go_wp2_with (at_make; refine wpList_make_full _ rfl _ _ 24 rfl (w3.alloc (.cells #[.int .i64 0, .int .i64 p, .int .i64 b] 85)).heap.size 2 i0 (.int .i64 0) 1 Try.underlying24 hi hz0 hz1 .i64 .i64 n n n rfl rfl rfl rfl (by rw [hz2]; omega) (by unfold maxLen; omega) (Nat.le_refl _) ?_; intro w5 hown hgrow)
  have he4 : (w3.alloc (.cells #[.int .i64 0, .int .i64 p, .int .i64 b] 85)).heap.size = w3.heap.size + 1 := by simp
  generalize w3.alloc (.cells #[.int .i64 0, .int .i64 p, .int .i64 b] 85) = w4 at hlt4 k0 k1 k2 B4 h4 hz4 hown hgrow he4 ⊢
  rw [cop_zero L, he4] at hown
  have hz3 := B3.size
  have HE4 := Lib.hid he4
  have b5 : Below w4.heap.size w4 w5 := (Below.refl _ _).grown hgrow (Nat.le_refl _) (fun k hk => by cases hk)
  clear hgrow b3 B3 he4
  go_loopw [28] (fun i wr => ∃ k : Nat, k ≤ n ∧ i = .int .i64 k ∧ wr.ownsRow (w3.heap.size + 1) 2 1 (.slice (some ⟨w3.heap.size + 1, 0, none⟩) n n) n (cop L k n) ∧ Below w4.heap.size w4 wr) (fun i _ => n - (Go.RowKit.intOf i).toNat)
  case atStart => exact ⟨0, Nat.zero_le _, rfl, hown, b5⟩
  case round =>
    obtain ⟨k, hk, rfl, hownr, hB⟩ := hrel
    clear hown
    have hszr := hB.size
    by_cases hlt : k < n
    · obtain ⟨b1, o1, rfl, hS⟩ := h4.2 k hlt
      obtain ⟨⟨x0, x1⟩, hx⟩ : ∃ x, xs[k]?.getD pt0 = x := ⟨_, rfl⟩
      have hxb := HBD.out k hlt
      have hbi := HIS.out k _ hx
      rw [← HIA.out k hlt] at hbi
      rw [hx] at hS hxb
      simp only at hxb hbi
      obtain ⟨-, p0, p1⟩ := (hS.mono hB).parts
      have hkk : (k : Int) < (n : Int) := by omega
      obtain ⟨X, hX⟩ : ∃ X, L[k]?.getD 0 = X := ⟨_, rfl⟩
      rw [hX] at hbi
      have HBI := Lib.hid hbi
      have HCS : Hid ((cop L k n).set k (.int .i64 X) = cop L (k + 1) n) := Lib.hid (by rw [← hX]; exact cop_set L k n hlt HLN.out)
      have HCA : Hid ((cop L k n)[k]? = some (.int .i64 0)) := Lib.hid (cop_at L k n hlt HLN.out)
      have hlw : w3.heap.size < wr.heap.size := by omega
      have q0 := (hB.cell (p := ⟨w3.heap.size, 0, none⟩) hlt4).trans k0
      have q1 := (hB.cell (p := ⟨w3.heap.size, 1, none⟩) hlt4).trans k1
      have q2 := (hB.cell (p := ⟨w3.heap.size, 2, none⟩) hlt4).trans k2
      clear hx hS hX hbi
      go_wp2_with fail
      refine (binOf_any 0 p b x0 _ (by omega) (by omega) p1' p2 (by omega) (by omega) q1' (by omega)).mono ?_
      rintro x w6 ⟨rfl, b6⟩
      rw [HBI.out]
      have D6 : Below wr.heap.size wr w6 := belowCall ((Below.refl _ _).alloc (Nat.le_refl _) _) b6
      have hown6 := ownKeepF hownr D6
      have hB6 := hB.trans (D6.mono hszr)
      have hs6 := hB6.size
      have hfz := hown6.frozenAt k
      have hco : w6.cell? ⟨w3.heap.size + 1, k, none⟩ = some (.int .i64 0) := by rw [hown6.cellAt k (by omega)]; exact HCA.out
      obtain ⟨hs1, hs9⟩ := hown6.stored k (.int .i64 X)
      rw [HCS.out] at hs1
      have HS1 := Lib.hid hs1
      have HB2 := Lib.hid (hB6.grown hs9 hs6 (fun j hj => by cases hj; exact Nat.le_of_eq HE4.out))
      clear hs1 hs9 hown6 hownr
      go_wp2
      go_roundw
      case rel => exact ⟨k + 1, by omega, by go_num, HS1.out, HB2.out⟩
      case measure => simp [Go.RowKit.intOf]; omega
    · obtain rfl : k = n := by omega
      rw [cop_full L k HLN.out] at hownr
      have HO := Lib.hid hownr
      have BW := B4.trans (hB.mono hz4)
      clear hownr
      go_wp2
      go_ret2
      exact ⟨by rw [HD.out, HC2.out]; exact IntRes.own (ownLow HO.out (by omega)) HLN.out, BW⟩
end Go.Proofs.Ytcjipmpccmppiaa
