/- RiseTimes, both sides. -/
import Derived.Test.YtcjipmpccmppiabEK4
import Derived.Test.YtcjipmpccmppiabEW
import Derived.Test.YtcjipmpccmppiabGI
import Derived.Test.YtcjipmpccmppiabH7R
namespace Go.Proofs.Ytcjipmpccmppiab
open Go.ChangeShapes Go.WideShapes Go.ChangeAt Go.RowKit Go.Deep

theorem exA_at {xs : List Pt} {s : Int} {n k : Nat} {x : Ex} (hn : xs.length = n) (hk : k < (exA xs s).length) (hx : (exA xs s)[k]?.getD ex0 = x) : ∃ q : Nat, x.2 = (q : Int) ∧ q < n := by
  by_cases h : exC xs s = 0
  · have e : exA xs s = exL (mgX xs) xs.length s.toNat xs.length := by rw [exA, if_pos h]
    rw [e] at hk hx
    obtain ⟨i, -, hi, -, he⟩ := exL_at hk
    rw [hx] at he
    exact ⟨i, by rw [he], by omega⟩
  · rw [exA_not h] at hk; simp at hk
theorem ExL.at {w : World} {a : Option Addr} {n k : Nat} {L : List Ex} {x : Ex} (h : ExL w a n L) (hk : k < n) (hx : L[k]?.getD ex0 = x) : ∃ b o, a = some ⟨b, o, none⟩ ∧ ExC w b (o + k * 2) x := by
  obtain ⟨b, o, e, hc⟩ := h.2 k hk
  rw [hx] at hc
  exact ⟨b, o, e, hc⟩
theorem ex_form {w : World} {B e n : Nat} {v : Value} {L : List Ex} (h : w.ownsRow B e 2 v n (flatEx L)) (hn : L.length = n) : ∃ a c, v = .slice a n c ∧ ExL w a n L := by
  rcases h.2 with ⟨hv, h0⟩ | ⟨g, cap, cur, hv, _⟩
  · subst hv
    exact ⟨none, 0, by rw [h0], hn, fun i hi => by omega⟩
  · subst hv
    exact ⟨_, _, rfl, ExL.of_own h hn⟩
set_option maxRecDepth 100000 in
set_option maxHeartbeats 1000000 in
theorem tmb_any (x0 y0 : Int) (q r : Nat) (a : Option Addr) (n c : Nat) (xs : List Pt) (w : World) (h : PtL w a n xs) (hok : okP xs = true) (hq : q < n) (hr : r < n) :
    Calls Try.prog 88 #[.agg #[.int .i64 x0, .int .i64 (q : Int)], .agg #[.int .i64 y0, .int .i64 (r : Int)], .slice a n c] w fun e w' => e = .returned (.int .i64 (tmX xs r - tmX xs q)) ∧ Below w.heap.size w w' := by
  obtain ⟨h100, hbd, -⟩ := okP_num h.1 hok
  have d1 := hbd q hq
  have d2 := hbd r hr
  obtain ⟨b1, o1, rfl, hQ⟩ := h.2 q hq
  obtain ⟨b1', o1', he, hR⟩ := h.2 r hr
  cases he
  obtain ⟨⟨u0, u1⟩, hu⟩ : ∃ x, xs[q]?.getD pt0 = x := ⟨_, rfl⟩
  obtain ⟨⟨v0, v1⟩, hv⟩ : ∃ x, xs[r]?.getD pt0 = x := ⟨_, rfl⟩
  have HV : Hid (tmX xs r - tmX xs q = v0 - u0) := Lib.hid (by rw [tmX, tmX, hu, hv])
  rw [hu] at hQ d1
  rw [hv] at hR d2
  simp only at d1 d2
  have hqn : (q : Int) < (n : Int) := by omega
  have hrn : (r : Int) < (n : Int) := by omega
  have e1 : (w.alloc (.cells #[.int .i64 x0, .int .i64 (q : Int)] 102)).heap.size = w.heap.size + 1 := by simp
  have bX : Below w.heap.size w ((w.alloc (.cells #[.int .i64 x0, .int .i64 (q : Int)] 102)).alloc (.cells #[.int .i64 y0, .int .i64 (r : Int)] 102)) := ((Below.refl w.heap.size w).alloc (Nat.le_refl _) _).alloc (by rw [e1]; omega) _
  have kx := (ExC.fresh w 102 x0 (q : Int)).mono ((Below.refl _ _).alloc (Nat.le_refl _) (.cells #[.int .i64 y0, .int .i64 (r : Int)] 102))
  have ky := ExC.fresh (w.alloc (.cells #[.int .i64 x0, .int .i64 (q : Int)] 102)) 102 y0 (r : Int)
  rw [e1] at ky
  obtain ⟨-, p0, p1⟩ := (hQ.mono bX).parts
  obtain ⟨-, r0, r1⟩ := (hR.mono bX).parts
  clear hu hv hQ hR h e1
  go_enter Try.func88, Try.ntmps88
  go_upto_region 1 with fail
  generalize (w.alloc (.cells #[.int .i64 x0, .int .i64 (q : Int)] 102)).alloc (.cells #[.int .i64 y0, .int .i64 (r : Int)] 102) = v at *
  obtain ⟨-, k0, k1⟩ := kx.parts
  obtain ⟨-, l0, l1⟩ := ky.parts
  rw [Nat.zero_add] at k1 l1
  go_big_quiet (fail)
  go_wp2
  go_ret
  exact ⟨by rw [HV.out]; rfl, by (repeat (first | assumption | exact Below.refl _ _ | refine belowDN ?_ _ | refine Below.drew ?_ | refine Below.setCell ?_ (by first | omega | (simp <;> omega)) _ | refine Below.alloc ?_ (by first | omega | (simp <;> omega)) _ | refine belowCall ?_ (by assumption)))⟩
set_option maxRecDepth 100000 in
set_option maxHeartbeats 4000000 in
theorem iRis_any (a : Option Addr) (n c : Nat) (xs : List Pt) (s : Int) (w : World) (h : PtL w a n xs) (hn : n ≤ 1048576) (hc : n ≤ c) :
    Calls Try.prog 43 #[.slice a n c, .int .i64 s] w fun x w' => IntRes w.heap.size (riA xs s) (.int .i64 (exC xs s)) w' x ∧ Below w.heap.size w w' := by
  obtain ⟨i0, hi, hz0, hz1, hz2⟩ := info_parts A_info
  by_cases hz : exC xs s = 0
  rotate_left
  · have HD := Lib.hid (riA_nil (exA_not hz))
    obtain ⟨cc, hcc⟩ : ∃ cc, exC xs s = cc := ⟨_, rfl⟩
    have HX := iExA_any a n c xs s w h hn hc
    rw [hcc] at hz HX
    have HC := Lib.hid hcc
    have hzd : (cc != 0) = true := by simpa using hz
    clear hz hcc
    go_enter Try.func43, Try.ntmps43
    go_wp2_with fail
    refine HX.mono ?_
    rintro x w2 ⟨⟨la, lc, rfl, -⟩, b2⟩
    go_wp2
    go_ret2
    exact ⟨by rw [HD.out, HC.out]; exact IntRes.nil _ _ _, b2⟩
  obtain ⟨hok, hin⟩ := exC_parts hz
  obtain ⟨h100, -, -⟩ := okP_num h.1 hok
  have HX := iExA_any a n c xs s w h hn hc
  have HAT := Lib.hid (fun k x => exA_at (xs := xs) (s := s) (n := n) (k := k) (x := x) h.1)
  have HR : Hid (riA xs s = riL xs (exA xs s) ((exA xs s).length - 1)) := Lib.hid rfl
  have HLE : Hid ((exA xs s).length ≤ n) := Lib.hid (exA_len (by rw [h.1]; exact Nat.le_refl _))
  rw [hz] at HX
  have HC := Lib.hid hz
  generalize exA xs s = L at HX HAT HR HLE
  obtain ⟨M, hM⟩ : ∃ M, L.length = M := ⟨_, rfl⟩
  rw [hM] at HR HLE HAT
  have hMn := HLE.out
  have HM := Lib.hid hM
  clear hz hin
  go_enter Try.func43, Try.ntmps43
  go_wp2_with fail
  refine HX.mono ?_
  rintro x w2 ⟨⟨la, lc, rfl, hEO⟩, b2⟩
  have hEL := (hEO 0).toL
  rw [hM] at hEL ⊢
  have hcv2 := h.mono b2
  clear hEO hM HX
  have hMz : (M : Int) ≤ 100 := by omega
  go_wp2
  go_loopw [8, 9] (fun o i wr => ∃ k : Nat, k ≤ M - 1 ∧ i = .int .i64 ((k + 1 : Nat) : Int) ∧ wr.ownsRow w2.heap.size 2 1 o (riL xs L k).length ((riL xs L k).map (Value.int .i64)) ∧ Below w2.heap.size w2 wr) (fun _ i _ => M - (Go.RowKit.intOf i).toNat)
  case atStart => exact ⟨0, by omega, rfl, World.ownsRow_nil _ _ _ _, Below.refl _ _⟩
  case round =>
    obtain ⟨k, hk, rfl, hown, hB⟩ := hrel
    have hsz := hB.size
    have hll := riL_len xs L k
    by_cases hlt : k + 1 < M
    · have hkz : (k : Int) + 1 < (M : Int) := by omega
      have hkz2 : (k : Int) < (M : Int) := by omega
      obtain ⟨⟨x0, xq⟩, hx⟩ : ∃ x, L[k]?.getD ex0 = x := ⟨_, rfl⟩
      obtain ⟨⟨y0, yq⟩, hy⟩ : ∃ x, L[k + 1]?.getD ex0 = x := ⟨_, rfl⟩
      obtain ⟨q, hq, hqn⟩ := HAT.out k _ (by omega) hx
      obtain ⟨r, hr, hrn⟩ := HAT.out (k + 1) _ (by omega) hy
      simp only at hq hr
      subst hq
      subst hr
      obtain ⟨b1, o1, rfl, hEX⟩ := hEL.at (by omega) hx
      obtain ⟨b1', o1', he, hEY⟩ := hEL.at (k := k + 1) (by omega) hy
      cases he
      have hb1 := hEX.1
      obtain ⟨-, p0, p1⟩ := (hEX.mono hB).parts
      obtain ⟨-, r0, r1⟩ := (hEY.mono hB).parts
      have hcv := hcv2.mono hB
      obtain ⟨T, hT⟩ : ∃ T, tmX xs r - tmX xs q = T := ⟨_, rfl⟩
      have HTB : ∀ W, PtL W a n xs → Calls Try.prog 88 #[.agg #[.int .i64 x0, .int .i64 (q : Int)], .agg #[.int .i64 y0, .int .i64 (r : Int)], .slice a n c] W fun e w' => e = .returned (.int .i64 T) ∧ Below W.heap.size W w' := fun W hW => by rw [← hT]; exact tmb_any x0 y0 q r a n c xs W hW hok hqn hrn
      have hRT : riT xs L k = T := by rw [riT, hx, hy, ← hT]; rfl
      have HY := Lib.hid (fun hb => riL_yes (xs := xs) (L := L) (k := k) (t := T) hb hRT)
      have HN := Lib.hid (riL_no (xs := xs) (L := L) (k := k))
      have hRB : riB L k = (x0 == 2 && y0 == 1) := by rw [riB, hx, hy]
      have HRB := Lib.hid hRB
      have hsub : IntKind.i64.wrap ((k : Int) + 1 - 1) = (k : Int) := by rw [IntWalk.i64_in _ (by omega)]; omega
      have hw0 : IntKind.i64.wrap (k : Int) = (k : Int) := IntWalk.i64_in _ (by omega)
      clear hx hy hT hRT hRB hEX hEY
      have hbr : b1 < wr.heap.size := by omega
      go_wp2
      cases hb2 : (x0 == 2)
      · have HS := Lib.hid (HN.out (by rw [HRB.out, hb2]; rfl))
        have HO := Lib.hid hown
        clear hown
        go_region
        all_goals
          go_wp2
          go_roundw
          case rel => exact ⟨k + 1, by omega, by go_num, by rw [HS.out]; exact ownKeepF HO.out (by (repeat (first | assumption | exact Below.refl _ _ | refine belowDN ?_ _ | refine Below.drew ?_ | refine Below.setCell ?_ (by first | omega | (simp <;> omega)) _ | refine Below.alloc ?_ (by first | omega | (simp <;> omega)) _ | refine belowCall ?_ (by assumption)))), hB.trans ((show Below wr.heap.size wr _ by (repeat (first | assumption | exact Below.refl _ _ | refine belowDN ?_ _ | refine Below.drew ?_ | refine Below.setCell ?_ (by first | omega | (simp <;> omega)) _ | refine Below.alloc ?_ (by first | omega | (simp <;> omega)) _ | refine belowCall ?_ (by assumption)))).mono hsz)⟩
          case measure => simp [Go.RowKit.intOf]; omega
      cases hb1' : (y0 == 1)
      · have HS := Lib.hid (HN.out (by rw [HRB.out, hb2, hb1']; rfl))
        have HO := Lib.hid hown
        clear hown
        go_region
        all_goals
          go_wp2
          go_roundw
          case rel => exact ⟨k + 1, by omega, by go_num, by rw [HS.out]; exact ownKeepF HO.out (by (repeat (first | assumption | exact Below.refl _ _ | refine belowDN ?_ _ | refine Below.drew ?_ | refine Below.setCell ?_ (by first | omega | (simp <;> omega)) _ | refine Below.alloc ?_ (by first | omega | (simp <;> omega)) _ | refine belowCall ?_ (by assumption)))), hB.trans ((show Below wr.heap.size wr _ by (repeat (first | assumption | exact Below.refl _ _ | refine belowDN ?_ _ | refine Below.drew ?_ | refine Below.setCell ?_ (by first | omega | (simp <;> omega)) _ | refine Below.alloc ?_ (by first | omega | (simp <;> omega)) _ | refine belowCall ?_ (by assumption)))).mono hsz)⟩
          case measure => simp [Go.RowKit.intOf]; omega
      · have HS := Lib.hid (HY.out (by rw [HRB.out, hb2, hb1']; rfl))
        go_region
        all_goals
          go_wp2_with (first | (go_at_call 88; refine (HTB _ (hcv.mono (by (repeat (first | assumption | exact Below.refl _ _ | refine belowDN ?_ _ | refine Below.drew ?_ | refine Below.setCell ?_ (by first | omega | (simp <;> omega)) _ | refine Below.alloc ?_ (by first | omega | (simp <;> omega)) _ | refine belowCall ?_ (by assumption)))))).mono ?_; rintro e w5 ⟨rfl, b5⟩; have D5 : Below wr.heap.size wr w5 := belowCall (by (repeat (first | assumption | exact Below.refl _ _ | refine belowDN ?_ _ | refine Below.drew ?_ | refine Below.setCell ?_ (by first | omega | (simp <;> omega)) _ | refine Below.alloc ?_ (by first | omega | (simp <;> omega)) _ | refine belowCall ?_ (by assumption)))) b5; clear b5; have hown5 := ownKeepF hown D5; have hB5 := hB.trans (D5.mono (by omega)); have hs5 := hB5.size) | (at_builtin; refine wpList_append_own _ rfl _ _ 62 rfl w2.heap.size 2 i0 (.int .i64 0) 1 8 Try.underlying62 hi hz0 hz1 hz2 rfl (by decide) _ _ _ rfl (hown5.alloc _) ⟨w5.heap.size, 0, none⟩ 1 1 [.int .i64 T] rfl rfl (cell_one_new _ _ _) (by intro u hu; simp at hu; subst hu; rfl) (by unfold maxLen; omega) (by omega) (by simp; omega) ?_; intro v7 w7 hown7 hg7 hnil7; have hB7 : Below w2.heap.size w2 w7 := (show Below w2.heap.size w2 (w5.alloc (.cells #[.int .i64 T] 2)) from hB5.alloc (by omega) _).grown hg7 (by simp; omega) (fun j e => (hown5.lt j e).1); clear hg7 hnil7))
          have HO := Lib.hid hown7
          clear hown7 hown5
          go_roundw
          case rel => exact ⟨k + 1, by omega, by go_num, by rw [HS.out, List.length_append, List.map_append]; exact HO.out, hB7⟩
          case measure => simp [Go.RowKit.intOf]; omega
    · have hke : k = M - 1 := by omega
      have hkz : ¬ (k : Int) + 1 < (M : Int) := by omega
      have HE : Hid (riA xs s = riL xs L k) := Lib.hid (by rw [HR.out, hke])
      have HO := Lib.hid hown
      clear hown hke
      go_wp2
      go_ret2
      exact ⟨by rw [HE.out, HC.out]; exact IntRes.own (ownLow HO.out b2.size) rfl, belowCall b2 hB⟩
set_option maxRecDepth 100000 in
set_option maxHeartbeats 4000000 in
theorem sRis_any (a : Option Addr) (n c : Nat) (xs : List Pt) (s : Int) (w : World) (h : PtL w a n xs) (hn : n ≤ 1048576) :
    Calls Try.prog 42 #[.slice a n c, .int .i64 s] w fun x w' => IntRes w.heap.size (riA xs s) (.int .i64 (exC xs s)) w' x ∧ Below w.heap.size w w' := by
  obtain ⟨i0, hi, hz0, hz1, hz2⟩ := info_parts A_info
  by_cases hz : exC xs s = 0
  rotate_left
  · have HD := Lib.hid (riA_nil (exA_not hz))
    obtain ⟨cc, hcc⟩ : ∃ cc, exC xs s = cc := ⟨_, rfl⟩
    rw [hcc] at hz
    have HC := Lib.hid hcc
    have hzd : (cc != 0) = true := by simpa using hz
    clear hz hcc
    go_enter Try.func42, Try.ntmps42
    go_wp2_with fail
    refine (l12Side_any a n c xs s w h hn).mono ?_
    rintro x w2 ⟨rfl, b2⟩
    rw [HC.out]
    go_wp2
    go_ret2
    exact ⟨by rw [HD.out, HC.out]; exact IntRes.nil _ _ _, b2⟩
  obtain ⟨hok, hin⟩ := exC_parts hz
  obtain ⟨h100, hbd, -⟩ := okP_num h.1 hok
  have HBD := Lib.hid hbd
  have HC := Lib.hid hz
  have HAT := Lib.hid (fun k x => exA_at (xs := xs) (s := s) (n := n) (k := k) (x := x) h.1)
  have HR : Hid (riA xs s = riL xs (exA xs s) ((exA xs s).length - 1)) := Lib.hid rfl
  have HLE : Hid ((exA xs s).length ≤ n) := Lib.hid (exA_len (by rw [h.1]; exact Nat.le_refl _))
  have hDL := (exA_0 h.1 hok hin).2
  obtain ⟨s1, s2⟩ := inB_iff.1 hin
  obtain ⟨S, rfl⟩ : ∃ S : Nat, s = (S : Int) := ⟨s.toNat, by omega⟩
  rw [Int.toNat_natCast] at hDL
  have HX := Lib.hid (fun (W : World) (hW : PtL W a n xs) => l12All_any a n c xs S W hW h100 (by omega) (by omega))
  rw [← hDL] at HX
  generalize exA xs (S : Int) = L at HX HAT HR HLE
  obtain ⟨M, hM⟩ : ∃ M, L.length = M := ⟨_, rfl⟩
  rw [hM] at HR HLE HAT HX
  have hMn := HLE.out
  have HM := Lib.hid hM
  clear hz hin hDL hbd
  go_enter Try.func42, Try.ntmps42
  go_wp2_with fail
  refine (l12Side_any a n c xs S w h hn).mono ?_
  rintro x w2 ⟨rfl, b2⟩
  rw [HC.out]
  go_wp2_with fail
  refine (HX.out _ (h.mono b2)).mono ?_
  rintro x w3 ⟨v, rfl, hownL, b3⟩
  have B3 := belowCall b2 b3
  obtain ⟨la, lc, rfl, hEL⟩ := ex_form hownL HM.out
  have hcv3 := h.mono B3
  have hMz : (M : Int) ≤ 100 := by omega
  have hE0 : (w3.alloc (.cells #[] 2)).ownsRow w3.heap.size 2 1 (.slice (some ⟨w3.heap.size, 0, none⟩) 0 0) 0 [] := World.ownsRow_lit w3 #[] 0 (Nat.le_refl _) (by unfold maxLen; omega) rfl
  have b0 : Below w3.heap.size w3 (w3.alloc (.cells #[] 2)) := (Below.refl _ _).alloc (Nat.le_refl _) _
  clear hownL
  go_wp2
  go_loopw [8, 9] (fun o i wr => ∃ k g cg Q : Nat, k ≤ M - 1 ∧ i = .int .i64 k ∧ (riL xs L k).length = Q ∧ o = .slice (some ⟨g, 0, none⟩) Q cg ∧ wr.ownsRow w3.heap.size 2 1 (.slice (some ⟨g, 0, none⟩) Q cg) Q ((riL xs L k).map (Value.int .i64)) ∧ Below w3.heap.size w3 wr) (fun _ i _ => M - (Go.RowKit.intOf i).toNat)
  case atStart => exact ⟨0, w3.heap.size, 0, 0, by omega, rfl, rfl, rfl, hE0, b0⟩
  case round =>
    obtain ⟨k, g, cg, Q, hk, rfl, hQ, rfl, hown, hB⟩ := hrel
    clear hE0 b0
    have hsz := hB.size
    have hll := riL_len xs L k
    rw [hQ] at hll
    have HQ := Lib.hid hQ
    clear hQ
    by_cases hlt : k + 1 < M
    · have hkz : (k : Int) + 1 < (M : Int) := by omega
      have hkz2 : (k : Int) < (M : Int) := by omega
      have hk0 : (0 : Int) ≤ (k : Int) := by omega
      have hk1 : (0 : Int) ≤ (k : Int) + 1 := by omega
      obtain ⟨⟨x0, xq⟩, hx⟩ : ∃ x, L[k]?.getD ex0 = x := ⟨_, rfl⟩
      obtain ⟨⟨y0, yq⟩, hy⟩ : ∃ x, L[k + 1]?.getD ex0 = x := ⟨_, rfl⟩
      obtain ⟨q, hq, hqn⟩ := HAT.out k _ (by omega) hx
      obtain ⟨r, hr, hrn⟩ := HAT.out (k + 1) _ (by omega) hy
      simp only at hq hr
      subst hq
      subst hr
      obtain ⟨b1, o1, rfl, hEX⟩ := hEL.at (by omega) hx
      obtain ⟨b1', o1', he, hEY⟩ := hEL.at (k := k + 1) (by omega) hy
      cases he
      obtain ⟨bc, oc, rfl, hPQ⟩ := hcv3.2 q hqn
      obtain ⟨bc', oc', he, hPR⟩ := hcv3.2 r hrn
      cases he
      have d1 := HBD.out q hqn
      have d2 := HBD.out r hrn
      obtain ⟨⟨u0, u1⟩, hu⟩ : ∃ x, xs[q]?.getD pt0 = x := ⟨_, rfl⟩
      obtain ⟨⟨v0, v1⟩, hv⟩ : ∃ x, xs[r]?.getD pt0 = x := ⟨_, rfl⟩
      rw [hu] at hPQ d1
      rw [hv] at hPR d2
      simp only at d1 d2
      have hb1 := hEX.1
      have hbc := hPQ.1
      have hbr : b1 < wr.heap.size := by omega
      have hbcr : bc < wr.heap.size := by omega
      obtain ⟨-, p0, p1⟩ := (hEX.mono hB).parts
      obtain ⟨-, r0, r1⟩ := (hEY.mono hB).parts
      obtain ⟨-, c0, -⟩ := (hPQ.mono hB).parts
      obtain ⟨-, e0, -⟩ := (hPR.mono hB).parts
      obtain ⟨T, hT⟩ : ∃ T, v0 - u0 = T := ⟨_, rfl⟩
      have hwT : IntKind.i64.wrap (v0 - u0) = T := by rw [hT]; exact IntWalk.i64_in _ (by omega)
      have hRT : riT xs L k = T := by rw [riT, hx, hy, ← hT]; simp only [Int.toNat_natCast, tmX, hu, hv]
      have HY := Lib.hid (fun hb => riL_yes (xs := xs) (L := L) (k := k) (t := T) hb hRT)
      have HN := Lib.hid (riL_no (xs := xs) (L := L) (k := k))
      have hRB : riB L k = (x0 == 2 && y0 == 1) := by rw [riB, hx, hy]
      have HRB := Lib.hid hRB
      have hqz : (q : Int) < (n : Int) := by omega
      have hrz : (r : Int) < (n : Int) := by omega
      have hq0 : (0 : Int) ≤ (q : Int) := by omega
      have hr0 : (0 : Int) ≤ (r : Int) := by omega
      have hw1 : IntKind.i64.wrap ((k : Int) + 1) = (k : Int) + 1 := IntWalk.i64_in _ (by omega)
      have hTz : -10000000 ≤ T ∧ T ≤ 10000000 := by omega
      clear hx hy hT hRT hRB hEX hEY hPQ hPR hu hv
      cases hb2 : (x0 == 2)
      · have HS := Lib.hid (HN.out (by rw [HRB.out, hb2]; rfl))
        have HO := Lib.hid hown
        clear hown
        go_wp2
        go_roundw
        case rel => exact ⟨k + 1, g, cg, Q, by omega, by go_num, by rw [HS.out, HQ.out], rfl, by rw [HS.out]; exact HO.out, hB⟩
        case measure => simp [Go.RowKit.intOf]; omega
      cases hb1' : (y0 == 1)
      · have HS := Lib.hid (HN.out (by rw [HRB.out, hb2, hb1']; rfl))
        have HO := Lib.hid hown
        clear hown
        go_wp2
        go_roundw
        case rel => exact ⟨k + 1, g, cg, Q, by omega, by go_num, by rw [HS.out, HQ.out], rfl, by rw [HS.out]; exact HO.out, hB⟩
        case measure => simp [Go.RowKit.intOf]; omega
      · have HS := Lib.hid (HY.out (by rw [HRB.out, hb2, hb1']; rfl))
        have hgg := hown.lt g rfl
        have hownd : wr.drew.ownsRow w3.heap.size 2 1 (.slice (some ⟨g, 0, none⟩) Q cg) Q ((riL xs L k).map (Value.int .i64)) := ownKeepF hown (Below.drew (Below.refl _ _))
        have HM1 : Hid ((riL xs L (k + 1)).map (Value.int .i64) = (riL xs L k).map (Value.int .i64) ++ [.int .i64 T]) := Lib.hid (by rw [HS.out, List.map_append]; rfl)
        have HM2 : Hid ((riL xs L (k + 1)).length = Q + 1) := Lib.hid (by rw [HS.out, List.length_append, HQ.out]; rfl)
        clear HS
        generalize (riL xs L k).map (Value.int .i64) = RL at hownd hown HM1
        go_wp2_with fail
        go_region_held3 (fun W' => W'.cell? ⟨b1, o1 + k * 2, none⟩ = some (.int .i64 x0) ∧ W'.cell? ⟨b1, o1 + k * 2 + 1, none⟩ = some (.int .i64 (q : Int)) ∧ W'.cell? ⟨b1, o1 + (k + 1) * 2, none⟩ = some (.int .i64 y0) ∧ W'.cell? ⟨b1, o1 + (k + 1) * 2 + 1, none⟩ = some (.int .i64 (r : Int)) ∧ W'.cell? ⟨bc, oc + q * 2, none⟩ = some (.int .i64 u0) ∧ W'.cell? ⟨bc, oc + r * 2, none⟩ = some (.int .i64 v0)) (refine ⟨?_, ?_, ?_, ?_, ?_, ?_⟩ <;> first | assumption | go_keep) (first | (refine Go.step_append_lies _ rfl _ _ 62 rfl w3.heap.size 2 i0 (.int .i64 0) 1 8 Try.underlying62 hi hz0 hz1 hz2 rfl (by decide) (.slice (some ⟨g, 0, none⟩) Q cg) Q _ rfl (hownd.alloc _) ⟨wr.heap.size, 0, none⟩ 1 1 [.int .i64 T] rfl rfl (cell_one_new _ _ _) (by intro u hu; simp at hu; subst hu; rfl) (by decide) (by unfold maxLen; omega) (by omega) (by simp; omega) _ rfl ?_; intro g7 c7 w7 hown7 hg7 hat7 hlt7; have hB7 : Below w3.heap.size w3 w7 := (show Below w3.heap.size w3 _ by (repeat (first | assumption | exact Below.refl _ _ | refine belowDN ?_ _ | refine Below.drew ?_ | refine Below.setCell ?_ (by first | omega | (simp <;> omega)) _ | refine Below.alloc ?_ (by first | omega | (simp <;> omega)) _ | refine belowCall ?_ (by assumption)))).grown hg7 (by simp; omega) (fun j e => by have hh : g = j := Option.some.inj e; omega); have t1 := hg7.cell (a := ⟨b1, o1 + k * 2, none⟩) (v := .int .i64 x0) (by go_keep) (fun e => by have hh : b1 = g := Option.some.inj e; omega); have t2 := hg7.cell (a := ⟨b1, o1 + k * 2 + 1, none⟩) (v := .int .i64 (q : Int)) (by go_keep) (fun e => by have hh : b1 = g := Option.some.inj e; omega); have t3 := hg7.cell (a := ⟨b1, o1 + (k + 1) * 2, none⟩) (v := .int .i64 y0) (by go_keep) (fun e => by have hh : b1 = g := Option.some.inj e; omega); have t4 := hg7.cell (a := ⟨b1, o1 + (k + 1) * 2 + 1, none⟩) (v := .int .i64 (r : Int)) (by go_keep) (fun e => by have hh : b1 = g := Option.some.inj e; omega); have t5 := hg7.cell (a := ⟨bc, oc + q * 2, none⟩) (v := .int .i64 u0) (by go_keep) (fun e => by have hh : bc = g := Option.some.inj e; omega); have t6 := hg7.cell (a := ⟨bc, oc + r * 2, none⟩) (v := .int .i64 v0) (by go_keep) (fun e => by have hh : bc = g := Option.some.inj e; omega); have HOWN7 := Lib.hid hown7; clear hg7 hat7 hown7))
        go_wp2
        go_roundw
        case rel => exact ⟨k + 1, g7, c7, Q + 1, by omega, by go_num, HM2.out, rfl, by rw [HM1.out]; exact HOWN7.out, hB7⟩
        case measure => simp [Go.RowKit.intOf]; omega
    · have hke : k = M - 1 := by omega
      have hkz : ¬ (k : Int) + 1 < (M : Int) := by omega
      have HE : Hid (riA xs (S : Int) = riL xs L k) := Lib.hid (by rw [HR.out, hke])
      have HO := Lib.hid hown
      clear hown hke
      go_wp2
      go_ret2
      exact ⟨by rw [HE.out, HC.out]; exact IntRes.own (ownLow HO.out B3.size) HQ.out, belowCall B3 hB⟩
end Go.Proofs.Ytcjipmpccmppiab
