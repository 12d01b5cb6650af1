/- AssignCycles, the model's. -/
import Derived.Test.YtbjflgohahmjgaaDoorPT
namespace Go.Proofs.YtbjflgohahmjgaaDoor
open Go.ChangeShapes Go.WideShapes Go.ChangeAt Go.RowKit Go.Deep

theorem nearB_dec {e p m : Int} {x : Mi} {R : Int} (h : rsd e p x = R) : nearB e p m x = decide (((R.natAbs : Nat) : Int) ≤ m) := by rw [nearB, h]
set_option maxRecDepth 100000 in
set_option maxHeartbeats 4000000 in
theorem sAsg_any (a : Option Addr) (n c : Nat) (ts : List Int) (e p m : Int) (w : World) (h : Lst w a n ts) (hn : n ≤ 1048576) :
    Calls Tryd.prog 29 #[.slice a n c, .agg #[.int .i64 e, .int .i64 p], .int .i64 m] w fun x w' => MiRes w.heap.size (acA ts e p m) (.int .i64 (acC ts e p m)) w' x ∧ Below w.heap.size w w' := by
  obtain ⟨i0, hi, hz0, hz1, hz2⟩ := info_parts Mi_info
  have hbx := PtC.fresh w 27 e p
  have B1 : Below w.heap.size w (w.alloc (.cells #[.int .i64 e, .int .i64 p] 27)) := (Below.refl _ w).alloc (Nat.le_refl _) _
  have hl : (n : Int) ≤ 1048576 := by omega
  cases he : ephB e p
  · have HD := Lib.hid (ac_1 (ts := ts) (m := m) he)
    go_enter Tryd.func29, Tryd.ntmps29
    go_upto_region 1 with fail
    generalize w.alloc (.cells #[.int .i64 e, .int .i64 p] 27) = v at hbx B1 ⊢
    obtain ⟨-, k0, k1⟩ := hbx.parts
    rw [Nat.zero_add] at k1
    go_wp2_with fail
    refine (l09Ok_any e p _).mono ?_
    rintro x w2 ⟨rfl, b2⟩
    rw [he]
    go_wp2
    go_ret2
    exact ⟨by rw [HD.out.1, HD.out.2]; exact MiRes.nil _ _ _, belowCall B1 b2⟩
  have HIN : ∀ W, Calls Tryd.prog 63 #[.int .i64 m, .int .i64 0, .int .i64 1000000] W fun e w' => e = .returned (.bool (inB m 0 1000000)) ∧ W = w' := fun W => l00In_any m 0 1000000 W
  have hok := okT_rs h.1
  cases hr : rsB ts
  · have HD := Lib.hid (ac_2 (m := m) he (by rw [hok, hr]; simp))
    go_enter Tryd.func29, Tryd.ntmps29
    go_upto_region 1 with fail
    generalize w.alloc (.cells #[.int .i64 e, .int .i64 p] 27) = v at hbx B1 ⊢
    obtain ⟨-, k0, k1⟩ := hbx.parts
    rw [Nat.zero_add] at k1
    go_wp2_with fail
    refine (l09Ok_any e p _).mono ?_
    rintro x w2 ⟨rfl, b2⟩
    rw [he]
    go_wp2_with fail
    refine (rises_any a n c ts _ (h.mono (belowCall B1 b2)) hn).mono ?_
    rintro x w3 ⟨rfl, b3⟩
    rw [hr]
    go_wp2
    go_ret2
    exact ⟨by rw [HD.out.1, HD.out.2]; exact MiRes.nil _ _ _, belowCall (belowCall B1 b2) b3⟩
  by_cases h50 : n ≤ 50
  rotate_left
  · have HD := Lib.hid (ac_2 (m := m) he (by rw [hok, show decide (n ≤ 50) = false by simpa using h50]; simp))
    have hd : decide ((50 : Int) < (n : Int)) = true := by simp; omega
    clear hok
    go_enter Tryd.func29, Tryd.ntmps29
    go_upto_region 1 with fail
    generalize w.alloc (.cells #[.int .i64 e, .int .i64 p] 27) = v at hbx B1 ⊢
    obtain ⟨-, k0, k1⟩ := hbx.parts
    rw [Nat.zero_add] at k1
    go_wp2_with fail
    refine (l09Ok_any e p _).mono ?_
    rintro x w2 ⟨rfl, b2⟩
    rw [he]
    go_wp2_with fail
    refine (rises_any a n c ts _ (h.mono (belowCall B1 b2)) hn).mono ?_
    rintro x w3 ⟨rfl, b3⟩
    rw [hr]
    go_wp2
    go_ret2
    exact ⟨by rw [HD.out.1, HD.out.2]; exact MiRes.nil _ _ _, belowCall (belowCall B1 b2) b3⟩
  have hd : decide ((50 : Int) < (n : Int)) = false := by simp; omega
  have ht : okT ts = true := by rw [hok, hr]; simpa using h50
  clear hok
  cases hm : inB m 0 1000000
  · have HD := Lib.hid (ac_2 (m := m) he (by rw [ht, hm]; rfl))
    rw [hm] at HIN
    go_enter Tryd.func29, Tryd.ntmps29
    go_upto_region 1 with fail
    generalize w.alloc (.cells #[.int .i64 e, .int .i64 p] 27) = v at hbx B1 ⊢
    obtain ⟨-, k0, k1⟩ := hbx.parts
    rw [Nat.zero_add] at k1
    go_wp2_with fail
    refine (l09Ok_any e p _).mono ?_
    rintro x w2 ⟨rfl, b2⟩
    rw [he]
    go_wp2_with fail
    refine (rises_any a n c ts _ (h.mono (belowCall B1 b2)) hn).mono ?_
    rintro x w3 ⟨rfl, b3⟩
    rw [hr]
    go_wp2_with (go_at_call 63; refine (HIN _).mono ?_; rintro x w' ⟨rfl, rfl⟩)
    go_ret2
    exact ⟨by rw [HD.out.1, HD.out.2]; exact MiRes.nil _ _ _, belowCall (belowCall B1 b2) b3⟩
  have hv : (okT ts && inB m 0 1000000) = true := by rw [ht, hm]; rfl
  obtain ⟨-, hbd⟩ := okT_num h.1 ht
  obtain ⟨⟨e1, e2⟩, p1, p2⟩ := ephB_iff.1 he
  obtain ⟨-, hnk⟩ := acL_near h.1 ht he
  have HNK := Lib.hid hnk
  have HBD := Lib.hid hbd
  have HL := Lib.hid h.1
  have HSL : Hid ((acL e p ts).length = n) := Lib.hid ((acL_len e p ts).trans h.1)
  rw [hm] at HIN
  clear hnk hbd
  go_enter Tryd.func29, Tryd.ntmps29
  go_upto_region 1 with fail
  generalize w.alloc (.cells #[.int .i64 e, .int .i64 p] 27) = v at hbx B1 ⊢
  obtain ⟨-, k0, k1⟩ := hbx.parts
  rw [Nat.zero_add] at k1
  go_wp2_with fail
  refine (l09Ok_any e p _).mono ?_
  rintro x w2 ⟨rfl, b2⟩
  rw [he]
  have hbx2 := hbx.mono b2
  have B2 := belowCall B1 b2
  clear k0 k1
  go_wp2_with fail
  refine (rises_any a n c ts _ (h.mono B2) hn).mono ?_
  rintro x w4 ⟨rfl, b4⟩
  rw [hr]
  have B4 := belowCall B2 b4
  have hbx4 := hbx2.mono b4
  have h4 := h.mono B4
  have hsw := B4.size
  go_wp2_with (go_at_call 63; refine (HIN _).mono ?_; rintro x w' ⟨rfl, rfl⟩)
  have hE0 : (w4.alloc (.cells #[] 34)).ownsRow w4.heap.size 34 2 (.slice (some ⟨w4.heap.size, 0, none⟩) 0 0) 0 [] := World.ownsRow_lit w4 #[] 0 (Nat.le_refl _) (by unfold maxLen; omega) rfl
  go_loopw [8, 9] (fun o i wr => ∃ k g cg : Nat, k ≤ n ∧ i = .int .i64 k ∧ o = .slice (some ⟨g, 0, none⟩) k cg ∧ wr.ownsRow w4.heap.size 34 2 (.slice (some ⟨g, 0, none⟩) k cg) k (flatMi (acL e p (ts.take k))) ∧ Below w4.heap.size w4 wr) (fun _ i _ => n - (Go.RowKit.intOf i).toNat)
  case atStart => exact ⟨0, w4.heap.size, 0, Nat.zero_le _, rfl, rfl, hE0, by (repeat (first | assumption | exact Below.refl _ _ | refine belowDN ?_ _ | refine Below.drew ?_ | refine Below.setCell ?_ (by first | omega | (simp <;> omega)) _ | refine Below.alloc ?_ (by first | omega | (simp <;> omega)) _ | refine belowCall ?_ (by assumption)))⟩
  case round =>
    obtain ⟨k, g, cg, hk, rfl, rfl, hown, hB⟩ := hrel
    clear hE0
    have hsz := hB.size
    have hewl := hbx4.1
    have hew : w.heap.size < wr.heap.size := by omega
    obtain ⟨-, k0, k1⟩ := (hbx4.mono hB).parts
    rw [Nat.zero_add] at k1
    by_cases hlt : k < n
    · obtain ⟨b1, o1, rfl, hb1, hc⟩ := h4.2 k hlt
      obtain ⟨x, hx⟩ : ∃ x, ts[k]?.getD 0 = x := ⟨_, rfl⟩
      have hbx := HBD.out k hlt
      have HST : Hid (flatMi (acL e p (ts.take (k + 1))) = flatMi (acL e p (ts.take k)) ++ [.int .i64 (rnd (x - e) p), .int .i64 x]) := Lib.hid (acL_step (e := e) (p := p) HL.out hlt hx)
      rw [hx] at hc hbx
      have q0 := (hB.cell (p := ⟨b1, o1 + k, none⟩) hb1).trans hc
      have hb1r : b1 < wr.heap.size := by omega
      have hkk : (k : Int) < (n : Int) := by omega
      have hk00 : (0 : Int) ≤ (k : Int) := by omega
      have hwd : IntKind.i64.wrap (x - e) = x - e := IntWalk.i64_in _ (by omega)
      have hgl := hown.lt g rfl
      have HRD : ∀ W, Calls Tryd.prog 64 #[.int .i64 (x - e), .int .i64 p] W fun r w' => r = .returned (.int .i64 (rnd (x - e) p)) ∧ W = w' := fun W => l02Round_any (x - e) p W p1 (by omega) (by omega) (by omega)
      generalize rnd (x - e) p = R at HST HRD
      have hownd : wr.drew.ownsRow w4.heap.size 34 2 (.slice (some ⟨g, 0, none⟩) k cg) k (flatMi (acL e p (ts.take k))) := ownKeepF hown (Below.drew (Below.refl _ _))
      generalize flatMi (acL e p (ts.take k)) = RL at hownd hown HST
      clear hx hc
      go_wp2_with fail
      go_region_held3 (fun W' => W'.cell? ⟨b1, o1 + k, none⟩ = some (.int .i64 x) ∧ W'.cell? ⟨w.heap.size, 0, none⟩ = some (.int .i64 e) ∧ W'.cell? ⟨w.heap.size, 1, none⟩ = some (.int .i64 p)) (refine ⟨?_, ?_, ?_⟩ <;> first | assumption | exact ((show Below wr.heap.size wr _ by (repeat (first | assumption | exact Below.refl _ _ | refine belowDN ?_ _ | refine Below.drew ?_ | refine Below.setCell ?_ (by first | omega | (simp <;> omega)) _ | refine Below.alloc ?_ (by first | omega | (simp <;> omega)) _ | refine belowCall ?_ (by assumption)))).cell (p := ⟨b1, o1 + k, none⟩) hb1r).trans q0 | exact ((show Below wr.heap.size wr _ by (repeat (first | assumption | exact Below.refl _ _ | refine belowDN ?_ _ | refine Below.drew ?_ | refine Below.setCell ?_ (by first | omega | (simp <;> omega)) _ | refine Below.alloc ?_ (by first | omega | (simp <;> omega)) _ | refine belowCall ?_ (by assumption)))).cell (p := ⟨w.heap.size, 0, none⟩) hew).trans k0 | exact ((show Below wr.heap.size wr _ by (repeat (first | assumption | exact Below.refl _ _ | refine belowDN ?_ _ | refine Below.drew ?_ | refine Below.setCell ?_ (by first | omega | (simp <;> omega)) _ | refine Below.alloc ?_ (by first | omega | (simp <;> omega)) _ | refine belowCall ?_ (by assumption)))).cell (p := ⟨w.heap.size, 1, none⟩) hew).trans k1) (first | (go_at_call 64; refine (HRD _).mono ?_; rintro r wq ⟨rfl, rfl⟩) | (refine Go.step_append_lies _ rfl _ _ 24 rfl w4.heap.size 34 i0 _ 2 16 Tryd.underlying24 hi hz0 hz1 hz2 rfl (by decide) (.slice (some ⟨g, 0, none⟩) k cg) k RL rfl (hownd.alloc _) ⟨wr.heap.size, 0, none⟩ 1 1 [.int .i64 R, .int .i64 x] rfl rfl (cellsMi wr.drew _ _ _) (by intro u hu; simp at hu; rcases hu with rfl | rfl <;> rfl) (by decide) (by unfold maxLen; omega) (by omega) (by simp; omega) _ rfl ?_; intro g7 c7 w7 hown7 hg7 hat7 hlt7; have hB7 : Below w4.heap.size w4 w7 := (show Below w4.heap.size w4 _ by (repeat (first | assumption | exact Below.refl _ _ | refine belowDN ?_ _ | refine Below.drew ?_ | refine Below.setCell ?_ (by first | omega | (simp <;> omega)) _ | refine Below.alloc ?_ (by first | omega | (simp <;> omega)) _ | refine belowCall ?_ (by assumption)))).grown hg7 (by simp; omega) (fun j e => by have hh : g = j := Option.some.inj e; omega); have t1 := hg7.cell (a := ⟨b1, o1 + k, none⟩) (v := .int .i64 x) (by go_keep) (fun e => by have hh : b1 = g := Option.some.inj e; omega); have t2 := hg7.cell (a := ⟨w.heap.size, 0, none⟩) (v := .int .i64 e) (by go_keep) (fun e => by have hh : w.heap.size = g := Option.some.inj e; omega); have t3 := hg7.cell (a := ⟨w.heap.size, 1, none⟩) (v := .int .i64 p) (by go_keep) (fun e => by have hh : w.heap.size = g := Option.some.inj e; omega); have HOWN7 := Lib.hid hown7; clear hg7 hat7 hown7) | fail)
      go_wp2
      go_roundw
      case rel => exact ⟨k + 1, g7, c7, by omega, by go_num, rfl, by rw [HST.out]; exact HOWN7.out, hB7⟩
      case measure => simp [Go.RowKit.intOf]; omega
    · obtain rfl : k = n := by omega
      have hT : ts.take k = ts := List.take_of_length_le (by rw [HL.out]; exact Nat.le_refl _)
      rw [hT] at hown
      have hL := MiL.of_own hown HSL.out
      have hgl := hown.lt g rfl
      have HO := Lib.hid hown
      have B5 := belowCall B4 hB
      have hbx5 := hbx4.mono hB
      clear hown k0 k1 hew
      obtain ⟨wo, rfl⟩ : ∃ wo, wo = wr := ⟨wr, rfl⟩
      go_wp2
      go_loopw [10] (fun i wr => ∃ k' : Nat, k' ≤ k ∧ i = .int .i64 k' ∧ (∀ j, j < k' → nearB e p m ((acL e p ts)[j]?.getD mi0) = true) ∧ Below wo.heap.size wo wr) (fun i _ => k - (Go.RowKit.intOf i).toNat)
      case atStart => exact ⟨0, Nat.zero_le _, rfl, fun j hj => absurd hj (by omega), Below.refl _ _⟩
      case round =>
        obtain ⟨i, hik, rfl, hall, hBi⟩ := hrel
        have HALL := Lib.hid hall
        clear hall
        have hszi := hBi.size
        by_cases hlt' : i < k
        · obtain ⟨b1, o1, he', hc⟩ := hL.2 i hlt'
          cases he'
          have hnb := HNK.out i hlt'
          obtain ⟨⟨x0, x1⟩, hx⟩ : ∃ x, (acL e p ts)[i]?.getD mi0 = x := ⟨_, rfl⟩
          have HX := Lib.hid hx
          rw [hx] at hc hnb
          simp only at hnb
          obtain ⟨-, q0, q1⟩ := (hc.mono hBi).parts
          rw [Nat.zero_add] at q0 q1
          obtain ⟨-, k0, k1⟩ := (hbx5.mono hBi).parts
          rw [Nat.zero_add] at k1
          have hew : w.heap.size < wr.heap.size := by have := hbx5.1; omega
          have hgr : g < wr.heap.size := by have := hc.1; omega
          have hkk : (i : Int) < (k : Int) := by omega
          obtain ⟨R, hR⟩ : ∃ R, rsd e p (x0, x1) = R := ⟨_, rfl⟩
          have HND := Lib.hid (nearB_dec (m := m) hR)
          have hRb : -1000000000000 ≤ R ∧ R ≤ 1000000000000 := by rw [← hR]; unfold rsd; simp only; omega
          have HRS : ∀ W, Calls Tryd.prog 66 #[.agg #[.int .i64 x0, .int .i64 x1], .agg #[.int .i64 e, .int .i64 p]] W fun r w' => r = .returned (.int .i64 R) ∧ Below W.heap.size W w' := fun W => by rw [← hR]; exact sRsd_any e p x0 x1 W e1 e2 hnb.1.1 hnb.1.2 hnb.2.1 hnb.2.2
          have HSZ : ∀ W, Calls Tryd.prog 65 #[.int .i64 R] W fun r w' => r = .returned (.int .i64 ((R.natAbs : Nat) : Int)) ∧ W = w' := fun W => l02Size_any R W (by omega) (by omega)
          generalize ((R.natAbs : Nat) : Int) = D at HND HSZ
          clear hx hc hR
          obtain ⟨kk, rfl⟩ : ∃ kk, kk = i := ⟨i, rfl⟩
          by_cases hle : D ≤ m
          · have HK : Hid (∀ j, j < kk + 1 → nearB e p m ((acL e p ts)[j]?.getD mi0) = true) := Lib.hid fun j hj => by
              by_cases ej : j = kk
              · subst ej; rw [HX.out, HND.out]; simpa using hle
              · exact HALL.out j (by omega)
            have hld : decide (m < D) = false := by simpa using hle
            go_wp2_with fail
            go_region_held3 (fun W' => W'.cell? ⟨g, kk * 2, none⟩ = some (.int .i64 x0) ∧ W'.cell? ⟨g, kk * 2 + 1, none⟩ = some (.int .i64 x1) ∧ W'.cell? ⟨w.heap.size, 0, none⟩ = some (.int .i64 e) ∧ W'.cell? ⟨w.heap.size, 1, none⟩ = some (.int .i64 p)) (refine ⟨?_, ?_, ?_, ?_⟩ <;> first | assumption | exact ((show Below wr.heap.size wr _ by (repeat (first | assumption | exact Below.refl _ _ | refine belowDN ?_ _ | refine Below.drew ?_ | refine Below.setCell ?_ (by first | omega | (simp <;> omega)) _ | refine Below.alloc ?_ (by first | omega | (simp <;> omega)) _ | refine belowCall ?_ (by assumption)))).cell (p := ⟨g, kk * 2, none⟩) hgr).trans q0 | exact ((show Below wr.heap.size wr _ by (repeat (first | assumption | exact Below.refl _ _ | refine belowDN ?_ _ | refine Below.drew ?_ | refine Below.setCell ?_ (by first | omega | (simp <;> omega)) _ | refine Below.alloc ?_ (by first | omega | (simp <;> omega)) _ | refine belowCall ?_ (by assumption)))).cell (p := ⟨g, kk * 2 + 1, none⟩) hgr).trans q1 | exact ((show Below wr.heap.size wr _ by (repeat (first | assumption | exact Below.refl _ _ | refine belowDN ?_ _ | refine Below.drew ?_ | refine Below.setCell ?_ (by first | omega | (simp <;> omega)) _ | refine Below.alloc ?_ (by first | omega | (simp <;> omega)) _ | refine belowCall ?_ (by assumption)))).cell (p := ⟨w.heap.size, 0, none⟩) hew).trans k0 | exact ((show Below wr.heap.size wr _ by (repeat (first | assumption | exact Below.refl _ _ | refine belowDN ?_ _ | refine Below.drew ?_ | refine Below.setCell ?_ (by first | omega | (simp <;> omega)) _ | refine Below.alloc ?_ (by first | omega | (simp <;> omega)) _ | refine belowCall ?_ (by assumption)))).cell (p := ⟨w.heap.size, 1, none⟩) hew).trans k1) (first | (go_at_call 66; refine (HRS _).mono ?_; rintro r wA ⟨rfl, bA⟩) | (go_at_call 65; refine (HSZ _).mono ?_; rintro r wB ⟨rfl, rfl⟩) | fail)
            all_goals
              go_wp2
              go_roundw
              case rel => exact ⟨kk + 1, by omega, by go_num, HK.out, belowCall hBi (by (repeat (first | assumption | exact Below.refl _ _ | refine belowDN ?_ _ | refine Below.drew ?_ | refine Below.setCell ?_ (by first | omega | (simp <;> omega)) _ | refine Below.alloc ?_ (by first | omega | (simp <;> omega)) _ | refine belowCall ?_ (by assumption))))⟩
              case measure => simp [Go.RowKit.intOf]; omega
          · have hnr := allNear_no (n := k) HSL.out hlt' HX.out (by rw [HND.out]; simpa using hle)
            have HD := Lib.hid (ac_9 he hv hnr)
            have hld : decide (m < D) = true := by simpa using hle
            go_wp2_with fail
            go_region_held3 (fun W' => W'.cell? ⟨g, kk * 2, none⟩ = some (.int .i64 x0) ∧ W'.cell? ⟨g, kk * 2 + 1, none⟩ = some (.int .i64 x1) ∧ W'.cell? ⟨w.heap.size, 0, none⟩ = some (.int .i64 e) ∧ W'.cell? ⟨w.heap.size, 1, none⟩ = some (.int .i64 p)) (refine ⟨?_, ?_, ?_, ?_⟩ <;> first | assumption | exact ((show Below wr.heap.size wr _ by (repeat (first | assumption | exact Below.refl _ _ | refine belowDN ?_ _ | refine Below.drew ?_ | refine Below.setCell ?_ (by first | omega | (simp <;> omega)) _ | refine Below.alloc ?_ (by first | omega | (simp <;> omega)) _ | refine belowCall ?_ (by assumption)))).cell (p := ⟨g, kk * 2, none⟩) hgr).trans q0 | exact ((show Below wr.heap.size wr _ by (repeat (first | assumption | exact Below.refl _ _ | refine belowDN ?_ _ | refine Below.drew ?_ | refine Below.setCell ?_ (by first | omega | (simp <;> omega)) _ | refine Below.alloc ?_ (by first | omega | (simp <;> omega)) _ | refine belowCall ?_ (by assumption)))).cell (p := ⟨g, kk * 2 + 1, none⟩) hgr).trans q1 | exact ((show Below wr.heap.size wr _ by (repeat (first | assumption | exact Below.refl _ _ | refine belowDN ?_ _ | refine Below.drew ?_ | refine Below.setCell ?_ (by first | omega | (simp <;> omega)) _ | refine Below.alloc ?_ (by first | omega | (simp <;> omega)) _ | refine belowCall ?_ (by assumption)))).cell (p := ⟨w.heap.size, 0, none⟩) hew).trans k0 | exact ((show Below wr.heap.size wr _ by (repeat (first | assumption | exact Below.refl _ _ | refine belowDN ?_ _ | refine Below.drew ?_ | refine Below.setCell ?_ (by first | omega | (simp <;> omega)) _ | refine Below.alloc ?_ (by first | omega | (simp <;> omega)) _ | refine belowCall ?_ (by assumption)))).cell (p := ⟨w.heap.size, 1, none⟩) hew).trans k1) (first | (go_at_call 66; refine (HRS _).mono ?_; rintro r wA ⟨rfl, bA⟩) | (go_at_call 65; refine (HSZ _).mono ?_; rintro r wB ⟨rfl, rfl⟩) | fail)
            all_goals
              go_wp2
              go_ret2
              exact ⟨by rw [HD.out.1, HD.out.2]; exact MiRes.nil _ _ _, belowCall B5 (belowCall hBi (by (repeat (first | assumption | exact Below.refl _ _ | refine belowDN ?_ _ | refine Below.drew ?_ | refine Below.setCell ?_ (by first | omega | (simp <;> omega)) _ | refine Below.alloc ?_ (by first | omega | (simp <;> omega)) _ | refine belowCall ?_ (by assumption)))))⟩
        · obtain rfl : i = k := by omega
          have hnr := allNear_yes (n := i) HSL.out HALL.out
          have hLr := hL.mono hBi
          have B6 := belowCall B5 hBi
          cases hok2 : okM (acL e p ts)
          · have HD := Lib.hid (ac_6 he hv hnr hok2)
            go_wp2_with fail
            refine (l13Ok_any _ i cg _ _ hLr hn).mono ?_
            rintro x w8 ⟨rfl, b8⟩
            rw [hok2]
            go_wp2
            go_ret2
            exact ⟨by rw [HD.out.1, HD.out.2]; exact MiRes.nil _ _ _, belowCall B6 b8⟩
          · have HD := Lib.hid (ac_0 he hv hnr hok2)
            go_wp2_with fail
            refine (l13Ok_any _ i cg _ _ hLr hn).mono ?_
            rintro x w8 ⟨rfl, b8⟩
            rw [hok2]
            go_wp2
            go_ret2
            exact ⟨by rw [HD.out.1, HD.out.2]; exact MiRes.own (ownLow (ownKeepF (ownKeepF HO.out hBi) b8) hsw) HSL.out, belowCall B6 b8⟩
end Go.Proofs.YtbjflgohahmjgaaDoor
