/- ValidObservers, the program's: areOrdered at observers by their names. -/
import Derived.Test.YtiogffjhhhpolacO2
import Derived.Test.YtiogffjhhhpolacCB
namespace Go.Proofs.Ytiogffjhhhpolac
open Go.ChangeShapes Go.WideShapes Go.ChangeAt Go.RowKit Go.Deep

theorem wpAny_rest3 {P : Program} {md : Region.Mode} {o0 o1 o2 : Oper} {l : List Oper} {Q' : Exit → Act → World → Prop} {fuel : Nat} {listed : Array Bool} {a : Act} {w : World}
    (hf : fuel = l.length) (hs : Region.noSelect (o0 :: o1 :: o2 :: l).toArray = true) (hB : Region.lexFrom md (o0 :: o1 :: o2 :: l).toArray l.length 3 listed = true)
    (h : wpQuiet P (o0 :: o1 :: o2 :: l).toArray (fun w' => ∃ n, w' = w.drewN n) (fun a' => ∀ w', (∃ n, w' = w.drewN n) → Q' .normal a' w') l a) :
    wpAny P md (o0 :: o1 :: o2 :: l).toArray Q' fuel listed a w := by
  subst hf
  refine wpAny_of_quiet (C := fun w' => ∃ n, w' = w.drewN n) (Q := fun a' => ∀ w', (∃ n, w' = w.drewN n) → Q' .normal a' w') (fun _ w' hw' h => h w' hw') _ _ _ _ ⟨0, rfl⟩ ?_
  refine wpAnyQ_lex hs l 3 listed a (fun j => ?_) hB h
  simp [Nat.add_comm 3 j]
set_option maxRecDepth 100000 in
set_option maxHeartbeats 4000000 in
theorem byN_any (nm : ByteArray) (x1 : Int) (nm' : ByteArray) (y1 : Int) (r : Int) (w : World) (hr : sgN nm nm' = r) :
    Calls Try.prog 62 #[.agg #[.string nm, .int .i64 x1], .agg #[.string nm', .int .i64 y1]] w fun e w' => e = .returned (.int .i64 r) ∧ Below w.heap.size w w' := by
  have hS : ∀ W, Calls Try.prog 58 #[.string nm, .string nm'] W fun e w' => e = .returned (.int .i64 r) ∧ w' = W := fun W => by rw [← hr]; exact cmpN_any nm nm' W
  clear hr
  have B1 : Below w.heap.size w ((w.alloc (.cells #[.string nm, .int .i64 x1] 54)).alloc (.cells #[.string nm', .int .i64 y1] 54)) := by (repeat (first | assumption | exact Below.refl _ _ | refine belowDN ?_ _ | refine Below.drew ?_ | refine Below.setCell ?_ (by first | omega | (simp <;> omega)) _ | refine Below.alloc ?_ (by first | omega | (simp <;> omega)) _ | refine belowCall ?_ (by assumption)))
  have c0 : ((w.alloc (.cells #[.string nm, .int .i64 x1] 54)).alloc (.cells #[.string nm', .int .i64 y1] 54)).cell? ⟨w.heap.size, 0, none⟩ = some (.string nm) := by go_keep
  have c1 : ((w.alloc (.cells #[.string nm, .int .i64 x1] 54)).alloc (.cells #[.string nm', .int .i64 y1] 54)).cell? ⟨w.heap.size, 1, none⟩ = some (.int .i64 x1) := by go_keep
  have c2 : ((w.alloc (.cells #[.string nm, .int .i64 x1] 54)).alloc (.cells #[.string nm', .int .i64 y1] 54)).cell? ⟨w.heap.size + 1, 0, none⟩ = some (.string nm') := by go_keep
  have c3 : ((w.alloc (.cells #[.string nm, .int .i64 x1] 54)).alloc (.cells #[.string nm', .int .i64 y1] 54)).cell? ⟨w.heap.size + 1, 1, none⟩ = some (.int .i64 y1) := by go_keep
  have hz : ((w.alloc (.cells #[.string nm, .int .i64 x1] 54)).alloc (.cells #[.string nm', .int .i64 y1] 54)).heap.size = w.heap.size + 2 := by simp
  go_enter Try.func62, Try.ntmps62
  go_wp2
  generalize ((w.alloc (.cells #[.string nm, .int .i64 x1] 54)).alloc (.cells #[.string nm', .int .i64 y1] 54)) = w1 at B1 c0 c1 c2 c3 hz ⊢
  have l0 : w.heap.size < w1.heap.size := by omega
  have l1 : w.heap.size + 1 < w1.heap.size := by omega
  go_region_held3 (fun W' => W'.cell? ⟨w.heap.size, 0, none⟩ = some (.string nm) ∧ W'.cell? ⟨w.heap.size, 1, none⟩ = some (.int .i64 x1) ∧ W'.cell? ⟨w.heap.size + 1, 0, none⟩ = some (.string nm') ∧ W'.cell? ⟨w.heap.size + 1, 1, none⟩ = some (.int .i64 y1)) (refine ⟨?_, ?_, ?_, ?_⟩ <;> first | assumption | exact ((show Below w1.heap.size w1 _ by (repeat (first | assumption | exact Below.refl _ _ | refine belowDN ?_ _ | refine Below.drew ?_ | refine Below.setCell ?_ (by first | omega | (simp <;> omega)) _ | refine Below.alloc ?_ (by first | omega | (simp <;> omega)) _ | refine belowCall ?_ (by assumption)))).cell (p := ⟨w.heap.size, 0, none⟩) l0).trans c0 | exact ((show Below w1.heap.size w1 _ by (repeat (first | assumption | exact Below.refl _ _ | refine belowDN ?_ _ | refine Below.drew ?_ | refine Below.setCell ?_ (by first | omega | (simp <;> omega)) _ | refine Below.alloc ?_ (by first | omega | (simp <;> omega)) _ | refine belowCall ?_ (by assumption)))).cell (p := ⟨w.heap.size, 1, none⟩) l0).trans c1 | exact ((show Below w1.heap.size w1 _ by (repeat (first | assumption | exact Below.refl _ _ | refine belowDN ?_ _ | refine Below.drew ?_ | refine Below.setCell ?_ (by first | omega | (simp <;> omega)) _ | refine Below.alloc ?_ (by first | omega | (simp <;> omega)) _ | refine belowCall ?_ (by assumption)))).cell (p := ⟨w.heap.size + 1, 0, none⟩) l1).trans c2 | exact ((show Below w1.heap.size w1 _ by (repeat (first | assumption | exact Below.refl _ _ | refine belowDN ?_ _ | refine Below.drew ?_ | refine Below.setCell ?_ (by first | omega | (simp <;> omega)) _ | refine Below.alloc ?_ (by first | omega | (simp <;> omega)) _ | refine belowCall ?_ (by assumption)))).cell (p := ⟨w.heap.size + 1, 1, none⟩) l1).trans c3) (first | (go_at_call 88; refine (obName_any _ _ _).mono ?_; rintro e w' ⟨rfl, hbel⟩) | (go_at_call 58; refine (hS _).mono ?_; rintro e w' ⟨rfl, rfl⟩))
  all_goals
    go_wp2
    go_ret
    exact ⟨rfl, belowCall B1 (show Below w1.heap.size w1 _ by (repeat (first | assumption | exact Below.refl _ _ | refine belowDN ?_ _ | refine Below.drew ?_ | refine Below.setCell ?_ (by first | omega | (simp <;> omega)) _ | refine Below.alloc ?_ (by first | omega | (simp <;> omega)) _ | refine belowCall ?_ (by assumption))))⟩
set_option maxRecDepth 100000 in
set_option maxHeartbeats 2000000 in
theorem areO_any (a : Option Addr) (n c : Nat) (xs : List Ob) (w : World) (h : ObL w a n xs) (hn : n ≤ 1048576) :
    Calls Try.prog 61 #[.slice a n c, .int .i64 40, .func (.func 62) #[] #[]] w fun e w' => e = .returned (.bool (okO xs)) ∧ Below w.heap.size w w' := by
  have hl : (n : Int) ≤ 1048576 := by omega
  have HL := Lib.hid h.1
  by_cases h60 : n ≤ 40
  · have hd : decide ((40 : Int) < (n : Int)) = false := by simp; omega
    go_enter Try.func61, Try.ntmps61
    go_wp2
    go_loopw [15] (fun i wr => ∃ k : Nat, k ≤ n ∧ i = .int .i64 k ∧ (∀ j, j < k → okAtO xs j = true) ∧ Below w.heap.size w wr) (fun i _ => n - (Go.RowKit.intOf i).toNat)
    case atStart => exact ⟨0, Nat.zero_le _, rfl, fun j hj => absurd hj (by omega), Below.refl _ _⟩
    case round =>
      obtain ⟨k, hk, rfl, hall, hB⟩ := hrel
      have HALL := Lib.hid hall
      clear hall
      by_cases hlt : k < n
      · obtain ⟨b1, o1, rfl, hc⟩ := h.2 k hlt
        obtain ⟨⟨nm, x1⟩, hx⟩ : ∃ x, xs[k]?.getD ob0 = x := ⟨_, rfl⟩
        rw [hx] at hc
        obtain ⟨p, p0, p1⟩ := (hc.mono hB).parts
        have HX := Lib.hid hx
        clear hx
        have hsz := hB.size
        have hkk : (k : Int) < (n : Int) := by omega
        cases hv : obB (nm, x1)
        · have HD := Lib.hid (okO_bad HL.out hlt (okAtO_no HX.out hv))
          go_wp2_with fail
          (refine wp_region_any (by kernel_rfl) ?_; change wpAny _ _ _ _ _ _ _ (World.drew _); refine wpAny_ready (rs := [0]) (by kernel_rfl) (by simp) ?_; refine AllReady.cons rfl (fun K hK => ?_) AllReady.nil; go_simp; refine hK _ _ ?_; clear hK K; refine wpAny_ready (rs := [1]) (by kernel_rfl) (by simp) ?_; refine AllReady.cons rfl (fun K hK => ?_) AllReady.nil; go_simp; refine hK _ _ ?_; clear hK K; refine wpAny_ready (rs := [2]) (by kernel_rfl) (by simp) ?_; refine AllReady.cons rfl (fun K hK => ?_) AllReady.nil)
          go_wp2_with fail
          refine (obValid_any _ _ _).mono ?_
          rintro e w2 ⟨rfl, b2⟩
          rw [hv]
          have hB2 : Below w.heap.size w w2 := belowCall (by (repeat (first | assumption | exact Below.refl _ _ | refine belowDN ?_ _ | refine Below.drew ?_ | refine Below.setCell ?_ (by first | omega | (simp <;> omega)) _ | refine Below.alloc ?_ (by first | omega | (simp <;> omega)) _ | refine belowCall ?_ (by assumption)))) b2
          go_wp2_with fail
          (refine wpAny_rest3 rfl (by kernel_rfl) (by kernel_rfl) ?_; (repeat (go_big_quiet_step (fail))); refine wpQuiet_nil ?_; intro _ hw'; obtain ⟨nq, hw''⟩ := hw'; subst hw'')
          go_wp2
          go_ret
          exact ⟨by rw [HD.out]; rfl, belowDN hB2 _⟩
        · by_cases hk0 : 0 < k
          · obtain ⟨k', rfl⟩ : ∃ k', k = k' + 1 := ⟨k - 1, by omega⟩
            obtain ⟨b1', o1', he, hc'⟩ := h.2 k' (by omega)
            cases he
            obtain ⟨⟨nm', y1⟩, hx'⟩ : ∃ x, xs[k']?.getD ob0 = x := ⟨_, rfl⟩
            rw [hx'] at hc'
            obtain ⟨hbs, q0, q1⟩ := (hc'.mono hB).parts
            have HX' := Lib.hid hx'
            clear hx'
            have r0 : (wr.alloc (.cells #[.string nm, .int .i64 x1] 54)).cell? ⟨b1, o1 + k' * 2, none⟩ = some (.string nm') := by go_keep
            have r1 : (wr.alloc (.cells #[.string nm, .int .i64 x1] 54)).cell? ⟨b1, o1 + k' * 2 + 1, none⟩ = some (.int .i64 y1) := by go_keep
            have t0 : (wr.alloc (.cells #[.string nm, .int .i64 x1] 54)).cell? ⟨wr.heap.size, 0, none⟩ = some (.string nm) := by go_keep
            have t1 : (wr.alloc (.cells #[.string nm, .int .i64 x1] 54)).cell? ⟨wr.heap.size, 1, none⟩ = some (.int .i64 x1) := by go_keep
            have hz : (wr.alloc (.cells #[.string nm, .int .i64 x1] 54)).heap.size = wr.heap.size + 1 := by simp
            have hA : Below w.heap.size w (wr.alloc (.cells #[.string nm, .int .i64 x1] 54)) := by (repeat (first | assumption | exact Below.refl _ _ | refine belowDN ?_ _ | refine Below.drew ?_ | refine Below.setCell ?_ (by first | omega | (simp <;> omega)) _ | refine Below.alloc ?_ (by first | omega | (simp <;> omega)) _ | refine belowCall ?_ (by assumption)))
            obtain ⟨r, hr⟩ : ∃ r, sgN nm' nm = r := ⟨_, rfl⟩
            have hlr := sgN_neg (x := nm') (y := nm)
            rw [hr] at hlr
            have HLR := Lib.hid hlr
            have HR := Lib.hid hr
            clear hr hlr
            by_cases hneg : r < 0
            · have hless : (!Op.bytesLess nm'.toList nm.toList) = false := by rw [HLR.out.1 hneg]; rfl
              have hge : ¬ (0 : Int) ≤ r := by omega
              have hgd : decide ((0 : Int) ≤ r) = false := by simpa using hneg
              have HK := Lib.hid (okAtO_succ (b := true) HX.out HX'.out hv hless)
              clear hless
              go_wp2_with fail
              generalize wr.alloc (.cells #[.string nm, .int .i64 x1] 54) = w1 at r0 r1 t0 t1 hz hA ⊢
              have hb1 : b1 < w1.heap.size := by omega
              have hi0 : (0 : Int) ≤ (k' : Int) := by omega
              have hi1 : (k' : Int) < (n : Int) := by omega
              have hw2 : IntKind.i64.wrap (k' : Int) = (k' : Int) := IntWalk.i64_in _ (by omega)
              have hw1 : IntKind.i64.wrap ((k' : Int) + 1 - 1) = (k' : Int) := by rw [IntWalk.i64_in _ (by omega)]; omega
              have hb2 : wr.heap.size < w1.heap.size := by omega
              go_region_held3 (fun W' => W'.cell? ⟨b1, o1 + k' * 2, none⟩ = some (.string nm') ∧ W'.cell? ⟨b1, o1 + k' * 2 + 1, none⟩ = some (.int .i64 y1) ∧ W'.cell? ⟨wr.heap.size, 0, none⟩ = some (.string nm) ∧ W'.cell? ⟨wr.heap.size, 1, none⟩ = some (.int .i64 x1)) (refine ⟨?_, ?_, ?_, ?_⟩ <;> first | assumption | exact ((show Below w1.heap.size w1 _ by (repeat (first | assumption | exact Below.refl _ _ | refine belowDN ?_ _ | refine Below.drew ?_ | refine Below.setCell ?_ (by first | omega | (simp <;> omega)) _ | refine Below.alloc ?_ (by first | omega | (simp <;> omega)) _ | refine belowCall ?_ (by assumption)))).cell (p := ⟨b1, o1 + k' * 2, none⟩) hb1).trans r0 | exact ((show Below w1.heap.size w1 _ by (repeat (first | assumption | exact Below.refl _ _ | refine belowDN ?_ _ | refine Below.drew ?_ | refine Below.setCell ?_ (by first | omega | (simp <;> omega)) _ | refine Below.alloc ?_ (by first | omega | (simp <;> omega)) _ | refine belowCall ?_ (by assumption)))).cell (p := ⟨b1, o1 + k' * 2 + 1, none⟩) hb1).trans r1 | exact ((show Below w1.heap.size w1 _ by (repeat (first | assumption | exact Below.refl _ _ | refine belowDN ?_ _ | refine Below.drew ?_ | refine Below.setCell ?_ (by first | omega | (simp <;> omega)) _ | refine Below.alloc ?_ (by first | omega | (simp <;> omega)) _ | refine belowCall ?_ (by assumption)))).cell (p := ⟨wr.heap.size, 0, none⟩) hb2).trans t0 | exact ((show Below w1.heap.size w1 _ by (repeat (first | assumption | exact Below.refl _ _ | refine belowDN ?_ _ | refine Below.drew ?_ | refine Below.setCell ?_ (by first | omega | (simp <;> omega)) _ | refine Below.alloc ?_ (by first | omega | (simp <;> omega)) _ | refine belowCall ?_ (by assumption)))).cell (p := ⟨wr.heap.size, 1, none⟩) hb2).trans t1) (first | (go_at_call 89; refine (obValid_any _ _ _).mono ?_; rintro e w' ⟨rfl, hbel⟩; rw [hv]) | (go_at_call 62; refine (byN_any _ _ _ _ r _ HR.out).mono ?_; rintro e w' ⟨rfl, hbel2⟩))
              all_goals
                go_wp2
                go_roundw
                case rel => exact ⟨k' + 1 + 1, by omega, by go_num, okO_next HALL.out HK.out, belowCall hA (by (repeat (first | assumption | exact Below.refl _ _ | refine belowDN ?_ _ | refine Below.drew ?_ | refine Below.setCell ?_ (by first | omega | (simp <;> omega)) _ | refine Below.alloc ?_ (by first | omega | (simp <;> omega)) _ | refine belowCall ?_ (by assumption))))⟩
                case measure => simp [Go.RowKit.intOf]; omega
            · have hless : (!Op.bytesLess nm'.toList nm.toList) = true := by
                cases hh : Op.bytesLess nm'.toList nm.toList
                · rfl
                · exact absurd (HLR.out.2 hh) hneg
              have hge : (0 : Int) ≤ r := by omega
              have hgd : decide ((0 : Int) ≤ r) = true := by simpa using hneg
              have HD := Lib.hid (okO_bad HL.out hlt (okAtO_succ (b := false) HX.out HX'.out hv hless))
              clear hless
              go_wp2_with fail
              generalize wr.alloc (.cells #[.string nm, .int .i64 x1] 54) = w1 at r0 r1 t0 t1 hz hA ⊢
              have hb1 : b1 < w1.heap.size := by omega
              have hi0 : (0 : Int) ≤ (k' : Int) := by omega
              have hi1 : (k' : Int) < (n : Int) := by omega
              have hw2 : IntKind.i64.wrap (k' : Int) = (k' : Int) := IntWalk.i64_in _ (by omega)
              have hw1 : IntKind.i64.wrap ((k' : Int) + 1 - 1) = (k' : Int) := by rw [IntWalk.i64_in _ (by omega)]; omega
              have hb2 : wr.heap.size < w1.heap.size := by omega
              go_region_held3 (fun W' => W'.cell? ⟨b1, o1 + k' * 2, none⟩ = some (.string nm') ∧ W'.cell? ⟨b1, o1 + k' * 2 + 1, none⟩ = some (.int .i64 y1) ∧ W'.cell? ⟨wr.heap.size, 0, none⟩ = some (.string nm) ∧ W'.cell? ⟨wr.heap.size, 1, none⟩ = some (.int .i64 x1)) (refine ⟨?_, ?_, ?_, ?_⟩ <;> first | assumption | exact ((show Below w1.heap.size w1 _ by (repeat (first | assumption | exact Below.refl _ _ | refine belowDN ?_ _ | refine Below.drew ?_ | refine Below.setCell ?_ (by first | omega | (simp <;> omega)) _ | refine Below.alloc ?_ (by first | omega | (simp <;> omega)) _ | refine belowCall ?_ (by assumption)))).cell (p := ⟨b1, o1 + k' * 2, none⟩) hb1).trans r0 | exact ((show Below w1.heap.size w1 _ by (repeat (first | assumption | exact Below.refl _ _ | refine belowDN ?_ _ | refine Below.drew ?_ | refine Below.setCell ?_ (by first | omega | (simp <;> omega)) _ | refine Below.alloc ?_ (by first | omega | (simp <;> omega)) _ | refine belowCall ?_ (by assumption)))).cell (p := ⟨b1, o1 + k' * 2 + 1, none⟩) hb1).trans r1 | exact ((show Below w1.heap.size w1 _ by (repeat (first | assumption | exact Below.refl _ _ | refine belowDN ?_ _ | refine Below.drew ?_ | refine Below.setCell ?_ (by first | omega | (simp <;> omega)) _ | refine Below.alloc ?_ (by first | omega | (simp <;> omega)) _ | refine belowCall ?_ (by assumption)))).cell (p := ⟨wr.heap.size, 0, none⟩) hb2).trans t0 | exact ((show Below w1.heap.size w1 _ by (repeat (first | assumption | exact Below.refl _ _ | refine belowDN ?_ _ | refine Below.drew ?_ | refine Below.setCell ?_ (by first | omega | (simp <;> omega)) _ | refine Below.alloc ?_ (by first | omega | (simp <;> omega)) _ | refine belowCall ?_ (by assumption)))).cell (p := ⟨wr.heap.size, 1, none⟩) hb2).trans t1) (first | (go_at_call 89; refine (obValid_any _ _ _).mono ?_; rintro e w' ⟨rfl, hbel⟩; rw [hv]) | (go_at_call 62; refine (byN_any _ _ _ _ r _ HR.out).mono ?_; rintro e w' ⟨rfl, hbel2⟩))
              all_goals
                go_wp2
                go_ret
                exact ⟨by rw [HD.out]; rfl, belowCall hA (by (repeat (first | assumption | exact Below.refl _ _ | refine belowDN ?_ _ | refine Below.drew ?_ | refine Below.setCell ?_ (by first | omega | (simp <;> omega)) _ | refine Below.alloc ?_ (by first | omega | (simp <;> omega)) _ | refine belowCall ?_ (by assumption))))⟩
          · obtain rfl : k = 0 := by omega
            have HK := Lib.hid (okAtO_zero HX.out hv rfl)
            simp only [Nat.zero_mul, Nat.add_zero] at p0 p1
            go_wp2_with fail
            (refine wp_region_any (by kernel_rfl) ?_; change wpAny _ _ _ _ _ _ _ (World.drew _); refine wpAny_ready (rs := [0]) (by kernel_rfl) (by simp) ?_; refine AllReady.cons rfl (fun K hK => ?_) AllReady.nil; go_simp; refine hK _ _ ?_; clear hK K; refine wpAny_ready (rs := [1]) (by kernel_rfl) (by simp) ?_; refine AllReady.cons rfl (fun K hK => ?_) AllReady.nil; go_simp; refine hK _ _ ?_; clear hK K; refine wpAny_ready (rs := [2]) (by kernel_rfl) (by simp) ?_; refine AllReady.cons rfl (fun K hK => ?_) AllReady.nil)
            go_wp2_with fail
            refine (obValid_any _ _ _).mono ?_
            rintro e w2 ⟨rfl, b2⟩
            rw [hv]
            have hB2 : Below w.heap.size w w2 := belowCall (by (repeat (first | assumption | exact Below.refl _ _ | refine belowDN ?_ _ | refine Below.drew ?_ | refine Below.setCell ?_ (by first | omega | (simp <;> omega)) _ | refine Below.alloc ?_ (by first | omega | (simp <;> omega)) _ | refine belowCall ?_ (by assumption)))) b2
            go_wp2_with fail
            (refine wpAny_rest3 rfl (by kernel_rfl) (by kernel_rfl) ?_; (repeat (go_big_quiet_step (fail))); refine wpQuiet_nil ?_; intro _ hw'; obtain ⟨nq, hw''⟩ := hw'; subst hw'')
            go_wp2
            go_roundw
            case rel => exact ⟨0 + 1, by omega, by go_num, okO_next HALL.out HK.out, belowDN hB2 _⟩
            case measure => simp [Go.RowKit.intOf]; omega
      · obtain rfl : k = n := by omega
        have HD := Lib.hid (okO_yes HL.out h60 HALL.out)
        go_wp2
        go_ret
        exact ⟨by rw [HD.out]; rfl, hB⟩
  · have hd : decide ((40 : Int) < (n : Int)) = true := by simp; omega
    have HD := Lib.hid (okO_long HL.out h60)
    go_enter Try.func61, Try.ntmps61
    go_wp2
    go_ret
    exact ⟨by rw [HD.out]; rfl, by (repeat (first | assumption | exact Below.refl _ _ | refine belowDN ?_ _ | refine Below.drew ?_ | refine Below.setCell ?_ (by first | omega | (simp <;> omega)) _ | refine Below.alloc ?_ (by first | omega | (simp <;> omega)) _ | refine belowCall ?_ (by assumption)))⟩
theorem areEO_any (a : Option Addr) (n c : Nat) (xs : List Ob) (w : World) (h : ObL w a n xs) (hn : n ≤ 1048576) :
    Calls Try.prog 46 #[.slice a n c, .int .i64 40] w fun e w' => e = .returned (.bool (okO xs)) ∧ Below w.heap.size w w' := by
  go_enter Try.func46, Try.ntmps46
  go_wp2_with fail
  refine (areO_any a n c xs w h hn).mono ?_
  rintro e w2 ⟨rfl, b2⟩
  go_wp2
  go_ret
  exact ⟨rfl, b2⟩
theorem iValidObservers_any (a : Option Addr) (n c : Nat) (xs : List Ob) (w : World) (h : ObL w a n xs) (hn : n ≤ 1048576) :
    Calls Try.prog 28 #[.slice a n c] w fun e w' => e = .returned (.bool (okO xs)) ∧ Below w.heap.size w w' := by
  go_enter Try.func28, Try.ntmps28
  go_wp2_with fail
  refine (areEO_any a n c xs w h hn).mono ?_
  rintro e w2 ⟨rfl, b2⟩
  go_wp2
  go_ret
  exact ⟨rfl, b2⟩
end Go.Proofs.Ytiogffjhhhpolac
