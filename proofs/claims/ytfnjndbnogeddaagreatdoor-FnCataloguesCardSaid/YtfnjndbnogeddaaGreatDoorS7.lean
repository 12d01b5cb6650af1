/- ValidStars, the program's. -/
import Derived.Test.YtfnjndbnogeddaaGreatDoorS4
import Derived.Test.YtfnjndbnogeddaaGreatDoorQR
import Derived.Test.YtfnjndbnogeddaaGreatDoorCB
import Derived.Deep.RegionHeld3
import Derived.Handy
import Derived.WalkLawsBesides
namespace Go.Proofs.YtfnjndbnogeddaaGreatDoor
open Go.ChangeShapes Go.WideShapes Go.ChangeAt Go.RowKit Go.Deep

def okAt (xs : List St) (k : Nat) : Bool := starB (xs[k]?.getD st0) && (decide (k = 0) || Op.bytesLess (xs[k - 1]?.getD st0).1.toList (xs[k]?.getD st0).1.toList)
def okS (xs : List St) : Bool := decide (xs.length ≤ 60) && (List.range xs.length).all (okAt xs)
theorem okS_long {xs : List St} {n : Nat} (hn : xs.length = n) (h : ¬ n ≤ 60) : okS xs = false := by simp [okS, hn, h]
theorem okS_bad {xs : List St} {n k : Nat} (hn : xs.length = n) (hk : k < n) (h : okAt xs k = false) : okS xs = false := by
  rw [okS, not_all_range (k := k) (by omega) h]; simp
theorem okS_yes {xs : List St} {n : Nat} (hn : xs.length = n) (h1 : n ≤ 60) (h : ∀ k, k < n → okAt xs k = true) : okS xs = true := by
  rw [okS, all_range (fun k hk => h k (by omega))]; simp; omega
theorem okAt_no {xs : List St} {k : Nat} {x : St} (hx : xs[k]?.getD st0 = x) (h : starB x = false) : okAt xs k = false := by simp [okAt, hx, h]
theorem okAt_zero {xs : List St} {k : Nat} {x : St} (hx : xs[k]?.getD st0 = x) (h : starB x = true) (hk : k = 0) : okAt xs k = true := by subst hk; simp [okAt, hx, h]
theorem okAt_succ {xs : List St} {k : Nat} {x y : St} {b : Bool} (hx : xs[k + 1]?.getD st0 = x) (hy : xs[k]?.getD st0 = y) (h : starB x = true) (hb : (!Op.bytesLess y.1.toList x.1.toList) = !b) : okAt xs (k + 1) = b := by
  simp only [okAt, hx, h, Nat.add_sub_cancel, hy]
  cases hh : Op.bytesLess y.1.toList x.1.toList <;> rw [hh] at hb <;> cases b <;> simp_all
theorem ok_next {xs : List St} {k : Nat} (h : ∀ j, j < k → okAt xs j = true) (hk : okAt xs k = true) : ∀ j, j < k + 1 → okAt xs j = true := fun j hj => by
  by_cases e : j = k
  · subst e; exact hk
  · exact h j (by omega)
theorem wpAny_rest3 {P : Program} {md : Region.Mode} {o0 o1 o2 : Oper} {l : List Oper} {Q' : Exit → Act → World → Prop} {fuel : Nat} {listed : Array Bool} {a : Act} {w : World}
    (hf : fuel = l.length) (hs : Region.noSelect (o0 :: o1 :: o2 :: l).toArray = true) (hB : Region.lexFrom md (o0 :: o1 :: o2 :: l).toArray l.length 3 listed = true)
    (h : wpQuiet P (o0 :: o1 :: o2 :: l).toArray (fun w' => ∃ n, w' = w.drewN n) (fun a' => ∀ w', (∃ n, w' = w.drewN n) → Q' .normal a' w') l a) :
    wpAny P md (o0 :: o1 :: o2 :: l).toArray Q' fuel listed a w := by
  subst hf
  refine wpAny_of_quiet (C := fun w' => ∃ n, w' = w.drewN n) (Q := fun a' => ∀ w', (∃ n, w' = w.drewN n) → Q' .normal a' w') (fun _ w' hw' h => h w' hw') _ _ _ _ ⟨0, rfl⟩ ?_
  refine wpAnyQ_lex hs l 3 listed a (fun j => ?_) hB h
  simp [Nat.add_comm 3 j]
theorem stName_any (nm : ByteArray) (x1 x2 x3 x4 : Int) (w : World) :
    Calls Tryz.prog 196 #[.agg #[.string nm, .int .i64 x1, .int .i64 x2, .int .i64 x3, .int .i64 x4]] w fun e w' => e = .returned (.string nm) ∧ Below w.heap.size w w' := by
  go_enter Tryz.func196, Tryz.ntmps196
  go_wp2
  go_ret
  exact ⟨rfl, by (repeat (first | assumption | exact Below.refl _ _ | refine belowDN ?_ _ | refine Below.drew ?_ | refine Below.setCell ?_ (by first | omega | (simp <;> omega)) _ | refine Below.alloc ?_ (by first | omega | (simp <;> omega)) _ | refine belowCall ?_ (by assumption)))⟩
set_option maxRecDepth 100000 in
set_option maxHeartbeats 4000000 in
theorem byS_any (nm : ByteArray) (x1 x2 x3 x4 : Int) (nm' : ByteArray) (y1 y2 y3 y4 : Int) (r : Int) (w : World) (hr : sgN nm nm' = r) :
    Calls Tryz.prog 64 #[.agg #[.string nm, .int .i64 x1, .int .i64 x2, .int .i64 x3, .int .i64 x4], .agg #[.string nm', .int .i64 y1, .int .i64 y2, .int .i64 y3, .int .i64 y4]] w fun e w' => e = .returned (.int .i64 r) ∧ Below w.heap.size w w' := by
  have hS : ∀ W, Calls Tryz.prog 91 #[.string nm, .string nm'] W fun e w' => e = .returned (.int .i64 r) ∧ w' = W := fun W => by rw [← hr]; exact cmpN_any nm nm' W
  clear hr
  have B1 : Below w.heap.size w ((w.alloc (.cells #[.string nm, .int .i64 x1, .int .i64 x2, .int .i64 x3, .int .i64 x4] 27)).alloc (.cells #[.string nm', .int .i64 y1, .int .i64 y2, .int .i64 y3, .int .i64 y4] 27)) := by (repeat (first | assumption | exact Below.refl _ _ | refine belowDN ?_ _ | refine Below.drew ?_ | refine Below.setCell ?_ (by first | omega | (simp <;> omega)) _ | refine Below.alloc ?_ (by first | omega | (simp <;> omega)) _ | refine belowCall ?_ (by assumption)))
  have c0 : ((w.alloc (.cells #[.string nm, .int .i64 x1, .int .i64 x2, .int .i64 x3, .int .i64 x4] 27)).alloc (.cells #[.string nm', .int .i64 y1, .int .i64 y2, .int .i64 y3, .int .i64 y4] 27)).cell? ⟨w.heap.size, 0, none⟩ = some (.string nm) := by go_keep
  have c1 : ((w.alloc (.cells #[.string nm, .int .i64 x1, .int .i64 x2, .int .i64 x3, .int .i64 x4] 27)).alloc (.cells #[.string nm', .int .i64 y1, .int .i64 y2, .int .i64 y3, .int .i64 y4] 27)).cell? ⟨w.heap.size, 1, none⟩ = some (.int .i64 x1) := by go_keep
  have c2 : ((w.alloc (.cells #[.string nm, .int .i64 x1, .int .i64 x2, .int .i64 x3, .int .i64 x4] 27)).alloc (.cells #[.string nm', .int .i64 y1, .int .i64 y2, .int .i64 y3, .int .i64 y4] 27)).cell? ⟨w.heap.size, 2, none⟩ = some (.int .i64 x2) := by go_keep
  have c3 : ((w.alloc (.cells #[.string nm, .int .i64 x1, .int .i64 x2, .int .i64 x3, .int .i64 x4] 27)).alloc (.cells #[.string nm', .int .i64 y1, .int .i64 y2, .int .i64 y3, .int .i64 y4] 27)).cell? ⟨w.heap.size, 3, none⟩ = some (.int .i64 x3) := by go_keep
  have c4 : ((w.alloc (.cells #[.string nm, .int .i64 x1, .int .i64 x2, .int .i64 x3, .int .i64 x4] 27)).alloc (.cells #[.string nm', .int .i64 y1, .int .i64 y2, .int .i64 y3, .int .i64 y4] 27)).cell? ⟨w.heap.size, 4, none⟩ = some (.int .i64 x4) := by go_keep
  have c5 : ((w.alloc (.cells #[.string nm, .int .i64 x1, .int .i64 x2, .int .i64 x3, .int .i64 x4] 27)).alloc (.cells #[.string nm', .int .i64 y1, .int .i64 y2, .int .i64 y3, .int .i64 y4] 27)).cell? ⟨w.heap.size + 1, 0, none⟩ = some (.string nm') := by go_keep
  have c6 : ((w.alloc (.cells #[.string nm, .int .i64 x1, .int .i64 x2, .int .i64 x3, .int .i64 x4] 27)).alloc (.cells #[.string nm', .int .i64 y1, .int .i64 y2, .int .i64 y3, .int .i64 y4] 27)).cell? ⟨w.heap.size + 1, 1, none⟩ = some (.int .i64 y1) := by go_keep
  have c7 : ((w.alloc (.cells #[.string nm, .int .i64 x1, .int .i64 x2, .int .i64 x3, .int .i64 x4] 27)).alloc (.cells #[.string nm', .int .i64 y1, .int .i64 y2, .int .i64 y3, .int .i64 y4] 27)).cell? ⟨w.heap.size + 1, 2, none⟩ = some (.int .i64 y2) := by go_keep
  have c8 : ((w.alloc (.cells #[.string nm, .int .i64 x1, .int .i64 x2, .int .i64 x3, .int .i64 x4] 27)).alloc (.cells #[.string nm', .int .i64 y1, .int .i64 y2, .int .i64 y3, .int .i64 y4] 27)).cell? ⟨w.heap.size + 1, 3, none⟩ = some (.int .i64 y3) := by go_keep
  have c9 : ((w.alloc (.cells #[.string nm, .int .i64 x1, .int .i64 x2, .int .i64 x3, .int .i64 x4] 27)).alloc (.cells #[.string nm', .int .i64 y1, .int .i64 y2, .int .i64 y3, .int .i64 y4] 27)).cell? ⟨w.heap.size + 1, 4, none⟩ = some (.int .i64 y4) := by go_keep
  have hz : ((w.alloc (.cells #[.string nm, .int .i64 x1, .int .i64 x2, .int .i64 x3, .int .i64 x4] 27)).alloc (.cells #[.string nm', .int .i64 y1, .int .i64 y2, .int .i64 y3, .int .i64 y4] 27)).heap.size = w.heap.size + 2 := by simp
  go_enter Tryz.func64, Tryz.ntmps64
  go_wp2
  generalize ((w.alloc (.cells #[.string nm, .int .i64 x1, .int .i64 x2, .int .i64 x3, .int .i64 x4] 27)).alloc (.cells #[.string nm', .int .i64 y1, .int .i64 y2, .int .i64 y3, .int .i64 y4] 27)) = w1 at B1 c0 c1 c2 c3 c4 c5 c6 c7 c8 c9 hz ⊢
  have l0 : w.heap.size < w1.heap.size := by omega
  have l1 : w.heap.size + 1 < w1.heap.size := by omega
  go_region_held3 (fun W' => W'.cell? ⟨w.heap.size, 0, none⟩ = some (.string nm) ∧ W'.cell? ⟨w.heap.size, 1, none⟩ = some (.int .i64 x1) ∧ W'.cell? ⟨w.heap.size, 2, none⟩ = some (.int .i64 x2) ∧ W'.cell? ⟨w.heap.size, 3, none⟩ = some (.int .i64 x3) ∧ W'.cell? ⟨w.heap.size, 4, none⟩ = some (.int .i64 x4) ∧ W'.cell? ⟨w.heap.size + 1, 0, none⟩ = some (.string nm') ∧ W'.cell? ⟨w.heap.size + 1, 1, none⟩ = some (.int .i64 y1) ∧ W'.cell? ⟨w.heap.size + 1, 2, none⟩ = some (.int .i64 y2) ∧ W'.cell? ⟨w.heap.size + 1, 3, none⟩ = some (.int .i64 y3) ∧ W'.cell? ⟨w.heap.size + 1, 4, none⟩ = some (.int .i64 y4)) (refine ⟨?_, ?_, ?_, ?_, ?_, ?_, ?_, ?_, ?_, ?_⟩ <;> first | assumption | exact ((show Below w1.heap.size w1 _ by (repeat (first | assumption | exact Below.refl _ _ | refine belowDN ?_ _ | refine Below.drew ?_ | refine Below.setCell ?_ (by first | omega | (simp <;> omega)) _ | refine Below.alloc ?_ (by first | omega | (simp <;> omega)) _ | refine belowCall ?_ (by assumption)))).cell (p := ⟨w.heap.size, 0, none⟩) l0).trans c0 | exact ((show Below w1.heap.size w1 _ by (repeat (first | assumption | exact Below.refl _ _ | refine belowDN ?_ _ | refine Below.drew ?_ | refine Below.setCell ?_ (by first | omega | (simp <;> omega)) _ | refine Below.alloc ?_ (by first | omega | (simp <;> omega)) _ | refine belowCall ?_ (by assumption)))).cell (p := ⟨w.heap.size, 1, none⟩) l0).trans c1 | exact ((show Below w1.heap.size w1 _ by (repeat (first | assumption | exact Below.refl _ _ | refine belowDN ?_ _ | refine Below.drew ?_ | refine Below.setCell ?_ (by first | omega | (simp <;> omega)) _ | refine Below.alloc ?_ (by first | omega | (simp <;> omega)) _ | refine belowCall ?_ (by assumption)))).cell (p := ⟨w.heap.size, 2, none⟩) l0).trans c2 | exact ((show Below w1.heap.size w1 _ by (repeat (first | assumption | exact Below.refl _ _ | refine belowDN ?_ _ | refine Below.drew ?_ | refine Below.setCell ?_ (by first | omega | (simp <;> omega)) _ | refine Below.alloc ?_ (by first | omega | (simp <;> omega)) _ | refine belowCall ?_ (by assumption)))).cell (p := ⟨w.heap.size, 3, none⟩) l0).trans c3 | exact ((show Below w1.heap.size w1 _ by (repeat (first | assumption | exact Below.refl _ _ | refine belowDN ?_ _ | refine Below.drew ?_ | refine Below.setCell ?_ (by first | omega | (simp <;> omega)) _ | refine Below.alloc ?_ (by first | omega | (simp <;> omega)) _ | refine belowCall ?_ (by assumption)))).cell (p := ⟨w.heap.size, 4, none⟩) l0).trans c4 | exact ((show Below w1.heap.size w1 _ by (repeat (first | assumption | exact Below.refl _ _ | refine belowDN ?_ _ | refine Below.drew ?_ | refine Below.setCell ?_ (by first | omega | (simp <;> omega)) _ | refine Below.alloc ?_ (by first | omega | (simp <;> omega)) _ | refine belowCall ?_ (by assumption)))).cell (p := ⟨w.heap.size + 1, 0, none⟩) l1).trans c5 | exact ((show Below w1.heap.size w1 _ by (repeat (first | assumption | exact Below.refl _ _ | refine belowDN ?_ _ | refine Below.drew ?_ | refine Below.setCell ?_ (by first | omega | (simp <;> omega)) _ | refine Below.alloc ?_ (by first | omega | (simp <;> omega)) _ | refine belowCall ?_ (by assumption)))).cell (p := ⟨w.heap.size + 1, 1, none⟩) l1).trans c6 | exact ((show Below w1.heap.size w1 _ by (repeat (first | assumption | exact Below.refl _ _ | refine belowDN ?_ _ | refine Below.drew ?_ | refine Below.setCell ?_ (by first | omega | (simp <;> omega)) _ | refine Below.alloc ?_ (by first | omega | (simp <;> omega)) _ | refine belowCall ?_ (by assumption)))).cell (p := ⟨w.heap.size + 1, 2, none⟩) l1).trans c7 | exact ((show Below w1.heap.size w1 _ by (repeat (first | assumption | exact Below.refl _ _ | refine belowDN ?_ _ | refine Below.drew ?_ | refine Below.setCell ?_ (by first | omega | (simp <;> omega)) _ | refine Below.alloc ?_ (by first | omega | (simp <;> omega)) _ | refine belowCall ?_ (by assumption)))).cell (p := ⟨w.heap.size + 1, 3, none⟩) l1).trans c8 | exact ((show Below w1.heap.size w1 _ by (repeat (first | assumption | exact Below.refl _ _ | refine belowDN ?_ _ | refine Below.drew ?_ | refine Below.setCell ?_ (by first | omega | (simp <;> omega)) _ | refine Below.alloc ?_ (by first | omega | (simp <;> omega)) _ | refine belowCall ?_ (by assumption)))).cell (p := ⟨w.heap.size + 1, 4, none⟩) l1).trans c9) (first | (go_at_call 196; refine (stName_any _ _ _ _ _ _).mono ?_; rintro e w' ⟨rfl, hbel⟩) | (go_at_call 91; refine (hS _).mono ?_; rintro e w' ⟨rfl, rfl⟩))
  all_goals
    go_wp2
    go_ret
    exact ⟨rfl, belowCall B1 (show Below w1.heap.size w1 _ by (repeat (first | assumption | exact Below.refl _ _ | refine belowDN ?_ _ | refine Below.drew ?_ | refine Below.setCell ?_ (by first | omega | (simp <;> omega)) _ | refine Below.alloc ?_ (by first | omega | (simp <;> omega)) _ | refine belowCall ?_ (by assumption))))⟩
set_option maxRecDepth 100000 in
set_option maxHeartbeats 2000000 in
theorem areS_any (a : Option Addr) (n c : Nat) (xs : List St) (w : World) (h : StL w a n xs) (hn : n ≤ 1048576) :
    Calls Tryz.prog 66 #[.slice a n c, .int .i64 60, .func (.func 64) #[] #[]] w fun e w' => e = .returned (.bool (okS xs)) ∧ Below w.heap.size w w' := by
  have hl : (n : Int) ≤ 1048576 := by omega
  have HL := Lib.hid h.1
  by_cases h60 : n ≤ 60
  · have hd : decide ((60 : Int) < (n : Int)) = false := by simp; omega
    go_enter Tryz.func66, Tryz.ntmps66
    go_wp2
    go_loopw [15] (fun i wr => ∃ k : Nat, k ≤ n ∧ i = .int .i64 k ∧ (∀ j, j < k → okAt xs j = true) ∧ Below w.heap.size w wr) (fun i _ => n - (Go.RowKit.intOf i).toNat)
    case atStart => exact ⟨0, Nat.zero_le _, rfl, fun j hj => absurd hj (by omega), Below.refl _ _⟩
    case round =>
      obtain ⟨k, hk, rfl, hall, hB⟩ := hrel
      have HALL := Lib.hid hall
      clear hall
      by_cases hlt : k < n
      · obtain ⟨b1, o1, rfl, hc⟩ := h.2 k hlt
        obtain ⟨⟨nm, x1, x2, x3, x4⟩, hx⟩ : ∃ x, xs[k]?.getD st0 = x := ⟨_, rfl⟩
        rw [hx] at hc
        obtain ⟨p, p0, p1, p2, p3, p4⟩ := (hc.mono hB).parts
        have HX := Lib.hid hx
        clear hx
        have hsz := hB.size
        have hkk : (k : Int) < (n : Int) := by omega
        cases hv : starB (nm, x1, x2, x3, x4)
        · have HD := Lib.hid (okS_bad HL.out hlt (okAt_no HX.out hv))
          go_wp2_with fail
          (refine wp_region_any (by kernel_rfl) ?_; change wpAny _ _ _ _ _ _ _ (World.drew _); refine wpAny_ready (rs := [0]) (by kernel_rfl) (by simp) ?_; refine AllReady.cons rfl (fun K hK => ?_) AllReady.nil; go_simp; refine hK _ _ ?_; clear hK K; refine wpAny_ready (rs := [1]) (by kernel_rfl) (by simp) ?_; refine AllReady.cons rfl (fun K hK => ?_) AllReady.nil; go_simp; refine hK _ _ ?_; clear hK K; refine wpAny_ready (rs := [2]) (by kernel_rfl) (by simp) ?_; refine AllReady.cons rfl (fun K hK => ?_) AllReady.nil)
          go_wp2_with fail
          refine (valid_any _ _ _ _ _ _).mono ?_
          rintro e w2 ⟨rfl, b2⟩
          rw [hv]
          have hB2 : Below w.heap.size w w2 := belowCall (by (repeat (first | assumption | exact Below.refl _ _ | refine belowDN ?_ _ | refine Below.drew ?_ | refine Below.setCell ?_ (by first | omega | (simp <;> omega)) _ | refine Below.alloc ?_ (by first | omega | (simp <;> omega)) _ | refine belowCall ?_ (by assumption)))) b2
          go_wp2_with fail
          (refine wpAny_rest3 rfl (by kernel_rfl) (by kernel_rfl) ?_; (repeat (go_big_quiet_step (fail))); refine wpQuiet_nil ?_; intro _ hw'; obtain ⟨nq, hw''⟩ := hw'; subst hw'')
          go_wp2
          go_ret
          exact ⟨by rw [HD.out]; rfl, belowDN hB2 _⟩
        · by_cases hk0 : 0 < k
          · obtain ⟨k', rfl⟩ : ∃ k', k = k' + 1 := ⟨k - 1, by omega⟩
            obtain ⟨b1', o1', he, hc'⟩ := h.2 k' (by omega)
            cases he
            obtain ⟨⟨nm', y1, y2, y3, y4⟩, hx'⟩ : ∃ x, xs[k']?.getD st0 = x := ⟨_, rfl⟩
            rw [hx'] at hc'
            obtain ⟨hbs, q0, q1, q2, q3, q4⟩ := (hc'.mono hB).parts
            have HX' := Lib.hid hx'
            clear hx'
            have r0 : (wr.alloc (.cells #[.string nm, .int .i64 x1, .int .i64 x2, .int .i64 x3, .int .i64 x4] 27)).cell? ⟨b1, o1 + k' * 5, none⟩ = some (.string nm') := by go_keep
            have r1 : (wr.alloc (.cells #[.string nm, .int .i64 x1, .int .i64 x2, .int .i64 x3, .int .i64 x4] 27)).cell? ⟨b1, o1 + k' * 5 + 1, none⟩ = some (.int .i64 y1) := by go_keep
            have r2 : (wr.alloc (.cells #[.string nm, .int .i64 x1, .int .i64 x2, .int .i64 x3, .int .i64 x4] 27)).cell? ⟨b1, o1 + k' * 5 + 2, none⟩ = some (.int .i64 y2) := by go_keep
            have r3 : (wr.alloc (.cells #[.string nm, .int .i64 x1, .int .i64 x2, .int .i64 x3, .int .i64 x4] 27)).cell? ⟨b1, o1 + k' * 5 + 3, none⟩ = some (.int .i64 y3) := by go_keep
            have r4 : (wr.alloc (.cells #[.string nm, .int .i64 x1, .int .i64 x2, .int .i64 x3, .int .i64 x4] 27)).cell? ⟨b1, o1 + k' * 5 + 4, none⟩ = some (.int .i64 y4) := by go_keep
            have t0 : (wr.alloc (.cells #[.string nm, .int .i64 x1, .int .i64 x2, .int .i64 x3, .int .i64 x4] 27)).cell? ⟨wr.heap.size, 0, none⟩ = some (.string nm) := by go_keep
            have t1 : (wr.alloc (.cells #[.string nm, .int .i64 x1, .int .i64 x2, .int .i64 x3, .int .i64 x4] 27)).cell? ⟨wr.heap.size, 1, none⟩ = some (.int .i64 x1) := by go_keep
            have t2 : (wr.alloc (.cells #[.string nm, .int .i64 x1, .int .i64 x2, .int .i64 x3, .int .i64 x4] 27)).cell? ⟨wr.heap.size, 2, none⟩ = some (.int .i64 x2) := by go_keep
            have t3 : (wr.alloc (.cells #[.string nm, .int .i64 x1, .int .i64 x2, .int .i64 x3, .int .i64 x4] 27)).cell? ⟨wr.heap.size, 3, none⟩ = some (.int .i64 x3) := by go_keep
            have t4 : (wr.alloc (.cells #[.string nm, .int .i64 x1, .int .i64 x2, .int .i64 x3, .int .i64 x4] 27)).cell? ⟨wr.heap.size, 4, none⟩ = some (.int .i64 x4) := by go_keep
            have hz : (wr.alloc (.cells #[.string nm, .int .i64 x1, .int .i64 x2, .int .i64 x3, .int .i64 x4] 27)).heap.size = wr.heap.size + 1 := by simp
            have hA : Below w.heap.size w (wr.alloc (.cells #[.string nm, .int .i64 x1, .int .i64 x2, .int .i64 x3, .int .i64 x4] 27)) := by (repeat (first | assumption | exact Below.refl _ _ | refine belowDN ?_ _ | refine Below.drew ?_ | refine Below.setCell ?_ (by first | omega | (simp <;> omega)) _ | refine Below.alloc ?_ (by first | omega | (simp <;> omega)) _ | refine belowCall ?_ (by assumption)))
            obtain ⟨r, hr⟩ : ∃ r, sgN nm' nm = r := ⟨_, rfl⟩
            have hlr := sgN_neg (x := nm') (y := nm)
            rw [hr] at hlr
            have HLR := Lib.hid hlr
            have HR := Lib.hid hr
            clear hr hlr
            by_cases hneg : r < 0
            · have hless : (!Op.bytesLess nm'.toList nm.toList) = false := by rw [HLR.out.1 hneg]; rfl
              have hge : ¬ (0 : Int) ≤ r := by omega
              have hgd : decide ((0 : Int) ≤ r) = false := by simpa using hneg
              have HK := Lib.hid (okAt_succ (b := true) HX.out HX'.out hv hless)
              clear hless
              go_wp2_with fail
              generalize wr.alloc (.cells #[.string nm, .int .i64 x1, .int .i64 x2, .int .i64 x3, .int .i64 x4] 27) = w1 at r0 r1 r2 r3 r4 t0 t1 t2 t3 t4 hz hA ⊢
              have hb1 : b1 < w1.heap.size := by omega
              have hi0 : (0 : Int) ≤ (k' : Int) := by omega
              have hi1 : (k' : Int) < (n : Int) := by omega
              have hw2 : IntKind.i64.wrap (k' : Int) = (k' : Int) := IntWalk.i64_in _ (by omega)
              have hw1 : IntKind.i64.wrap ((k' : Int) + 1 - 1) = (k' : Int) := by rw [IntWalk.i64_in _ (by omega)]; omega
              have hb2 : wr.heap.size < w1.heap.size := by omega
              go_region_held3 (fun W' => W'.cell? ⟨b1, o1 + k' * 5, none⟩ = some (.string nm') ∧ W'.cell? ⟨b1, o1 + k' * 5 + 1, none⟩ = some (.int .i64 y1) ∧ W'.cell? ⟨b1, o1 + k' * 5 + 2, none⟩ = some (.int .i64 y2) ∧ W'.cell? ⟨b1, o1 + k' * 5 + 3, none⟩ = some (.int .i64 y3) ∧ W'.cell? ⟨b1, o1 + k' * 5 + 4, none⟩ = some (.int .i64 y4) ∧ W'.cell? ⟨wr.heap.size, 0, none⟩ = some (.string nm) ∧ W'.cell? ⟨wr.heap.size, 1, none⟩ = some (.int .i64 x1) ∧ W'.cell? ⟨wr.heap.size, 2, none⟩ = some (.int .i64 x2) ∧ W'.cell? ⟨wr.heap.size, 3, none⟩ = some (.int .i64 x3) ∧ W'.cell? ⟨wr.heap.size, 4, none⟩ = some (.int .i64 x4)) (refine ⟨?_, ?_, ?_, ?_, ?_, ?_, ?_, ?_, ?_, ?_⟩ <;> first | assumption | exact ((show Below w1.heap.size w1 _ by (repeat (first | assumption | exact Below.refl _ _ | refine belowDN ?_ _ | refine Below.drew ?_ | refine Below.setCell ?_ (by first | omega | (simp <;> omega)) _ | refine Below.alloc ?_ (by first | omega | (simp <;> omega)) _ | refine belowCall ?_ (by assumption)))).cell (p := ⟨b1, o1 + k' * 5, none⟩) hb1).trans r0 | exact ((show Below w1.heap.size w1 _ by (repeat (first | assumption | exact Below.refl _ _ | refine belowDN ?_ _ | refine Below.drew ?_ | refine Below.setCell ?_ (by first | omega | (simp <;> omega)) _ | refine Below.alloc ?_ (by first | omega | (simp <;> omega)) _ | refine belowCall ?_ (by assumption)))).cell (p := ⟨b1, o1 + k' * 5 + 1, none⟩) hb1).trans r1 | exact ((show Below w1.heap.size w1 _ by (repeat (first | assumption | exact Below.refl _ _ | refine belowDN ?_ _ | refine Below.drew ?_ | refine Below.setCell ?_ (by first | omega | (simp <;> omega)) _ | refine Below.alloc ?_ (by first | omega | (simp <;> omega)) _ | refine belowCall ?_ (by assumption)))).cell (p := ⟨b1, o1 + k' * 5 + 2, none⟩) hb1).trans r2 | exact ((show Below w1.heap.size w1 _ by (repeat (first | assumption | exact Below.refl _ _ | refine belowDN ?_ _ | refine Below.drew ?_ | refine Below.setCell ?_ (by first | omega | (simp <;> omega)) _ | refine Below.alloc ?_ (by first | omega | (simp <;> omega)) _ | refine belowCall ?_ (by assumption)))).cell (p := ⟨b1, o1 + k' * 5 + 3, none⟩) hb1).trans r3 | exact ((show Below w1.heap.size w1 _ by (repeat (first | assumption | exact Below.refl _ _ | refine belowDN ?_ _ | refine Below.drew ?_ | refine Below.setCell ?_ (by first | omega | (simp <;> omega)) _ | refine Below.alloc ?_ (by first | omega | (simp <;> omega)) _ | refine belowCall ?_ (by assumption)))).cell (p := ⟨b1, o1 + k' * 5 + 4, none⟩) hb1).trans r4 | exact ((show Below w1.heap.size w1 _ by (repeat (first | assumption | exact Below.refl _ _ | refine belowDN ?_ _ | refine Below.drew ?_ | refine Below.setCell ?_ (by first | omega | (simp <;> omega)) _ | refine Below.alloc ?_ (by first | omega | (simp <;> omega)) _ | refine belowCall ?_ (by assumption)))).cell (p := ⟨wr.heap.size, 0, none⟩) hb2).trans t0 | exact ((show Below w1.heap.size w1 _ by (repeat (first | assumption | exact Below.refl _ _ | refine belowDN ?_ _ | refine Below.drew ?_ | refine Below.setCell ?_ (by first | omega | (simp <;> omega)) _ | refine Below.alloc ?_ (by first | omega | (simp <;> omega)) _ | refine belowCall ?_ (by assumption)))).cell (p := ⟨wr.heap.size, 1, none⟩) hb2).trans t1 | exact ((show Below w1.heap.size w1 _ by (repeat (first | assumption | exact Below.refl _ _ | refine belowDN ?_ _ | refine Below.drew ?_ | refine Below.setCell ?_ (by first | omega | (simp <;> omega)) _ | refine Below.alloc ?_ (by first | omega | (simp <;> omega)) _ | refine belowCall ?_ (by assumption)))).cell (p := ⟨wr.heap.size, 2, none⟩) hb2).trans t2 | exact ((show Below w1.heap.size w1 _ by (repeat (first | assumption | exact Below.refl _ _ | refine belowDN ?_ _ | refine Below.drew ?_ | refine Below.setCell ?_ (by first | omega | (simp <;> omega)) _ | refine Below.alloc ?_ (by first | omega | (simp <;> omega)) _ | refine belowCall ?_ (by assumption)))).cell (p := ⟨wr.heap.size, 3, none⟩) hb2).trans t3 | exact ((show Below w1.heap.size w1 _ by (repeat (first | assumption | exact Below.refl _ _ | refine belowDN ?_ _ | refine Below.drew ?_ | refine Below.setCell ?_ (by first | omega | (simp <;> omega)) _ | refine Below.alloc ?_ (by first | omega | (simp <;> omega)) _ | refine belowCall ?_ (by assumption)))).cell (p := ⟨wr.heap.size, 4, none⟩) hb2).trans t4) (first | (go_at_call 41; refine (valid_any _ _ _ _ _ _).mono ?_; rintro e w' ⟨rfl, hbel⟩; rw [hv]) | (go_at_call 64; refine (byS_any _ _ _ _ _ _ _ _ _ _ r _ HR.out).mono ?_; rintro e w' ⟨rfl, hbel2⟩))
              all_goals
                go_wp2
                go_roundw
                case rel => exact ⟨k' + 1 + 1, by omega, by go_num, ok_next HALL.out HK.out, belowCall hA (by (repeat (first | assumption | exact Below.refl _ _ | refine belowDN ?_ _ | refine Below.drew ?_ | refine Below.setCell ?_ (by first | omega | (simp <;> omega)) _ | refine Below.alloc ?_ (by first | omega | (simp <;> omega)) _ | refine belowCall ?_ (by assumption))))⟩
                case measure => simp [Go.RowKit.intOf]; omega
            · have hless : (!Op.bytesLess nm'.toList nm.toList) = true := by
                cases hh : Op.bytesLess nm'.toList nm.toList
                · rfl
                · exact absurd (HLR.out.2 hh) hneg
              have hge : (0 : Int) ≤ r := by omega
              have hgd : decide ((0 : Int) ≤ r) = true := by simpa using hneg
              have HD := Lib.hid (okS_bad HL.out hlt (okAt_succ (b := false) HX.out HX'.out hv hless))
              clear hless
              go_wp2_with fail
              generalize wr.alloc (.cells #[.string nm, .int .i64 x1, .int .i64 x2, .int .i64 x3, .int .i64 x4] 27) = w1 at r0 r1 r2 r3 r4 t0 t1 t2 t3 t4 hz hA ⊢
              have hb1 : b1 < w1.heap.size := by omega
              have hi0 : (0 : Int) ≤ (k' : Int) := by omega
              have hi1 : (k' : Int) < (n : Int) := by omega
              have hw2 : IntKind.i64.wrap (k' : Int) = (k' : Int) := IntWalk.i64_in _ (by omega)
              have hw1 : IntKind.i64.wrap ((k' : Int) + 1 - 1) = (k' : Int) := by rw [IntWalk.i64_in _ (by omega)]; omega
              have hb2 : wr.heap.size < w1.heap.size := by omega
              go_region_held3 (fun W' => W'.cell? ⟨b1, o1 + k' * 5, none⟩ = some (.string nm') ∧ W'.cell? ⟨b1, o1 + k' * 5 + 1, none⟩ = some (.int .i64 y1) ∧ W'.cell? ⟨b1, o1 + k' * 5 + 2, none⟩ = some (.int .i64 y2) ∧ W'.cell? ⟨b1, o1 + k' * 5 + 3, none⟩ = some (.int .i64 y3) ∧ W'.cell? ⟨b1, o1 + k' * 5 + 4, none⟩ = some (.int .i64 y4) ∧ W'.cell? ⟨wr.heap.size, 0, none⟩ = some (.string nm) ∧ W'.cell? ⟨wr.heap.size, 1, none⟩ = some (.int .i64 x1) ∧ W'.cell? ⟨wr.heap.size, 2, none⟩ = some (.int .i64 x2) ∧ W'.cell? ⟨wr.heap.size, 3, none⟩ = some (.int .i64 x3) ∧ W'.cell? ⟨wr.heap.size, 4, none⟩ = some (.int .i64 x4)) (refine ⟨?_, ?_, ?_, ?_, ?_, ?_, ?_, ?_, ?_, ?_⟩ <;> first | assumption | exact ((show Below w1.heap.size w1 _ by (repeat (first | assumption | exact Below.refl _ _ | refine belowDN ?_ _ | refine Below.drew ?_ | refine Below.setCell ?_ (by first | omega | (simp <;> omega)) _ | refine Below.alloc ?_ (by first | omega | (simp <;> omega)) _ | refine belowCall ?_ (by assumption)))).cell (p := ⟨b1, o1 + k' * 5, none⟩) hb1).trans r0 | exact ((show Below w1.heap.size w1 _ by (repeat (first | assumption | exact Below.refl _ _ | refine belowDN ?_ _ | refine Below.drew ?_ | refine Below.setCell ?_ (by first | omega | (simp <;> omega)) _ | refine Below.alloc ?_ (by first | omega | (simp <;> omega)) _ | refine belowCall ?_ (by assumption)))).cell (p := ⟨b1, o1 + k' * 5 + 1, none⟩) hb1).trans r1 | exact ((show Below w1.heap.size w1 _ by (repeat (first | assumption | exact Below.refl _ _ | refine belowDN ?_ _ | refine Below.drew ?_ | refine Below.setCell ?_ (by first | omega | (simp <;> omega)) _ | refine Below.alloc ?_ (by first | omega | (simp <;> omega)) _ | refine belowCall ?_ (by assumption)))).cell (p := ⟨b1, o1 + k' * 5 + 2, none⟩) hb1).trans r2 | exact ((show Below w1.heap.size w1 _ by (repeat (first | assumption | exact Below.refl _ _ | refine belowDN ?_ _ | refine Below.drew ?_ | refine Below.setCell ?_ (by first | omega | (simp <;> omega)) _ | refine Below.alloc ?_ (by first | omega | (simp <;> omega)) _ | refine belowCall ?_ (by assumption)))).cell (p := ⟨b1, o1 + k' * 5 + 3, none⟩) hb1).trans r3 | exact ((show Below w1.heap.size w1 _ by (repeat (first | assumption | exact Below.refl _ _ | refine belowDN ?_ _ | refine Below.drew ?_ | refine Below.setCell ?_ (by first | omega | (simp <;> omega)) _ | refine Below.alloc ?_ (by first | omega | (simp <;> omega)) _ | refine belowCall ?_ (by assumption)))).cell (p := ⟨b1, o1 + k' * 5 + 4, none⟩) hb1).trans r4 | exact ((show Below w1.heap.size w1 _ by (repeat (first | assumption | exact Below.refl _ _ | refine belowDN ?_ _ | refine Below.drew ?_ | refine Below.setCell ?_ (by first | omega | (simp <;> omega)) _ | refine Below.alloc ?_ (by first | omega | (simp <;> omega)) _ | refine belowCall ?_ (by assumption)))).cell (p := ⟨wr.heap.size, 0, none⟩) hb2).trans t0 | exact ((show Below w1.heap.size w1 _ by (repeat (first | assumption | exact Below.refl _ _ | refine belowDN ?_ _ | refine Below.drew ?_ | refine Below.setCell ?_ (by first | omega | (simp <;> omega)) _ | refine Below.alloc ?_ (by first | omega | (simp <;> omega)) _ | refine belowCall ?_ (by assumption)))).cell (p := ⟨wr.heap.size, 1, none⟩) hb2).trans t1 | exact ((show Below w1.heap.size w1 _ by (repeat (first | assumption | exact Below.refl _ _ | refine belowDN ?_ _ | refine Below.drew ?_ | refine Below.setCell ?_ (by first | omega | (simp <;> omega)) _ | refine Below.alloc ?_ (by first | omega | (simp <;> omega)) _ | refine belowCall ?_ (by assumption)))).cell (p := ⟨wr.heap.size, 2, none⟩) hb2).trans t2 | exact ((show Below w1.heap.size w1 _ by (repeat (first | assumption | exact Below.refl _ _ | refine belowDN ?_ _ | refine Below.drew ?_ | refine Below.setCell ?_ (by first | omega | (simp <;> omega)) _ | refine Below.alloc ?_ (by first | omega | (simp <;> omega)) _ | refine belowCall ?_ (by assumption)))).cell (p := ⟨wr.heap.size, 3, none⟩) hb2).trans t3 | exact ((show Below w1.heap.size w1 _ by (repeat (first | assumption | exact Below.refl _ _ | refine belowDN ?_ _ | refine Below.drew ?_ | refine Below.setCell ?_ (by first | omega | (simp <;> omega)) _ | refine Below.alloc ?_ (by first | omega | (simp <;> omega)) _ | refine belowCall ?_ (by assumption)))).cell (p := ⟨wr.heap.size, 4, none⟩) hb2).trans t4) (first | (go_at_call 41; refine (valid_any _ _ _ _ _ _).mono ?_; rintro e w' ⟨rfl, hbel⟩; rw [hv]) | (go_at_call 64; refine (byS_any _ _ _ _ _ _ _ _ _ _ r _ HR.out).mono ?_; rintro e w' ⟨rfl, hbel2⟩))
              all_goals
                go_wp2
                go_ret
                exact ⟨by rw [HD.out]; rfl, belowCall hA (by (repeat (first | assumption | exact Below.refl _ _ | refine belowDN ?_ _ | refine Below.drew ?_ | refine Below.setCell ?_ (by first | omega | (simp <;> omega)) _ | refine Below.alloc ?_ (by first | omega | (simp <;> omega)) _ | refine belowCall ?_ (by assumption))))⟩
          · obtain rfl : k = 0 := by omega
            have HK := Lib.hid (okAt_zero HX.out hv rfl)
            simp only [Nat.zero_mul, Nat.add_zero] at p0 p1 p2 p3 p4
            go_wp2_with fail
            (refine wp_region_any (by kernel_rfl) ?_; change wpAny _ _ _ _ _ _ _ (World.drew _); refine wpAny_ready (rs := [0]) (by kernel_rfl) (by simp) ?_; refine AllReady.cons rfl (fun K hK => ?_) AllReady.nil; go_simp; refine hK _ _ ?_; clear hK K; refine wpAny_ready (rs := [1]) (by kernel_rfl) (by simp) ?_; refine AllReady.cons rfl (fun K hK => ?_) AllReady.nil; go_simp; refine hK _ _ ?_; clear hK K; refine wpAny_ready (rs := [2]) (by kernel_rfl) (by simp) ?_; refine AllReady.cons rfl (fun K hK => ?_) AllReady.nil)
            go_wp2_with fail
            refine (valid_any _ _ _ _ _ _).mono ?_
            rintro e w2 ⟨rfl, b2⟩
            rw [hv]
            have hB2 : Below w.heap.size w w2 := belowCall (by (repeat (first | assumption | exact Below.refl _ _ | refine belowDN ?_ _ | refine Below.drew ?_ | refine Below.setCell ?_ (by first | omega | (simp <;> omega)) _ | refine Below.alloc ?_ (by first | omega | (simp <;> omega)) _ | refine belowCall ?_ (by assumption)))) b2
            go_wp2_with fail
            (refine wpAny_rest3 rfl (by kernel_rfl) (by kernel_rfl) ?_; (repeat (go_big_quiet_step (fail))); refine wpQuiet_nil ?_; intro _ hw'; obtain ⟨nq, hw''⟩ := hw'; subst hw'')
            go_wp2
            go_roundw
            case rel => exact ⟨0 + 1, by omega, by go_num, ok_next HALL.out HK.out, belowDN hB2 _⟩
            case measure => simp [Go.RowKit.intOf]; omega
      · obtain rfl : k = n := by omega
        have HD := Lib.hid (okS_yes HL.out h60 HALL.out)
        go_wp2
        go_ret
        exact ⟨by rw [HD.out]; rfl, hB⟩
  · have hd : decide ((60 : Int) < (n : Int)) = true := by simp; omega
    have HD := Lib.hid (okS_long HL.out h60)
    go_enter Tryz.func66, Tryz.ntmps66
    go_wp2
    go_ret
    exact ⟨by rw [HD.out]; rfl, by (repeat (first | assumption | exact Below.refl _ _ | refine belowDN ?_ _ | refine Below.drew ?_ | refine Below.setCell ?_ (by first | omega | (simp <;> omega)) _ | refine Below.alloc ?_ (by first | omega | (simp <;> omega)) _ | refine belowCall ?_ (by assumption)))⟩
theorem areES_any (a : Option Addr) (n c : Nat) (xs : List St) (w : World) (h : StL w a n xs) (hn : n ≤ 1048576) :
    Calls Tryz.prog 33 #[.slice a n c, .int .i64 60] w fun e w' => e = .returned (.bool (okS xs)) ∧ Below w.heap.size w w' := by
  go_enter Tryz.func33, Tryz.ntmps33
  go_wp2_with fail
  refine (areS_any a n c xs w h hn).mono ?_
  rintro e w2 ⟨rfl, b2⟩
  go_wp2
  go_ret
  exact ⟨rfl, b2⟩
theorem iValidStars_any (a : Option Addr) (n c : Nat) (xs : List St) (w : World) (h : StL w a n xs) (hn : n ≤ 1048576) :
    Calls Tryz.prog 11 #[.slice a n c] w fun e w' => e = .returned (.bool (okS xs)) ∧ Below w.heap.size w w' := by
  go_enter Tryz.func11, Tryz.ntmps11
  go_wp2_with fail
  refine (areES_any a n c xs w h hn).mono ?_
  rintro e w2 ⟨rfl, b2⟩
  go_wp2
  go_ret
  exact ⟨rfl, b2⟩
end Go.Proofs.YtfnjndbnogeddaaGreatDoor
