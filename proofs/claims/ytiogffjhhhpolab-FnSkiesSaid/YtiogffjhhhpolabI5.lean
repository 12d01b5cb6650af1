/- The program's boxes: Box.valid, Box.has; starsThat over a box's method. -/
import Derived.Test.YtiogffjhhhpolabSG
import Derived.Test.YtiogffjhhhpolabS2
namespace Go.Proofs.Ytiogffjhhhpolab
open Go.ChangeShapes Go.WideShapes Go.ChangeAt Go.RowKit Go.Shelf
attribute [local go_sem] Oper.semAt_some

theorem inP_up {fa ta fd td : Int} {nm : ByteArray} {a d u v : Int} (h1 : 0 ≤ fa) (h2 : fa ≤ 86399) (h3 : 0 ≤ ta) (h4 : ta ≤ 86399) (h5 : 0 ≤ a) (h6 : a ≤ 86399) :
    inP fa ta fd td (nm, a, d, u, v) = (decide ((a - fa) % 86400 ≤ (ta - fa) % 86400) && inB d fd td) := by
  have e : decide ((a - fa) % 86400 ≤ (ta - fa) % 86400) = (if fa ≤ ta then inB a fa ta else (decide (fa ≤ a) || decide (a ≤ ta))) := by
    have ea : (a - fa) % 86400 = if fa ≤ a then a - fa else a - fa + 86400 := by split <;> omega
    have et : (ta - fa) % 86400 = if fa ≤ ta then ta - fa else ta - fa + 86400 := by split <;> omega
    rw [ea, et]
    by_cases h : fa ≤ ta
    · rw [if_pos h, if_pos h]
      by_cases h' : fa ≤ a
      · rw [if_pos h']
        by_cases h'' : a ≤ ta
        · rw [decide_eq_true (by omega), inB_iff.2 ⟨h', h''⟩]
        · rw [decide_eq_false (by omega)]
          cases hh : inB a fa ta
          · rfl
          · exact absurd (inB_iff.1 hh).2 h''
      · rw [if_neg h', decide_eq_false (by omega)]
        cases hh : inB a fa ta
        · rfl
        · exact absurd (inB_iff.1 hh).1 h'
    · rw [if_neg h, if_neg h]
      by_cases h' : fa ≤ a
      · rw [if_pos h', decide_eq_true (by omega), decide_eq_true h']; rfl
      · rw [if_neg h', decide_eq_false h']
        by_cases h'' : a ≤ ta
        · rw [decide_eq_true (by omega), decide_eq_true h'']; rfl
        · rw [decide_eq_false (by omega), decide_eq_false h'']; rfl
  simp only [inP]
  rw [e, Bool.and_comm]
set_option maxHeartbeats 4000000 in
set_option maxRecDepth 100000 in
theorem has_any (fa ta fd td : Int) (nm : ByteArray) (a d u v : Int) (w : World) (h1 : 0 ≤ fa) (h2 : fa ≤ 86399) (h3 : 0 ≤ ta) (h4 : ta ≤ 86399) (h5 : 0 ≤ a) (h6 : a ≤ 86399) :
    Calls Try.prog 96 #[boxV fa ta fd td, .agg #[.string nm, .int .i64 a, .int .i64 d, .int .i64 u, .int .i64 v]] w fun e w' => e = .returned (.bool (inP fa ta fd td (nm, a, d, u, v))) ∧ Below w.heap.size w w' := by
  have HV := Lib.hid (inP_up (nm := nm) (d := d) (u := u) (v := v) (fd := fd) (td := td) h1 h2 h3 h4 h5 h6)
  have e1 : 0 ≤ (a - fa) % 86400 := by omega
  have e2 : 0 ≤ (ta - fa) % 86400 := by omega
  cases hd : decide ((a - fa) % 86400 ≤ (ta - fa) % 86400)
  · go_enter Try.func96, Try.ntmps96
    go_wp2
    go_big_quiet (first | (go_at_call 112; refine Calls.quiet_of_same (flipS (upwards_any _ _ _ (by assumption) (by assumption) (by assumption) (by assumption)))) | (go_at_call 80; refine Calls.quiet_of_same (flipV (inRange_any _ _ _ _) (by assumption))))
    go_wp2
    go_ret
    exact ⟨by rw [HV.out, hd]; rfl, by (repeat (first | assumption | exact Below.refl _ _ | refine belowDN ?_ _ | refine Below.drew ?_ | refine Below.setCell ?_ (by first | omega | (simp <;> omega)) _ | refine Below.alloc ?_ (by first | omega | (simp <;> omega)) _ | refine belowCall ?_ (by assumption)))⟩
  cases hi : inB d fd td
  all_goals
    go_enter Try.func96, Try.ntmps96
    go_wp2
    go_big_quiet (first | (go_at_call 112; refine Calls.quiet_of_same (flipS (upwards_any _ _ _ (by assumption) (by assumption) (by assumption) (by assumption)))) | (go_at_call 80; refine Calls.quiet_of_same (flipV (inRange_any _ _ _ _) (by assumption))))
    go_wp2
    go_ret
    exact ⟨by rw [HV.out, hd, hi]; rfl, by (repeat (first | assumption | exact Below.refl _ _ | refine belowDN ?_ _ | refine Below.drew ?_ | refine Below.setCell ?_ (by first | omega | (simp <;> omega)) _ | refine Below.alloc ?_ (by first | omega | (simp <;> omega)) _ | refine belowCall ?_ (by assumption)))⟩
set_option maxRecDepth 100000 in
set_option maxHeartbeats 4000000 in
theorem stars1_has (Bl Bh : Nat) (a : Option Addr) (n c : Nat) (xs : List St) (fa ta fd td : Int) (w0 : World) (hL : StL w0 a n xs) (hn : n ≤ 1048576) (h1 : 0 ≤ fa) (h2 : fa ≤ 86399) (h3 : 0 ≤ ta) (h4 : ta ≤ 86399) (hst : ∀ k, k < n → ascB (xs[k]?.getD st0).2.1 = true)
    (c1 : w0.cell? ⟨Bl, 0, none⟩ = some (.slice a n c)) (c2 : w0.cell? ⟨Bh, 0, none⟩ = some (.func (.func 96) #[boxV fa ta fd td] #[])) :
    SeqStopsK Fence.wide 4 Try.prog 137 #[.pointer (some ⟨Bl, 0, none⟩), .pointer (some ⟨Bh, 0, none⟩)] (fun x : Int => #[.int .i64 x]) (Below w0.heap.size) (fun ys => ys = selL (inP fa ta fd td) xs n) (fun _ => True) n w0 := fun l J Jx W hW hJ hJx hY h0 => by
  have hlt1 := World.block_lt_of_cell? w0 _ c1
  have hlt2 := World.block_lt_of_cell? w0 _ c2
  dsimp only at hlt1 hlt2
  have d1 := (hW.cell (p := ⟨Bl, 0, none⟩) hlt1).trans c1
  refine callsIn_of_wp Try.func137 rfl trivial ?_ rfl
  simp only [Try.ntmps137, List.size_toArray, List.length_cons, List.length_nil, Nat.reduceAdd, Nat.reduceSub, Array.replicate_succ, Array.replicate_zero, List.push_toArray, List.append_toArray, List.nil_append, List.cons_append]
  gi_wp2
  gi_loopw [8] (fun i wr => ∃ k : Nat, k ≤ n ∧ i = .int .i64 k ∧ J (selL (inP fa ta fd td) xs k) wr ∧ Below w0.heap.size w0 wr) (fun i _ => n - (intOf i).toNat)
  case atStart => exact ⟨0, Nat.zero_le _, rfl, h0, hW⟩
  case round =>
    obtain ⟨k, hk, rfl, hJs, hB⟩ := hrel
    have hle := selL_len (inP fa ta fd td) xs k
    have hsz := hB.size
    by_cases hlt : k < n
    · obtain ⟨b1, o1, rfl, hc⟩ := hL.2 k hlt
      obtain ⟨⟨nm, x1, x2, x3, x4⟩, hx⟩ : ∃ x, xs[k]?.getD st0 = x := ⟨_, rfl⟩
      rw [hx] at hc
      obtain ⟨p, p0, p1, p2, p3, p4⟩ := (hc.mono hB).parts
      have hp := hc.1
      have hA := inB_iff.1 (show inB x1 0 86399 = true by have := hst k hlt; rw [hx] at this; exact this)
      have HX := Lib.hid hx
      clear hx hc
      have d2 := (hB.cell (p := ⟨Bh, 0, none⟩) hlt2).trans c2
      have hkk : (k : Int) < (n : Int) := by omega
      have hBh : Bh < wr.heap.size := by omega
      have hBx : b1 ≠ wr.heap.size := by omega
      have B1 : Below wr.heap.size wr (wr.alloc (.cells #[.string nm, .int .i64 x1, .int .i64 x2, .int .i64 x3, .int .i64 x4] 71)) := (Below.refl _ wr).alloc (Nat.le_refl _) _
      cases hv : inP fa ta fd td (nm, x1, x2, x3, x4)
      · have HS := Lib.hid (selL_no (p := inP fa ta fd td) HX.out hv)
        gi_wp2_with (first | (refine ⟨trivial, ?_⟩; gi_at_call 96; refine (callsIn_wide.2 (has_any fa ta fd td nm x1 x2 x3 x4 _ h1 h2 h3 h4 hA.1 hA.2)).mono ?_; rintro e w3 ⟨rfl, hb3⟩; rw [hv]; have hb4 := belowCall B1 hb3; have hJ3 : J _ w3 := abides_below hJ hJs hb4; obtain ⟨fn, tmps, assign, body, hy, hR⟩ := hY _ (k : Int) w3 hJ3 (by omega)) | (refine ⟨(by intro f h; simp only [reduceCtorEq] at h), ?_⟩))
        go_roundw
        case rel => exact ⟨k + 1, by omega, by go_num, by rw [HS.out]; exact hJ3, belowCall hB hb4⟩
        case measure => simp [intOf]; omega
      · have HS := Lib.hid (selL_yes (p := inP fa ta fd td) HX.out hv)
        gi_wp2_with (first | (refine ⟨trivial, ?_⟩; gi_at_call 96; refine (callsIn_wide.2 (has_any fa ta fd td nm x1 x2 x3 x4 _ h1 h2 h3 h4 hA.1 hA.2)).mono ?_; rintro e w3 ⟨rfl, hb3⟩; rw [hv]; have hb4 := belowCall B1 hb3; have hJ3 : J _ w3 := abides_below hJ hJs hb4; obtain ⟨fn, tmps, assign, body, hy, hR⟩ := hY _ (k : Int) w3 hJ3 (by omega)))
        refine hR.mono ?_
        rintro e W3 (⟨rfl, hJ4, hk4⟩ | ⟨rfl, hJx4⟩)
        · gi_wp2
          go_roundw
          case rel => exact ⟨k + 1, by omega, by go_num, by rw [HS.out]; exact hJ4, (belowCall hB hb4).trans hk4⟩
          case measure => simp [intOf]; omega
        · gi_wp2
          refine bodyPost_ret (results_none rfl _ _ _) rfl ?_
          exact ⟨⟨_, rfl⟩, .inr ⟨_, trivial, hJx4⟩⟩
    · obtain rfl : k = n := by omega
      gi_wp2
      go_end0
      exact ⟨⟨_, rfl⟩, .inl ⟨_, rfl, hJs⟩⟩
end Go.Proofs.Ytiogffjhhhpolab
