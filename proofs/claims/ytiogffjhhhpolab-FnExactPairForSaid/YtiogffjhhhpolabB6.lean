/- EnclosingPair: the program's and the model's. -/
import Derived.Test.YtiogffjhhhpolabB5
namespace Go.Proofs.Ytiogffjhhhpolab
open Go.ChangeShapes Go.WideShapes Go.ChangeAt Go.RowKit

/-- the number with an index, 0 for a negative one -/
def atI (xs : List Int) (i : Int) : Int := if i < 0 then 0 else xs[i.toNat]?.getD 0
def brTo (xs : List Int) (m : Int) : Nat → Int
  | 0 => -1
  | k + 1 => if xs[k]?.getD 0 ≤ m ∧ (brTo xs m k < 0 ∨ atI xs (brTo xs m k) < xs[k]?.getD 0) then k else brTo xs m k
def faTo (xs : List Int) (m : Int) : Nat → Int
  | 0 => -1
  | k + 1 => if m < xs[k]?.getD 0 ∧ (faTo xs m k < 0 ∨ xs[k]?.getD 0 < atI xs (faTo xs m k)) then k else faTo xs m k
theorem brTo_bd (xs : List Int) (m : Int) : ∀ k, brTo xs m k = -1 ∨ ∃ j : Nat, j < k ∧ brTo xs m k = j
  | 0 => .inl rfl
  | k + 1 => by
    simp only [brTo]
    split
    · exact .inr ⟨k, by omega, rfl⟩
    · rcases brTo_bd xs m k with h | ⟨j, h1, h2⟩
      · exact .inl h
      · exact .inr ⟨j, by omega, h2⟩
theorem faTo_bd (xs : List Int) (m : Int) : ∀ k, faTo xs m k = -1 ∨ ∃ j : Nat, j < k ∧ faTo xs m k = j
  | 0 => .inl rfl
  | k + 1 => by
    simp only [faTo]
    split
    · exact .inr ⟨k, by omega, rfl⟩
    · rcases faTo_bd xs m k with h | ⟨j, h1, h2⟩
      · exact .inl h
      · exact .inr ⟨j, by omega, h2⟩
theorem br_yes {xs : List Int} {m : Int} {k : Nat} (h1 : decide (xs[k]?.getD 0 ≤ m) = true) (h2 : brTo xs m k < 0 ∨ atI xs (brTo xs m k) < xs[k]?.getD 0) : (k : Int) = brTo xs m (k + 1) := by
  rw [brTo, if_pos ⟨by simpa using h1, h2⟩]
theorem br_no {xs : List Int} {m : Int} {k : Nat} {br : Int} (hb : br = brTo xs m k) (h : ¬ (decide (xs[k]?.getD 0 ≤ m) = true ∧ (br < 0 ∨ atI xs br < xs[k]?.getD 0))) : br = brTo xs m (k + 1) := by
  rw [brTo, if_neg (by rw [← hb]; simpa using h)]; exact hb
theorem fa_yes {xs : List Int} {m : Int} {k : Nat} (h1 : decide (m < xs[k]?.getD 0) = true) (h2 : faTo xs m k < 0 ∨ xs[k]?.getD 0 < atI xs (faTo xs m k)) : (k : Int) = faTo xs m (k + 1) := by
  rw [faTo, if_pos ⟨by simpa using h1, h2⟩]
theorem fa_no {xs : List Int} {m : Int} {k : Nat} {br : Int} (hb : br = faTo xs m k) (h : ¬ (decide (m < xs[k]?.getD 0) = true ∧ (br < 0 ∨ xs[k]?.getD 0 < atI xs br))) : br = faTo xs m (k + 1) := by
  rw [faTo, if_neg (by rw [← hb]; simpa using h)]; exact hb
theorem atI_nat (xs : List Int) (j : Nat) : atI xs j = xs[j]?.getD 0 := by
  rw [atI, if_neg (by omega), Int.toNat_natCast]
def pairV (xs : List Int) (m : Int) : Value :=
  if okMags xs && magB m then
    (if brTo xs m xs.length < 0 ∨ faTo xs m xs.length < 0 then three 0 0 3 else three (brTo xs m xs.length) (faTo xs m xs.length) 0)
  else three 0 0 2

set_option maxHeartbeats 2000000 in
theorem sPair_any (a : Option Addr) (len cap : Nat) (xs : List Int) (m : Int) (w : World) (h : Lst w a len xs) (hlen : len ≤ 1048576) :
    Calls Try.prog 72 #[.slice a len cap, .int .i64 m] w fun e w' => e = .returned (pairV xs m) ∧ Below w.heap.size w w' := by
  cases hok : okMags xs
  · have hd : listCode xs = 2 ∧ pairV xs m = three 0 0 2 := by simp [listCode, pairV, hok]
    have HD := Lib.hid hd
    clear hd
    go_enter Try.func72, Try.ntmps72
    go_wp2_with (first | ((go_at_call 120; refine (l02List_any _ _ _ _ _ h (by omega)).mono ?_; rintro e w' ⟨rfl, hbel⟩; obtain ⟨hc, hf⟩ := bcell hbel; have hz := hbel.size; (try simp at hz); (try simp only [Nat.add_one_le_iff] at hz); (try (have hzw : w.heap.size < w'.heap.size := by omega))); rw [HD.out.1]) | (go_at_call 83; refine (l02Mag_any _ _).mono ?_; rintro e w' ⟨rfl, rfl⟩))
    go_ret3
    exact ⟨by rw [HD.out.2]; rfl, by (repeat (first | assumption | exact Below.refl _ _ | refine belowDN ?_ _ | refine Below.drew ?_ | refine Below.setCell ?_ (by first | omega | (simp <;> omega)) _ | refine Below.alloc ?_ (by first | omega | (simp <;> omega)) _ | refine belowCall ?_ (by assumption)))⟩
  cases hm : magB m
  · have hd : listCode xs = 0 ∧ pairV xs m = three 0 0 2 := by simp [listCode, pairV, hok, hm]
    have HD := Lib.hid hd
    clear hd
    go_enter Try.func72, Try.ntmps72
    go_wp2_with (first | ((go_at_call 120; refine (l02List_any _ _ _ _ _ h (by omega)).mono ?_; rintro e w' ⟨rfl, hbel⟩; obtain ⟨hc, hf⟩ := bcell hbel; have hz := hbel.size; (try simp at hz); (try simp only [Nat.add_one_le_iff] at hz); (try (have hzw : w.heap.size < w'.heap.size := by omega))); rw [HD.out.1]) | (go_at_call 83; refine (l02Mag_any _ _).mono ?_; rintro e w' ⟨rfl, rfl⟩))
    go_ret3
    exact ⟨by rw [HD.out.2]; rfl, by (repeat (first | assumption | exact Below.refl _ _ | refine belowDN ?_ _ | refine Below.drew ?_ | refine Below.setCell ?_ (by first | omega | (simp <;> omega)) _ | refine Below.alloc ?_ (by first | omega | (simp <;> omega)) _ | refine belowCall ?_ (by assumption)))⟩
  have hd : listCode xs = 0 := by simp [listCode, hok]
  have HD := Lib.hid hd
  have hp : pairV xs m = if brTo xs m len < 0 ∨ faTo xs m len < 0 then three 0 0 3 else three (brTo xs m len) (faTo xs m len) 0 := by rw [pairV, hok, hm, h.1]; rfl
  have HP := Lib.hid hp
  clear hd hp
  go_enter Try.func72, Try.ntmps72
  go_wp2_with (first | ((go_at_call 120; refine (l02List_any _ _ _ _ _ h (by omega)).mono ?_; rintro e w' ⟨rfl, hbel⟩; obtain ⟨hc, hf⟩ := bcell hbel; have hz := hbel.size; (try simp at hz); (try simp only [Nat.add_one_le_iff] at hz); (try (have hzw : w.heap.size < w'.heap.size := by omega))); rw [HD.out]) | (go_at_call 83; refine (l02Mag_any _ _).mono ?_; rintro e w' ⟨rfl, rfl⟩))
  have h' := h.mono hbel
  clear hc hf
  go_loopw [8, 9, 10] (fun s u i wr => ∃ (k n : Nat) (br fa : Int), k ≤ len ∧ i = .int .i64 k ∧ s = .int .i64 br ∧ u = .int .i64 fa ∧ br = brTo xs m k ∧ fa = faTo xs m k ∧ wr = w'.drewN n) (fun _ _ i _ => len - (intOf i).toNat)
  case atStart => exact ⟨0, 0, -1, -1, by omega, rfl, rfl, rfl, rfl, rfl, rfl⟩
  case round =>
    obtain ⟨k, n, br, fa, hk, rfl, rfl, rfl, hbr, hfa, rfl⟩ := hrel
    have hbb := brTo_bd xs m k
    have hff := faTo_bd xs m k
    rw [← hbr] at hbb
    rw [← hfa] at hff
    have HBR := Lib.hid hbr
    have HFA := Lib.hid hfa
    clear hbr hfa
    by_cases hlt : k < len
    · obtain ⟨b, off, rfl, hb, hcell⟩ := h'.2 k hlt
      cases hA : decide (xs[k]?.getD 0 ≤ m)
      · have hg : decide (m < xs[k]?.getD 0) = true := by simp at hA ⊢; omega
        rcases hff with rfl | ⟨j, hj, rfl⟩
        · go_wp2
          go_quiet (fail)
          go_wp2
          go_quiet (fail)
          go_wp2
          go_roundw
          case rel => exact ⟨k + 1, _, br, k, by omega, by go_num, rfl, rfl, br_no HBR.out (by rw [hA]; simp), fa_yes hg (by rw [← HFA.out]; simp), rfl⟩
          case measure => simp [intOf]; omega
        · obtain ⟨b2, o2, he2, hb2, hcell2⟩ := h'.2 j (by omega)
          simp only [Option.some.injEq, Addr.mk.injEq, and_true] at he2
          obtain ⟨rfl, rfl⟩ := he2
          have hjl : j < len := by omega
          cases hx : decide (xs[k]?.getD 0 < xs[j]?.getD 0)
          · go_wp2
            go_quiet (fail)
            go_wp2
            go_quiet (fail)
            go_wp2
            go_roundw
            case rel => exact ⟨k + 1, _, br, j, by omega, by go_num, rfl, rfl, br_no HBR.out (by rw [hA]; simp), fa_no HFA.out (by rw [atI_nat]; simp at hx ⊢; omega), rfl⟩
            case measure => simp [intOf]; omega
          · go_wp2
            go_quiet (fail)
            go_wp2
            go_quiet (fail)
            go_wp2
            go_roundw
            case rel => exact ⟨k + 1, _, br, k, by omega, by go_num, rfl, rfl, br_no HBR.out (by rw [hA]; simp), fa_yes hg (by rw [← HFA.out, atI_nat]; right; simpa using hx), rfl⟩
            case measure => simp [intOf]; omega
      · have hg : decide (m < xs[k]?.getD 0) = false := by simp at hA ⊢; omega
        rcases hbb with rfl | ⟨j, hj, rfl⟩
        · go_wp2
          go_quiet (fail)
          go_wp2
          go_quiet (fail)
          go_wp2
          go_roundw
          case rel => exact ⟨k + 1, _, k, fa, by omega, by go_num, rfl, rfl, br_yes hA (by rw [← HBR.out]; simp), fa_no HFA.out (by rw [hg]; simp), rfl⟩
          case measure => simp [intOf]; omega
        · obtain ⟨b2, o2, he2, hb2, hcell2⟩ := h'.2 j (by omega)
          simp only [Option.some.injEq, Addr.mk.injEq, and_true] at he2
          obtain ⟨rfl, rfl⟩ := he2
          have hjl : j < len := by omega
          cases hx : decide (xs[j]?.getD 0 < xs[k]?.getD 0)
          · go_wp2
            go_quiet (fail)
            go_wp2
            go_quiet (fail)
            go_wp2
            go_roundw
            case rel => exact ⟨k + 1, _, j, fa, by omega, by go_num, rfl, rfl, br_no HBR.out (by rw [atI_nat]; simp at hx ⊢; omega), fa_no HFA.out (by rw [hg]; simp), rfl⟩
            case measure => simp [intOf]; omega
          · go_wp2
            go_quiet (fail)
            go_wp2
            go_quiet (fail)
            go_wp2
            go_roundw
            case rel => exact ⟨k + 1, _, k, fa, by omega, by go_num, rfl, rfl, br_yes hA (by rw [← HBR.out, atI_nat]; right; simpa using hx), fa_no HFA.out (by rw [hg]; simp), rfl⟩
            case measure => simp [intOf]; omega
    · obtain rfl : k = len := by omega
      have HP2 := HP.out
      rw [← HBR.out, ← HFA.out] at HP2
      have HQ := Lib.hid HP2
      clear HP2
      rcases hbb with rfl | ⟨j, hj, rfl⟩
      · go_wp2
        go_ret3
        exact ⟨by rw [HQ.out]; rfl, by (repeat (first | assumption | exact Below.refl _ _ | refine belowDN ?_ _ | refine Below.drew ?_ | refine Below.setCell ?_ (by first | omega | (simp <;> omega)) _ | refine Below.alloc ?_ (by first | omega | (simp <;> omega)) _ | refine belowCall ?_ (by assumption)))⟩
      · rcases hff with rfl | ⟨j2, hj2, rfl⟩
        · go_wp2
          go_ret3
          exact ⟨by rw [HQ.out, if_pos (.inr (by omega))]; rfl, by (repeat (first | assumption | exact Below.refl _ _ | refine belowDN ?_ _ | refine Below.drew ?_ | refine Below.setCell ?_ (by first | omega | (simp <;> omega)) _ | refine Below.alloc ?_ (by first | omega | (simp <;> omega)) _ | refine belowCall ?_ (by assumption)))⟩
        · go_wp2
          go_ret3
          exact ⟨by rw [HQ.out, if_neg (by omega)]; rfl, by (repeat (first | assumption | exact Below.refl _ _ | refine belowDN ?_ _ | refine Below.drew ?_ | refine Below.setCell ?_ (by first | omega | (simp <;> omega)) _ | refine Below.alloc ?_ (by first | omega | (simp <;> omega)) _ | refine belowCall ?_ (by assumption)))⟩
/-- two cells in a block of the call's own -/
def Two (w : World) (T : TypeId) (g : Nat) (a b : Int) : Prop := w.heap[g]? = some (.cells #[.int .i64 a, .int .i64 b] T (0, 0))
theorem Two.c0 {w T g a b} (h : Two w T g a b) : w.cell? ⟨g, 0, none⟩ = some (.int .i64 a) := by simp [World.cell?, show w.heap[g]? = _ from h]
theorem Two.c1 {w T g a b} (h : Two w T g a b) : w.cell? ⟨g, 1, none⟩ = some (.int .i64 b) := by simp [World.cell?, show w.heap[g]? = _ from h]
theorem Two.fz {w T g a b} (h : Two w T g a b) (j : Nat) : w.frozen? ⟨g, j, none⟩ = false := by simp [World.frozen?, show w.heap[g]? = _ from h]
theorem Two.lt {w T g a b} (h : Two w T g a b) : g < w.heap.size := by
  by_cases hb : g < w.heap.size
  · exact hb
  · have h' : w.heap[g]? = _ := h
    rw [Array.getElem?_eq_none (by omega)] at h'
    simp at h'
theorem Two.alloc {w T g a b} (h : Two w T g a b) (o : Obj) : Two (w.alloc o) T g a b := by
  show (w.alloc o).heap[g]? = _
  rw [Below.heap_alloc _ _ _ h.lt]; exact h
theorem Two.other {w T g a b} (h : Two w T g a b) (p : Addr) (u : Value) (hne : g ≠ p.block) : Two (w.setCell p u) T g a b := by
  show (w.setCell p u).heap[g]? = _
  rw [Below.heap_setCell _ _ _ _ hne]; exact h
theorem Two.put {w T g a b} (h : Two w T g a b) (c d : Int) : Two ((w.setCell ⟨g, 0, none⟩ (.int .i64 c)).setCell ⟨g, 1, none⟩ (.int .i64 d)) T g c d := by
  have h1 := heap_setCell_same w g 0 _ T (.int .i64 c) h
  have h2 := heap_setCell_same _ g 1 _ T (.int .i64 d) h1
  exact h2
structure PW (T : TypeId) (w wr : World) (xs : List Int) (B g8 g9 : Nat) (br fa : Int) : Prop where
  bel : Below w.heap.size w wr
  l7 : w.heap.size ≤ B
  l8 : w.heap.size ≤ g8
  l9 : w.heap.size ≤ g9
  n1 : g8 ≠ g9
  n2 : B ≠ g8
  n3 : B ≠ g9
  t7 : Two wr T B (-1) 0
  t8 : Two wr T g8 br (atI xs br)
  t9 : Two wr T g9 fa (atI xs fa)
theorem PW.alloc {T w wr xs B g8 g9 br fa} (h : PW T w wr xs B g8 g9 br fa) (o : Obj) : PW T w (wr.alloc o) xs B g8 g9 br fa :=
  ⟨h.bel.alloc h.bel.size _, h.l7, h.l8, h.l9, h.n1, h.n2, h.n3, h.t7.alloc o, h.t8.alloc o, h.t9.alloc o⟩
theorem Two.new (w : World) (T : TypeId) (a b : Int) : Two (w.alloc (.cells #[.int .i64 a, .int .i64 b] T)) T w.heap.size a b := by
  show (w.heap.push _)[w.heap.size]? = _
  rw [Array.getElem?_push_size]
theorem PW.start {T w w'} (xs : List Int) (h : Below w.heap.size w w') (g8 g9 : Nat) (hg : (w'.heap.size + 1 = g8 ∧ w'.heap.size + 1 + 1 = g9) ∨ (w'.heap.size + 1 + 1 = g8 ∧ w'.heap.size + 1 = g9)) :
    PW T w (((w'.alloc (.cells #[.int .i64 (-1), .int .i64 0] T)).alloc (.cells #[.int .i64 (-1), .int .i64 0] T)).alloc (.cells #[.int .i64 (-1), .int .i64 0] T)).drew xs w'.heap.size g8 g9 (-1) (-1) := by
  have hs := h.size
  have t1 := ((Two.new w' T (-1) 0).alloc (.cells #[.int .i64 (-1), .int .i64 0] T)).alloc (.cells #[.int .i64 (-1), .int .i64 0] T)
  have t2 := (Two.new (w'.alloc (.cells #[.int .i64 (-1), .int .i64 0] T)) T (-1) 0).alloc (.cells #[.int .i64 (-1), .int .i64 0] T)
  have t3 := Two.new ((w'.alloc (.cells #[.int .i64 (-1), .int .i64 0] T)).alloc (.cells #[.int .i64 (-1), .int .i64 0] T)) T (-1) 0
  rw [World.size_alloc] at t2 t3
  rw [World.size_alloc] at t3
  have hb := (((h.alloc hs (.cells #[.int .i64 (-1), .int .i64 0] T)).alloc (by rw [World.size_alloc]; omega) (.cells #[.int .i64 (-1), .int .i64 0] T)).alloc (by rw [World.size_alloc, World.size_alloc]; omega) (.cells #[.int .i64 (-1), .int .i64 0] T)).drew
  rcases hg with ⟨rfl, rfl⟩ | ⟨rfl, rfl⟩
  · exact ⟨hb, by omega, by omega, by omega, by omega, by omega, by omega, t1, t2, t3⟩
  · exact ⟨hb, by omega, by omega, by omega, by omega, by omega, by omega, t1, t3, t2⟩
theorem PW.put8 {T w wr xs B g8 g9 br fa} (h : PW T w wr xs B g8 g9 br fa) (k : Nat) : PW T w ((wr.setCell ⟨g8, 0, none⟩ (.int .i64 k)).setCell ⟨g8, 1, none⟩ (.int .i64 (xs[k]?.getD 0))) xs B g8 g9 k fa :=
  ⟨(h.bel.setCell h.l8 _).setCell h.l8 _, h.l7, h.l8, h.l9, h.n1, h.n2, h.n3, (h.t7.other _ _ h.n2).other _ _ h.n2, by rw [atI_nat]; exact h.t8.put _ _, (h.t9.other _ _ h.n1.symm).other _ _ h.n1.symm⟩
theorem PW.put9 {T w wr xs B g8 g9 br fa} (h : PW T w wr xs B g8 g9 br fa) (k : Nat) : PW T w ((wr.setCell ⟨g9, 0, none⟩ (.int .i64 k)).setCell ⟨g9, 1, none⟩ (.int .i64 (xs[k]?.getD 0))) xs B g8 g9 br k :=
  ⟨(h.bel.setCell h.l9 _).setCell h.l9 _, h.l7, h.l8, h.l9, h.n1, h.n2, h.n3, (h.t7.other _ _ h.n3).other _ _ h.n3, (h.t8.other _ _ h.n1).other _ _ h.n1, by rw [atI_nat]; exact h.t9.put _ _⟩
set_option maxHeartbeats 4000000 in
theorem iPair_any (a : Option Addr) (len cap : Nat) (xs : List Int) (m : Int) (w : World) (h : Lst w a len xs) (hlen : len ≤ 1048576) :
    Calls Try.prog 76 #[.slice a len cap, .int .i64 m] w fun e w' => e = .returned (pairV xs m) ∧ Below w.heap.size w w' := by
  cases hok : okMags xs
  · have HD : Hid (pairV xs m = three 0 0 2) := by rw [pairV, hok]; exact rfl
    go_enter Try.func76, Try.ntmps76
    go_wp2_with (first | (go_at_call 124; refine (areMags_any _ _ _ _ _ h (by omega)).mono ?_; rintro e w' ⟨rfl, hbel⟩; obtain ⟨hc, hf⟩ := bcell hbel; have hz := hbel.size; (try simp at hz); (try simp only [Nat.add_one_le_iff] at hz); (try (have hzw : w.heap.size < w'.heap.size := by omega))) | (go_at_call 85; refine (iValidMag_any _ _).mono ?_; rintro e w' ⟨rfl, rfl⟩))
    go_ret3
    exact ⟨by rw [HD.out]; rfl, by (repeat (first | assumption | exact Below.refl _ _ | refine belowDN ?_ _ | refine Below.drew ?_ | refine Below.setCell ?_ (by first | omega | (simp <;> omega)) _ | refine Below.alloc ?_ (by first | omega | (simp <;> omega)) _ | refine belowCall ?_ (by assumption)))⟩
  cases hm : magB m
  · have HD : Hid (pairV xs m = three 0 0 2) := by rw [pairV, hok, hm]; exact rfl
    go_enter Try.func76, Try.ntmps76
    go_wp2_with (first | (go_at_call 124; refine (areMags_any _ _ _ _ _ h (by omega)).mono ?_; rintro e w' ⟨rfl, hbel⟩; obtain ⟨hc, hf⟩ := bcell hbel; have hz := hbel.size; (try simp at hz); (try simp only [Nat.add_one_le_iff] at hz); (try (have hzw : w.heap.size < w'.heap.size := by omega))) | (go_at_call 85; refine (iValidMag_any _ _).mono ?_; rintro e w' ⟨rfl, rfl⟩))
    go_ret3
    exact ⟨by rw [HD.out]; rfl, by (repeat (first | assumption | exact Below.refl _ _ | refine belowDN ?_ _ | refine Below.drew ?_ | refine Below.setCell ?_ (by first | omega | (simp <;> omega)) _ | refine Below.alloc ?_ (by first | omega | (simp <;> omega)) _ | refine belowCall ?_ (by assumption)))⟩
  have hp : pairV xs m = if brTo xs m len < 0 ∨ faTo xs m len < 0 then three 0 0 3 else three (brTo xs m len) (faTo xs m len) 0 := by rw [pairV, hok, hm, h.1]; rfl
  have HP := Lib.hid hp
  clear hp
  go_enter Try.func76, Try.ntmps76
  go_wp2_with (first | (go_at_call 124; refine (areMags_any _ _ _ _ _ h (by omega)).mono ?_; rintro e w' ⟨rfl, hbel⟩; obtain ⟨hc, hf⟩ := bcell hbel; have hz := hbel.size; (try simp at hz); (try simp only [Nat.add_one_le_iff] at hz); (try (have hzw : w.heap.size < w'.heap.size := by omega))) | (go_at_call 85; refine (iValidMag_any _ _).mono ?_; rintro e w' ⟨rfl, rfl⟩))
  have h' := h.mono hbel
  go_region
  all_goals go_wp2
  case' _ =>
    generalize e9 : w'.heap.size + 1 + 1 = g9
    generalize e8 : w'.heap.size + 1 = g8
  rotate_left
  case' _ =>
    generalize e8 : w'.heap.size + 1 + 1 = g8
    generalize e9 : w'.heap.size + 1 = g9
  all_goals
    have E8 := Lib.hid e8
    have E9 := Lib.hid e9
    clear e8 e9
    go_loopw [26] (fun i wr => ∃ (k : Nat) (br fa : Int), k ≤ len ∧ i = .int .i64 k ∧ br = brTo xs m k ∧ fa = faTo xs m k ∧ PW 143 w wr xs w'.heap.size g8 g9 br fa) (fun i _ => len - (intOf i).toNat)
    case atStart => exact ⟨0, -1, -1, by omega, rfl, rfl, rfl, PW.start xs hbel g8 g9 (by first | exact .inl ⟨E8.out, E9.out⟩ | exact .inr ⟨E8.out, E9.out⟩)⟩
    case round =>
      obtain ⟨k, br, fa, hk, rfl, hbr, hfa, hpw⟩ := hrel
      have hbb := brTo_bd xs m k
      have hff := faTo_bd xs m k
      rw [← hbr] at hbb
      rw [← hfa] at hff
      have HBR := Lib.hid hbr
      have HFA := Lib.hid hfa
      clear hbr hfa
      have n1 := hpw.n1
      have n1' := hpw.n1.symm
      have n2 := hpw.n2
      have n2' := hpw.n2.symm
      have n3 := hpw.n3
      have n3' := hpw.n3.symm
      have s7 := hpw.t7.lt
      have s8 := hpw.t8.lt
      have s9 := hpw.t9.lt
      have c70 := hpw.t7.c0
      have c71 := hpw.t7.c1
      have c80 := hpw.t8.c0
      have c81 := hpw.t8.c1
      have c90 := hpw.t9.c0
      have c91 := hpw.t9.c1
      have f80 := hpw.t8.fz 0
      have f81 := hpw.t8.fz 1
      have f90 := hpw.t9.fz 0
      have f91 := hpw.t9.fz 1
      by_cases hlt : k < len
      · obtain ⟨b, off, rfl, hb, hcell⟩ := (h.mono hpw.bel).2 k hlt
        cases hA : decide (xs[k]?.getD 0 ≤ m)
        · have hg : decide (m < xs[k]?.getD 0) = true := by simp at hA ⊢; omega
          rcases hff with rfl | ⟨j, hj, rfl⟩
          · have hz : atI xs (-1) = 0 := rfl
            go_wp2
            go_roundw
            case rel => exact ⟨k + 1, br, k, by omega, by go_num, br_no HBR.out (by rw [hA]; simp), fa_yes hg (by rw [← HFA.out]; simp), (hpw.put9 k).alloc _⟩
            case measure => simp [intOf]; omega
          · have hz : atI xs (j : Int) = xs[j]?.getD 0 := atI_nat xs j
            cases hx : decide (xs[k]?.getD 0 < xs[j]?.getD 0)
            · go_wp2
              go_roundw
              case rel => exact ⟨k + 1, br, j, by omega, by go_num, br_no HBR.out (by rw [hA]; simp), fa_no HFA.out (by rw [atI_nat]; simp at hx ⊢; omega), hpw.alloc _⟩
              case measure => simp [intOf]; omega
            · go_wp2
              go_roundw
              case rel => exact ⟨k + 1, br, k, by omega, by go_num, br_no HBR.out (by rw [hA]; simp), fa_yes hg (by rw [← HFA.out, atI_nat]; right; simpa using hx), (hpw.put9 k).alloc _⟩
              case measure => simp [intOf]; omega
        · have hg : decide (m < xs[k]?.getD 0) = false := by simp at hA ⊢; omega
          rcases hbb with rfl | ⟨j, hj, rfl⟩
          · have hz : atI xs (-1) = 0 := rfl
            go_wp2
            go_roundw
            case rel => exact ⟨k + 1, k, fa, by omega, by go_num, br_yes hA (by rw [← HBR.out]; simp), fa_no HFA.out (by rw [hg]; simp), (hpw.put8 k).alloc _⟩
            case measure => simp [intOf]; omega
          · have hz : atI xs (j : Int) = xs[j]?.getD 0 := atI_nat xs j
            cases hx : decide (xs[j]?.getD 0 < xs[k]?.getD 0)
            · go_wp2
              go_roundw
              case rel => exact ⟨k + 1, j, fa, by omega, by go_num, br_no HBR.out (by rw [atI_nat]; simp at hx ⊢; omega), fa_no HFA.out (by rw [hg]; simp), hpw.alloc _⟩
              case measure => simp [intOf]; omega
            · go_wp2
              go_roundw
              case rel => exact ⟨k + 1, k, fa, by omega, by go_num, br_yes hA (by rw [← HBR.out, atI_nat]; right; simpa using hx), fa_no HFA.out (by rw [hg]; simp), (hpw.put8 k).alloc _⟩
              case measure => simp [intOf]; omega
      · obtain rfl : k = len := by omega
        have HP2 := HP.out
        rw [← HBR.out, ← HFA.out] at HP2
        have HQ := Lib.hid HP2
        clear HP2
        rcases hbb with rfl | ⟨j, hj, rfl⟩
        · have hz : atI xs (-1) = 0 := rfl
          go_wp2
          go_ret3
          exact ⟨by rw [HQ.out]; rfl, hpw.bel⟩
        · have hz : atI xs (j : Int) = xs[j]?.getD 0 := atI_nat xs j
          rcases hff with rfl | ⟨j2, hj2, rfl⟩
          · have hz2 : atI xs (-1) = 0 := rfl
            go_wp2
            go_ret3
            exact ⟨by rw [HQ.out, if_pos (.inr (by omega))]; rfl, hpw.bel⟩
          · have hz2 : atI xs (j2 : Int) = xs[j2]?.getD 0 := atI_nat xs j2
            go_wp2
            go_quiet (fail)
            go_wp2
            go_ret3
            exact ⟨by rw [HQ.out, if_neg (by omega)]; rfl, belowDN hpw.bel _⟩
end Go.Proofs.Ytiogffjhhhpolab
