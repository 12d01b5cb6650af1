/- The magnitudes of all marks; PairFor, both sides. -/
import Derived.Test.YtiogffjhhhpolabH2
import Derived.Test.YtiogffjhhhpolabH3
import Derived.Test.YtiogffjhhhpolabB6
import Derived.Test.YtiogffjhhhpolabGI
import Derived.Lib.SliceRun
import Derived.Handy
namespace Go.Proofs.Ytiogffjhhhpolab
open Go.ChangeShapes Go.WideShapes Go.ChangeAt Go.RowKit Go.Deep

def mgL (xs : List Mk) : List Int := xs.map fun x => x.2.2
theorem mgL_len (xs : List Mk) : (mgL xs).length = xs.length := by simp [mgL]
theorem mgL_at (xs : List Mk) (k : Nat) : (mgL xs)[k]?.getD 0 = (xs[k]?.getD mk0).2.2 := by
  rw [mgL, List.getElem?_map]
  cases xs[k]? <;> rfl
theorem mgL_step {xs : List Mk} {k n : Nat} {x0 x1 x2 : Int} (hn : xs.length = n) (hk : k < n) (hx : xs[k]?.getD mk0 = (x0, x1, x2)) : (mgL (xs.take (k + 1))).map (Value.int .i64) = (mgL (xs.take k)).map (Value.int .i64) ++ [.int .i64 x2] := by
  have hlt : k < xs.length := by omega
  rw [List.getElem?_eq_getElem hlt, Option.getD_some] at hx
  rw [← List.take_append_getElem hlt, hx]
  simp [mgL]
set_option maxRecDepth 100000 in
set_option maxHeartbeats 2000000 in
theorem sMags_any (a : Option Addr) (n c : Nat) (xs : List Mk) (w : World) (h : MkL w a n xs) (hn : n ≤ 1048576) :
    Calls Try.prog 73 #[.slice a n c] w fun e w' => ∃ v, e = .returned v ∧ w'.ownsRow w.heap.size 2 1 v n ((mgL xs).map (Value.int .i64)) ∧ Below w.heap.size w w' := by
  obtain ⟨i0, hi, hz0, hz1, hz2⟩ := info_parts A_info
  have HL := Lib.hid h.1
  have hl : (n : Int) ≤ 1048576 := by omega
  go_enter Try.func73, Try.ntmps73
  go_wp2
  go_loopw [3, 4] (fun o i wr => ∃ k : Nat, k ≤ n ∧ i = .int .i64 k ∧ wr.ownsRow w.heap.size 2 1 o k ((mgL (xs.take k)).map (Value.int .i64)) ∧ Below w.heap.size w wr) (fun _ i _ => n - (Go.RowKit.intOf i).toNat)
  case atStart => exact ⟨0, Nat.zero_le _, rfl, by exact World.ownsRow_lit w #[] 0 (Nat.le_refl _) (by unfold maxLen; omega) rfl, by (repeat (first | assumption | exact Below.refl _ _ | refine belowDN ?_ _ | refine Below.drew ?_ | refine Below.setCell ?_ (by first | omega | (simp <;> omega)) _ | refine Below.alloc ?_ (by first | omega | (simp <;> omega)) _ | refine belowCall ?_ (by assumption)))⟩
  case round =>
    obtain ⟨k, hk, rfl, hown, hB⟩ := hrel
    by_cases hlt : k < n
    · obtain ⟨b1, o1, rfl, hc⟩ := h.2 k hlt
      obtain ⟨⟨x0, x1, x2⟩, hx⟩ : ∃ x, xs[k]?.getD mk0 = x := ⟨_, rfl⟩
      have HS := Lib.hid (mgL_step HL.out hlt hx)
      rw [hx] at hc
      obtain ⟨-, p0, p1, p2⟩ := (hc.mono hB).parts
      have hsz := hB.size
      clear hx hc
      have hkk : (k : Int) < (n : Int) := by omega
      go_wp2_with (at_builtin; refine wpList_append_own _ rfl _ _ 43 rfl w.heap.size 2 i0 (.int .i64 0) 1 8 Try.underlying43 hi hz0 hz1 hz2 rfl (by decide) _ _ _ rfl (hown.alloc _) ⟨wr.heap.size, 0, none⟩ 1 1 [.int .i64 x2] rfl rfl (cell_one_new _ _ _) (by intro u hu; simp at hu; subst hu; rfl) (by unfold maxLen; omega) (by omega) (by have := hB.size; simp; omega) ?_; intro v7 w7 hown7 hg7 hnil7; have hB7 : Below w.heap.size w w7 := (show Below w.heap.size w (wr.alloc (.cells #[.int .i64 x2] 2)) by (repeat (first | assumption | exact Below.refl _ _ | refine belowDN ?_ _ | refine Below.drew ?_ | refine Below.setCell ?_ (by first | omega | (simp <;> omega)) _ | refine Below.alloc ?_ (by first | omega | (simp <;> omega)) _ | refine belowCall ?_ (by assumption)))).grown hg7 (by have := hB.size; simp; omega) (fun j e => (hown.lt j e).1); clear hg7 hnil7)
      have HO := Lib.hid hown7
      clear hown hown7
      go_wp2
      go_roundw
      case rel => exact ⟨k + 1, by omega, by go_num, by rw [HS.out]; exact HO.out, hB7⟩
      case measure => simp [Go.RowKit.intOf]; omega
    · obtain rfl : k = n := by omega
      rw [List.take_of_length_le (by rw [HL.out]; exact Nat.le_refl _)] at hown
      go_wp2
      go_ret
      exact ⟨_, rfl, hown, hB⟩
theorem ownKeepM {w w' : World} {B e s n : Nat} {v : Value} {xs : List Value} (h : w.ownsRow B e s v n xs) (hb : Below w.heap.size w w') : w'.ownsRow B e s v n xs :=
  h.kept (gBut hb none) (by
    cases hv : v.ownBlock with
    | none => exact .inl rfl
    | some g => exact .inr (by simp))
theorem mkMag_any (x0 x1 x2 : Int) (w : World) :
    Calls Try.prog 195 #[.agg #[.int .i64 x0, .int .i64 x1, .int .i64 x2]] w fun e w' => e = .returned (.int .i64 x2) ∧ Below w.heap.size w w' := by
  go_enter Try.func195, Try.ntmps195
  go_wp2
  go_ret
  exact ⟨rfl, by (repeat (first | assumption | exact Below.refl _ _ | refine belowDN ?_ _ | refine Below.drew ?_ | refine Below.setCell ?_ (by first | omega | (simp <;> omega)) _ | refine Below.alloc ?_ (by first | omega | (simp <;> omega)) _ | refine belowCall ?_ (by assumption)))⟩
set_option maxRecDepth 100000 in
set_option maxHeartbeats 2000000 in
theorem iMags_any (a : Option Addr) (n c : Nat) (xs : List Mk) (w : World) (h : MkL w a n xs) (hn : n ≤ 1048576) :
    Calls Try.prog 77 #[.slice a n c] w fun e w' => ∃ g, e = .returned (.slice (some ⟨g, 0, none⟩) n n) ∧ w'.ownsRow w.heap.size 2 1 (.slice (some ⟨g, 0, none⟩) n n) n ((mgL xs).map (Value.int .i64)) ∧ Below w.heap.size w w' := by
  obtain ⟨i0, hi, hz0, hz1, hz2⟩ := info_parts A_info
  have HL := Lib.hid h.1
  have hgl : (mgL xs).length = n := by rw [mgL_len, h.1]
  have HGL := Lib.hid hgl
  clear hgl
  have hb : n ≤ maxLen := by unfold maxLen; omega
  have hl : (n : Int) ≤ 1048576 := by omega
  go_enter Try.func77, Try.ntmps77
  go_wp2_with (at_make; refine wpList_make_full _ rfl _ _ 43 rfl w.heap.size 2 i0 (.int .i64 0) 1 Try.underlying43 hi hz0 hz1 .i64 .i64 n n n rfl rfl rfl rfl (by rw [hz2]; omega) hb (Nat.le_refl _) ?_; intro w1 hown hgrow)
  go_loopw [11] (fun i wr => ∃ k : Nat, k ≤ n ∧ i = .int .i64 k ∧ wr.ownsRow w.heap.size 2 1 (.slice (some ⟨w.heap.size, 0, none⟩) n n) n (cop (mgL xs) k n) ∧ Below w.heap.size w wr) (fun i _ => n - (Go.RowKit.intOf i).toNat)
  case atStart => exact ⟨0, Nat.zero_le _, rfl, by rw [← cop_zero]; exact hown, (Below.refl _ _).grown hgrow (Nat.le_refl _) (fun k hk => by cases hk)⟩
  case round =>
    obtain ⟨k, hk, rfl, hownr, hbel⟩ := hrel
    clear hown hgrow
    by_cases hlt : k < n
    · obtain ⟨b, off, rfl, hc⟩ := h.2 k hlt
      obtain ⟨⟨x0, x1, x2⟩, hx⟩ : ∃ x, xs[k]?.getD mk0 = x := ⟨_, rfl⟩
      have hgk : (mgL xs)[k]?.getD 0 = x2 := by rw [mgL_at, hx]
      rw [hx] at hc
      obtain ⟨-, p0, p1, p2⟩ := (hc.mono hbel).parts
      have hsz := hbel.size
      have hkk : (k : Int) < (n : Int) := by omega
      have hA := hownr.alloc (.cells #[.int .i64 x0, .int .i64 x1, .int .i64 x2] 98)
      have hBA : Below w.heap.size w (wr.alloc (.cells #[.int .i64 x0, .int .i64 x1, .int .i64 x2] 98)) := hbel.alloc hbel.size _
      have HX : Hid (xs[k]?.getD mk0 = (x0, x1, x2)) := Lib.hid hx
      clear hx hc hownr
      go_wp2_with fail
      refine (mkMag_any x0 x1 x2 _).mono ?_
      rintro e w5 ⟨rfl, b5⟩
      have hA5 := ownKeepM hA b5
      have hB5 := belowCall hBA b5
      have hfz := hA5.frozenAt k
      have hco : w5.cell? ⟨w.heap.size, k, none⟩ = some (.int .i64 0) := by rw [hA5.cellAt k (by omega)]; exact cop_at (mgL xs) k n hlt HGL.out
      obtain ⟨hs1, hs2⟩ := hA5.stored k (.int .i64 x2)
      have HS : Hid ((cop (mgL xs) k n).set k (.int .i64 x2) = cop (mgL xs) (k + 1) n) := Lib.hid (by rw [← hgk]; exact cop_set (mgL xs) k n hlt HGL.out)
      have HO := Lib.hid hs1
      have HBB := Lib.hid (hB5.grown hs2 hB5.size (fun j hj => by cases hj; exact Nat.le_refl _))
      clear hgk hs1 hs2 hA hA5 hBA b5
      go_wp2
      go_roundw
      case rel => exact ⟨k + 1, by omega, by go_num, by rw [← HS.out]; exact HO.out, HBB.out⟩
      case measure => simp [Go.RowKit.intOf]; omega
    · obtain rfl : k = n := by omega
      go_wp2
      go_ret
      rw [cop_full (mgL xs) k HGL.out] at hownr
      exact ⟨_, rfl, hownr, hbel⟩
def tp (v : Value) (j : Nat) : Int := match v with
  | .tuple a => match a[j]? with
    | some (.int _ x) => x
    | _ => 0
  | _ => 0
theorem pairV_tp (xs : List Int) (m : Int) : pairV xs m = .tuple #[.int .i64 (tp (pairV xs m) 0), .int .i64 (tp (pairV xs m) 1), .int .i64 (tp (pairV xs m) 2)] := by
  unfold pairV three
  split
  · split <;> rfl
  · rfl
def prA (xs : List Mk) (m : Int) (j : Nat) : Int := if okC xs then tp (pairV (mgL xs) m) j else (if j = 2 then 1 else 0)
def prV (xs : List Mk) (m : Int) : Value := .tuple #[.int .i64 (prA xs m 0), .int .i64 (prA xs m 1), .int .i64 (prA xs m 2)]
theorem prV_no {xs : List Mk} {m : Int} (h : okC xs = false) : prV xs m = .tuple #[.int .i64 0, .int .i64 0, .int .i64 1] := by simp [prV, prA, h]
theorem prV_yes {xs : List Mk} {m : Int} (h : okC xs = true) : prV xs m = pairV (mgL xs) m := by rw [pairV_tp]; simp [prV, prA, h]
set_option maxHeartbeats 1000000 in
theorem sPairFor_any (a : Option Addr) (n c : Nat) (xs : List Mk) (m : Int) (w : World) (h : MkL w a n xs) (hn : n ≤ 1048576) :
    Calls Try.prog 24 #[.slice a n c, .int .i64 m] w fun e w' => e = .returned (prV xs m) ∧ Below w.heap.size w w' := by
  cases hok : okC xs
  · have HV := Lib.hid (prV_no (m := m) hok)
    go_enter Try.func24, Try.ntmps24
    go_wp2_with fail
    refine (l07Ok_any a n c xs w h hn).mono ?_
    rintro e w2 ⟨rfl, b2⟩
    rw [hok]
    go_wp2
    go_ret3
    exact ⟨by rw [HV.out]; rfl, b2⟩
  have HV := Lib.hid (prV_yes (m := m) hok)
  go_enter Try.func24, Try.ntmps24
  go_wp2_with fail
  refine (l07Ok_any a n c xs w h hn).mono ?_
  rintro e w2 ⟨rfl, b2⟩
  rw [hok]
  clear hok
  go_wp2_with fail
  refine (sMags_any a n c xs w2 (h.mono b2) hn).mono ?_
  rintro e w3 ⟨v, rfl, hown, b3⟩
  obtain ⟨a3, c3, rfl, hO⟩ := IntO.of_owns (m := 1) hown
  have hLs := hO.toL
  have HT := Lib.hid (pairV_tp (mgL xs) m)
  obtain ⟨t0, ht0⟩ : ∃ t, tp (pairV (mgL xs) m) 0 = t := ⟨_, rfl⟩
  obtain ⟨t1, ht1⟩ : ∃ t, tp (pairV (mgL xs) m) 1 = t := ⟨_, rfl⟩
  obtain ⟨t2, ht2⟩ : ∃ t, tp (pairV (mgL xs) m) 2 = t := ⟨_, rfl⟩
  rw [ht0, ht1, ht2] at HT
  clear ht0 ht1 ht2 hown hO
  go_wp2_with fail
  refine (sPair_any a3 n c3 (mgL xs) m w3 hLs hn).mono ?_
  rintro e w4 ⟨rfl, b4⟩
  rw [HT.out]
  go_wp2
  go_ret3
  exact ⟨by rw [HV.out, HT.out]; rfl, belowCall (belowCall b2 b3) b4⟩
theorem sPairFor_t (a : Option Addr) (n c : Nat) (xs : List Mk) (m : Int) (w : World) (h : MkL w a n xs) (hn : n ≤ 1048576) :
    Calls Try.prog 24 #[.slice a n c, .int .i64 m] w fun e w' => e = .returned (.tuple #[.int .i64 (prA xs m 0), .int .i64 (prA xs m 1), .int .i64 (prA xs m 2)]) ∧ Below w.heap.size w w' := sPairFor_any a n c xs m w h hn
set_option maxHeartbeats 1000000 in
theorem iPairFor_any (a : Option Addr) (n c : Nat) (xs : List Mk) (m : Int) (w : World) (h : MkL w a n xs) (hn : n ≤ 1048576) (hcap : n ≤ c) :
    Calls Try.prog 26 #[.slice a n c, .int .i64 m] w fun e w' => e = .returned (prV xs m) ∧ Below w.heap.size w w' := by
  cases hok : okC xs
  · have HV := Lib.hid (prV_no (m := m) hok)
    go_enter Try.func26, Try.ntmps26
    go_wp2_with fail
    refine (iValidC_any a n c xs w h hn hcap).mono ?_
    rintro e w2 ⟨rfl, b2⟩
    rw [hok]
    go_wp2
    go_ret3
    exact ⟨by rw [HV.out]; rfl, b2⟩
  have HV := Lib.hid (prV_yes (m := m) hok)
  go_enter Try.func26, Try.ntmps26
  go_wp2_with fail
  refine (iValidC_any a n c xs w h hn hcap).mono ?_
  rintro e w2 ⟨rfl, b2⟩
  rw [hok]
  clear hok
  go_wp2_with fail
  refine (iMags_any a n c xs w2 (h.mono b2) hn).mono ?_
  rintro e w3 ⟨g3, rfl, hown, b3⟩
  have hLs := Lst.of_own hown
  have HT := Lib.hid (pairV_tp (mgL xs) m)
  obtain ⟨t0, ht0⟩ : ∃ t, tp (pairV (mgL xs) m) 0 = t := ⟨_, rfl⟩
  obtain ⟨t1, ht1⟩ : ∃ t, tp (pairV (mgL xs) m) 1 = t := ⟨_, rfl⟩
  obtain ⟨t2, ht2⟩ : ∃ t, tp (pairV (mgL xs) m) 2 = t := ⟨_, rfl⟩
  rw [ht0, ht1, ht2] at HT
  clear ht0 ht1 ht2 hown
  go_wp2_with fail
  refine (iPair_any _ n n (mgL xs) m w3 hLs hn).mono ?_
  rintro e w4 ⟨rfl, b4⟩
  rw [HT.out]
  go_wp2
  go_ret3
  exact ⟨by rw [HV.out, HT.out]; rfl, belowCall (belowCall b2 b3) b4⟩
theorem iPairFor_t (a : Option Addr) (n c : Nat) (xs : List Mk) (m : Int) (w : World) (h : MkL w a n xs) (hn : n ≤ 1048576) (hcap : n ≤ c) :
    Calls Try.prog 26 #[.slice a n c, .int .i64 m] w fun e w' => e = .returned (.tuple #[.int .i64 (prA xs m 0), .int .i64 (prA xs m 1), .int .i64 (prA xs m 2)]) ∧ Below w.heap.size w w' := iPairFor_any a n c xs m w h hn hcap
end Go.Proofs.Ytiogffjhhhpolab
