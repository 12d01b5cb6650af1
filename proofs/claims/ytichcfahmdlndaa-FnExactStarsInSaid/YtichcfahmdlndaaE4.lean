/- OfObserver, OfStar: the estimates that are wanted, the model's. -/
import Derived.Test.YtichcfahmdlndaaE2
import Derived.Lib.SliceRun
import Derived.Deep.AppendLies
import Derived.StillTailTactics
namespace Go.Proofs.Ytichcfahmdlndaa
open Go.ChangeShapes Go.WideShapes Go.ChangeAt Go.RowKit Go.Deep

def selE (p : Es → Bool) (xs : List Es) (k : Nat) : List Es := (xs.take k).filter p
theorem selE_len (p : Es → Bool) (xs : List Es) (k : Nat) : (selE p xs k).length ≤ k := by
  unfold selE
  have h1 := List.length_filter_le p (xs.take k)
  have h2 : (xs.take k).length ≤ k := by simp; omega
  omega
theorem selE_step {p : Es → Bool} {xs : List Es} {n k : Nat} {x : Es} (hn : xs.length = n) (hk : k < n) (hx : xs[k]?.getD es0 = x) : selE p xs (k + 1) = selE p xs k ++ if p x then [x] else [] := by
  have hk' : k < xs.length := by omega
  unfold selE
  rw [List.take_succ_eq_append_getElem hk', List.filter_append]
  simp only [List.getElem?_eq_getElem hk', Option.getD_some] at hx
  rw [hx]
  by_cases h : p x = true <;> simp [h]
theorem selE_yes {p : Es → Bool} {xs : List Es} {n k : Nat} {x : Es} (hn : xs.length = n) (hk : k < n) (hx : xs[k]?.getD es0 = x) (h : p x = true) : selE p xs (k + 1) = selE p xs k ++ [x] := by rw [selE_step hn hk hx, if_pos h]
theorem selE_no {p : Es → Bool} {xs : List Es} {n k : Nat} {x : Es} (hn : xs.length = n) (hk : k < n) (hx : xs[k]?.getD es0 = x) (h : p x = false) : selE p xs (k + 1) = selE p xs k := by rw [selE_step hn hk hx, if_neg (by rw [h]; simp), List.append_nil]
theorem selE_full {p : Es → Bool} {xs : List Es} {n : Nat} (hn : xs.length = n) : selE p xs n = xs.filter p := by rw [selE, List.take_of_length_le (by omega)]
def pObs (o : ByteArray) (x : Es) : Bool := x.2.2.1.toList == o.toList
def pStar (s : ByteArray) (f t : Int) (x : Es) : Bool := x.2.1.toList == s.toList && inB x.1 f t
def ooC (xs : List Es) (o : ByteArray) : Int := if okE xs then (if nameB o then 0 else 2) else 1
def ooL (xs : List Es) (o : ByteArray) : List Es := if ooC xs o = 0 then xs.filter (pObs o) else []
def osC (xs : List Es) (s : ByteArray) (f t : Int) : Int := if okE xs then (if nameB s && (tmB f && tmB t) then 0 else 2) else 1
def osL (xs : List Es) (s : ByteArray) (f t : Int) : List Es := if osC xs s f t = 0 then xs.filter (pStar s f t) else []
theorem fl_len {xs : List Es} {p : Es → Bool} {n : Nat} (h : xs.length ≤ n) : (xs.filter p).length ≤ n := by have := List.length_filter_le p xs; omega
theorem ooL_len {xs : List Es} {o : ByteArray} {n : Nat} (h : xs.length ≤ n) : (ooL xs o).length ≤ n := by unfold ooL; split; exact fl_len h; simp
theorem osL_len {xs : List Es} {s : ByteArray} {f t : Int} {n : Nat} (h : xs.length ≤ n) : (osL xs s f t).length ≤ n := by unfold osL; split; exact fl_len h; simp
theorem oo_1 {xs : List Es} {o : ByteArray} (h : okE xs = false) : ooC xs o = 1 ∧ ooL xs o = [] := by simp [ooL, ooC, h]
theorem oo_2 {xs : List Es} {o : ByteArray} (h : okE xs = true) (h2 : nameB o = false) : ooC xs o = 2 ∧ ooL xs o = [] := by simp [ooL, ooC, h, h2]
theorem oo_0 {xs : List Es} {o : ByteArray} (h : okE xs = true) (h2 : nameB o = true) : ooC xs o = 0 ∧ ooL xs o = xs.filter (pObs o) := by simp [ooL, ooC, h, h2]
theorem os_1 {xs : List Es} {s : ByteArray} {f t : Int} (h : okE xs = false) : osC xs s f t = 1 ∧ osL xs s f t = [] := by simp [osL, osC, h]
theorem os_2 {xs : List Es} {s : ByteArray} {f t : Int} (h : okE xs = true) (h2 : (nameB s && (tmB f && tmB t)) = false) : osC xs s f t = 2 ∧ osL xs s f t = [] := by simp [osL, osC, h, h2]
theorem os_0 {xs : List Es} {s : ByteArray} {f t : Int} (h : okE xs = true) (h2 : (nameB s && (tmB f && tmB t)) = true) : osC xs s f t = 0 ∧ osL xs s f t = xs.filter (pStar s f t) := by simp [osL, osC, h, h2]
set_option maxRecDepth 100000 in
set_option maxHeartbeats 4000000 in
theorem sOfObserver_any (a : Option Addr) (n c : Nat) (xs : List Es) (o : ByteArray) (w : World) (h : EsL w a n xs) (hn : n ≤ 1048576) :
    Calls Try.prog 26 #[.slice a n c, .string o] w fun e w' => EsRes w.heap.size (ooL xs o) (.int .i64 (ooC xs o)) w' e ∧ Below w.heap.size w w' := by
  have HL := Lib.hid h.1
  have hl : (n : Int) ≤ 1048576 := by omega
  obtain ⟨i0, hi, hz0, hz1, hz2⟩ := info_parts Es_info
  cases hok : okE xs
  · have HC := Lib.hid (oo_1 (o := o) hok)
    go_enter Try.func26, Try.ntmps26
    go_wp2_with fail
    refine (l06Ok_any a n c xs w h hn).mono ?_
    rintro e w2 ⟨rfl, q, rfl⟩
    rw [hok]
    go_wp2
    go_ret2
    exact ⟨by rw [HC.out.1, HC.out.2]; exact EsRes.nil _ _ _, belowDN (Below.refl _ _) _⟩
  cases hnm : nameB o
  · have HC := Lib.hid (oo_2 (o := o) hok hnm)
    go_enter Try.func26, Try.ntmps26
    go_wp2_with fail
    refine (l06Ok_any a n c xs w h hn).mono ?_
    rintro e w2 ⟨rfl, q, rfl⟩
    rw [hok]
    go_wp2_with (go_at_call 53; refine (sIsName_same _ _).mono ?_; rintro e w' ⟨rfl, rfl⟩; rw [hnm])
    go_ret2
    exact ⟨by rw [HC.out.1, HC.out.2]; exact EsRes.nil _ _ _, belowDN (Below.refl _ _) _⟩
  have HC := Lib.hid (oo_0 (o := o) hok (by simp [*]))
  go_enter Try.func26, Try.ntmps26
  go_wp2_with fail
  refine (l06Ok_any a n c xs w h hn).mono ?_
  rintro e w2 ⟨rfl, q, rfl⟩
  rw [hok]
  have B2 : Below w.heap.size w (w.drewN q) := belowDN (Below.refl _ _) _
  have h2 := h.mono B2
  generalize w.drewN q = w2 at B2 h2 ⊢
  go_wp2_with (go_at_call 53; refine (sIsName_same _ _).mono ?_; rintro e w' ⟨rfl, rfl⟩; rw [hnm])
  go_loopw [6, 7] (fun oo i wr => ∃ (k : Nat), k ≤ n ∧ i = .int .i64 k ∧ wr.ownsRow w2.heap.size 35 5 oo (selE (pObs o) xs k).length (flatEs (selE (pObs o) xs k)) ∧ Below w2.heap.size w2 wr) (fun _ i _ => n - (Go.RowKit.intOf i).toNat)
  case atStart => exact ⟨0, Nat.zero_le _, rfl, (by exact World.ownsRow_lit w2 #[] 0 (Nat.le_refl _) (by unfold maxLen; omega) rfl), by (repeat (first | assumption | exact Below.refl _ _ | refine belowDN ?_ _ | refine Below.drew ?_ | refine Below.setCell ?_ (by first | omega | (simp <;> omega)) _ | refine Below.alloc ?_ (by first | omega | (simp <;> omega)) _ | refine belowCall ?_ (by assumption)))⟩
  case round =>
    obtain ⟨k, hk, rfl, hown, hB⟩ := hrel
    by_cases hlt : k < n
    · obtain ⟨b1, o1, rfl, hc⟩ := h2.2 k hlt
      obtain ⟨⟨x0, x1, x2, x3, x4⟩, hx⟩ : ∃ x, xs[k]?.getD es0 = x := ⟨_, rfl⟩
      rw [hx] at hc
      obtain ⟨p, p0, p1, p2, p3, p4⟩ := (hc.mono hB).parts
      have hbl1 := hc.1
      have hkk : (k : Int) < (n : Int) := by omega
      have hsz := hB.size
      have hLk := selE_len (pObs o) xs k
      cases hp : pObs o (x0, x1, x2, x3, x4)
      · have HS := Lib.hid (selE_no HL.out hlt hx hp)
        clear hx hc
        have hne : (x2.toList == o.toList) = false := hp
        go_wp2
        go_roundw
        case rel => exact ⟨k + 1, by omega, by go_num, by rw [HS.out]; exact hown, by (repeat (first | assumption | exact Below.refl _ _ | refine belowDN ?_ _ | refine Below.drew ?_ | refine Below.setCell ?_ (by first | omega | (simp <;> omega)) _ | refine Below.alloc ?_ (by first | omega | (simp <;> omega)) _ | refine belowCall ?_ (by assumption)))⟩
        case measure => simp [Go.RowKit.intOf]; omega
      · have HS := Lib.hid (selE_yes HL.out hlt hx hp)
        clear hx hc
        obtain ⟨zs, hzs⟩ : ∃ zs, selE (pObs o) xs k = zs := ⟨_, rfl⟩
        obtain ⟨L, hL⟩ : ∃ L, zs.length = L := ⟨_, rfl⟩
        rw [hzs] at hown hLk HS
        rw [hL] at hown hLk
        have HZL := Lib.hid hL
        clear hzs hL
        have hne : (x2.toList == o.toList) = true := hp
        go_wp2_with (at_builtin; refine wpList_append_own _ rfl _ _ 25 rfl w2.heap.size 35 i0 _ 5 56 Try.underlying25 hi hz0 hz1 hz2 rfl (by decide) _ _ _ rfl (hown.alloc _) ⟨wr.heap.size, 0, none⟩ 1 1 [.int .i64 x0, .string x1, .string x2, .int .i64 x3, .bool x4] rfl rfl (cellsEs _ _ _ _ _ _ _) (by intro u hu; simp at hu; rcases hu with rfl | rfl | rfl | rfl | rfl <;> rfl) (by unfold maxLen; omega) (by omega) (by simp; omega) ?_; intro v7 w7 hown7 hg7 hnil7; have hBb : Below w2.heap.size w2 w7 := (show Below w2.heap.size w2 _ by (repeat (first | assumption | exact Below.refl _ _ | refine belowDN ?_ _ | refine Below.drew ?_ | refine Below.setCell ?_ (by first | omega | (simp <;> omega)) _ | refine Below.alloc ?_ (by first | omega | (simp <;> omega)) _ | refine belowCall ?_ (by assumption)))).grown hg7 (by simp; omega) (fun j e => (hown.lt j e).1))
        focus
          have hownb' : w7.ownsRow w2.heap.size 35 5 v7 (L + 1) (flatEs (selE (pObs o) xs (k + 1))) := by rw [HS.out, flatEs_snoc]; exact hown7
          have HLL : Hid ((selE (pObs o) xs (k + 1)).length = L + 1) := Lib.hid (by rw [HS.out, List.length_append, HZL.out]; rfl)
          clear hown7 hown
          go_roundw
          case rel => exact ⟨k + 1, by omega, by go_num, by rw [HLL.out]; exact hownb', hBb⟩
          case measure => simp [Go.RowKit.intOf]; omega
    · obtain rfl : k = n := by omega
      have hown' := hown
      rw [selE_full HL.out] at hown'
      have HOWN := Lib.hid (ownLow hown' B2.size)
      clear hown hown'
      go_wp2
      go_ret2
      exact ⟨by rw [HC.out.1, HC.out.2]; exact EsRes.own HOWN.out rfl, belowCall B2 hB⟩
set_option maxRecDepth 100000 in
set_option maxHeartbeats 4000000 in
theorem sOfStar_any (a : Option Addr) (n c : Nat) (xs : List Es) (s : ByteArray) (f t : Int) (w : World) (h : EsL w a n xs) (hn : n ≤ 1048576) :
    Calls Try.prog 24 #[.slice a n c, .string s, .int .i64 f, .int .i64 t] w fun e w' => EsRes w.heap.size (osL xs s f t) (.int .i64 (osC xs s f t)) w' e ∧ Below w.heap.size w w' := by
  have HL := Lib.hid h.1
  have hl : (n : Int) ≤ 1048576 := by omega
  obtain ⟨i0, hi, hz0, hz1, hz2⟩ := info_parts Es_info
  cases hok : okE xs
  · have HC := Lib.hid (os_1 (s := s) (f := f) (t := t) hok)
    go_enter Try.func24, Try.ntmps24
    go_wp2_with fail
    refine (l06Ok_any a n c xs w h hn).mono ?_
    rintro e w2 ⟨rfl, q, rfl⟩
    rw [hok]
    go_wp2
    go_ret2
    exact ⟨by rw [HC.out.1, HC.out.2]; exact EsRes.nil _ _ _, belowDN (Below.refl _ _) _⟩
  cases hnm : nameB s
  · have HC := Lib.hid (os_2 (s := s) (f := f) (t := t) hok (by simp [*]))
    go_enter Try.func24, Try.ntmps24
    go_wp2_with fail
    refine (l06Ok_any a n c xs w h hn).mono ?_
    rintro e w2 ⟨rfl, q, rfl⟩
    rw [hok]
    go_wp2_with (first | (go_at_call 53; refine (sIsName_same _ _).mono ?_; rintro e w' ⟨rfl, rfl⟩; rw [hnm]) | (go_at_call 54; refine (l06Time_any _ _).mono ?_; rintro e w' ⟨rfl, rfl⟩; (first | rw [hf] | rw [ht])))
    go_ret2
    exact ⟨by rw [HC.out.1, HC.out.2]; exact EsRes.nil _ _ _, belowDN (Below.refl _ _) _⟩
  cases hf : tmB f
  · have HC := Lib.hid (os_2 (s := s) (f := f) (t := t) hok (by simp [*]))
    go_enter Try.func24, Try.ntmps24
    go_wp2_with fail
    refine (l06Ok_any a n c xs w h hn).mono ?_
    rintro e w2 ⟨rfl, q, rfl⟩
    rw [hok]
    go_wp2_with (first | (go_at_call 53; refine (sIsName_same _ _).mono ?_; rintro e w' ⟨rfl, rfl⟩; rw [hnm]) | (go_at_call 54; refine (l06Time_any _ _).mono ?_; rintro e w' ⟨rfl, rfl⟩; (first | rw [hf] | rw [ht])))
    go_ret2
    exact ⟨by rw [HC.out.1, HC.out.2]; exact EsRes.nil _ _ _, belowDN (Below.refl _ _) _⟩
  cases ht : tmB t
  · have HC := Lib.hid (os_2 (s := s) (f := f) (t := t) hok (by simp [*]))
    go_enter Try.func24, Try.ntmps24
    go_wp2_with fail
    refine (l06Ok_any a n c xs w h hn).mono ?_
    rintro e w2 ⟨rfl, q, rfl⟩
    rw [hok]
    go_wp2_with (first | (go_at_call 53; refine (sIsName_same _ _).mono ?_; rintro e w' ⟨rfl, rfl⟩; rw [hnm]) | (go_at_call 54; refine (l06Time_any _ _).mono ?_; rintro e w' ⟨rfl, rfl⟩; (first | rw [hf] | rw [ht])))
    go_ret2
    exact ⟨by rw [HC.out.1, HC.out.2]; exact EsRes.nil _ _ _, belowDN (Below.refl _ _) _⟩
  have HC := Lib.hid (os_0 (s := s) (f := f) (t := t) hok (by simp [*]))
  go_enter Try.func24, Try.ntmps24
  go_wp2_with fail
  refine (l06Ok_any a n c xs w h hn).mono ?_
  rintro e w2 ⟨rfl, q, rfl⟩
  rw [hok]
  have B2 : Below w.heap.size w (w.drewN q) := belowDN (Below.refl _ _) _
  have h2 := h.mono B2
  generalize w.drewN q = w2 at B2 h2 ⊢
  go_wp2_with (first | (go_at_call 53; refine (sIsName_same _ _).mono ?_; rintro e w' ⟨rfl, rfl⟩; rw [hnm]) | (go_at_call 54; refine (l06Time_any _ _).mono ?_; rintro e w' ⟨rfl, rfl⟩; (first | rw [hf] | rw [ht])))
  go_loopw [10, 11] (fun oo i wr => ∃ (k : Nat), k ≤ n ∧ i = .int .i64 k ∧ wr.ownsRow w2.heap.size 35 5 oo (selE (pStar s f t) xs k).length (flatEs (selE (pStar s f t) xs k)) ∧ Below w2.heap.size w2 wr) (fun _ i _ => n - (Go.RowKit.intOf i).toNat)
  case atStart => exact ⟨0, Nat.zero_le _, rfl, (by exact World.ownsRow_lit w2 #[] 0 (Nat.le_refl _) (by unfold maxLen; omega) rfl), by (repeat (first | assumption | exact Below.refl _ _ | refine belowDN ?_ _ | refine Below.drew ?_ | refine Below.setCell ?_ (by first | omega | (simp <;> omega)) _ | refine Below.alloc ?_ (by first | omega | (simp <;> omega)) _ | refine belowCall ?_ (by assumption)))⟩
  case round =>
    obtain ⟨k, hk, rfl, hown, hB⟩ := hrel
    by_cases hlt : k < n
    · obtain ⟨b1, o1, rfl, hc⟩ := h2.2 k hlt
      obtain ⟨⟨x0, x1, x2, x3, x4⟩, hx⟩ : ∃ x, xs[k]?.getD es0 = x := ⟨_, rfl⟩
      rw [hx] at hc
      obtain ⟨p, p0, p1, p2, p3, p4⟩ := (hc.mono hB).parts
      have hbl1 := hc.1
      have hkk : (k : Int) < (n : Int) := by omega
      have hsz := hB.size
      have hLk := selE_len (pStar s f t) xs k
      cases hp : pStar s f t (x0, x1, x2, x3, x4)
      · have HS := Lib.hid (selE_no HL.out hlt hx hp)
        clear hx hc
        cases hne : (x1.toList == s.toList)
        · go_wp2
          go_roundw
          case rel => exact ⟨k + 1, by omega, by go_num, by rw [HS.out]; exact hown, by (repeat (first | assumption | exact Below.refl _ _ | refine belowDN ?_ _ | refine Below.drew ?_ | refine Below.setCell ?_ (by first | omega | (simp <;> omega)) _ | refine Below.alloc ?_ (by first | omega | (simp <;> omega)) _ | refine belowCall ?_ (by assumption)))⟩
          case measure => simp [Go.RowKit.intOf]; omega
        · have hin : inB x0 f t = false := by simpa [pStar, hne] using hp
          go_wp2_with (go_at_call 55; refine (l00In_any _ _ _ _).mono ?_; rintro e w' ⟨rfl, rfl⟩; rw [hin])
          go_roundw
          case rel => exact ⟨k + 1, by omega, by go_num, by rw [HS.out]; exact hown, by (repeat (first | assumption | exact Below.refl _ _ | refine belowDN ?_ _ | refine Below.drew ?_ | refine Below.setCell ?_ (by first | omega | (simp <;> omega)) _ | refine Below.alloc ?_ (by first | omega | (simp <;> omega)) _ | refine belowCall ?_ (by assumption)))⟩
          case measure => simp [Go.RowKit.intOf]; omega
      · have HS := Lib.hid (selE_yes HL.out hlt hx hp)
        clear hx hc
        obtain ⟨zs, hzs⟩ : ∃ zs, selE (pStar s f t) xs k = zs := ⟨_, rfl⟩
        obtain ⟨L, hL⟩ : ∃ L, zs.length = L := ⟨_, rfl⟩
        rw [hzs] at hown hLk HS
        rw [hL] at hown hLk
        have HZL := Lib.hid hL
        clear hzs hL
        have hp' := hp
        simp only [pStar, Bool.and_eq_true] at hp'
        obtain ⟨hne, hin⟩ := hp'
        go_wp2_with (first | (go_at_call 55; refine (l00In_any _ _ _ _).mono ?_; rintro e w' ⟨rfl, rfl⟩; rw [hin]) | (at_builtin; refine wpList_append_own _ rfl _ _ 25 rfl w2.heap.size 35 i0 _ 5 56 Try.underlying25 hi hz0 hz1 hz2 rfl (by decide) _ _ _ rfl (hown.alloc _) ⟨wr.heap.size, 0, none⟩ 1 1 [.int .i64 x0, .string x1, .string x2, .int .i64 x3, .bool x4] rfl rfl (cellsEs _ _ _ _ _ _ _) (by intro u hu; simp at hu; rcases hu with rfl | rfl | rfl | rfl | rfl <;> rfl) (by unfold maxLen; omega) (by omega) (by simp; omega) ?_; intro v7 w7 hown7 hg7 hnil7; have hBb : Below w2.heap.size w2 w7 := (show Below w2.heap.size w2 _ by (repeat (first | assumption | exact Below.refl _ _ | refine belowDN ?_ _ | refine Below.drew ?_ | refine Below.setCell ?_ (by first | omega | (simp <;> omega)) _ | refine Below.alloc ?_ (by first | omega | (simp <;> omega)) _ | refine belowCall ?_ (by assumption)))).grown hg7 (by simp; omega) (fun j e => (hown.lt j e).1)))
        focus
          have hownb' : w7.ownsRow w2.heap.size 35 5 v7 (L + 1) (flatEs (selE (pStar s f t) xs (k + 1))) := by rw [HS.out, flatEs_snoc]; exact hown7
          have HLL : Hid ((selE (pStar s f t) xs (k + 1)).length = L + 1) := Lib.hid (by rw [HS.out, List.length_append, HZL.out]; rfl)
          clear hown7 hown
          go_roundw
          case rel => exact ⟨k + 1, by omega, by go_num, by rw [HLL.out]; exact hownb', hBb⟩
          case measure => simp [Go.RowKit.intOf]; omega
    · obtain rfl : k = n := by omega
      have hown' := hown
      rw [selE_full HL.out] at hown'
      have HOWN := Lib.hid (ownLow hown' B2.size)
      clear hown hown'
      go_wp2
      go_ret2
      exact ⟨by rw [HC.out.1, HC.out.2]; exact EsRes.own HOWN.out rfl, belowCall B2 hB⟩
end Go.Proofs.Ytichcfahmdlndaa
