/- AddMark, both sides. -/
import Derived.Test.YtfabpcdeppfmdaaH2
import Derived.Test.YtfabpcdeppfmdaaH3
import Derived.Lib.SliceRun
import Derived.Deep.AppendLies
namespace Go.Proofs.Ytfabpcdeppfmdaa
open Go.ChangeShapes Go.WideShapes Go.ChangeAt Go.RowKit Go.Deep Go.Maps Go.WideMaps

def amC (xs : List Mk) (x : Mk) : Int := if okC xs then (if mrkB x then (if anyW x xs then 4 else if xs.length = 30 then 5 else 0) else 2) else 1
def amL (xs : List Mk) (x : Mk) : List Mk := if amC xs x = 0 then xs ++ [x] else []
theorem am_1 {xs : List Mk} {x : Mk} (h : okC xs = false) : amC xs x = 1 ∧ amL xs x = [] := by simp [amL, amC, h]
theorem am_2 {xs : List Mk} {x : Mk} (h : okC xs = true) (h2 : mrkB x = false) : amC xs x = 2 ∧ amL xs x = [] := by simp [amL, amC, h, h2]
theorem am_4 {xs : List Mk} {x : Mk} (h : okC xs = true) (h2 : mrkB x = true) (h3 : anyW x xs = true) : amC xs x = 4 ∧ amL xs x = [] := by simp [amL, amC, h, h2, h3]
theorem am_5 {xs : List Mk} {x : Mk} (h : okC xs = true) (h2 : mrkB x = true) (h3 : anyW x xs = false) (h4 : xs.length = 30) : amC xs x = 5 ∧ amL xs x = [] := by simp [amL, amC, h, h2, h3, h4]
theorem am_0 {xs : List Mk} {x : Mk} (h : okC xs = true) (h2 : mrkB x = true) (h3 : anyW x xs = false) (h4 : ¬ xs.length = 30) : amC xs x = 0 ∧ amL xs x = xs ++ [x] := by simp [amL, amC, h, h2, h3, h4]
theorem amL_len (xs : List Mk) (x : Mk) : (amL xs x).length ≤ 1048576 := by
  unfold amL
  split
  · rename_i h
    have hok : okC xs = true := by
      cases hh : okC xs
      · rw [(am_1 hh).1] at h; omega
      · rfl
    have := (okC_at rfl hok).1
    rw [List.length_append, List.length_singleton]
    omega
  · simp
set_option maxRecDepth 100000 in
set_option maxHeartbeats 4000000 in
theorem sAddMark_any (y : Addr) (n c : Nat) (xs : List Mk) (x0 x1 x2 : Int) (w : World) (h : MkL w (some y) n xs) (hn : n ≤ 1048576) :
    Calls Try.prog 17 #[.slice (some y) n c, .agg #[.int .i64 x0, .int .i64 x1, .int .i64 x2]] w fun e w' => MkRes w.heap.size (amL xs (x0, x1, x2)) (.int .i64 (amC xs (x0, x1, x2))) w' e ∧ Below w.heap.size w w' := by
  have HL := Lib.hid h.1
  have hl : (n : Int) ≤ 1048576 := by omega
  have B1 : Below w.heap.size w (w.alloc (.cells #[.int .i64 x0, .int .i64 x1, .int .i64 x2] 34)) := (Below.refl _ w).alloc (Nat.le_refl _) _
  have h1 := h.mono B1
  have hbx := MkC.fresh w 34 x0 x1 x2
  cases hok : okC xs
  · have HC := Lib.hid (am_1 (x := (x0, x1, x2)) hok)
    go_enter Try.func17, Try.ntmps17
    go_wp2_with fail
    refine (l07Ok_any _ n c xs _ h1 hn).mono ?_
    rintro e w2 ⟨rfl, b2⟩
    rw [hok]
    have C2 := belowCall B1 b2
    go_wp2
    go_ret2
    (exact ⟨by rw [HC.out.1, HC.out.2]; exact MkRes.nil _ _ _, by (repeat (first | assumption | exact Below.refl _ _ | refine belowDN ?_ _ | refine Below.drew ?_ | refine Below.setCell ?_ (by first | omega | (simp <;> omega)) _ | refine Below.alloc ?_ (by first | omega | (simp <;> omega)) _ | refine belowCall ?_ (by assumption)))⟩)
  go_enter Try.func17, Try.ntmps17
  go_wp2_with fail
  generalize hW : w.alloc (.cells #[.int .i64 x0, .int .i64 x1, .int .i64 x2] 34) = w1 at B1 h1 hbx ⊢
  have hsw : w.heap.size < w1.heap.size := by rw [← hW]; simp
  clear hW
  refine (l07Ok_any _ n c xs _ h1 hn).mono ?_
  rintro e w2 ⟨rfl, b2⟩
  rw [hok]
  have C2 := belowCall B1 b2
  have hbx2 := hbx.mono b2
  have h2 := h1.mono b2
  obtain ⟨_, q0, q1, q2⟩ := hbx2.parts
  rw [Nat.zero_add] at q1 q2
  cases hst : mrkB (x0, x1, x2)
  · have HC := Lib.hid (am_2 hok hst)
    go_wp2_with fail
    refine (l07One_any x0 x1 x2 w2).mono ?_
    rintro e w3 ⟨rfl, b3⟩
    rw [hst]
    have C3 := belowCall C2 b3
    go_wp2
    go_ret2
    (exact ⟨by rw [HC.out.1, HC.out.2]; exact MkRes.nil _ _ _, by (repeat (first | assumption | exact Below.refl _ _ | refine belowDN ?_ _ | refine Below.drew ?_ | refine Below.setCell ?_ (by first | omega | (simp <;> omega)) _ | refine Below.alloc ?_ (by first | omega | (simp <;> omega)) _ | refine belowCall ?_ (by assumption)))⟩)
  go_wp2_with fail
  refine (l07One_any x0 x1 x2 w2).mono ?_
  rintro e w3 ⟨rfl, b3⟩
  rw [hst]
  have C3 := belowCall C2 b3
  have hbx3 := hbx2.mono b3
  have h3 := h2.mono b3
  have HOK := Lib.hid hok
  have HST := Lib.hid hst
  clear q0 q1 q2 hbx hbx2 h1 h2 b2 B1 C2 b3 hok hst
  obtain ⟨i0, hi, hz0, hz1, hz2⟩ := info_parts Mk_info
  go_wp2
  go_loopw [6] (fun i wr => ∃ k : Nat, k ≤ n ∧ i = .int .i64 k ∧ (∀ j, j < k → plcB (x0, x1, x2) (xs[j]?.getD mk0) = false) ∧ Below w3.heap.size w3 wr) (fun i _ => n - (Go.RowKit.intOf i).toNat)
  case atStart => exact ⟨0, Nat.zero_le _, rfl, fun j hj => absurd hj (by omega), Below.refl _ _⟩
  case round =>
    obtain ⟨k, hk, rfl, hall, hB⟩ := hrel
    have HALL := Lib.hid hall
    clear hall
    by_cases hlt : k < n
    · obtain ⟨b1, o1, he, hc⟩ := h3.2 k hlt
      cases he
      obtain ⟨⟨y0, y1, y2⟩, hy⟩ : ∃ x, xs[k]?.getD mk0 = x := ⟨_, rfl⟩
      rw [hy] at hc
      obtain ⟨p, p0, p1, p2⟩ := (hc.mono hB).parts
      obtain ⟨-, q0, q1, q2⟩ := (hbx3.mono hB).parts
      rw [Nat.zero_add] at q1 q2
      have HY := Lib.hid hy
      clear hy
      have hkk : (k : Int) < (n : Int) := by omega
      have hk0 : (0 : Int) ≤ (k : Int) := by omega
      by_cases hp : plcB (x0, x1, x2) (y0, y1, y2) = true
      · have HC := Lib.hid (am_4 HOK.out HST.out (anyW_yes HL.out hlt HY.out hp))
        have hp' := hp
        simp only [plcB, Bool.and_eq_true, beq_iff_eq] at hp'
        obtain ⟨e0, e1⟩ := hp'
        have g0 : (y0 == x0) = true := by simp [e0]
        have g1 : (y1 == x1) = true := by simp [e1]
        clear hp e0 e1
        go_wp2
        go_big_quiet (fail)
        have hB' : Below w.heap.size w (wr.drewN nq) := belowDN (belowCall C3 hB) nq
        go_wp2
        go_ret2
        exact ⟨by rw [HC.out.1, HC.out.2]; exact MkRes.nil _ _ _, hB'⟩
      · have hp2 : plcB (x0, x1, x2) (y0, y1, y2) = false := by simpa using hp
        have HK := Lib.hid (show ∀ j, j < k + 1 → plcB (x0, x1, x2) (xs[j]?.getD mk0) = false from fun j hj => by
          by_cases e : j = k
          · subst e; rw [HY.out]; exact hp2
          · exact HALL.out j (by omega))
        clear hp
        cases g0 : (y0 == x0)
        · clear hp2
          go_wp2
          go_big_quiet (fail)
          go_wp2
          go_roundw
          case rel => exact ⟨k + 1, by omega, by go_num, HK.out, by (repeat (first | assumption | exact Below.refl _ _ | refine belowDN ?_ _ | refine Below.drew ?_ | refine Below.setCell ?_ (by first | omega | (simp <;> omega)) _ | refine Below.alloc ?_ (by first | omega | (simp <;> omega)) _ | refine belowCall ?_ (by assumption)))⟩
          case measure => simp [Go.RowKit.intOf]; omega
        · have g1 : (y1 == x1) = false := by
            have e0 : y0 = x0 := by simpa using g0
            subst e0
            have : (x1 == y1) = false := by simpa [plcB] using hp2
            rw [← this]; exact Bool.beq_comm ..
          clear hp2
          go_wp2
          go_big_quiet (fail)
          go_wp2
          go_roundw
          case rel => exact ⟨k + 1, by omega, by go_num, HK.out, by (repeat (first | assumption | exact Below.refl _ _ | refine belowDN ?_ _ | refine Below.drew ?_ | refine Below.setCell ?_ (by first | omega | (simp <;> omega)) _ | refine Below.alloc ?_ (by first | omega | (simp <;> omega)) _ | refine belowCall ?_ (by assumption)))⟩
          case measure => simp [Go.RowKit.intOf]; omega
    · obtain rfl : n = k := by omega
      have hno := anyW_no HL.out HALL.out
      have hn30 := (okC_at HL.out HOK.out).1
      have C5 := belowCall C3 hB
      by_cases h30 : n = 30
      · have HC := Lib.hid (am_5 HOK.out HST.out hno (by rw [HL.out]; exact h30))
        have hd : decide ((30 : Int) ≤ (n : Int)) = true := by simp; omega
        clear hno
        go_wp2
        go_ret2
        (exact ⟨by rw [HC.out.1, HC.out.2]; exact MkRes.nil _ _ _, by (repeat (first | assumption | exact Below.refl _ _ | refine belowDN ?_ _ | refine Below.drew ?_ | refine Below.setCell ?_ (by first | omega | (simp <;> omega)) _ | refine Below.alloc ?_ (by first | omega | (simp <;> omega)) _ | refine belowCall ?_ (by assumption)))⟩)
      · have HC := Lib.hid (am_0 HOK.out HST.out hno (by rw [HL.out]; exact h30))
        have hd : decide ((30 : Int) ≤ (n : Int)) = false := by simp; omega
        clear hno
        have h5 := h3.mono hB
        have hbx5 := hbx3.mono hB
        clear hB HALL
        generalize wr = w5 at C5 h5 hbx5 ⊢
        obtain ⟨hbl5, r0, r1, r2⟩ := hbx5.parts
        rw [Nat.zero_add] at r1 r2
        have hcl := flatMk_cells (h5.mono ((Below.refl _ _).alloc (Nat.le_refl _) (.cells #[] 34)))
        have tok1 : True := trivial
        have tok2 : True := trivial
        have hnn : 0 < w5.heap.size := by omega
        go_wp2_with (first | (at_builtin; have _t := tok1; refine wpList_append_own _ rfl _ _ 25 rfl w5.heap.size 34 i0 _ 3 24 Try.underlying25 hi hz0 hz1 hz2 rfl (by decide) _ 0 [] rfl (World.ownsRow_lit w5 #[] 0 (Nat.le_refl _) (by unfold maxLen; omega) rfl) y n c (flatMk xs) rfl (by rw [flatMk_len, HL.out]) hcl (flatMk_one xs) (by unfold maxLen; omega) (by omega) (by simp) ?_; intro v6 w6 hown6 hg6 hnil6; clear tok1; have b56 : Below w5.heap.size w5 w6 := ((Below.refl w5.heap.size w5).alloc (Nat.le_refl _) (.cells #[] 34)).grown hg6 (by simp) (fun j e => by have : w5.heap.size = j := Option.some.inj e; omega); have z56 := b56.size; have d0 := (b56.cell (p := ⟨w.heap.size, 0, none⟩) hbl5).trans r0; have d1 := (b56.cell (p := ⟨w.heap.size, 1, none⟩) hbl5).trans r1; have d2 := (b56.cell (p := ⟨w.heap.size, 2, none⟩) hbl5).trans r2; clear hg6) | (at_builtin; have _t := tok2; refine wpList_append_own _ rfl _ _ 25 rfl w5.heap.size 34 i0 _ 3 24 Try.underlying25 hi hz0 hz1 hz2 rfl (by decide) _ _ _ rfl (hown6.alloc _) ⟨w6.heap.size, 0, none⟩ 1 1 [.int .i64 x0, .int .i64 x1, .int .i64 x2] rfl rfl (cellsMk _ _ _ _ _) (by intro u hu; simp at hu; rcases hu with rfl | rfl | rfl <;> rfl) (by unfold maxLen; omega) (by omega) (by simp; omega) ?_; intro v7 w7 hown7 hg7 hnil7; clear tok2; have b57 : Below w5.heap.size w5 w7 := (b56.alloc z56 (.cells #[.int .i64 x0, .int .i64 x1, .int .i64 x2] 34)).grown hg7 (by simp; omega) (fun j e => (hown6.lt j e).1); have z57 := b57.size; clear hg7))
        have hown8 : w7.ownsRow w5.heap.size 34 3 v7 (n + 1) (flatMk (xs ++ [(x0, x1, x2)])) := by rw [flatMk_snoc]; rw [Nat.zero_add, List.nil_append] at hown7; exact hown7
        have HOWN := Lib.hid (ownLow hown8 C5.size)
        have HLN : Hid ((xs ++ [(x0, x1, x2)]).length = n + 1) := Lib.hid (by rw [List.length_append, HL.out]; rfl)
        have C7 := C5.trans (b57.mono C5.size)
        clear hown7 hown8 hnil7
        go_wp2
        go_ret2
        exact ⟨by rw [HC.out.1, HC.out.2]; exact MkRes.own HOWN.out HLN.out, C7⟩
set_option maxRecDepth 100000 in
set_option maxHeartbeats 1000000 in
theorem cloneMk_any (a : Option Addr) (n c : Nat) (xs : List Mk) (w : World) (h : MkL w a n xs) (hn : n ≤ 1048576) :
    Calls Try.prog 40 #[.slice a n c] w fun e w' => ∃ v, e = .returned v ∧ w'.ownsRow w.heap.size 34 3 v n (flatMk xs) ∧ Below w.heap.size w w' := by
  have qT : ∀ (w : World) (a : Option Addr) (n c n' c' : Nat), (binOp .eql 25 (.slice a n c) (.slice none n' c')).run Try.prog w = .ok (.bool a.isNone) w := fun w a n c n' c' => Lib.run_eql_slice_nil w _ _ a n c n' c' Try.underlying25
  obtain ⟨i0, hi, hz0, hz1, hz2⟩ := info_parts Mk_info
  have hl := h.1
  rcases a with _ | y
  · have h0 : n = 0 := by
      by_cases hz : n = 0
      · exact hz
      · obtain ⟨b, off, e, _⟩ := h.2 0 (by omega)
        cases e
    subst h0
    have hx : xs = [] := List.length_eq_zero_iff.1 hl
    subst hx
    go_enter Try.func40, Try.ntmps40
    go_wp2
    go_ret
    exact ⟨_, rfl, World.ownsRow_nil _ _ _ _, by (repeat (first | assumption | exact Below.refl _ _ | refine belowDN ?_ _ | refine Below.drew ?_ | refine Below.setCell ?_ (by first | omega | (simp <;> omega)) _ | refine Below.alloc ?_ (by first | omega | (simp <;> omega)) _ | refine belowCall ?_ (by assumption)))⟩
  · have hB0 : Below w.heap.size w (w.alloc (.cells #[] 34)) := (Below.refl _ _).alloc (Nat.le_refl _) _
    have hcl := flatMk_cells (h.mono hB0)
    go_enter Try.func40, Try.ntmps40
    go_wp2_with (at_builtin; refine wpList_append_own _ rfl _ _ 25 rfl w.heap.size 34 i0 _ 3 24 Try.underlying25 hi hz0 hz1 hz2 rfl (by decide) _ 0 [] rfl ?c0 y n c (flatMk xs) rfl (by rw [flatMk_len, hl]) hcl (flatMk_one xs) (by unfold maxLen; omega) (by omega) (by simp) ?_)
    case c0 => exact World.ownsRow_lit w #[] 0 (Nat.le_refl _) (by unfold maxLen; omega) rfl
    intro v' wb hownb hgb _
    have hBb : Below w.heap.size w wb := hB0.grown hgb (by simp) (fun k hk => by simp [Value.ownBlock] at hk; omega)
    go_wp2
    go_ret
    exact ⟨_, rfl, hownb, hBb⟩
set_option maxRecDepth 100000 in
set_option maxHeartbeats 4000000 in
theorem iAddMark_any (a : Option Addr) (n c : Nat) (xs : List Mk) (x0 x1 x2 : Int) (w : World) (h : MkL w a n xs) (hn : n ≤ 1048576) (hcap : n ≤ c) :
    Calls Try.prog 19 #[.slice a n c, .agg #[.int .i64 x0, .int .i64 x1, .int .i64 x2]] w fun e w' => MkRes w.heap.size (amL xs (x0, x1, x2)) (.int .i64 (amC xs (x0, x1, x2))) w' e ∧ Below w.heap.size w w' := by
  have HL := Lib.hid h.1
  have hl : (n : Int) ≤ 1048576 := by omega
  have B1 : Below w.heap.size w (w.alloc (.cells #[.int .i64 x0, .int .i64 x1, .int .i64 x2] 34)) := (Below.refl _ w).alloc (Nat.le_refl _) _
  have h1 := h.mono B1
  have hbx := MkC.fresh w 34 x0 x1 x2
  cases hok : okC xs
  · have HC := Lib.hid (am_1 (x := (x0, x1, x2)) hok)
    go_enter Try.func19, Try.ntmps19
    go_wp2_with fail
    refine (iValidC_any _ n c xs _ h1 hn hcap).mono ?_
    rintro e w2 ⟨rfl, b2⟩
    rw [hok]
    have C2 := belowCall B1 b2
    go_wp2
    go_ret2
    (exact ⟨by rw [HC.out.1, HC.out.2]; exact MkRes.nil _ _ _, by (repeat (first | assumption | exact Below.refl _ _ | refine belowDN ?_ _ | refine Below.drew ?_ | refine Below.setCell ?_ (by first | omega | (simp <;> omega)) _ | refine Below.alloc ?_ (by first | omega | (simp <;> omega)) _ | refine belowCall ?_ (by assumption)))⟩)
  go_enter Try.func19, Try.ntmps19
  go_wp2_with fail
  generalize hW : w.alloc (.cells #[.int .i64 x0, .int .i64 x1, .int .i64 x2] 34) = w1 at B1 h1 hbx ⊢
  have hsw : w.heap.size < w1.heap.size := by rw [← hW]; simp
  clear hW
  refine (iValidC_any _ n c xs _ h1 hn hcap).mono ?_
  rintro e w2 ⟨rfl, b2⟩
  rw [hok]
  have C2 := belowCall B1 b2
  have hbx2 := hbx.mono b2
  have h2 := h1.mono b2
  obtain ⟨_, q0, q1, q2⟩ := hbx2.parts
  rw [Nat.zero_add] at q1 q2
  cases hst : mrkB (x0, x1, x2)
  · have HC := Lib.hid (am_2 hok hst)
    go_wp2_with fail
    refine (mkValid_any x0 x1 x2 w2).mono ?_
    rintro e w3 ⟨rfl, b3⟩
    rw [hst]
    have C3 := belowCall C2 b3
    go_wp2
    go_ret2
    (exact ⟨by rw [HC.out.1, HC.out.2]; exact MkRes.nil _ _ _, by (repeat (first | assumption | exact Below.refl _ _ | refine belowDN ?_ _ | refine Below.drew ?_ | refine Below.setCell ?_ (by first | omega | (simp <;> omega)) _ | refine Below.alloc ?_ (by first | omega | (simp <;> omega)) _ | refine belowCall ?_ (by assumption)))⟩)
  go_wp2_with fail
  refine (mkValid_any x0 x1 x2 w2).mono ?_
  rintro e w3 ⟨rfl, b3⟩
  rw [hst]
  have C3 := belowCall C2 b3
  have hbx3 := hbx2.mono b3
  have h3 := h2.mono b3
  clear q0 q1 q2 hbx hbx2 h1 h2 b2 B1 C2 b3
  obtain ⟨_, q0, q1, q2⟩ := hbx3.parts
  rw [Nat.zero_add] at q1 q2
  obtain ⟨r, hr⟩ : ∃ r, anyW (x0, x1, x2) xs = r := ⟨_, rfl⟩
  go_wp2_with fail
  refine (conMk_any _ n c x0 x1 x2 xs w3 h3 hn).mono ?_
  rintro e w5 ⟨rfl, b5⟩
  rw [hr]
  have C5 := belowCall C3 b5
  have h5 := h3.mono b5
  have hbx5 := hbx3.mono b5
  have hn30 := (okC_at HL.out hok).1
  clear q0 q1 q2 hbx3 h3 b5 C3
  cases r
  rotate_left
  · have HC := Lib.hid (am_4 hok hst hr)
    go_wp2
    go_ret2
    (exact ⟨by rw [HC.out.1, HC.out.2]; exact MkRes.nil _ _ _, by (repeat (first | assumption | exact Below.refl _ _ | refine belowDN ?_ _ | refine Below.drew ?_ | refine Below.setCell ?_ (by first | omega | (simp <;> omega)) _ | refine Below.alloc ?_ (by first | omega | (simp <;> omega)) _ | refine belowCall ?_ (by assumption)))⟩)
  by_cases h30 : n = 30
  · have HC := Lib.hid (am_5 hok hst hr (by rw [HL.out]; exact h30))
    have hd : ((n : Int) == 30) = true := by simp; omega
    clear h30
    go_wp2
    go_ret2
    (exact ⟨by rw [HC.out.1, HC.out.2]; exact MkRes.nil _ _ _, by (repeat (first | assumption | exact Below.refl _ _ | refine belowDN ?_ _ | refine Below.drew ?_ | refine Below.setCell ?_ (by first | omega | (simp <;> omega)) _ | refine Below.alloc ?_ (by first | omega | (simp <;> omega)) _ | refine belowCall ?_ (by assumption)))⟩)
  have HC := Lib.hid (am_0 hok hst hr (by rw [HL.out]; exact h30))
  have hd : ((n : Int) == 30) = false := by simp; omega
  obtain ⟨i0, hi, hz0, hz1, hz2⟩ := info_parts Mk_info
  obtain ⟨hbl5, r0, r1, r2⟩ := hbx5.parts
  rw [Nat.zero_add] at r1 r2
  clear h30 hr
  go_wp2
  go_region_held3 (fun W' => W'.cell? ⟨w.heap.size, 0, none⟩ = some (.int .i64 x0) ∧ W'.cell? ⟨w.heap.size, 1, none⟩ = some (.int .i64 x1) ∧ W'.cell? ⟨w.heap.size, 2, none⟩ = some (.int .i64 x2)) (refine ⟨?_, ?_, ?_⟩ <;> first | assumption | exact ((show Below w5.heap.size w5 _ by (repeat (first | assumption | exact Below.refl _ _ | refine belowDN ?_ _ | refine Below.drew ?_ | refine Below.setCell ?_ (by first | omega | (simp <;> omega)) _ | refine Below.alloc ?_ (by first | omega | (simp <;> omega)) _ | refine belowCall ?_ (by assumption)))).cell (p := ⟨w.heap.size, 0, none⟩) hbl5).trans r0 | exact ((show Below w5.heap.size w5 _ by (repeat (first | assumption | exact Below.refl _ _ | refine belowDN ?_ _ | refine Below.drew ?_ | refine Below.setCell ?_ (by first | omega | (simp <;> omega)) _ | refine Below.alloc ?_ (by first | omega | (simp <;> omega)) _ | refine belowCall ?_ (by assumption)))).cell (p := ⟨w.heap.size, 1, none⟩) hbl5).trans r1 | exact ((show Below w5.heap.size w5 _ by (repeat (first | assumption | exact Below.refl _ _ | refine belowDN ?_ _ | refine Below.drew ?_ | refine Below.setCell ?_ (by first | omega | (simp <;> omega)) _ | refine Below.alloc ?_ (by first | omega | (simp <;> omega)) _ | refine belowCall ?_ (by assumption)))).cell (p := ⟨w.heap.size, 2, none⟩) hbl5).trans r2) (first | (go_at_call 40; refine (cloneMk_any _ n c xs _ (h5.mono (by (repeat (first | assumption | exact Below.refl _ _ | refine belowDN ?_ _ | refine Below.drew ?_ | refine Below.setCell ?_ (by first | omega | (simp <;> omega)) _ | refine Below.alloc ?_ (by first | omega | (simp <;> omega)) _ | refine belowCall ?_ (by assumption))))) hn).mono ?_; rintro e w6 ⟨v6, rfl, hcl, b6⟩; have b56 : Below w5.heap.size w5 w6 := belowCall (by (repeat (first | assumption | exact Below.refl _ _ | refine belowDN ?_ _ | refine Below.drew ?_ | refine Below.setCell ?_ (by first | omega | (simp <;> omega)) _ | refine Below.alloc ?_ (by first | omega | (simp <;> omega)) _ | refine belowCall ?_ (by assumption)))) b6; have z6 := b6.size; (try simp at z6); have z56 := b56.size; have hcl5 := ownLow (B' := w5.heap.size) hcl (by first | exact Nat.le_refl _ | (simp; done))) | (refine Go.step_append_lies _ rfl _ _ 25 rfl w5.heap.size 34 i0 _ 3 24 Try.underlying25 hi hz0 hz1 hz2 rfl (by decide) v6 n (flatMk xs) rfl (hcl5.alloc _) ⟨w6.heap.size, 0, none⟩ 1 1 [.int .i64 x0, .int .i64 x1, .int .i64 x2] rfl rfl (cellsMk _ _ _ _ _) (by intro u hu; simp at hu; rcases hu with rfl | rfl | rfl <;> rfl) (by decide) (by unfold maxLen; omega) (by omega) (by first | (simp; omega) | omega) _ rfl ?_; intro g7 c7 w7 hown7 hg7 hgg hlt7; (have c70 := hg7.cell (a := ⟨w.heap.size, 0, none⟩) (v := .int .i64 x0) (by first | assumption | exact ((show Below w5.heap.size w5 _ by (repeat (first | assumption | exact Below.refl _ _ | refine belowDN ?_ _ | refine Below.drew ?_ | refine Below.setCell ?_ (by first | omega | (simp <;> omega)) _ | refine Below.alloc ?_ (by first | omega | (simp <;> omega)) _ | refine belowCall ?_ (by assumption)))).cell (p := ⟨w.heap.size, 0, none⟩) hbl5).trans r0) (fun e => by have hh : w5.heap.size ≤ w.heap.size := (hcl5.lt _ e.symm).1; omega); have c71 := hg7.cell (a := ⟨w.heap.size, 1, none⟩) (v := .int .i64 x1) (by first | assumption | exact ((show Below w5.heap.size w5 _ by (repeat (first | assumption | exact Below.refl _ _ | refine belowDN ?_ _ | refine Below.drew ?_ | refine Below.setCell ?_ (by first | omega | (simp <;> omega)) _ | refine Below.alloc ?_ (by first | omega | (simp <;> omega)) _ | refine belowCall ?_ (by assumption)))).cell (p := ⟨w.heap.size, 1, none⟩) hbl5).trans r1) (fun e => by have hh : w5.heap.size ≤ w.heap.size := (hcl5.lt _ e.symm).1; omega); have c72 := hg7.cell (a := ⟨w.heap.size, 2, none⟩) (v := .int .i64 x2) (by first | assumption | exact ((show Below w5.heap.size w5 _ by (repeat (first | assumption | exact Below.refl _ _ | refine belowDN ?_ _ | refine Below.drew ?_ | refine Below.setCell ?_ (by first | omega | (simp <;> omega)) _ | refine Below.alloc ?_ (by first | omega | (simp <;> omega)) _ | refine belowCall ?_ (by assumption)))).cell (p := ⟨w.heap.size, 2, none⟩) hbl5).trans r2) (fun e => by have hh : w5.heap.size ≤ w.heap.size := (hcl5.lt _ e.symm).1; omega)); (have b57 : Below w5.heap.size w5 w7 := (show Below w5.heap.size w5 _ by (repeat (first | assumption | exact Below.refl _ _ | refine belowDN ?_ _ | refine Below.drew ?_ | refine Below.setCell ?_ (by first | omega | (simp <;> omega)) _ | refine Below.alloc ?_ (by first | omega | (simp <;> omega)) _ | refine belowCall ?_ (by assumption)))).grown hg7 (by first | (simp; omega) | omega) (fun j e => (hcl5.lt j e).1); clear hg7 hgg)) | (refine Go.step_append_lies _ rfl _ _ 25 rfl w5.heap.size 34 i0 _ 3 24 Try.underlying25 hi hz0 hz1 hz2 rfl (by decide) v6 n (flatMk xs) rfl hcl5 ⟨w5.heap.size, 0, none⟩ 1 1 [.int .i64 x0, .int .i64 x1, .int .i64 x2] rfl rfl (fun j u hj => (b6.cell (p := (⟨w5.heap.size, 0, none⟩ : Addr).add j) (by rw [Go.WideShapes.add_plain]; simp)).trans (cellsMk w5.drew _ _ _ _ j u hj)) (by intro u hu; simp at hu; rcases hu with rfl | rfl | rfl <;> rfl) (by decide) (by unfold maxLen; omega) (by omega) (by first | (simp; omega) | omega) _ rfl ?_; intro g7 c7 w7 hown7 hg7 hgg hlt7; (have c70 := hg7.cell (a := ⟨w.heap.size, 0, none⟩) (v := .int .i64 x0) (by first | assumption | exact ((show Below w5.heap.size w5 _ by (repeat (first | assumption | exact Below.refl _ _ | refine belowDN ?_ _ | refine Below.drew ?_ | refine Below.setCell ?_ (by first | omega | (simp <;> omega)) _ | refine Below.alloc ?_ (by first | omega | (simp <;> omega)) _ | refine belowCall ?_ (by assumption)))).cell (p := ⟨w.heap.size, 0, none⟩) hbl5).trans r0) (fun e => by have hh : w5.heap.size ≤ w.heap.size := (hcl5.lt _ e.symm).1; omega); have c71 := hg7.cell (a := ⟨w.heap.size, 1, none⟩) (v := .int .i64 x1) (by first | assumption | exact ((show Below w5.heap.size w5 _ by (repeat (first | assumption | exact Below.refl _ _ | refine belowDN ?_ _ | refine Below.drew ?_ | refine Below.setCell ?_ (by first | omega | (simp <;> omega)) _ | refine Below.alloc ?_ (by first | omega | (simp <;> omega)) _ | refine belowCall ?_ (by assumption)))).cell (p := ⟨w.heap.size, 1, none⟩) hbl5).trans r1) (fun e => by have hh : w5.heap.size ≤ w.heap.size := (hcl5.lt _ e.symm).1; omega); have c72 := hg7.cell (a := ⟨w.heap.size, 2, none⟩) (v := .int .i64 x2) (by first | assumption | exact ((show Below w5.heap.size w5 _ by (repeat (first | assumption | exact Below.refl _ _ | refine belowDN ?_ _ | refine Below.drew ?_ | refine Below.setCell ?_ (by first | omega | (simp <;> omega)) _ | refine Below.alloc ?_ (by first | omega | (simp <;> omega)) _ | refine belowCall ?_ (by assumption)))).cell (p := ⟨w.heap.size, 2, none⟩) hbl5).trans r2) (fun e => by have hh : w5.heap.size ≤ w.heap.size := (hcl5.lt _ e.symm).1; omega)); (have b57 : Below w5.heap.size w5 w7 := (show Below w5.heap.size w5 _ by (repeat (first | assumption | exact Below.refl _ _ | refine belowDN ?_ _ | refine Below.drew ?_ | refine Below.setCell ?_ (by first | omega | (simp <;> omega)) _ | refine Below.alloc ?_ (by first | omega | (simp <;> omega)) _ | refine belowCall ?_ (by assumption)))).grown hg7 (by first | (simp; omega) | omega) (fun j e => (hcl5.lt j e).1); clear hg7 hgg)))
  all_goals
    have hown8 : w7.ownsRow w5.heap.size 34 3 (.slice (some ⟨g7, 0, none⟩) (n + 1) c7) (n + 1) (flatMk (xs ++ [(x0, x1, x2)])) := by rw [flatMk_snoc]; exact hown7
    have HOWN := Lib.hid (ownLow hown8 C5.size)
    have HLN : Hid ((xs ++ [(x0, x1, x2)]).length = n + 1) := Lib.hid (by rw [List.length_append, HL.out]; rfl)
    have C7 := C5.trans (b57.mono C5.size)
    clear hown7 hown8
    go_wp2
    go_ret2
    exact ⟨by rw [HC.out.1, HC.out.2]; exact MkRes.own HOWN.out HLN.out, C7⟩
end Go.Proofs.Ytfabpcdeppfmdaa
