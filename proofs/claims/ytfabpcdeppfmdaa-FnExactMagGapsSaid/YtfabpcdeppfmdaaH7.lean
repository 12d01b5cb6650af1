/- FieldOf, both sides. -/
import Derived.Test.YtfabpcdeppfmdaaH2
import Derived.Test.YtfabpcdeppfmdaaH3
import Derived.Test.YtfabpcdeppfmdaaGI
import Derived.Test.YtfabpcdeppfmdaaQR
import Derived.Lib.SliceRun
namespace Go.Proofs.Ytfabpcdeppfmdaa
open Go.ChangeShapes Go.WideShapes Go.ChangeAt Go.RowKit Go.Deep

/-- a call's answer: numbers of its own, and a value beside them -/
def IntRes (B : Nat) (L : List Int) (v : Value) (w : World) (e : Ending) : Prop := ∃ a c, e = .returned (.tuple #[.slice a L.length c, v]) ∧ ∀ m, IntO B w a L.length 0 m L
theorem IntRes.nil (B : Nat) (v : Value) (w : World) : IntRes B [] v w (.returned (.tuple #[.slice none 0 0, v])) := ⟨none, 0, rfl, fun _ => .inl ⟨rfl, rfl⟩⟩
theorem IntRes.own {B e n : Nat} {u v : Value} {xs : List Int} {w : World} (h : w.ownsRow B e 1 u n (xs.map (Value.int .i64))) (hn : xs.length = n) : IntRes B xs v w (.returned (.tuple #[u, v])) := by
  subst hn
  rcases h.2 with ⟨hv, h0⟩ | ⟨g, cap, cur, hv, _⟩
  · subst hv
    have : xs = [] := List.length_eq_zero_iff.1 h0
    subst this
    exact IntRes.nil B v w
  · subst hv
    exact ⟨_, cap, rfl, fun _ => IntO.of_own h⟩
theorem ownKeepH {w w' : World} {B e s n : Nat} {v : Value} {xs : List Value} (h : w.ownsRow B e s v n xs) (hb : Below w.heap.size w w') : w'.ownsRow B e s v n xs :=
  h.kept (gBut hb none) (by
    cases hv : v.ownBlock with
    | none => exact .inl rfl
    | some g => exact .inr (by simp))
def hmn (a b : Int) : Int := if b < a then b else a
def hmx (a b : Int) : Int := if a < b then b else a
abbrev Q4 := Int × Int × Int × Int
def fdS (x : Mk) : Q4 := (x.1, x.2.1, x.1, x.2.1)
def fdU (t : Q4) (x : Mk) : Q4 := (hmn t.1 x.1, hmn t.2.1 x.2.1, hmx t.2.2.1 x.1, hmx t.2.2.2 x.2.1)
/-- the box of the first k marks (and of the first one) -/
def fdTo (xs : List Mk) : Nat → Q4
  | 0 => fdS (xs[0]?.getD mk0)
  | k + 1 => fdU (fdTo xs k) (xs[k]?.getD mk0)
theorem fdTo_one (xs : List Mk) : fdTo xs 1 = fdTo xs 0 := by
  simp only [fdTo, fdU, fdS, hmn, hmx]
  simp
def fdC (xs : List Mk) : Int := if okC xs then (if xs.length = 0 then 3 else 0) else 1
def q4L (t : Q4) : List Int := [t.1, t.2.1, t.2.2.1, t.2.2.2]
def fdL (xs : List Mk) : List Int := if fdC xs = 0 then q4L (fdTo xs xs.length) else []
theorem fd_1 {xs : List Mk} (h : okC xs = false) : fdC xs = 1 ∧ fdL xs = [] := by simp [fdL, fdC, h]
theorem fd_3 {xs : List Mk} {n : Nat} (hn : xs.length = n) (h : okC xs = true) (h2 : n = 0) : fdC xs = 3 ∧ fdL xs = [] := by
  have : xs.length = 0 := by omega
  simp [fdL, fdC, h, this]
theorem fd_0 {xs : List Mk} {n : Nat} (hn : xs.length = n) (h : okC xs = true) (h2 : 0 < n) : fdC xs = 0 ∧ fdL xs = q4L (fdTo xs n) := by
  have : ¬ n = 0 := by omega
  simp [fdL, fdC, h, hn, this]
theorem fdL_len (xs : List Mk) : (fdL xs).length ≤ 1048576 := by
  unfold fdL
  split <;> simp [q4L]
theorem flipH {P : Program} {f : FuncId} {args : Array Value} {w : World} {v : Value} (h : Calls P f args w fun e w' => e = .returned v ∧ w = w') : Calls P f args w fun e w' => e = .returned v ∧ w' = w :=
  h.mono fun _ _ hh => ⟨hh.1, hh.2.symm⟩
theorem hMin_any (a b : Int) (w : World) :
    Calls Try.prog 52 #[.int .i64 a, .int .i64 b] w fun e w' => e = .returned (.int .i64 (hmn a b)) ∧ w = w' := by
  by_cases h : a < b
  all_goals
    go_enter Try.func52, Try.ntmps52
    go_wp2
    go_ret
    exact ⟨ret_int (by unfold hmn; split <;> omega), rfl⟩
theorem hMax_any (a b : Int) (w : World) :
    Calls Try.prog 53 #[.int .i64 a, .int .i64 b] w fun e w' => e = .returned (.int .i64 (hmx a b)) ∧ w = w' := by
  by_cases h : a > b
  all_goals
    go_enter Try.func53, Try.ntmps53
    go_wp2
    go_ret
    exact ⟨ret_int (by unfold hmx; split <;> omega), rfl⟩
set_option maxRecDepth 100000 in
set_option maxHeartbeats 4000000 in
theorem sField_any (a : Option Addr) (n c : Nat) (xs : List Mk) (w : World) (h : MkL w a n xs) (hn : n ≤ 1048576) :
    Calls Try.prog 31 #[.slice a n c] w fun e w' => IntRes w.heap.size (fdL xs) (.int .i64 (fdC xs)) w' e ∧ Below w.heap.size w w' := by
  have HL := Lib.hid h.1
  have hl : (n : Int) ≤ 1048576 := by omega
  cases hok : okC xs
  · have HC := Lib.hid (fd_1 hok)
    go_enter Try.func31, Try.ntmps31
    go_wp2_with fail
    (refine (l07Ok_any a n c xs w h hn).mono ?_; rintro e w2 ⟨rfl, b2⟩; rw [hok])
    go_wp2
    go_ret2
    exact ⟨by rw [HC.out.1, HC.out.2]; exact IntRes.nil _ _ _, b2⟩
  by_cases hz : n = 0
  · have HC := Lib.hid (fd_3 HL.out hok hz)
    have hd : ((n : Int) == 0) = true := by simp; omega
    clear hz
    go_enter Try.func31, Try.ntmps31
    go_wp2_with fail
    (refine (l07Ok_any a n c xs w h hn).mono ?_; rintro e w2 ⟨rfl, b2⟩; rw [hok])
    go_wp2
    go_ret2
    exact ⟨by rw [HC.out.1, HC.out.2]; exact IntRes.nil _ _ _, b2⟩
  have hn0 : 0 < n := by omega
  have HC := Lib.hid (fd_0 HL.out hok hn0)
  have hd : ((n : Int) == 0) = false := by simp; omega
  clear hz
  go_enter Try.func31, Try.ntmps31
  go_wp2_with fail
  (refine (l07Ok_any a n c xs w h hn).mono ?_; rintro e w2 ⟨rfl, b2⟩; rw [hok])
  have h2 := h.mono b2
  clear hok
  obtain ⟨b1, o1, rfl, hc⟩ := h2.2 0 hn0
  obtain ⟨⟨x0, x1, x2⟩, hx⟩ : ∃ x, xs[0]?.getD mk0 = x := ⟨_, rfl⟩
  rw [hx] at hc
  rw [Nat.zero_mul, Nat.add_zero] at hc
  obtain ⟨-, p0, p1, p2⟩ := hc.parts
  have HX : Hid (fdTo xs 1 = (x0, x1, x0, x1)) := Lib.hid (by rw [fdTo_one]; simp only [fdTo, fdS, hx])
  have hnn : (0 : Int) < (n : Int) := by omega
  clear hx hc
  go_wp2
  refine region_tail 16 (by kernel_rfl) (by kernel_rfl) ?_
  (simp only [List.take_succ_cons, List.take_zero, List.drop_succ_cons, List.drop_zero])
  (repeat (go_big_quiet_step (fail)))
  refine wpQuiet_nil ?_
  have B2 : Below w.heap.size w w2.drew := b2.drew
  have h3 : MkL w2.drew (some ⟨b1, o1, none⟩) n xs := h2.mono (Below.drew (Below.refl _ _))
  clear p0 p1 p2
  generalize w2.drew = w3 at B2 h3 ⊢
  go_wp2
  go_loopw [4, 5] (fun o i wr => ∃ k g : Nat, 1 ≤ k ∧ k ≤ n ∧ i = .int .i64 k ∧ o = .slice (some ⟨g, 0, none⟩) 4 4 ∧ wr.ownsRow w3.heap.size 2 1 (.slice (some ⟨g, 0, none⟩) 4 4) 4 ((q4L (fdTo xs k)).map (Value.int .i64)) ∧ Below w3.heap.size w3 wr) (fun _ i _ => n - (Go.RowKit.intOf i).toNat)
  case atStart => exact ⟨1, w3.heap.size, Nat.le_refl _, hn0, rfl, rfl, by rw [HX.out]; exact World.ownsRow_lit w3 #[.int .i64 x0, .int .i64 x1, .int .i64 x0, .int .i64 x1] 4 (Nat.le_refl _) (by unfold maxLen; omega) rfl, by (repeat (first | assumption | exact Below.refl _ _ | refine belowDN ?_ _ | refine Below.drew ?_ | refine Below.setCell ?_ (by first | omega | (simp <;> omega)) _ | refine Below.alloc ?_ (by first | omega | (simp <;> omega)) _ | refine belowCall ?_ (by assumption)))⟩
  case round =>
    obtain ⟨k, g, hk1, hk, rfl, rfl, hown, hB⟩ := hrel
    by_cases hlt : k < n
    · obtain ⟨b1', o1', he, hc⟩ := h3.2 k hlt
      cases he
      obtain ⟨⟨y0, y1, y2⟩, hy⟩ : ∃ x, xs[k]?.getD mk0 = x := ⟨_, rfl⟩
      rw [hy] at hc
      obtain ⟨⟨t0, t1, t2, t3⟩, ht⟩ : ∃ t, fdTo xs k = t := ⟨_, rfl⟩
      have HT : Hid (fdTo xs (k + 1) = (hmn t0 y0, hmn t1 y1, hmx t2 y0, hmx t3 y1)) := Lib.hid (by simp only [fdTo, ht, hy, fdU])
      rw [ht] at hown
      obtain ⟨-, p0, p1, p2⟩ := (hc.mono hB).parts
      have c0 : wr.cell? ⟨g, 0, none⟩ = some (.int .i64 t0) := by rw [hown.cellAt 0 (by omega)]; rfl
      have c1 : wr.cell? ⟨g, 1, none⟩ = some (.int .i64 t1) := by rw [hown.cellAt 1 (by omega)]; rfl
      have c2 : wr.cell? ⟨g, 2, none⟩ = some (.int .i64 t2) := by rw [hown.cellAt 2 (by omega)]; rfl
      have c3 : wr.cell? ⟨g, 3, none⟩ = some (.int .i64 t3) := by rw [hown.cellAt 3 (by omega)]; rfl
      have hkk : (k : Int) < (n : Int) := by omega
      have hk0 : (0 : Int) ≤ (k : Int) := by omega
      clear hy ht hc hown
      go_wp2
      refine region_tail 36 (by kernel_rfl) (by kernel_rfl) ?_
      (simp only [List.take_succ_cons, List.take_zero, List.drop_succ_cons, List.drop_zero])
      (repeat (go_big_quiet_step (fail)))
      (go_big_quiet_want; go_big_quiet_op; apply Exists.intro; refine ⟨?_, ?_⟩; exact flipH (hMin_any _ _ _); go_big_quiet_on; (repeat (go_big_quiet_step (fail))))
      (go_big_quiet_want; go_big_quiet_op; apply Exists.intro; refine ⟨?_, ?_⟩; exact flipH (hMin_any _ _ _); go_big_quiet_on; (repeat (go_big_quiet_step (fail))))
      (go_big_quiet_want; go_big_quiet_op; apply Exists.intro; refine ⟨?_, ?_⟩; exact flipH (hMax_any _ _ _); go_big_quiet_on; (repeat (go_big_quiet_step (fail))))
      (go_big_quiet_want; go_big_quiet_op; apply Exists.intro; refine ⟨?_, ?_⟩; exact flipH (hMax_any _ _ _); go_big_quiet_on; (repeat (go_big_quiet_step (fail))))
      refine wpQuiet_nil ?_
      have hB2 : Below w3.heap.size w3 wr.drew := hB.drew
      clear p0 p1 p2 c0 c1 c2 c3
      generalize wr.drew = w5 at hB2 ⊢
      have z5 := hB2.size
      go_wp2
      go_roundw
      case rel => exact ⟨k + 1, w5.heap.size, by omega, by omega, by go_num, rfl, by rw [HT.out]; exact World.ownsRow_lit w5 #[.int .i64 (hmn t0 y0), .int .i64 (hmn t1 y1), .int .i64 (hmx t2 y0), .int .i64 (hmx t3 y1)] 4 z5 (by unfold maxLen; omega) rfl, by (repeat (first | assumption | exact Below.refl _ _ | refine belowDN ?_ _ | refine Below.drew ?_ | refine Below.setCell ?_ (by first | omega | (simp <;> omega)) _ | refine Below.alloc ?_ (by first | omega | (simp <;> omega)) _ | refine belowCall ?_ (by assumption)))⟩
      case measure => simp [Go.RowKit.intOf]; omega
    · obtain rfl : k = n := by omega
      have HO := Lib.hid (ownLow hown B2.size)
      clear hown
      go_wp2
      go_ret2
      exact ⟨by rw [HC.out.1, HC.out.2]; exact IntRes.own HO.out rfl, belowCall B2 hB⟩
theorem spot_any (x0 x1 x2 : Int) (w : World) :
    Calls Try.prog 54 #[.agg #[.int .i64 x0, .int .i64 x1, .int .i64 x2]] w fun e w' => e = .returned (.agg #[.int .i64 x0, .int .i64 x1, .int .i64 x0, .int .i64 x1]) ∧ Below w.heap.size w w' := by
  go_enter Try.func54, Try.ntmps54
  go_wp2
  exact bodyPost_ret (v := .agg #[.int .i64 x0, .int .i64 x1, .int .i64 x0, .int .i64 x1]) (by simp [results, Try.results54, go_sem]) rfl ⟨rfl, by (repeat (first | assumption | exact Below.refl _ _ | refine belowDN ?_ _ | refine Below.drew ?_ | refine Below.setCell ?_ (by first | omega | (simp <;> omega)) _ | refine Below.alloc ?_ (by first | omega | (simp <;> omega)) _ | refine belowCall ?_ (by assumption)))⟩
set_option maxHeartbeats 2000000 in
theorem union_any (a0 a1 a2 a3 b0 b1 b2 b3 : Int) (w : World) :
    Calls Try.prog 55 #[.agg #[.int .i64 a0, .int .i64 a1, .int .i64 a2, .int .i64 a3], .agg #[.int .i64 b0, .int .i64 b1, .int .i64 b2, .int .i64 b3]] w fun e w' => e = .returned (.agg #[.int .i64 (hmn a0 b0), .int .i64 (hmn a1 b1), .int .i64 (hmx a2 b2), .int .i64 (hmx a3 b3)]) ∧ Below w.heap.size w w' := by
  go_enter Try.func55, Try.ntmps55
  go_wp2
  all_goals
    refine bodyPost_ret (v := .agg #[.int .i64 (hmn a0 b0), .int .i64 (hmn a1 b1), .int .i64 (hmx a2 b2), .int .i64 (hmx a3 b3)]) ?_ rfl ⟨rfl, by (repeat (first | assumption | exact Below.refl _ _ | refine belowDN ?_ _ | refine Below.drew ?_ | refine Below.setCell ?_ (by first | omega | (simp <;> omega)) _ | refine Below.alloc ?_ (by first | omega | (simp <;> omega)) _ | refine belowCall ?_ (by assumption)))⟩
    simp [results, Try.results55, go_sem, hmn, hmx] <;> omega
theorem boxList_any (a0 a1 a2 a3 : Int) (w : World) :
    Calls Try.prog 56 #[.agg #[.int .i64 a0, .int .i64 a1, .int .i64 a2, .int .i64 a3]] w fun e w' => ∃ g, e = .returned (.slice (some ⟨g, 0, none⟩) 4 4) ∧ w'.ownsRow w.heap.size 2 1 (.slice (some ⟨g, 0, none⟩) 4 4) 4 ((q4L (a0, a1, a2, a3)).map (Value.int .i64)) ∧ Below w.heap.size w w' := by
  go_enter Try.func56, Try.ntmps56
  go_wp2
  go_ret
  have hl := World.ownsRow_lit (base := w.heap.size) (e := 2) (size := 1) (w.alloc (.cells #[.int .i64 a0, .int .i64 a1, .int .i64 a2, .int .i64 a3] 65)) #[.int .i64 a0, .int .i64 a1, .int .i64 a2, .int .i64 a3] 4 (by simp) (by unfold maxLen; omega) rfl
  rw [World.size_alloc] at hl
  exact ⟨_, rfl, hl, by (repeat (first | assumption | exact Below.refl _ _ | refine belowDN ?_ _ | refine Below.drew ?_ | refine Below.setCell ?_ (by first | omega | (simp <;> omega)) _ | refine Below.alloc ?_ (by first | omega | (simp <;> omega)) _ | refine belowCall ?_ (by assumption)))⟩
def q4F (t : Q4) (j : Nat) : Option Value := if j = 0 then some (.int .i64 t.1) else if j = 1 then some (.int .i64 t.2.1) else if j = 2 then some (.int .i64 t.2.2.1) else some (.int .i64 t.2.2.2)
/-- a box in a block -/
def Bx4 (w : World) (g : Nat) (t : Q4) : Prop := SMG w g 4 (q4F t)
theorem Bx4.below {w w' : World} {g : Nat} {t : Q4} (h : Bx4 w g t) (hb : Below w.heap.size w w') : Bx4 w' g t := SMG.below h hb
theorem Bx4.put {w : World} {g : Nat} {t : Q4} (h : Bx4 w g t) (a b c d : Int) : Bx4 ((((w.setCell ⟨g, 0, none⟩ (.int .i64 a)).setCell ⟨g, 1, none⟩ (.int .i64 b)).setCell ⟨g, 2, none⟩ (.int .i64 c)).setCell ⟨g, 3, none⟩ (.int .i64 d)) g (a, b, c, d) :=
  ((((SMG.put h 0 _).put 1 _).put 2 _).put 3 _).congr (fun j u hj hu => by
    match j, hj with
    | 0, _ => simpa [q4F] using hu
    | 1, _ => simpa [q4F] using hu
    | 2, _ => simpa [q4F] using hu
    | 3, _ => simpa [q4F] using hu)
theorem Bx4.parts {w : World} {g : Nat} {t0 t1 t2 t3 : Int} (h : Bx4 w g (t0, t1, t2, t3)) : g < w.heap.size ∧ (w.cell? ⟨g, 0, none⟩ = some (.int .i64 t0) ∧ w.cell? ⟨g, 1, none⟩ = some (.int .i64 t1) ∧ w.cell? ⟨g, 2, none⟩ = some (.int .i64 t2) ∧ w.cell? ⟨g, 3, none⟩ = some (.int .i64 t3)) ∧ w.frozen? ⟨g, 0, none⟩ = false ∧ w.frozen? ⟨g, 1, none⟩ = false ∧ w.frozen? ⟨g, 2, none⟩ = false ∧ w.frozen? ⟨g, 3, none⟩ = false := by
  obtain ⟨hl, ⟨v0, c0, e0⟩, f0⟩ := h 0 (by decide)
  obtain ⟨-, ⟨v1, c1, e1⟩, f1⟩ := h 1 (by decide)
  obtain ⟨-, ⟨v2, c2, e2⟩, f2⟩ := h 2 (by decide)
  obtain ⟨-, ⟨v3, c3, e3⟩, f3⟩ := h 3 (by decide)
  exact ⟨hl, ⟨by rw [c0, e0 _ rfl], by rw [c1, e1 _ rfl], by rw [c2, e2 _ rfl], by rw [c3, e3 _ rfl]⟩, f0, f1, f2, f3⟩
theorem fresh_unfrozen (w : World) (c : Array Value) (T : TypeId) (j : Nat) : (w.alloc (.cells c T)).frozen? ⟨w.heap.size, j, none⟩ = false := by go_keep
theorem Bx4.fresh (w : World) (T : TypeId) (t0 t1 t2 t3 : Int) : Bx4 (w.alloc (.cells #[.int .i64 t0, .int .i64 t1, .int .i64 t2, .int .i64 t3] T)) w.heap.size (t0, t1, t2, t3) := fun j hj => by
  refine ⟨by simp, ?_, ?_⟩
  · match j, hj with
    | 0, _ => exact ⟨_, World.cell?_alloc_new .., fun u hu => by simpa [q4F] using hu⟩
    | 1, _ => exact ⟨_, World.cell?_alloc_new .., fun u hu => by simpa [q4F] using hu⟩
    | 2, _ => exact ⟨_, World.cell?_alloc_new .., fun u hu => by simpa [q4F] using hu⟩
    | 3, _ => exact ⟨_, World.cell?_alloc_new .., fun u hu => by simpa [q4F] using hu⟩
  · exact fresh_unfrozen w _ T j
set_option maxRecDepth 100000 in
set_option maxHeartbeats 4000000 in
theorem iField_any (a : Option Addr) (n c : Nat) (xs : List Mk) (w : World) (h : MkL w a n xs) (hn : n ≤ 1048576) (hcap : n ≤ c) :
    Calls Try.prog 32 #[.slice a n c] w fun e w' => IntRes w.heap.size (fdL xs) (.int .i64 (fdC xs)) w' e ∧ Below w.heap.size w w' := by
  have HL := Lib.hid h.1
  have hl : (n : Int) ≤ 1048576 := by omega
  cases hok : okC xs
  · have HC := Lib.hid (fd_1 hok)
    go_enter Try.func32, Try.ntmps32
    go_wp2_with fail
    (refine (iValidC_any a n c xs w h hn hcap).mono ?_; rintro e w2 ⟨rfl, b2⟩; rw [hok])
    go_wp2
    go_ret2
    exact ⟨by rw [HC.out.1, HC.out.2]; exact IntRes.nil _ _ _, b2⟩
  by_cases hz : n = 0
  · have HC := Lib.hid (fd_3 HL.out hok hz)
    have hd : ((n : Int) == 0) = true := by simp; omega
    clear hz
    go_enter Try.func32, Try.ntmps32
    go_wp2_with fail
    (refine (iValidC_any a n c xs w h hn hcap).mono ?_; rintro e w2 ⟨rfl, b2⟩; rw [hok])
    go_wp2
    go_ret2
    exact ⟨by rw [HC.out.1, HC.out.2]; exact IntRes.nil _ _ _, b2⟩
  have hn0 : 0 < n := by omega
  have HC := Lib.hid (fd_0 HL.out hok hn0)
  have hd : ((n : Int) == 0) = false := by simp; omega
  clear hz
  go_enter Try.func32, Try.ntmps32
  go_wp2_with fail
  (refine (iValidC_any a n c xs w h hn hcap).mono ?_; rintro e w2 ⟨rfl, b2⟩; rw [hok])
  have h2 := h.mono b2
  clear hok
  obtain ⟨b1, o1, rfl, hc⟩ := h2.2 0 hn0
  obtain ⟨⟨x0, x1, x2⟩, hx⟩ : ∃ x, xs[0]?.getD mk0 = x := ⟨_, rfl⟩
  rw [hx] at hc
  rw [Nat.zero_mul, Nat.add_zero] at hc
  obtain ⟨-, p0, p1, p2⟩ := hc.parts
  have HX : Hid (fdTo xs 0 = (x0, x1, x0, x1)) := Lib.hid (by simp only [fdTo, fdS, hx])
  have hnn : (0 : Int) < (n : Int) := by omega
  clear hx hc
  go_wp2_with fail
  refine (spot_any x0 x1 x2 w2).mono ?_
  rintro e w3 ⟨rfl, b3⟩
  have B3 := belowCall b2 b3
  have h3 := h2.mono b3
  have B3s := B3.size
  go_wp2
  go_loopw [19] (fun i wr => ∃ k : Nat, k ≤ n ∧ i = .int .i64 k ∧ Bx4 wr w3.heap.size (fdTo xs k) ∧ Below w3.heap.size w3 wr) (fun i _ => n - (Go.RowKit.intOf i).toNat)
  case atStart => exact ⟨0, Nat.zero_le _, rfl, by rw [HX.out]; exact Bx4.fresh _ _ _ _ _ _, by (repeat (first | assumption | exact Below.refl _ _ | refine belowDN ?_ _ | refine Below.drew ?_ | refine Below.setCell ?_ (by first | omega | (simp <;> omega)) _ | refine Below.alloc ?_ (by first | omega | (simp <;> omega)) _ | refine belowCall ?_ (by assumption)))⟩
  case round =>
    obtain ⟨k, hk, rfl, hbx, hB⟩ := hrel
    have zr := hB.size
    by_cases hlt : k < n
    · obtain ⟨b1', o1', he, hc⟩ := h3.2 k hlt
      cases he
      obtain ⟨⟨x0, x1, x2⟩, hy⟩ : ∃ x, xs[k]?.getD mk0 = x := ⟨_, rfl⟩
      rw [hy] at hc
      obtain ⟨⟨t0, t1, t2, t3⟩, ht⟩ : ∃ t, fdTo xs k = t := ⟨_, rfl⟩
      have HT : Hid (fdTo xs (k + 1) = (hmn t0 x0, hmn t1 x1, hmx t2 x0, hmx t3 x1)) := Lib.hid (by simp only [fdTo, ht, hy, fdU])
      rw [ht] at hbx
      obtain ⟨-, p0, p1, p2⟩ := (hc.mono hB).parts
      have hkk : (k : Int) < (n : Int) := by omega
      have hbx1 := hbx.below ((Below.refl _ _).alloc (Nat.le_refl _) (.cells #[.int .i64 x0, .int .i64 x1, .int .i64 x2] 34))
      have hA : Below w3.heap.size w3 (wr.alloc (.cells #[.int .i64 x0, .int .i64 x1, .int .i64 x2] 34)) := by (repeat (first | assumption | exact Below.refl _ _ | refine belowDN ?_ _ | refine Below.drew ?_ | refine Below.setCell ?_ (by first | omega | (simp <;> omega)) _ | refine Below.alloc ?_ (by first | omega | (simp <;> omega)) _ | refine belowCall ?_ (by assumption)))
      have hm1 := MkC.fresh wr 34 x0 x1 x2
      have hz1 : wr.heap.size < (wr.alloc (.cells #[.int .i64 x0, .int .i64 x1, .int .i64 x2] 34)).heap.size := by simp
      clear hy ht hc hbx
      go_wp2_with fail
      generalize wr.alloc (.cells #[.int .i64 x0, .int .i64 x1, .int .i64 x2] 34) = w1 at hbx1 hA hm1 hz1 ⊢
      obtain ⟨-, m0, m1, m2⟩ := hm1.parts
      rw [Nat.zero_add] at m1 m2
      obtain ⟨hg1, ⟨i0, i1, i2, i3⟩, -⟩ := hbx1.parts
      go_region_with (first | (go_at_call 54; refine (spot_any x0 x1 x2 _).mono ?_; rintro e w3 ⟨rfl, b3⟩; have B13 : Below w1.heap.size w1 w3 := belowCall (Below.drew (Below.refl _ _)) b3; have hb3 := hbx1.below B13; obtain ⟨hg3, ⟨k0, k1, k2, k3⟩, -⟩ := hb3.parts) | (go_at_call 55; refine (union_any _ _ _ _ _ _ _ _ _).mono ?_; rintro e w4 ⟨rfl, b4⟩; have B14 := belowCall B13 b4; have hb4 := hb3.below b4; obtain ⟨hg4, ⟨j0, j1, j2, j3⟩, z0, z1, z2, z3⟩ := hb4.parts))
      all_goals
        have HB := Lib.hid (hb4.put (hmn t0 x0) (hmn t1 x1) (hmx t2 x0) (hmx t3 x1))
        have hB4 := belowCall hA B14
        have z4 := hB4.size
        clear hb4 hb3 hbx1
        go_wp2
        go_roundw
        case rel => exact ⟨k + 1, by omega, by go_num, by rw [HT.out]; exact HB.out, by (repeat (first | assumption | exact Below.refl _ _ | refine belowDN ?_ _ | refine Below.drew ?_ | refine Below.setCell ?_ (by first | omega | (simp <;> omega)) _ | refine Below.alloc ?_ (by first | omega | (simp <;> omega)) _ | refine belowCall ?_ (by assumption)))⟩
        case measure => simp [Go.RowKit.intOf]; omega
    · obtain rfl : k = n := by omega
      obtain ⟨⟨t0, t1, t2, t3⟩, ht⟩ : ∃ t, fdTo xs k = t := ⟨_, rfl⟩
      rw [ht] at hbx HC
      obtain ⟨hg1, ⟨i0, i1, i2, i3⟩, -⟩ := hbx.parts
      clear ht
      go_wp2_with fail
      refine (boxList_any _ _ _ _ _).mono ?_
      rintro e w5 ⟨g5, rfl, hown, b5⟩
      have HO := Lib.hid (ownLow hown (Nat.le_trans B3s zr))
      clear hown
      go_wp2
      go_ret2
      exact ⟨by rw [HC.out.1, HC.out.2]; exact IntRes.own HO.out rfl, belowCall (belowCall B3 hB) b5⟩
end Go.Proofs.Ytfabpcdeppfmdaa
