/- Estimates: what one is; the small functions of chapter 6 on one or two of them. -/
import Derived.Test.YtfnjndbnogeddaaDoorE0
import Derived.Test.YtfnjndbnogeddaaDoorB7
import Derived.Deep.RegionHeld3
import Derived.WalkLawsBesides
import Derived.Lib.SmallJoins
import Derived.Shelf.SlGeneric
import Derived.Shelf.Lay
import Derived.Ground.NamesProg
namespace Go.Proofs.YtfnjndbnogeddaaDoor
open Go.ChangeShapes Go.WideShapes Go.ChangeAt Go.RowKit Go.Deep Go.Shelf

def esB (x : Es) : Bool := tmB x.1 && (nameB x.2.1 && (nameB x.2.2.1 && magB x.2.2.2.1))
set_option maxHeartbeats 1000000 in
theorem l06One_any (b o : Nat) (x0 : Int) (x1 x2 : ByteArray) (x3 : Int) (x4 : Bool) (w : World) (hS : EsC w b o (x0, x1, x2, x3, x4)) :
    Calls Tryd.prog 30 #[.pointer (some ⟨b, o, none⟩)] w fun e w' => e = .returned (.bool (esB (x0, x1, x2, x3, x4))) ∧ ∃ m, w' = w.drewN m := by
  obtain ⟨hlt, c0, c1, c2, c3, c4⟩ := hS.parts
  clear hS
  cases h0 : tmB x0
  · (go_enter Tryd.func30, Tryd.ntmps30; go_wp2_with (first | (go_at_call 44; refine (l06Time_any _ _).mono ?_; rintro e w' ⟨rfl, rfl⟩; rw [h0]) | (go_at_call 45; refine (sIsName_same _ _).mono ?_; rintro e w' ⟨rfl, rfl⟩; (first | rw [h1] | rw [h2])) | (go_at_call 46; refine (l02Mag_any _ _).mono ?_; rintro e w' ⟨rfl, rfl⟩)); go_ret; exact ⟨by simp [esB, *], 0, rfl⟩)
  cases h1 : nameB x1
  · (go_enter Tryd.func30, Tryd.ntmps30; go_wp2_with (first | (go_at_call 44; refine (l06Time_any _ _).mono ?_; rintro e w' ⟨rfl, rfl⟩; rw [h0]) | (go_at_call 45; refine (sIsName_same _ _).mono ?_; rintro e w' ⟨rfl, rfl⟩; (first | rw [h1] | rw [h2])) | (go_at_call 46; refine (l02Mag_any _ _).mono ?_; rintro e w' ⟨rfl, rfl⟩)); go_ret; exact ⟨by simp [esB, *], 0, rfl⟩)
  cases h2 : nameB x2
  · (go_enter Tryd.func30, Tryd.ntmps30; go_wp2_with (first | (go_at_call 44; refine (l06Time_any _ _).mono ?_; rintro e w' ⟨rfl, rfl⟩; rw [h0]) | (go_at_call 45; refine (sIsName_same _ _).mono ?_; rintro e w' ⟨rfl, rfl⟩; (first | rw [h1] | rw [h2])) | (go_at_call 46; refine (l02Mag_any _ _).mono ?_; rintro e w' ⟨rfl, rfl⟩)); go_ret; exact ⟨by simp [esB, *], 0, rfl⟩)
  (go_enter Tryd.func30, Tryd.ntmps30; go_wp2_with (first | (go_at_call 44; refine (l06Time_any _ _).mono ?_; rintro e w' ⟨rfl, rfl⟩; rw [h0]) | (go_at_call 45; refine (sIsName_same _ _).mono ?_; rintro e w' ⟨rfl, rfl⟩; (first | rw [h1] | rw [h2])) | (go_at_call 46; refine (l02Mag_any _ _).mono ?_; rintro e w' ⟨rfl, rfl⟩)); go_ret; exact ⟨by simp [esB, *], 0, rfl⟩)
theorem l06One_val (b o : Nat) (x0 : Int) (x1 x2 : ByteArray) (x3 : Int) (x4 : Bool) (w : World) (t : Bool) (hS : EsC w b o (x0, x1, x2, x3, x4)) (hv : esB (x0, x1, x2, x3, x4) = t) :
    Calls Tryd.prog 30 #[.pointer (some ⟨b, o, none⟩)] w fun e w' => e = .returned (.bool t) ∧ ∃ m, w' = w.drewN m :=
  (l06One_any b o x0 x1 x2 x3 x4 w hS).mono fun _ _ ⟨h1, h2⟩ => ⟨by rw [h1, hv], h2⟩
theorem l06One_q (b o : Nat) (x0 : Int) (x1 x2 : ByteArray) (x3 : Int) (x4 : Bool) (w : World) (t : Bool) (q n : Nat) (hS : EsC w b o (x0, x1, x2, x3, x4)) (hv : esB (x0, x1, x2, x3, x4) = t) :
    Calls Tryd.prog 30 #[.pointer (some ⟨b, o, none⟩)] (w.drewN (q + n)) fun e w' => e = .returned (.bool t) ∧ ∃ m, w' = w.drewN (q + m) :=
  (l06One_val b o x0 x1 x2 x3 x4 (w.drewN (q + n)) t (hS.mono (belowDN (Below.refl _ _) _)) hv).mono fun _ _ ⟨h1, m, h2⟩ => ⟨h1, n + m, by rw [h2, World.drewN_drewN, Nat.add_assoc]⟩
theorem l06One_below (b o : Nat) (x0 : Int) (x1 x2 : ByteArray) (x3 : Int) (x4 : Bool) (w : World) (hS : EsC w b o (x0, x1, x2, x3, x4)) :
    Calls Tryd.prog 30 #[.pointer (some ⟨b, o, none⟩)] w fun e w' => e = .returned (.bool (esB (x0, x1, x2, x3, x4))) ∧ Below w.heap.size w w' :=
  (l06One_any b o x0 x1 x2 x3 x4 w hS).mono fun _ _ ⟨h1, m, h2⟩ => ⟨h1, h2 ▸ belowDN (Below.refl _ _) m⟩
set_option maxHeartbeats 1000000 in
theorem l06Before_any (b o b' o' : Nat) (x0 : Int) (x1 x2 : ByteArray) (x3 : Int) (x4 : Bool) (y0 : Int) (y1 y2 : ByteArray) (y3 : Int) (y4 : Bool) (w : World) (hS : EsC w b o (x0, x1, x2, x3, x4)) (hT : EsC w b' o' (y0, y1, y2, y3, y4)) :
    Calls Tryd.prog 31 #[.pointer (some ⟨b, o, none⟩), .pointer (some ⟨b', o', none⟩)] w fun e w' => e = .returned (.bool (esLt (x0, x1, x2, x3, x4) (y0, y1, y2, y3, y4))) ∧ ∃ m, w' = w.drewN m := by
  obtain ⟨hlt, c0, c1, c2, c3, c4⟩ := hS.parts
  obtain ⟨hlt', d0, d1, d2, d3, d4⟩ := hT.parts
  clear hS hT
  by_cases h0 : x0 = y0
  · by_cases h1 : x1 = y1
    · have HV : Hid (esLt (x0, x1, x2, x3, x4) (y0, y1, y2, y3, y4) = Op.bytesLess x2.toList y2.toList) := Lib.hid ((show esLt (x0, x1, x2, x3, x4) (y0, y1, y2, y3, y4) = bl x2 y2 from by simp [esLt, h0, h1, bl_irrefl]).trans rfl)
      have n0 : (x0 != y0) = false := by simp [h0]
      have n1 : (!x1.toList == y1.toList) = false := by simp [h1]
      clear h0 h1
      go_enter Tryd.func31, Tryd.ntmps31
      go_wp2
      go_big_quiet (fail)
      go_wp2
      go_big_quiet (fail)
      go_wp2
      go_big_quiet (fail)
      go_wp2
      go_ret
      exact ⟨by rw [HV.out]; rfl, _, by simp only [World.drewN_drewN]; rfl⟩
    · have HV : Hid (esLt (x0, x1, x2, x3, x4) (y0, y1, y2, y3, y4) = Op.bytesLess x1.toList y1.toList) := Lib.hid (by simp [esLt, h0, h1, bl])
      have n0 : (x0 != y0) = false := by simp [h0]
      have n1 : (!x1.toList == y1.toList) = true := by simpa using fun e => h1 (ba_eq.1 e)
      clear h0 h1
      go_enter Tryd.func31, Tryd.ntmps31
      go_wp2
      go_big_quiet (fail)
      go_wp2
      go_big_quiet (fail)
      go_wp2
      go_big_quiet (fail)
      go_wp2
      go_ret
      exact ⟨by rw [HV.out]; rfl, _, by simp only [World.drewN_drewN]; rfl⟩
  · have HV : Hid (esLt (x0, x1, x2, x3, x4) (y0, y1, y2, y3, y4) = decide (x0 < y0)) := Lib.hid (by simp [esLt, h0])
    have n0 : (x0 != y0) = true := by simp [h0]
    clear h0
    go_enter Tryd.func31, Tryd.ntmps31
    go_wp2
    go_big_quiet (fail)
    go_wp2
    go_big_quiet (fail)
    go_wp2
    go_ret
    exact ⟨by rw [HV.out]; rfl, _, by simp only [World.drewN_drewN]; rfl⟩
theorem l06Before_q (b o b' o' : Nat) (x0 : Int) (x1 x2 : ByteArray) (x3 : Int) (x4 : Bool) (y0 : Int) (y1 y2 : ByteArray) (y3 : Int) (y4 : Bool) (w : World) (t : Bool) (q n : Nat) (hS : EsC w b o (x0, x1, x2, x3, x4)) (hT : EsC w b' o' (y0, y1, y2, y3, y4)) (hv : esLt (x0, x1, x2, x3, x4) (y0, y1, y2, y3, y4) = t) :
    Calls Tryd.prog 31 #[.pointer (some ⟨b, o, none⟩), .pointer (some ⟨b', o', none⟩)] (w.drewN (q + n)) fun e w' => e = .returned (.bool t) ∧ ∃ m, w' = w.drewN (q + m) :=
  (l06Before_any b o b' o' x0 x1 x2 x3 x4 y0 y1 y2 y3 y4 (w.drewN (q + n)) (hS.mono (belowDN (Below.refl _ _) _)) (hT.mono (belowDN (Below.refl _ _) _))).mono fun _ _ ⟨h1, m, h2⟩ => ⟨by rw [h1, hv], n + m, by rw [h2, World.drewN_drewN, Nat.add_assoc]⟩
set_option maxHeartbeats 1000000 in
theorem esValid_any (x0 : Int) (x1 x2 : ByteArray) (x3 : Int) (x4 : Bool) (w : World) :
    Calls Tryd.prog 89 #[.agg #[.int .i64 x0, .string x1, .string x2, .int .i64 x3, .bool x4]] w fun e w' => e = .returned (.bool (esB (x0, x1, x2, x3, x4))) ∧ Below w.heap.size w w' := by
  cases h0 : tmB x0
  · (go_enter Tryd.func89, Tryd.ntmps89; go_wp2_with (first | (go_at_call 90; refine (iTm_any _ _).mono ?_; rintro e w' ⟨rfl, rfl⟩; rw [h0]) | (go_at_call 91; refine (iIsName_any _ _).mono ?_; rintro e w' ⟨rfl, hbel⟩; obtain ⟨hc, hf⟩ := bcell hbel; have hz := hbel.size; (try simp at hz); (try simp only [Nat.add_one_le_iff] at hz); (try (have hzw : w.heap.size < w'.heap.size := by omega)); (first | rw [h1] | rw [h2])) | (go_at_call 49; refine (iValidMag_any _ _).mono ?_; rintro e w' ⟨rfl, rfl⟩)); go_ret; exact ⟨by simp [esB, *], by (repeat (first | assumption | exact Below.refl _ _ | refine belowDN ?_ _ | refine Below.drew ?_ | refine Below.setCell ?_ (by first | omega | (simp <;> omega)) _ | refine Below.alloc ?_ (by first | omega | (simp <;> omega)) _ | refine belowCall ?_ (by assumption)))⟩)
  cases h1 : nameB x1
  · (go_enter Tryd.func89, Tryd.ntmps89; go_wp2_with (first | (go_at_call 90; refine (iTm_any _ _).mono ?_; rintro e w' ⟨rfl, rfl⟩; rw [h0]) | (go_at_call 91; refine (iIsName_any _ _).mono ?_; rintro e w' ⟨rfl, hbel⟩; obtain ⟨hc, hf⟩ := bcell hbel; have hz := hbel.size; (try simp at hz); (try simp only [Nat.add_one_le_iff] at hz); (try (have hzw : w.heap.size < w'.heap.size := by omega)); (first | rw [h1] | rw [h2])) | (go_at_call 49; refine (iValidMag_any _ _).mono ?_; rintro e w' ⟨rfl, rfl⟩)); go_ret; exact ⟨by simp [esB, *], by (repeat (first | assumption | exact Below.refl _ _ | refine belowDN ?_ _ | refine Below.drew ?_ | refine Below.setCell ?_ (by first | omega | (simp <;> omega)) _ | refine Below.alloc ?_ (by first | omega | (simp <;> omega)) _ | refine belowCall ?_ (by assumption)))⟩)
  cases h2 : nameB x2
  · (go_enter Tryd.func89, Tryd.ntmps89; go_wp2_with (first | (go_at_call 90; refine (iTm_any _ _).mono ?_; rintro e w' ⟨rfl, rfl⟩; rw [h0]) | (go_at_call 91; refine (iIsName_any _ _).mono ?_; rintro e w' ⟨rfl, hbel⟩; obtain ⟨hc, hf⟩ := bcell hbel; have hz := hbel.size; (try simp at hz); (try simp only [Nat.add_one_le_iff] at hz); (try (have hzw : w.heap.size < w'.heap.size := by omega)); (first | rw [h1] | rw [h2])) | (go_at_call 49; refine (iValidMag_any _ _).mono ?_; rintro e w' ⟨rfl, rfl⟩)); go_ret; exact ⟨by simp [esB, *], by (repeat (first | assumption | exact Below.refl _ _ | refine belowDN ?_ _ | refine Below.drew ?_ | refine Below.setCell ?_ (by first | omega | (simp <;> omega)) _ | refine Below.alloc ?_ (by first | omega | (simp <;> omega)) _ | refine belowCall ?_ (by assumption)))⟩)
  (go_enter Tryd.func89, Tryd.ntmps89; go_wp2_with (first | (go_at_call 90; refine (iTm_any _ _).mono ?_; rintro e w' ⟨rfl, rfl⟩; rw [h0]) | (go_at_call 91; refine (iIsName_any _ _).mono ?_; rintro e w' ⟨rfl, hbel⟩; obtain ⟨hc, hf⟩ := bcell hbel; have hz := hbel.size; (try simp at hz); (try simp only [Nat.add_one_le_iff] at hz); (try (have hzw : w.heap.size < w'.heap.size := by omega)); (first | rw [h1] | rw [h2])) | (go_at_call 49; refine (iValidMag_any _ _).mono ?_; rintro e w' ⟨rfl, rfl⟩)); go_ret; exact ⟨by simp [esB, *], by (repeat (first | assumption | exact Below.refl _ _ | refine belowDN ?_ _ | refine Below.drew ?_ | refine Below.setCell ?_ (by first | omega | (simp <;> omega)) _ | refine Below.alloc ?_ (by first | omega | (simp <;> omega)) _ | refine belowCall ?_ (by assumption)))⟩)
shelf_lay Lays.n106 Nm 106 at Tryd as Tryd.strCmp
theorem cmpS_any (x y : ByteArray) (w : World) :
    Calls Tryd.prog 41 #[.string x, .string y] w fun e w' => e = .returned (.int .i64 (sgB x y)) ∧ w' = w :=
  Any.strings_Compare Tryd.strCmp x y w
set_option maxHeartbeats 1000000 in
theorem orI_any (g : Nat) (a b c : Int) (w : World) (c0 : w.cell? ⟨g, 0, none⟩ = some (.int .i64 a)) (c1 : w.cell? ⟨g, 1, none⟩ = some (.int .i64 b)) (c2 : w.cell? ⟨g, 2, none⟩ = some (.int .i64 c)) :
    Calls Tryd.prog 39 #[.slice (some ⟨g, 0, none⟩) 3 3] w fun e w' => e = .returned (.int .i64 (or3 a b c)) ∧ w' = w := by
  go_enter Tryd.func39, Tryd.ntmps39
  go_wp2
  go_loopw [8] (fun i wr => ∃ k : Nat, k ≤ 3 ∧ i = .int .i64 k ∧ (0 < k → a = 0) ∧ (1 < k → b = 0) ∧ (2 < k → c = 0) ∧ wr = w) (fun i _ => 3 - (Go.RowKit.intOf i).toNat)
  case atStart => exact ⟨0, by omega, rfl, fun h => absurd h (by omega), fun h => absurd h (by omega), fun h => absurd h (by omega), rfl⟩
  case round =>
    obtain ⟨k, hk, rfl, ha, hb, hc, rfl⟩ := hrel
    have HA := Lib.hid ha
    have HB := Lib.hid hb
    have HC := Lib.hid hc
    clear ha hb hc
    match k, hk with
    | 0, _ =>
      by_cases hz : a = 0
      · have n1 : (a != 0) = false := by simp [hz]
        have HZ := Lib.hid hz
        clear hz
        go_wp2
        go_roundw
        case rel => exact ⟨1, by omega, rfl, fun _ => HZ.out, fun h => absurd h (by omega), fun h => absurd h (by omega), by first | rfl | trivial⟩
        case measure => decide
      · have n1 : (a != 0) = true := by simp [hz]
        have HV : Hid (or3 a b c = a) := Lib.hid (by simp [or3, hz])
        clear hz
        go_wp2
        go_ret
        exact ⟨by rw [HV.out]; rfl, rfl⟩
    | 1, _ =>
      have h0 := HA.out (by omega)
      by_cases hz : b = 0
      · have n1 : (b != 0) = false := by simp [hz]
        have HZ := Lib.hid hz
        have H0 := Lib.hid h0
        clear hz h0
        go_wp2
        go_roundw
        case rel => exact ⟨2, by omega, rfl, fun _ => H0.out, fun _ => HZ.out, fun h => absurd h (by omega), by first | rfl | trivial⟩
        case measure => decide
      · have n1 : (b != 0) = true := by simp [hz]
        have HV : Hid (or3 a b c = b) := Lib.hid (by simp [or3, hz, h0])
        clear hz h0
        go_wp2
        go_ret
        exact ⟨by rw [HV.out]; rfl, rfl⟩
    | 2, _ =>
      have h0 := HA.out (by omega)
      have h1 := HB.out (by omega)
      by_cases hz : c = 0
      · have n1 : (c != 0) = false := by simp [hz]
        have HZ := Lib.hid hz
        have H0 := Lib.hid h0
        have H1 := Lib.hid h1
        clear hz h0 h1
        go_wp2
        go_roundw
        case rel => exact ⟨3, by omega, rfl, fun _ => H0.out, fun _ => H1.out, fun _ => HZ.out, by first | rfl | trivial⟩
        case measure => decide
      · have n1 : (c != 0) = true := by simp [hz]
        have HV : Hid (or3 a b c = c) := Lib.hid (by simp [or3, h0, h1])
        clear hz h0 h1
        go_wp2
        go_ret
        exact ⟨by rw [HV.out]; rfl, rfl⟩
    | 3, _ =>
      have h0 := HA.out (by omega)
      have h1 := HB.out (by omega)
      have h2 := HC.out (by omega)
      have HV : Hid (or3 a b c = 0) := Lib.hid (by simp [or3, h0, h1, h2])
      clear h0 h1 h2
      go_wp2
      go_ret
      exact ⟨by rw [HV.out]; rfl, rfl⟩
theorem orc (W : World) (a b c : Int) (T : TypeId) (n : Nat) (hn : n = W.heap.size) (i : Nat) (v : Value) (h : (#[Value.int .i64 a, .int .i64 b, .int .i64 c] : Array Value)[i]? = some v) : ((W.alloc (.cells #[.int .i64 a, .int .i64 b, .int .i64 c] T)).drew).cell? ⟨n, i, none⟩ = some v := by
  subst hn
  show (W.alloc (.cells #[.int .i64 a, .int .i64 b, .int .i64 c] T)).cell? ⟨W.heap.size, i, none⟩ = some v
  rw [World.cell?_alloc_new]
  exact h
set_option maxRecDepth 100000 in
set_option maxHeartbeats 4000000 in
theorem esCmp_any (x0 : Int) (x1 x2 : ByteArray) (x3 : Int) (x4 : Bool) (y0 : Int) (y1 y2 : ByteArray) (y3 : Int) (y4 : Bool) (w : World) :
    Calls Tryd.prog 27 #[.agg #[.int .i64 x0, .string x1, .string x2, .int .i64 x3, .bool x4], .agg #[.int .i64 y0, .string y1, .string y2, .int .i64 y3, .bool y4]] w fun e w' => e = .returned (.int .i64 (cmpE (x0, x1, x2, x3, x4) (y0, y1, y2, y3, y4))) ∧ Below w.heap.size w w' := by
  have HV : Hid (cmpE (x0, x1, x2, x3, x4) (y0, y1, y2, y3, y4) = or3 (sgI x0 y0) (sgB x1 y1) (sgB x2 y2)) := Lib.hid rfl
  have hI : ∀ W, Calls Tryd.prog 40 #[.int .i64 x0, .int .i64 y0] W fun e w' => e = .returned (.int .i64 (sgI x0 y0)) ∧ w' = W := fun W => cmpI_any x0 y0 W
  have hS1 : ∀ W, Calls Tryd.prog 41 #[.string x1, .string y1] W fun e w' => e = .returned (.int .i64 (sgB x1 y1)) ∧ w' = W := fun W => cmpS_any x1 y1 W
  have hS2 : ∀ W, Calls Tryd.prog 41 #[.string x2, .string y2] W fun e w' => e = .returned (.int .i64 (sgB x2 y2)) ∧ w' = W := fun W => cmpS_any x2 y2 W
  generalize sgI x0 y0 = r0 at HV hI
  generalize sgB x1 y1 = r1 at HV hS1
  generalize sgB x2 y2 = r2 at HV hS2
  go_enter Tryd.func27, Tryd.ntmps27
  go_wp2
  go_region_held3 (fun W' => W'.cell? ⟨w.heap.size, 0, none⟩ = some (.int .i64 x0) ∧ W'.cell? ⟨w.heap.size, 1, none⟩ = some (.string x1) ∧ W'.cell? ⟨w.heap.size, 2, none⟩ = some (.string x2) ∧ W'.cell? ⟨w.heap.size + 1, 0, none⟩ = some (.int .i64 y0) ∧ W'.cell? ⟨w.heap.size + 1, 1, none⟩ = some (.string y1) ∧ W'.cell? ⟨w.heap.size + 1, 2, none⟩ = some (.string y2)) (refine ⟨?_, ?_, ?_, ?_, ?_, ?_⟩ <;> go_keep) (first | (go_at_call 40; refine (hI _).mono ?_; rintro e w' ⟨rfl, rfl⟩) | (go_at_call 41; refine (hS1 _).mono ?_; rintro e w' ⟨rfl, rfl⟩) | (go_at_call 41; refine (hS2 _).mono ?_; rintro e w' ⟨rfl, rfl⟩) | (go_at_call 39; refine (orI_any _ r0 r1 r2 _ (orc _ r0 r1 r2 _ _ (by simp) 0 _ rfl) (orc _ r0 r1 r2 _ _ (by simp) 1 _ rfl) (orc _ r0 r1 r2 _ _ (by simp) 2 _ rfl)).mono ?_; rintro e w' ⟨rfl, rfl⟩))
  all_goals
    go_wp2
    go_ret
    exact ⟨by rw [HV.out]; rfl, by (repeat (first | assumption | exact Below.refl _ _ | refine belowDN ?_ _ | refine Below.drew ?_ | refine Below.setCell ?_ (by first | omega | (simp <;> omega)) _ | refine Below.alloc ?_ (by first | omega | (simp <;> omega)) _ | refine belowCall ?_ (by assumption)))⟩
theorem esCmp_val (x0 : Int) (x1 x2 : ByteArray) (x3 : Int) (x4 : Bool) (y0 : Int) (y1 y2 : ByteArray) (y3 : Int) (y4 : Bool) (r : Int) (w : World) (hr : cmpE (x0, x1, x2, x3, x4) (y0, y1, y2, y3, y4) = r) :
    Calls Tryd.prog 27 #[.agg #[.int .i64 x0, .string x1, .string x2, .int .i64 x3, .bool x4], .agg #[.int .i64 y0, .string y1, .string y2, .int .i64 y3, .bool y4]] w fun e w' => e = .returned (.int .i64 r) ∧ Below w.heap.size w w' :=
  (esCmp_any x0 x1 x2 x3 x4 y0 y1 y2 y3 y4 w).mono fun _ _ ⟨h1, h2⟩ => ⟨by rw [h1, hr], h2⟩
end Go.Proofs.YtfnjndbnogeddaaDoor
