/- DateOf: the program's and the model's. -/
import Derived.Test.YtfebellnmdfpiaaDoorT6
namespace Go.Proofs.YtfebellnmdfpiaaDoor
open Go.ChangeShapes Go.WideShapes Go.ChangeAt Go.RowKit

def cellInt (w : World) (a : Addr) : Int := match w.cell? a with | some v => intOf v | none => 0
theorem cellInt_of {w : World} {a : Addr} {n : Int} (h : w.cell? a = some (.int .i64 n)) : cellInt w a = n := by simp [cellInt, h, intOf]
theorem sc_same {w : World} {a : Addr} {v u : Value} (h : w.cell? a = some u) : (w.setCell a v).cell? a = some v := World.cell?_setCell_same _ _ _ h
theorem sc_other {w : World} {b o o' : Nat} {v u : Value} (hne : o ≠ o') (h : w.cell? ⟨b, o', none⟩ = some u) : (w.setCell ⟨b, o, none⟩ v).cell? ⟨b, o', none⟩ = some u := by
  rw [World.cell?_setCell_other _ _ _ _ (fun e => hne (congrArg Addr.off e))]; exact h
/-- what DateOf answers: the date of the day, or the code -/
def DatePost (day : Int) (v : Value) : Prop :=
  if inB day 0 100000 then ∃ (y : Int) (m : Nat) (d : Int), v = .tuple #[.agg #[.int .i64 y, .int .i64 m, .int .i64 d], .int .i64 0] ∧ okD y m d ∧ dnum y m d = day
  else v = .tuple #[.agg #[.int .i64 0, .int .i64 0, .int .i64 0], .int .i64 2]
theorem DatePost.same {day : Int} {v v' : Value} (h : DatePost day v) (h' : DatePost day v') : v = v' := by
  unfold DatePost at h h'
  split at h
  · rename_i hc
    rw [if_pos hc] at h'
    obtain ⟨y, m, d, rfl, h1, h2⟩ := h
    obtain ⟨y', m', d', rfl, h1', h2'⟩ := h'
    obtain ⟨rfl, rfl, rfl⟩ := dnum_inj h1 h1' (h2.trans h2'.symm)
    rfl
  · rename_i hc
    rw [if_neg hc] at h'
    exact h.trans h'.symm
theorem DatePost.form {day : Int} {v : Value} (h : DatePost day v) : ∃ a b c e, v = .tuple #[.agg #[.int .i64 a, .int .i64 b, .int .i64 c], .int .i64 e] := by
  unfold DatePost at h
  split at h
  · obtain ⟨y, m, d, rfl, _, _⟩ := h
    exact ⟨_, _, _, _, rfl⟩
  · exact ⟨_, _, _, _, h⟩
theorem m_lt {y : Int} {m : Nat} {d day : Int} (he : yst y + cuB (leapB y) m + d - 1 = day) (h : mdB (leapB y) m < d) (hd : day < yst (y + 1)) (h1 : m ≤ 12) : m + 1 ≤ 12 := by
  by_cases h12 : m = 12
  · exfalso
    subst h12
    have e : ∀ b : Bool, cuB b 12 + mdB b 12 = 365 + (if b then 1 else 0) := by decide
    have e1 := e (leapB y)
    have e2 := yst_next y
    rw [leapN_if] at e2
    omega
  · omega
set_option maxHeartbeats 2000000 in
theorem sDateOf_any (day : Int) (w : World) :
    Calls Tryd.prog 9 #[.int .i64 day] w fun e w' => ∃ v, e = .returned v ∧ DatePost day v ∧ Below w.heap.size w w' := by
  cases hr : inB day 0 100000
  · have hp : DatePost day (.tuple #[.agg #[.int .i64 0, .int .i64 0, .int .i64 0], .int .i64 2]) := by unfold DatePost; rw [if_neg (by simp [hr])]
    go_enter Tryd.func9, Tryd.ntmps9
    go_wp2_with (go_at_call 21; refine (l00In_any _ _ _ _).mono ?_; rintro e w' ⟨rfl, rfl⟩)
    exact bodyPost_ret (v := .tuple #[.agg #[.int .i64 0, .int .i64 0, .int .i64 0], .int .i64 2]) (by simp [results, Tryd.results9, go_sem]) rfl ⟨_, rfl, hp, by (repeat (first | assumption | exact Below.refl _ _ | refine belowDN ?_ _ | refine Below.drew ?_ | refine Below.setCell ?_ (by first | omega | (simp <;> omega)) _ | refine Below.alloc ?_ (by first | omega | (simp <;> omega)) _ | refine belowCall ?_ (by assumption)))⟩
  obtain ⟨r1, r2⟩ := inB_iff.1 hr
  go_enter Tryd.func9, Tryd.ntmps9
  go_wp2_with (go_at_call 21; refine (l00In_any _ _ _ _).mono ?_; rintro e w' ⟨rfl, rfl⟩)
  go_loopw [4] (fun t wr => ∃ y : Int, t = .int .i64 y ∧ 2001 ≤ y ∧ y ≤ 2275 ∧ yst y ≤ day ∧ wr = w.alloc (.cells #[.int .i64 0, .int .i64 0, .int .i64 0] 25)) (fun t _ => (2300 - intOf t).toNat)
  case atStart =>
    refine ⟨2001 + day / 366, rfl, by omega, by omega, ?_, rfl⟩
    have := yst_bd (2001 + day / 366) (by omega)
    omega
  case round =>
    obtain ⟨y, rfl, y1, y2, hy, rfl⟩ := hrel
    have hb0 := yst_bd y y1
    have hb1 := yst_bd (y + 1) (by omega)
    by_cases hlt : yst (y + 1) ≤ day
    · go_wp2_with (go_at_call 22; refine (l03Start_any _ _ (by omega) (by omega)).mono ?_; rintro e w' ⟨rfl, rfl⟩)
      go_roundw
      case rel => exact ⟨y + 1, rfl, by omega, by omega, hlt, by first | trivial | rfl⟩
      case measure => simp [intOf]; omega
    · go_wp2_with (go_at_call 22; refine (l03Start_any _ _ (by omega) (by omega)).mono ?_; rintro e w' ⟨rfl, rfl⟩)
      have HY := Lib.hid hlt
      clear hlt
      go_loopw [27] (fun _ W' => ∃ (m : Nat) (d : Int), 1 ≤ m ∧ m ≤ 12 ∧ 1 ≤ d ∧ d ≤ 400 ∧ yst y + cuB (leapB y) m + d - 1 = day ∧ (Below (w.alloc (.cells #[.int .i64 0, .int .i64 0, .int .i64 0] 25)).heap.size (w.alloc (.cells #[.int .i64 0, .int .i64 0, .int .i64 0] 25)) W' ∧ w.heap.size + 1 < W'.heap.size ∧ W'.cell? ⟨w.heap.size + 1, 0, none⟩ = some (.int .i64 y) ∧ W'.cell? ⟨w.heap.size + 1, 1, none⟩ = some (.int .i64 m) ∧ W'.cell? ⟨w.heap.size + 1, 2, none⟩ = some (.int .i64 d) ∧ W'.frozen? ⟨w.heap.size + 1, 1, none⟩ = false ∧ W'.frozen? ⟨w.heap.size + 1, 2, none⟩ = false)) (fun _ W' => 13 - (cellInt W' ⟨w.heap.size + 1, 1, none⟩).toNat)
      case atStart =>
        refine ⟨1, day - yst y + 1, by omega, by omega, by omega, ?_, ?_, by (repeat (first | assumption | exact Below.refl _ _ | refine belowDN ?_ _ | refine Below.drew ?_ | refine Below.setCell ?_ (by first | omega | (simp <;> omega)) _ | refine Below.alloc ?_ (by first | omega | (simp <;> omega)) _ | refine belowCall ?_ (by assumption))), by simp, by go_keep, by go_keep, by go_keep, by go_keep, by go_keep⟩
        · have h1 := HY.out
          have h2 := yst_next y
          have h3 : leapN y ≤ 1 := by unfold leapN; split <;> omega
          omega
        · rw [show cuB (leapB y) 1 = 0 from rfl]; omega
      case round =>
        obtain ⟨m, d, hm1, hm2, hd1, hd2, he, hb, hs, c0, c1, c2, f1, f2⟩ := hrel
        have HE := Lib.hid he
        obtain ⟨n1, n2, n3, n4⟩ := cu_bd (leapB y) m hm1 hm2
        have hn := Lib.hid (cu_next (leapB y) m hm1)
        clear he n4
        by_cases hgt : mdB (leapB y) m < d
        · go_wp2
          go_region_held3 (fun W' => Below (w.alloc (.cells #[.int .i64 0, .int .i64 0, .int .i64 0] 25)).heap.size (w.alloc (.cells #[.int .i64 0, .int .i64 0, .int .i64 0] 25)) W' ∧ w.heap.size + 1 < W'.heap.size ∧ W'.cell? ⟨w.heap.size + 1, 0, none⟩ = some (.int .i64 y) ∧ W'.cell? ⟨w.heap.size + 1, 1, none⟩ = some (.int .i64 m) ∧ W'.cell? ⟨w.heap.size + 1, 2, none⟩ = some (.int .i64 d) ∧ W'.frozen? ⟨w.heap.size + 1, 1, none⟩ = false ∧ W'.frozen? ⟨w.heap.size + 1, 2, none⟩ = false) ((refine ⟨by (repeat (first | assumption | exact Below.refl _ _ | refine belowDN ?_ _ | refine Below.drew ?_ | refine Below.setCell ?_ (by first | omega | (simp <;> omega)) _ | refine Below.alloc ?_ (by first | omega | (simp <;> omega)) _ | refine belowCall ?_ (by assumption))), by (first | assumption | omega | (simp; done) | (simp; omega)), ?_, ?_, ?_, ?_, ?_⟩ <;> first | assumption | (rw [hc2 _ _ (by omega)]; assumption) | (rw [hf2 _ _ (by omega)]; assumption) | go_keep)) (first | (go_at_call 23; refine (l03Days_any _ _ _ (by omega) (by omega) (by omega)).mono ?_; rintro e w2 ⟨rfl, hb2⟩; obtain ⟨hc2, hf2⟩ := bcell hb2; have hz2 := hb2.size))
          rename_i hH
          obtain ⟨hB2, hs2, e0, e1, e2, g1, g2⟩ := hH
          have hcw := cellInt_of c1
          have hm3 := m_lt HE.out hgt HY.out hm2
          clear hb2 hc2 hf2 hz2 hb hs c0 c1 c2 f1 f2
          go_wp2
          go_region_with (first | (go_at_call 23; refine (l03Days_any _ _ _ (by omega) (by omega) (by omega)).mono ?_; rintro e w3 ⟨rfl, hb3⟩; obtain ⟨hc3, hf3⟩ := bcell hb3; have hz3 := hb3.size; (try simp at hz3); have p0 : w3.cell? ⟨w.heap.size + 1, 2, none⟩ = some (.int .i64 d) := (by rw [hc3 _ _ (by first | omega | (simp; omega))]; go_keep); have p1 : w3.cell? ⟨w.heap.size + 1, 1, none⟩ = some (.int .i64 m) := (by rw [hc3 _ _ (by first | omega | (simp; omega))]; go_keep); have p2 : w3.frozen? ⟨w.heap.size + 1, 2, none⟩ = false := (by rw [hf3 _ _ (by first | omega | (simp; omega))]; go_keep); have p3 : w3.frozen? ⟨w.heap.size + 1, 1, none⟩ = false := (by rw [hf3 _ _ (by first | omega | (simp; omega))]; go_keep); have p4 : w3.cell? ⟨w.heap.size + 1, 0, none⟩ = some (.int .i64 y) := (by rw [hc3 _ _ (by first | omega | (simp; omega))]; go_keep)))
          all_goals go_wp2
          all_goals
            refine ⟨⟨m + 1, d - mdB (leapB y) m, by omega, hm3, by omega, by omega, by rw [hn.out]; have := HE.out; omega, by (repeat (first | assumption | exact Below.refl _ _ | refine belowDN ?_ _ | refine Below.drew ?_ | refine Below.setCell ?_ (by first | omega | (simp <;> omega)) _ | refine Below.alloc ?_ (by first | omega | (simp <;> omega)) _ | refine belowCall ?_ (by assumption))), by (first | assumption | omega | (simp; done) | (simp; omega)), sc_other (by decide) (sc_other (by decide) p4), by rw [Int.natCast_succ]; exact sc_same (sc_other (by decide) p1), sc_other (by decide) (sc_same p0), by simp only [World.frozen?_setCell]; exact p3, by simp only [World.frozen?_setCell]; exact p2⟩, ?_⟩
            rw [cellInt_of (n := (m : Int) + 1) (sc_same (sc_other (by decide) p1)), hcw]
            omega
        · have HG := Lib.hid hgt
          have hgt' : d ≤ mdB (leapB y) m := by omega
          clear hgt
          go_wp2
          go_region_held3 (fun W' => Below (w.alloc (.cells #[.int .i64 0, .int .i64 0, .int .i64 0] 25)).heap.size (w.alloc (.cells #[.int .i64 0, .int .i64 0, .int .i64 0] 25)) W' ∧ w.heap.size + 1 < W'.heap.size ∧ W'.cell? ⟨w.heap.size + 1, 0, none⟩ = some (.int .i64 y) ∧ W'.cell? ⟨w.heap.size + 1, 1, none⟩ = some (.int .i64 m) ∧ W'.cell? ⟨w.heap.size + 1, 2, none⟩ = some (.int .i64 d) ∧ W'.frozen? ⟨w.heap.size + 1, 1, none⟩ = false ∧ W'.frozen? ⟨w.heap.size + 1, 2, none⟩ = false) ((refine ⟨by (repeat (first | assumption | exact Below.refl _ _ | refine belowDN ?_ _ | refine Below.drew ?_ | refine Below.setCell ?_ (by first | omega | (simp <;> omega)) _ | refine Below.alloc ?_ (by first | omega | (simp <;> omega)) _ | refine belowCall ?_ (by assumption))), by (first | assumption | omega | (simp; done) | (simp; omega)), ?_, ?_, ?_, ?_, ?_⟩ <;> first | assumption | (rw [hc2 _ _ (by omega)]; assumption) | (rw [hf2 _ _ (by omega)]; assumption) | go_keep)) (first | (go_at_call 23; refine (l03Days_any _ _ _ (by omega) (by omega) (by omega)).mono ?_; rintro e w2 ⟨rfl, hb2⟩; obtain ⟨hc2, hf2⟩ := bcell hb2; have hz2 := hb2.size))
          rename_i hH
          obtain ⟨hB2, hs2, e0, e1, e2, g1, g2⟩ := hH
          obtain ⟨hcR, hfR⟩ := bcell hB2
          have q0 : w2.cell? ⟨w.heap.size, 0, none⟩ = some (.int .i64 0) := (by rw [hcR _ _ (by simp)]; go_keep)
          have q1 : w2.cell? ⟨w.heap.size, 1, none⟩ = some (.int .i64 0) := (by rw [hcR _ _ (by simp)]; go_keep)
          have q2 : w2.cell? ⟨w.heap.size, 2, none⟩ = some (.int .i64 0) := (by rw [hcR _ _ (by simp)]; go_keep)
          have v0 : w2.frozen? ⟨w.heap.size, 0, none⟩ = false := (by rw [hfR _ _ (by simp)]; go_keep)
          have v1 : w2.frozen? ⟨w.heap.size, 1, none⟩ = false := (by rw [hfR _ _ (by simp)]; go_keep)
          have v2 : w2.frozen? ⟨w.heap.size, 2, none⟩ = false := (by rw [hfR _ _ (by simp)]; go_keep)
          clear hb2 hc2 hf2 hz2 hb hs c0 c1 c2 f1 f2
          have hp : DatePost day (.tuple #[.agg #[.int .i64 y, .int .i64 m, .int .i64 d], .int .i64 0]) := by
            unfold DatePost; rw [if_pos hr]
            exact ⟨y, m, d, rfl, ⟨y1, hm1, hm2, hd1, hgt'⟩, HE.out⟩
          have hbw : Below w.heap.size w w2 := by
            have hw : Below w.heap.size w (w.alloc (.cells #[.int .i64 0, .int .i64 0, .int .i64 0] 25)) := by (repeat (first | assumption | exact Below.refl _ _ | refine belowDN ?_ _ | refine Below.drew ?_ | refine Below.setCell ?_ (by first | omega | (simp <;> omega)) _ | refine Below.alloc ?_ (by first | omega | (simp <;> omega)) _ | refine belowCall ?_ (by assumption)))
            exact belowCall hw hB2
          go_wp2
          have z0 : (((w2.setCell ⟨w.heap.size, 0, none⟩ (.int .i64 y)).setCell ⟨w.heap.size, 1, none⟩ (.int .i64 m)).setCell ⟨w.heap.size, 2, none⟩ (.int .i64 d)).cell? ⟨w.heap.size, 0, none⟩ = some (.int .i64 y) := sc_other (by decide) (sc_other (by decide) (sc_same q0))
          have z1 : (((w2.setCell ⟨w.heap.size, 0, none⟩ (.int .i64 y)).setCell ⟨w.heap.size, 1, none⟩ (.int .i64 m)).setCell ⟨w.heap.size, 2, none⟩ (.int .i64 d)).cell? ⟨w.heap.size, 1, none⟩ = some (.int .i64 m) := sc_other (by decide) (sc_same (sc_other (by decide) q1))
          have z2 : (((w2.setCell ⟨w.heap.size, 0, none⟩ (.int .i64 y)).setCell ⟨w.heap.size, 1, none⟩ (.int .i64 m)).setCell ⟨w.heap.size, 2, none⟩ (.int .i64 d)).cell? ⟨w.heap.size, 2, none⟩ = some (.int .i64 d) := sc_same (sc_other (by decide) (sc_other (by decide) q2))
          have hbV : Below w.heap.size w (((w2.setCell ⟨w.heap.size, 0, none⟩ (.int .i64 y)).setCell ⟨w.heap.size, 1, none⟩ (.int .i64 m)).setCell ⟨w.heap.size, 2, none⟩ (.int .i64 d)) := by (repeat (first | assumption | exact Below.refl _ _ | refine belowDN ?_ _ | refine Below.drew ?_ | refine Below.setCell ?_ (by first | omega | (simp <;> omega)) _ | refine Below.alloc ?_ (by first | omega | (simp <;> omega)) _ | refine belowCall ?_ (by assumption)))
          generalize (((w2.setCell ⟨w.heap.size, 0, none⟩ (.int .i64 y)).setCell ⟨w.heap.size, 1, none⟩ (.int .i64 m)).setCell ⟨w.heap.size, 2, none⟩ (.int .i64 d)) = V at z0 z1 z2 hbV ⊢
          exact bodyPost_ret (v := .tuple #[.agg #[.int .i64 y, .int .i64 m, .int .i64 d], .int .i64 0]) (by simp [results, Tryd.results9, go_sem, z0, z1, z2]) rfl ⟨_, rfl, hp, hbV⟩
end Go.Proofs.YtfebellnmdfpiaaDoor
