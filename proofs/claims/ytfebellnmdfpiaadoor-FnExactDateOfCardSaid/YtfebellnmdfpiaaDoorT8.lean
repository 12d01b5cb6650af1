/- DateOf: the program's. -/
import Derived.Test.YtfebellnmdfpiaaDoorT7
import Derived.WalkMore
namespace Go.Proofs.YtfebellnmdfpiaaDoor
open Go.ChangeShapes Go.WideShapes Go.ChangeAt Go.RowKit

def mcu (y : Int) (k : Nat) : Int := if k < 12 then mst y + cmB k else mst (y + 1)
theorem mcu_step (y : Int) (k : Nat) (h : k < 12) : mcu y (k + 1) = mcu y k + mlen y k := by
  unfold mcu
  rw [if_pos h]
  by_cases h11 : k = 11
  · subst h11
    rw [if_neg (by omega)]
    exact (mlen_last y).symm
  · rw [if_pos (by omega), mlen_small y k (by omega), cm_all]; omega
theorem mcu_zero (y : Int) : mcu y 0 = mst y := by unfold mcu; rw [if_pos (by omega), show cmB 0 = 0 from rfl]; omega
theorem mcu_end (y : Int) : mcu y 12 = mst (y + 1) := by unfold mcu; rw [if_neg (by omega)]
/-- a day found in the program's months is the date's -/
theorem found {y : Int} {k : Nat} {d day : Int} (h1 : 2000 ≤ y) (h2 : k < 12) (h3 : 0 ≤ d) (h4 : d < mlen y k) (he : mcu y k + d = day) (h0 : 0 ≤ day) :
    okD (bkY y k) (bkM k) (d + 1) ∧ dnum (bkY y k) (bkM k) (d + 1) = day := by
  unfold mcu at he
  rw [if_pos h2] at he
  have hy : y = 2000 → 9 < k := by
    intro e
    subst e
    by_cases h9 : 9 < k
    · exact h9
    · exfalso
      have e1 : mst 2000 = -306 := by decide
      have e2 : ∀ k : Fin 10, cmB k.1 + mlB k.1 ≤ 306 := by decide
      have e3 := e2 ⟨k, by omega⟩
      rw [mlen_small 2000 k (by omega)] at h4
      simp only at e3
      omega
  obtain ⟨g1, g2⟩ := bk_ok y k d h1 hy h2 h3 h4
  exact ⟨g1, by omega⟩
set_option maxHeartbeats 4000000 in
set_option maxRecDepth 100000 in
theorem iDateOf_any (day : Int) (w : World) (hM : Mon w) :
    Calls Tryd.prog 10 #[.int .i64 day] w fun e w' => ∃ v, e = .returned v ∧ DatePost day v ∧ Below w.heap.size w w' := by
  cases hr : inB day 0 100000
  · have hp : DatePost day (.tuple #[.agg #[.int .i64 0, .int .i64 0, .int .i64 0], .int .i64 2]) := by unfold DatePost; rw [if_neg (by simp [hr])]
    go_enter Tryd.func10, Tryd.ntmps10
    go_wp2
    go_step3
    go_wp2_with (go_at_call 19; refine (isDay_any _ _).mono ?_; rintro e w' ⟨rfl, rfl⟩)
    rw [Exit.noGoto_ret]
    exact bodyPost_ret (v := .tuple #[.agg #[.int .i64 0, .int .i64 0, .int .i64 0], .int .i64 2]) (by simp [results, Tryd.results10, go_sem]) rfl ⟨_, rfl, hp, by (repeat (first | assumption | exact Below.refl _ _ | refine belowDN ?_ _ | refine Below.drew ?_ | refine Below.setCell ?_ (by first | omega | (simp <;> omega)) _ | refine Below.alloc ?_ (by first | omega | (simp <;> omega)) _ | refine belowCall ?_ (by assumption)))⟩
  obtain ⟨r1, r2⟩ := inB_iff.1 hr
  have hs0 := mst_bd (2000 + (day + 306) / 366) (by omega)
  go_enter Tryd.func10, Tryd.ntmps10
  go_wp2
  go_step3
  go_wp2_with (first | (go_at_call 19; refine (isDay_any _ _).mono ?_; rintro e w' ⟨rfl, rfl⟩) | (go_at_call 24; refine (startOfMarch_any _ _ (by omega) (by omega)).mono ?_; rintro e w' ⟨rfl, rfl⟩))
  go_step3
  go_wp2
  go_loopw [25] (fun _ W' => ∃ (y k d : Int), 2000 ≤ y ∧ y ≤ 2276 ∧ 0 ≤ d ∧ d ≤ 200000 ∧ mst y + d = day ∧ Below (w.alloc (.cells #[.int .i64 0, .int .i64 0, .int .i64 0] 25)).heap.size (w.alloc (.cells #[.int .i64 0, .int .i64 0, .int .i64 0] 25)) W' ∧ w.heap.size + 1 < W'.heap.size ∧ W'.cell? ⟨w.heap.size + 1, 0, none⟩ = some (.int .i64 y) ∧ W'.cell? ⟨w.heap.size + 1, 1, none⟩ = some (.int .i64 k) ∧ W'.cell? ⟨w.heap.size + 1, 2, none⟩ = some (.int .i64 d) ∧ W'.frozen? ⟨w.heap.size + 1, 0, none⟩ = false ∧ W'.frozen? ⟨w.heap.size + 1, 1, none⟩ = false ∧ W'.frozen? ⟨w.heap.size + 1, 2, none⟩ = false) (fun _ W' => (2300 - cellInt W' ⟨w.heap.size + 1, 0, none⟩).toNat)
  case atStart =>
    refine ⟨2000 + (day + 306) / 366, 0, day - mst (2000 + (day + 306) / 366), by omega, by omega, by omega, by omega, by omega, by (repeat (first | assumption | exact Below.refl _ _ | refine belowDN ?_ _ | refine Below.drew ?_ | refine Below.setCell ?_ (by first | omega | (simp <;> omega)) _ | refine Below.alloc ?_ (by first | omega | (simp <;> omega)) _ | refine belowCall ?_ (by assumption))), by (first | assumption | omega | (simp; done) | (simp; omega)), by go_keep, by go_keep, by go_keep, by go_keep, by go_keep, by go_keep⟩
  case round =>
    obtain ⟨y, k0, d0, y1, y2, hd0, hd0', he0, hB, hs, c0, c1, c2, f0, f1, f2⟩ := hrel
    have hcw := cellInt_of c0
    go_wp2
    go_loopw [26] (fun _ W' => ∃ (k : Nat) (d : Int), k ≤ 12 ∧ 0 ≤ d ∧ d ≤ 200000 ∧ mcu y k + d = day ∧ Below (w.alloc (.cells #[.int .i64 0, .int .i64 0, .int .i64 0] 25)).heap.size (w.alloc (.cells #[.int .i64 0, .int .i64 0, .int .i64 0] 25)) W' ∧ w.heap.size + 1 < W'.heap.size ∧ W'.cell? ⟨w.heap.size + 1, 0, none⟩ = some (.int .i64 y) ∧ W'.cell? ⟨w.heap.size + 1, 1, none⟩ = some (.int .i64 k) ∧ W'.cell? ⟨w.heap.size + 1, 2, none⟩ = some (.int .i64 d) ∧ W'.frozen? ⟨w.heap.size + 1, 0, none⟩ = false ∧ W'.frozen? ⟨w.heap.size + 1, 1, none⟩ = false ∧ W'.frozen? ⟨w.heap.size + 1, 2, none⟩ = false) (fun _ W' => 12 - (cellInt W' ⟨w.heap.size + 1, 1, none⟩).toNat)
    case atStart =>
      exact ⟨0, d0, by omega, hd0, hd0', by rw [mcu_zero]; exact he0, by (repeat (first | assumption | exact Below.refl _ _ | refine belowDN ?_ _ | refine Below.drew ?_ | refine Below.setCell ?_ (by first | omega | (simp <;> omega)) _ | refine Below.alloc ?_ (by first | omega | (simp <;> omega)) _ | refine belowCall ?_ (by assumption))), by (first | assumption | omega | (simp; done) | (simp; omega)), sc_other (by decide) c0, sc_same c1, sc_other (by decide) c2, by simp only [World.frozen?_setCell]; exact f0, by simp only [World.frozen?_setCell]; exact f1, by simp only [World.frozen?_setCell]; exact f2⟩
    case round =>
      rename_i wo
      obtain ⟨k, d, hk, hd, hd', he, hB', hs', c0', c1', c2', f0', f1', f2'⟩ := hrel
      have HE := Lib.hid he
      clear he
      have hcw' := cellInt_of c1'
      by_cases hlt : k < 12
      · obtain ⟨l1, l2⟩ := mlen_bd y k hlt
        have hcs := Lib.hid (mcu_step y k hlt)
        by_cases hfd : d < mlen y k
        · go_wp2_with (go_at_call 18; refine (mlength_any _ _ _ _ (hM.mono (by (repeat (first | assumption | exact Below.refl _ _ | refine belowDN ?_ _ | refine Below.drew ?_ | refine Below.setCell ?_ (by first | omega | (simp <;> omega)) _ | refine Below.alloc ?_ (by first | omega | (simp <;> omega)) _ | refine belowCall ?_ (by assumption))))) (by omega) (by omega) (by omega)).mono ?_; rintro e w2 ⟨rfl, hb2⟩; obtain ⟨hc2, hf2⟩ := bcell hb2; have hz2 := hb2.size; have e0 := (hc2 _ 0 hs').trans c0'; have e1 := (hc2 _ 1 hs').trans c1'; have e2 := (hc2 _ 2 hs').trans c2'; have g0 := (hf2 _ 0 hs').trans f0'; have g1 := (hf2 _ 1 hs').trans f1'; have g2 := (hf2 _ 2 hs').trans f2')
          have hF := found y1 hlt hd hfd HE.out r1
          have hp : DatePost day (.tuple #[.agg #[.int .i64 (bkY y k), .int .i64 (bkM k : Nat), .int .i64 (d + 1)], .int .i64 0]) := by
            unfold DatePost; rw [if_pos hr]
            exact ⟨_, _, _, rfl, hF.1, hF.2⟩
          refine (mdate_any y k d w2 (by omega) (by omega) (by omega) hd (by omega)).mono ?_
          rintro e w3 ⟨rfl, hb3⟩
          unfold dt
          have hBR : Below (w.alloc (.cells #[.int .i64 0, .int .i64 0, .int .i64 0] 25)).heap.size (w.alloc (.cells #[.int .i64 0, .int .i64 0, .int .i64 0] 25)) w3 := by (repeat (first | assumption | exact Below.refl _ _ | refine belowDN ?_ _ | refine Below.drew ?_ | refine Below.setCell ?_ (by first | omega | (simp <;> omega)) _ | refine Below.alloc ?_ (by first | omega | (simp <;> omega)) _ | refine belowCall ?_ (by assumption)))
          obtain ⟨hcR, hfR⟩ := bcell hBR
          have q0 : w3.cell? ⟨w.heap.size, 0, none⟩ = some (.int .i64 0) := (by rw [hcR _ _ (by simp)]; go_keep)
          have q1 : w3.cell? ⟨w.heap.size, 1, none⟩ = some (.int .i64 0) := (by rw [hcR _ _ (by simp)]; go_keep)
          have q2 : w3.cell? ⟨w.heap.size, 2, none⟩ = some (.int .i64 0) := (by rw [hcR _ _ (by simp)]; go_keep)
          have v0 : w3.frozen? ⟨w.heap.size, 0, none⟩ = false := (by rw [hfR _ _ (by simp)]; go_keep)
          have v1 : w3.frozen? ⟨w.heap.size, 1, none⟩ = false := (by rw [hfR _ _ (by simp)]; go_keep)
          have v2 : w3.frozen? ⟨w.heap.size, 2, none⟩ = false := (by rw [hfR _ _ (by simp)]; go_keep)
          have hbw : Below w.heap.size w w3 := by
            have hw : Below w.heap.size w (w.alloc (.cells #[.int .i64 0, .int .i64 0, .int .i64 0] 25)) := by (repeat (first | assumption | exact Below.refl _ _ | refine belowDN ?_ _ | refine Below.drew ?_ | refine Below.setCell ?_ (by first | omega | (simp <;> omega)) _ | refine Below.alloc ?_ (by first | omega | (simp <;> omega)) _ | refine belowCall ?_ (by assumption)))
            exact belowCall hw hBR
          clear hb2 hc2 hf2 hz2 hB hs c0 c1 c2 f0 f1 f2 hB' hs' c0' c1' c2' f0' f1' f2' e0 e1 e2 g0 g1 g2 hb3 hBR hcR hfR hcw hcw'
          go_wp2
          rw [Exit.noGoto_ret]
          have z0 : (((w3.setCell ⟨w.heap.size, 0, none⟩ (.int .i64 (bkY y k))).setCell ⟨w.heap.size, 1, none⟩ (.int .i64 (bkM k : Nat))).setCell ⟨w.heap.size, 2, none⟩ (.int .i64 (d + 1))).cell? ⟨w.heap.size, 0, none⟩ = some (.int .i64 (bkY y k)) := sc_other (by decide) (sc_other (by decide) (sc_same q0))
          have z1 : (((w3.setCell ⟨w.heap.size, 0, none⟩ (.int .i64 (bkY y k))).setCell ⟨w.heap.size, 1, none⟩ (.int .i64 (bkM k : Nat))).setCell ⟨w.heap.size, 2, none⟩ (.int .i64 (d + 1))).cell? ⟨w.heap.size, 1, none⟩ = some (.int .i64 (bkM k : Nat)) := sc_other (by decide) (sc_same (sc_other (by decide) q1))
          have z2 : (((w3.setCell ⟨w.heap.size, 0, none⟩ (.int .i64 (bkY y k))).setCell ⟨w.heap.size, 1, none⟩ (.int .i64 (bkM k : Nat))).setCell ⟨w.heap.size, 2, none⟩ (.int .i64 (d + 1))).cell? ⟨w.heap.size, 2, none⟩ = some (.int .i64 (d + 1)) := sc_same (sc_other (by decide) (sc_other (by decide) q2))
          have hbV : Below w.heap.size w (((w3.setCell ⟨w.heap.size, 0, none⟩ (.int .i64 (bkY y k))).setCell ⟨w.heap.size, 1, none⟩ (.int .i64 (bkM k : Nat))).setCell ⟨w.heap.size, 2, none⟩ (.int .i64 (d + 1))) := by (repeat (first | assumption | exact Below.refl _ _ | refine belowDN ?_ _ | refine Below.drew ?_ | refine Below.setCell ?_ (by first | omega | (simp <;> omega)) _ | refine Below.alloc ?_ (by first | omega | (simp <;> omega)) _ | refine belowCall ?_ (by assumption)))
          generalize (((w3.setCell ⟨w.heap.size, 0, none⟩ (.int .i64 (bkY y k))).setCell ⟨w.heap.size, 1, none⟩ (.int .i64 (bkM k : Nat))).setCell ⟨w.heap.size, 2, none⟩ (.int .i64 (d + 1))) = V at z0 z1 z2 hbV ⊢
          exact bodyPost_ret (v := .tuple #[.agg #[.int .i64 (bkY y k), .int .i64 (bkM k : Nat), .int .i64 (d + 1)], .int .i64 0]) (by simp [results, Tryd.results10, go_sem, z0, z1, z2]) rfl ⟨_, rfl, hp, hbV⟩
        · go_wp2_with (go_at_call 18; refine (mlength_any _ _ _ _ (hM.mono (by (repeat (first | assumption | exact Below.refl _ _ | refine belowDN ?_ _ | refine Below.drew ?_ | refine Below.setCell ?_ (by first | omega | (simp <;> omega)) _ | refine Below.alloc ?_ (by first | omega | (simp <;> omega)) _ | refine belowCall ?_ (by assumption))))) (by omega) (by omega) (by omega)).mono ?_; rintro e w2 ⟨rfl, hb2⟩; obtain ⟨hc2, hf2⟩ := bcell hb2; have hz2 := hb2.size; have e0 := (hc2 _ 0 hs').trans c0'; have e1 := (hc2 _ 1 hs').trans c1'; have e2 := (hc2 _ 2 hs').trans c2'; have g0 := (hf2 _ 0 hs').trans f0'; have g1 := (hf2 _ 1 hs').trans f1'; have g2 := (hf2 _ 2 hs').trans f2')
          refine ⟨⟨k + 1, d - mlen y k, by omega, by omega, by omega, by rw [hcs.out]; have := HE.out; omega, by (repeat (first | assumption | exact Below.refl _ _ | refine belowDN ?_ _ | refine Below.drew ?_ | refine Below.setCell ?_ (by first | omega | (simp <;> omega)) _ | refine Below.alloc ?_ (by first | omega | (simp <;> omega)) _ | refine belowCall ?_ (by assumption))), by (first | assumption | omega | (simp; done) | (simp; omega)), sc_other (by decide) (sc_other (by decide) e0), by rw [Int.natCast_succ]; exact sc_same (sc_other (by decide) e1), sc_other (by decide) (sc_same e2), by simp only [World.frozen?_setCell]; exact g0, by simp only [World.frozen?_setCell]; exact g1, by simp only [World.frozen?_setCell]; exact g2⟩, ?_⟩
          rw [cellInt_of (n := (k : Int) + 1) (sc_same (sc_other (by decide) e1)), hcw']
          omega
      · obtain rfl : k = 12 := by omega
        have hE12 : mst (y + 1) + d = day := by rw [← mcu_end]; exact HE.out
        have hb12 := mst_bd (y + 1) (by omega)
        go_wp2
        refine ⟨⟨y + 1, 12, d, by omega, by omega, hd, hd', hE12, by (repeat (first | assumption | exact Below.refl _ _ | refine belowDN ?_ _ | refine Below.drew ?_ | refine Below.setCell ?_ (by first | omega | (simp <;> omega)) _ | refine Below.alloc ?_ (by first | omega | (simp <;> omega)) _ | refine belowCall ?_ (by assumption))), by (first | assumption | omega | (simp; done) | (simp; omega)), sc_same c0', sc_other (by decide) c1', sc_other (by decide) c2', by simp only [World.frozen?_setCell]; exact f0', by simp only [World.frozen?_setCell]; exact f1', by simp only [World.frozen?_setCell]; exact f2'⟩, ?_⟩
        rw [cellInt_of (n := y + 1) (sc_same c0'), hcw]
        omega
end Go.Proofs.YtfebellnmdfpiaaDoor
