/- BoxAround, the program's and the model's; the laws' copying of a star, its size, the comparing of boxes. -/
import Derived.Test.YtiogffjhhhpolabS2
import Derived.Test.YtiogffjhhhpolabSQ
import Derived.Test.YtiogffjhhhpolabST
import Derived.Test.YtiogffjhhhpolabQR
namespace Go.Proofs.Ytiogffjhhhpolab
open Go.ChangeShapes Go.WideShapes Go.ChangeAt Go.RowKit

def box0 : Value := .agg #[.int .i64 0, .int .i64 0, .int .i64 0, .int .i64 0]
def boxL (d wd : Int) : Int := if d - 15 * wd < -324000 then -324000 else d - 15 * wd
def boxU (d wd : Int) : Int := if 324000 < d + 15 * wd then 324000 else d + 15 * wd
def barV (x : St) (wd : Int) : Value := if starB x && inB wd 0 40000 then .tuple #[.agg #[.int .i64 ((x.2.1 - wd) % 86400), .int .i64 ((x.2.1 + wd) % 86400), .int .i64 (boxL x.2.2.1 wd), .int .i64 (boxU x.2.2.1 wd)], .int .i64 0] else .tuple #[box0, .int .i64 2]
theorem barV_no {x : St} {wd : Int} (h : (starB x && inB wd 0 40000) = false) : barV x wd = .tuple #[.agg #[.int .i64 0, .int .i64 0, .int .i64 0, .int .i64 0], .int .i64 2] := by simp [barV, box0, h]
theorem barV_yes {nm : ByteArray} {a d u v wd : Int} (h1 : starB (nm, a, d, u, v) = true) (h2 : inB wd 0 40000 = true) : barV (nm, a, d, u, v) wd = .tuple #[.agg #[.int .i64 ((a - wd) % 86400), .int .i64 ((a + wd) % 86400), .int .i64 (boxL d wd), .int .i64 (boxU d wd)], .int .i64 0] := by simp [barV, h1, h2]
set_option maxRecDepth 100000 in
set_option maxHeartbeats 4000000 in
theorem iBox_any (nm : ByteArray) (a d u v wd : Int) (w : World) :
    Calls Try.prog 51 #[.agg #[.string nm, .int .i64 a, .int .i64 d, .int .i64 u, .int .i64 v], .int .i64 wd] w fun e w' => e = .returned (barV (nm, a, d, u, v) wd) ∧ Below w.heap.size w w' := by
  cases h1 : starB (nm, a, d, u, v)
  case false =>
    have HV := Lib.hid (barV_no (x := (nm, a, d, u, v)) (wd := wd) (by rw [h1]; rfl))
    go_enter Try.func51, Try.ntmps51; go_wp2_with (first | (go_at_call 109; refine (valid_any _ _ _ _ _ _).mono ?_; rintro e w' ⟨rfl, hbel⟩; obtain ⟨hc, hf⟩ := bcell hbel; have hz := hbel.size; (try simp at hz); (try simp only [Nat.add_one_le_iff] at hz); (try (have hzw : w.heap.size < w'.heap.size := by omega)); (first | (have hq := ((StC.fresh _ _ nm a d u v).mono hbel).parts; obtain ⟨_, k0, k1, k2, k3, k4⟩ := hq) | (have hq := ((StC.fresh2 _ _ _ nm a d u v).mono hbel).parts; obtain ⟨_, k0, k1, k2, k3, k4⟩ := hq) | skip); (try (have e0 : w'.cell? ⟨w.heap.size + 1, 0, none⟩ = some (.int .i64 0) := (by rw [hc _ _ (by simp)]; go_keep); have e1 : w'.cell? ⟨w.heap.size + 1, 1, none⟩ = some (.int .i64 0) := (by rw [hc _ _ (by simp)]; go_keep); have e2 : w'.cell? ⟨w.heap.size + 1, 2, none⟩ = some (.int .i64 0) := (by rw [hc _ _ (by simp)]; go_keep); have e3 : w'.cell? ⟨w.heap.size + 1, 3, none⟩ = some (.int .i64 0) := (by rw [hc _ _ (by simp)]; go_keep)))) | (go_at_call 80; refine (inRange_any _ _ _ _).mono ?_; rintro e w' ⟨rfl, rfl⟩) | (go_at_call 110; refine (around_any _ _ (by omega) (by omega)).mono ?_; rintro e w' ⟨rfl, rfl⟩))
    exact bodyPost_ret (v := .tuple #[.agg #[.int .i64 0, .int .i64 0, .int .i64 0, .int .i64 0], .int .i64 2]) (by simp [results, Try.results51, go_sem, e0, e1, e2, e3]) rfl ⟨by rw [HV.out], by (repeat (first | assumption | exact Below.refl _ _ | refine belowDN ?_ _ | refine Below.drew ?_ | refine Below.setCell ?_ (by first | omega | (simp <;> omega)) _ | refine Below.alloc ?_ (by first | omega | (simp <;> omega)) _ | refine belowCall ?_ (by assumption)))⟩
  cases h2 : inB wd 0 40000
  case false =>
    have HV := Lib.hid (barV_no (x := (nm, a, d, u, v)) (wd := wd) (by rw [h1, h2]; rfl))
    go_enter Try.func51, Try.ntmps51; go_wp2_with (first | (go_at_call 109; refine (valid_any _ _ _ _ _ _).mono ?_; rintro e w' ⟨rfl, hbel⟩; obtain ⟨hc, hf⟩ := bcell hbel; have hz := hbel.size; (try simp at hz); (try simp only [Nat.add_one_le_iff] at hz); (try (have hzw : w.heap.size < w'.heap.size := by omega)); (first | (have hq := ((StC.fresh _ _ nm a d u v).mono hbel).parts; obtain ⟨_, k0, k1, k2, k3, k4⟩ := hq) | (have hq := ((StC.fresh2 _ _ _ nm a d u v).mono hbel).parts; obtain ⟨_, k0, k1, k2, k3, k4⟩ := hq) | skip); (try (have e0 : w'.cell? ⟨w.heap.size + 1, 0, none⟩ = some (.int .i64 0) := (by rw [hc _ _ (by simp)]; go_keep); have e1 : w'.cell? ⟨w.heap.size + 1, 1, none⟩ = some (.int .i64 0) := (by rw [hc _ _ (by simp)]; go_keep); have e2 : w'.cell? ⟨w.heap.size + 1, 2, none⟩ = some (.int .i64 0) := (by rw [hc _ _ (by simp)]; go_keep); have e3 : w'.cell? ⟨w.heap.size + 1, 3, none⟩ = some (.int .i64 0) := (by rw [hc _ _ (by simp)]; go_keep)))) | (go_at_call 80; refine (inRange_any _ _ _ _).mono ?_; rintro e w' ⟨rfl, rfl⟩) | (go_at_call 110; refine (around_any _ _ (by omega) (by omega)).mono ?_; rintro e w' ⟨rfl, rfl⟩))
    exact bodyPost_ret (v := .tuple #[.agg #[.int .i64 0, .int .i64 0, .int .i64 0, .int .i64 0], .int .i64 2]) (by simp [results, Try.results51, go_sem, e0, e1, e2, e3]) rfl ⟨by rw [HV.out], by (repeat (first | assumption | exact Below.refl _ _ | refine belowDN ?_ _ | refine Below.drew ?_ | refine Below.setCell ?_ (by first | omega | (simp <;> omega)) _ | refine Below.alloc ?_ (by first | omega | (simp <;> omega)) _ | refine belowCall ?_ (by assumption)))⟩
  have HV := Lib.hid (barV_yes h1 h2)
  obtain ⟨_, a1, a2, d1, d2, _, _, _⟩ := star_bd h1
  obtain ⟨w1, w2⟩ := inB_iff.1 h2
  by_cases c1 : d - 15 * wd < -324000
  all_goals
    by_cases c2 : 324000 < d + 15 * wd
    all_goals
      go_enter Try.func51, Try.ntmps51; go_wp2_with (first | (go_at_call 109; refine (valid_any _ _ _ _ _ _).mono ?_; rintro e w' ⟨rfl, hbel⟩; obtain ⟨hc, hf⟩ := bcell hbel; have hz := hbel.size; (try simp at hz); (try simp only [Nat.add_one_le_iff] at hz); (try (have hzw : w.heap.size < w'.heap.size := by omega)); (first | (have hq := ((StC.fresh _ _ nm a d u v).mono hbel).parts; obtain ⟨_, k0, k1, k2, k3, k4⟩ := hq) | (have hq := ((StC.fresh2 _ _ _ nm a d u v).mono hbel).parts; obtain ⟨_, k0, k1, k2, k3, k4⟩ := hq) | skip); (try (have e0 : w'.cell? ⟨w.heap.size + 1, 0, none⟩ = some (.int .i64 0) := (by rw [hc _ _ (by simp)]; go_keep); have e1 : w'.cell? ⟨w.heap.size + 1, 1, none⟩ = some (.int .i64 0) := (by rw [hc _ _ (by simp)]; go_keep); have e2 : w'.cell? ⟨w.heap.size + 1, 2, none⟩ = some (.int .i64 0) := (by rw [hc _ _ (by simp)]; go_keep); have e3 : w'.cell? ⟨w.heap.size + 1, 3, none⟩ = some (.int .i64 0) := (by rw [hc _ _ (by simp)]; go_keep)))) | (go_at_call 80; refine (inRange_any _ _ _ _).mono ?_; rintro e w' ⟨rfl, rfl⟩) | (go_at_call 110; refine (around_any _ _ (by omega) (by omega)).mono ?_; rintro e w' ⟨rfl, rfl⟩))
      refine region_tail 23 (by kernel_rfl) (by kernel_rfl) ?_
      (simp only [List.take_succ_cons, List.take_zero, List.drop_succ_cons, List.drop_zero])
      (repeat (go_big_quiet_step (fail)))
      go_big_quiet_want; go_big_quiet_op; apply Exists.intro; refine ⟨?_, ?_⟩
      exact flipS (around_any (a - wd) _ (by omega) (by omega))
      go_big_quiet_on
      (repeat (go_big_quiet_step (fail)))
      go_big_quiet_want; go_big_quiet_op; apply Exists.intro; refine ⟨?_, ?_⟩
      exact flipS (around_any (a + wd) _ (by omega) (by omega))
      go_big_quiet_on
      (repeat (go_big_quiet_step (fail)))
      refine wpQuiet_nil ?_
      go_wp2
      refine bodyPost_ret (v := barV (nm, a, d, u, v) wd) ?_ rfl ⟨rfl, by (repeat (first | assumption | exact Below.refl _ _ | refine belowDN ?_ _ | refine Below.drew ?_ | refine Below.setCell ?_ (by first | omega | (simp <;> omega)) _ | refine Below.alloc ?_ (by first | omega | (simp <;> omega)) _ | refine belowCall ?_ (by assumption)))⟩
      rw [HV.out]
      simp [results, Try.results51, go_sem, e0, e1, e2, e3, boxL, boxU, c1, c2]
      all_goals (first | omega | (constructor <;> (intros; omega)))
theorem box_form (x : St) (wd : Int) : ∃ a b c d k, barV x wd = .tuple #[.agg #[.int .i64 a, .int .i64 b, .int .i64 c, .int .i64 d], .int .i64 k] := by
  unfold barV box0; split <;> exact ⟨_, _, _, _, _, rfl⟩
end Go.Proofs.Ytiogffjhhhpolab
