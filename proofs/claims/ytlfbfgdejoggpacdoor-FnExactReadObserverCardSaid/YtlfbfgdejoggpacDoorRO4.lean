/- ReadObserver, the model's walk. -/
import Derived.Test.YtlfbfgdejoggpacDoorRO3
namespace Go.Proofs.YtlfbfgdejoggpacDoor
open Go.ChangeShapes Go.WideShapes Go.ChangeAt Go.RowKit Go.Deep

/-- the result's cell in the world at hand -/
def RC (B : Nat) (w : World) : Prop := B < w.heap.size ∧ w.cell? ⟨B, 0, none⟩ = some (.string ⟨#[]⟩) ∧ w.cell? ⟨B, 1, none⟩ = some (.int .i64 0) ∧ w.frozen? ⟨B, 0, none⟩ = false ∧ w.frozen? ⟨B, 1, none⟩ = false
theorem RC.mono {B : Nat} {w w' : World} (h : RC B w) (hb : Below w.heap.size w w') : RC B w' :=
  ⟨Nat.lt_of_lt_of_le h.1 hb.size, (hb.cell (p := ⟨B, 0, none⟩) h.1).trans h.2.1, (hb.cell (p := ⟨B, 1, none⟩) h.1).trans h.2.2.1, (hb.frozen (p := ⟨B, 0, none⟩) h.1).trans h.2.2.2.1, (hb.frozen (p := ⟨B, 1, none⟩) h.1).trans h.2.2.2.2⟩
theorem RC.stored {B : Nat} {w : World} (h : RC B w) (s : ByteArray) (n : Int) : ((w.setCell ⟨B, 0, none⟩ (.string s)).cell? ⟨B, 0, none⟩ = some (.string s)) ∧ (((w.setCell ⟨B, 0, none⟩ (.string s)).setCell ⟨B, 1, none⟩ (.int .i64 n)).cell? ⟨B, 0, none⟩ = some (.string s)) ∧ (((w.setCell ⟨B, 0, none⟩ (.string s)).setCell ⟨B, 1, none⟩ (.int .i64 n)).cell? ⟨B, 1, none⟩ = some (.int .i64 n)) :=
  ⟨scS h.2.1, scO (by decide) (scS h.2.1), scS (scO (by decide) h.2.2.1)⟩
theorem RC.storedA {B : Nat} {w : World} (h : RC B w) (s : ByteArray) (n : Int) (o : Obj) : ((((w.setCell ⟨B, 0, none⟩ (.string s)).setCell ⟨B, 1, none⟩ (.int .i64 n)).alloc o).cell? ⟨B, 0, none⟩ = some (.string s)) ∧ ((((w.setCell ⟨B, 0, none⟩ (.string s)).setCell ⟨B, 1, none⟩ (.int .i64 n)).alloc o).cell? ⟨B, 1, none⟩ = some (.int .i64 n)) := by
  obtain ⟨-, h2, h3⟩ := h.stored s n
  have hne : B ≠ w.heap.size := by have := h.1; omega
  exact ⟨by rw [World.cell?_alloc_old _ _ _ (by simpa using hne)]; exact h2, by rw [World.cell?_alloc_old _ _ _ (by simpa using hne)]; exact h3⟩
set_option maxHeartbeats 2000000 in
theorem sReadO_any (s : ByteArray) (w : World) (hs : s.size ≤ 1048576) :
    Calls Tryd.prog 4 #[.string s] w fun e w' => ∃ v, e = .returned v ∧ RoPost s.data.toList v ∧ Below w.heap.size w w' := by
  have B1 : Below w.heap.size w (w.alloc (.cells #[.string ⟨#[]⟩, .int .i64 0] 23)) := (Below.refl _ w).alloc (Nat.le_refl _) _
  have R1 : RC w.heap.size (w.alloc (.cells #[.string ⟨#[]⟩, .int .i64 0] 23)) := ⟨by simp, by go_keep, by go_keep, by go_keep, by go_keep⟩
  go_enter Tryd.func4, Tryd.ntmps4
  go_wp2_with fail
  refine (l01Split_any s 32 _ hs).mono ?_
  rintro e w2 ⟨g, cap, ps, rfl, hps, hown, b2⟩
  have B2 := belowCall B1 b2
  have hR := R1.mono b2
  obtain ⟨hR0, q0, q1, z0, z1⟩ := hR
  have hR : RC w.heap.size w2 := ⟨hR0, q0, q1, z0, z1⟩
  have hgl := (hown.lt g rfl).2
  have hge := (hown.lt g rfl).1
  by_cases h2 : ps.length = 2
  rotate_left
  · have HN := ro_no1 (l := s.data.toList) (fun a b e => h2 (by rw [e] at hps; have := congrArg List.length hps; simpa using this))
    have hd : ((ps.length : Int) != 2) = true := by simp; omega
    clear h2 hps hown
    generalize ps.length = n at hd ⊢
    go_wp2
    (obtain ⟨-, t2, t1⟩ := hR.stored ⟨#[]⟩ 0; exact bodyPost_ret (v := roNo) (by simp [results, Tryd.results4, go_sem, roNo, t1, t2]) rfl ⟨_, rfl, HN, by (repeat (first | assumption | exact Below.refl _ _ | refine belowDN ?_ _ | refine Below.drew ?_ | refine Below.setCell ?_ (by first | omega | (simp <;> omega)) _ | refine Below.alloc ?_ (by first | omega | (simp <;> omega)) _ | refine belowCall ?_ (by assumption)))⟩)
  obtain ⟨p0, p1, rfl⟩ : ∃ p0 p1, ps = [p0, p1] := by
    match ps, h2 with
    | [a, b], _ => exact ⟨a, b, rfl⟩
  have hs2 : splitA 32 [] s.data.toList = [p0.data.toList, p1.data.toList] := hps.symm
  have c0 : w2.cell? ⟨g, 0, none⟩ = some (.string p0) := hown.cellAt 0 (by simp)
  have c1 : w2.cell? ⟨g, 1, none⟩ = some (.string p1) := hown.cellAt 1 (by simp)
  have HS := Lib.hid hs2
  clear hps hown h2 hs2
  by_cases hlen : p1.size < 2
  · have HN := ro_short HS.out (by rw [sizeL]; exact hlen)
    have hl : (p1.size : Int) < 2 := by omega
    go_wp2
    (obtain ⟨-, t2, t1⟩ := hR.stored ⟨#[]⟩ 0; exact bodyPost_ret (v := roNo) (by simp [results, Tryd.results4, go_sem, roNo, t1, t2]) rfl ⟨_, rfl, HN, by (repeat (first | assumption | exact Below.refl _ _ | refine belowDN ?_ _ | refine Below.drew ?_ | refine Below.setCell ?_ (by first | omega | (simp <;> omega)) _ | refine Below.alloc ?_ (by first | omega | (simp <;> omega)) _ | refine belowCall ?_ (by assumption)))⟩)
  have hl : ¬ (p1.size : Int) < 2 := by omega
  have hp1 : 0 < p1.size := by omega
  have HT43 : ((p1[0]'hp1).toNat : Int) = ((p1[0]'hp1).toNat : Int) := rfl
  clear HT43
  cases h43 : (((p1[0]'hp1).toNat : Int) == 43)
  · cases h45 : (((p1[0]'hp1).toNat : Int) != 45)
    rotate_left
    · have HN := ro_no2 HS.out (head_no h43 h45)
      go_wp2
      (obtain ⟨-, t2, t1⟩ := hR.stored ⟨#[]⟩ 0; exact bodyPost_ret (v := roNo) (by simp [results, Tryd.results4, go_sem, roNo, t1, t2]) rfl ⟨_, rfl, HN, by (repeat (first | assumption | exact Below.refl _ _ | refine belowDN ?_ _ | refine Below.drew ?_ | refine Below.setCell ?_ (by first | omega | (simp <;> omega)) _ | refine Below.alloc ?_ (by first | omega | (simp <;> omega)) _ | refine belowCall ?_ (by assumption)))⟩)
    have h45' : (((p1[0]'hp1).toNat : Int) == 45) = true := by simpa using h45
    have hT : SgT false p1.data.toList p1.data.toList := .inr ⟨rfl, rfl, _, min_tail p1 hp1 h45'⟩
    go_wp2_with fail
    refine (l01Number_any p1 _).mono ?_
    rintro e w3 ⟨v, rfl, hn, b3⟩
    have hR3 := hR.mono b3
    have B3 := belowCall B2 b3
    have d0 := (b3.cell (p := ⟨g, 0, none⟩) hgl).trans c0
    have d1 := (b3.cell (p := ⟨g, 1, none⟩) hgl).trans c1
    have hg3 : g < w3.heap.size := Nat.lt_of_lt_of_le hgl b3.size
    have hgne : g ≠ w3.heap.size := by omega
    have hBne : w.heap.size ≠ w3.heap.size := by have := hR3.1; omega
    obtain ⟨hR30, r0, r1, y0, y1⟩ := id hR3
    clear q0 q1 z0 z1 c0 c1
    rcases hn with ⟨n, n1, n2, hi, rfl⟩ | ⟨hno, rfl⟩
    rotate_left
    · have HN := ro_bad HS.out hT hno
      clear hno
      go_wp2
      (obtain ⟨t2, t1⟩ := hR3.storedA ⟨#[]⟩ 0 (.cells #[.string p0, .int .i64 0] 23); exact bodyPost_ret (v := roNo) (by simp [results, Tryd.results4, go_sem, roNo, t1, t2]) rfl ⟨_, rfl, HN, by (repeat (first | assumption | exact Below.refl _ _ | refine belowDN ?_ _ | refine Below.drew ?_ | refine Below.setCell ?_ (by first | omega | (simp <;> omega)) _ | refine Below.alloc ?_ (by first | omega | (simp <;> omega)) _ | refine belowCall ?_ (by assumption)))⟩)
    · cases ho : obB (p0, n)
      · have HN := ro_inv HS.out hT hi ho
        clear hi hT
        go_wp2_with (go_at_call 9; refine (l05One_below _ _ p0 n _ (ObC.fresh _ _ _ _)).mono ?_; rintro e w4 ⟨rfl, b4⟩; rw [ho]; have hR4 := (hR3.mono ((Below.refl _ w3).alloc (Nat.le_refl _) (.cells #[.string p0, .int .i64 n] 23))).mono b4; obtain ⟨-, v0, v1, x0, x1⟩ := id hR4; obtain ⟨u4, u0, u1⟩ := ((ObC.fresh w3 23 p0 n).mono b4).parts; rw [Nat.zero_add] at u1)
        (obtain ⟨-, t2, t1⟩ := hR4.stored ⟨#[]⟩ 0; exact bodyPost_ret (v := roNo) (by simp [results, Tryd.results4, go_sem, roNo, t1, t2]) rfl ⟨_, rfl, HN, by (repeat (first | assumption | exact Below.refl _ _ | refine belowDN ?_ _ | refine Below.drew ?_ | refine Below.setCell ?_ (by first | omega | (simp <;> omega)) _ | refine Below.alloc ?_ (by first | omega | (simp <;> omega)) _ | refine belowCall ?_ (by assumption)))⟩)
      · have HN := ro_ok HS.out hT hi (fun h => by cases h) ho
        clear hi hT
        go_wp2_with (go_at_call 9; refine (l05One_below _ _ p0 n _ (ObC.fresh _ _ _ _)).mono ?_; rintro e w4 ⟨rfl, b4⟩; rw [ho]; have hR4 := (hR3.mono ((Below.refl _ w3).alloc (Nat.le_refl _) (.cells #[.string p0, .int .i64 n] 23))).mono b4; obtain ⟨-, v0, v1, x0, x1⟩ := id hR4; obtain ⟨u4, u0, u1⟩ := ((ObC.fresh w3 23 p0 n).mono b4).parts; rw [Nat.zero_add] at u1)
        (obtain ⟨-, t2, t1⟩ := hR4.stored p0 n; exact bodyPost_ret (v := roOk (p0, n)) (by simp [results, Tryd.results4, go_sem, roOk, t1, t2]) rfl ⟨_, rfl, HN, by (repeat (first | assumption | exact Below.refl _ _ | refine belowDN ?_ _ | refine Below.drew ?_ | refine Below.setCell ?_ (by first | omega | (simp <;> omega)) _ | refine Below.alloc ?_ (by first | omega | (simp <;> omega)) _ | refine belowCall ?_ (by assumption)))⟩)
  · have hT : SgT true p1.data.toList (p1.extract 1 p1.size).data.toList := .inl ⟨rfl, plus_tail p1 hp1 h43⟩
    go_wp2_with fail
    refine (l01Number_any (p1.extract 1 p1.size) _).mono ?_
    rintro e w3 ⟨v, rfl, hn, b3⟩
    have hR3 := hR.mono b3
    have B3 := belowCall B2 b3
    have d0 := (b3.cell (p := ⟨g, 0, none⟩) hgl).trans c0
    have d1 := (b3.cell (p := ⟨g, 1, none⟩) hgl).trans c1
    have hg3 : g < w3.heap.size := Nat.lt_of_lt_of_le hgl b3.size
    have hgne : g ≠ w3.heap.size := by omega
    have hBne : w.heap.size ≠ w3.heap.size := by have := hR3.1; omega
    obtain ⟨hR30, r0, r1, y0, y1⟩ := id hR3
    clear q0 q1 z0 z1 c0 c1
    rcases hn with ⟨n, n1, n2, hi, rfl⟩ | ⟨hno, rfl⟩
    rotate_left
    · have HN := ro_bad HS.out hT hno
      clear hno
      go_wp2
      (obtain ⟨t2, t1⟩ := hR3.storedA ⟨#[]⟩ 0 (.cells #[.string p0, .int .i64 0] 23); exact bodyPost_ret (v := roNo) (by simp [results, Tryd.results4, go_sem, roNo, t1, t2]) rfl ⟨_, rfl, HN, by (repeat (first | assumption | exact Below.refl _ _ | refine belowDN ?_ _ | refine Below.drew ?_ | refine Below.setCell ?_ (by first | omega | (simp <;> omega)) _ | refine Below.alloc ?_ (by first | omega | (simp <;> omega)) _ | refine belowCall ?_ (by assumption)))⟩)
    · by_cases hneg : n < 0
      · have HN := ro_sign HS.out hT hi rfl hneg
        clear hi hT
        go_wp2
        obtain ⟨t2, t1⟩ := hR3.storedA ⟨#[]⟩ 0 (.cells #[.string p0, .int .i64 n] 23)
        exact bodyPost_ret (v := roNo) (by simp [results, Tryd.results4, go_sem, roNo, t1, t2]) rfl ⟨_, rfl, HN, by (repeat (first | assumption | exact Below.refl _ _ | refine belowDN ?_ _ | refine Below.drew ?_ | refine Below.setCell ?_ (by first | omega | (simp <;> omega)) _ | refine Below.alloc ?_ (by first | omega | (simp <;> omega)) _ | refine belowCall ?_ (by assumption)))⟩
      cases ho : obB (p0, n)
      · have HN := ro_inv HS.out hT hi ho
        clear hi hT
        go_wp2_with (go_at_call 9; refine (l05One_below _ _ p0 n _ (ObC.fresh _ _ _ _)).mono ?_; rintro e w4 ⟨rfl, b4⟩; rw [ho]; have hR4 := (hR3.mono ((Below.refl _ w3).alloc (Nat.le_refl _) (.cells #[.string p0, .int .i64 n] 23))).mono b4; obtain ⟨-, v0, v1, x0, x1⟩ := id hR4; obtain ⟨u4, u0, u1⟩ := ((ObC.fresh w3 23 p0 n).mono b4).parts; rw [Nat.zero_add] at u1)
        (obtain ⟨-, t2, t1⟩ := hR4.stored ⟨#[]⟩ 0; exact bodyPost_ret (v := roNo) (by simp [results, Tryd.results4, go_sem, roNo, t1, t2]) rfl ⟨_, rfl, HN, by (repeat (first | assumption | exact Below.refl _ _ | refine belowDN ?_ _ | refine Below.drew ?_ | refine Below.setCell ?_ (by first | omega | (simp <;> omega)) _ | refine Below.alloc ?_ (by first | omega | (simp <;> omega)) _ | refine belowCall ?_ (by assumption)))⟩)
      · have HN := ro_ok HS.out hT hi (fun _ => by omega) ho
        clear hi hT
        go_wp2_with (go_at_call 9; refine (l05One_below _ _ p0 n _ (ObC.fresh _ _ _ _)).mono ?_; rintro e w4 ⟨rfl, b4⟩; rw [ho]; have hR4 := (hR3.mono ((Below.refl _ w3).alloc (Nat.le_refl _) (.cells #[.string p0, .int .i64 n] 23))).mono b4; obtain ⟨-, v0, v1, x0, x1⟩ := id hR4; obtain ⟨u4, u0, u1⟩ := ((ObC.fresh w3 23 p0 n).mono b4).parts; rw [Nat.zero_add] at u1)
        (obtain ⟨-, t2, t1⟩ := hR4.stored p0 n; exact bodyPost_ret (v := roOk (p0, n)) (by simp [results, Tryd.results4, go_sem, roOk, t1, t2]) rfl ⟨_, rfl, HN, by (repeat (first | assumption | exact Below.refl _ _ | refine belowDN ?_ _ | refine Below.drew ?_ | refine Below.setCell ?_ (by first | omega | (simp <;> omega)) _ | refine Below.alloc ?_ (by first | omega | (simp <;> omega)) _ | refine belowCall ?_ (by assumption)))⟩)
end Go.Proofs.YtlfbfgdejoggpacDoor
