/- ReadObserver, the program's. -/
import Derived.Test.YtlfbfgdejoggpacDoorRO1
import Derived.ShapedOpen
import Derived.ChangeAgain
namespace Go.Proofs.YtlfbfgdejoggpacDoor
open Go.ChangeShapes Go.WideShapes Go.ChangeAt Go.RowKit Go.Deep

theorem shapedB {P : Program} {w w' : World} (h : w.ShapedOpen P) (hb : Below w.heap.size w w') : w'.ShapedOpen P :=
  h.keptBut (hb.frame (fun _ => False)) (fun _ h => h.elim)
set_option maxHeartbeats 1000000 in
theorem iReadO_any (s : ByteArray) (w : World) (hs : s.size ≤ 1048576) (hE : Errs w) (hP : Pow w) (hSh : w.ShapedOpen Tryd.prog) :
    Calls Tryd.prog 5 #[.string s] w fun e w' => ∃ v, e = .returned v ∧ RoPost s.data.toList v ∧ Below w.heap.size w w' := by
  have B1 : Below w.heap.size w (w.alloc (.cells #[.string ⟨#[]⟩, .int .i64 0] 23)) := (Below.refl _ w).alloc (Nat.le_refl _) _
  have hbx := ObC.fresh w 23 ⟨#[]⟩ 0
  have z0 : (w.alloc (.cells #[.string ⟨#[]⟩, .int .i64 0] 23)).frozen? ⟨w.heap.size, 0, none⟩ = false := by go_keep
  have z1 : (w.alloc (.cells #[.string ⟨#[]⟩, .int .i64 0] 23)).frozen? ⟨w.heap.size, 1, none⟩ = false := by go_keep
  have hcl := cut_len s.data.toList
  rw [sizeL] at hcl
  obtain ⟨⟨a, b, f⟩, hc⟩ : ∃ c, Lib.cut s.data.toList [32] = c := ⟨_, rfl⟩
  rw [hc] at hcl
  obtain ⟨hcb, hca⟩ := hcl
  dsimp only at hcb hca
  have HC := Lib.hid hc
  go_enter Tryd.func5, Tryd.ntmps5
  go_wp2_with fail
  refine (Tryd.strings_Cut_shaped s ⟨#[32]⟩ _ (shapedB hSh B1) (by omega)).mono ?_
  rintro e w2 ⟨he, q, rfl⟩
  have he' : e = .returned (.tuple #[.string ⟨a.toArray⟩, .string ⟨b.toArray⟩, .bool f]) := by
    rw [he]
    show Ending.returned (.tuple #[.string ⟨(Lib.cut s.data.toList [32]).1.toArray⟩, .string ⟨(Lib.cut s.data.toList [32]).2.1.toArray⟩, .bool (Lib.cut s.data.toList [32]).2.2]) = _
    rw [hc]
  subst he'
  clear he hc
  have B2 := belowDN B1 q
  have z20 : ((w.alloc (.cells #[.string ⟨#[]⟩, .int .i64 0] 23)).drewN q).frozen? ⟨w.heap.size, 0, none⟩ = false := z0
  have z21 : ((w.alloc (.cells #[.string ⟨#[]⟩, .int .i64 0] 23)).drewN q).frozen? ⟨w.heap.size, 1, none⟩ = false := z1
  clear z0 z1
  have hbx2 := hbx.mono (belowDN (Below.refl _ _) q)
  have hsw : w.heap.size < ((w.alloc (.cells #[.string ⟨#[]⟩, .int .i64 0] 23)).drewN q).heap.size := hbx2.1
  go_wp2_with fail
  generalize (w.alloc (.cells #[.string ⟨#[]⟩, .int .i64 0] 23)).drewN q = w2 at B2 hbx2 hsw z20 z21 ⊢
  refine (parseInt_any ⟨b.toArray⟩ w2 (by show b.toArray.size ≤ 281474976710656; rw [List.size_toArray]; omega) (hE.mono B2)).mono ?_
  rintro e w3 ⟨hcase, b3⟩
  have hcase' : (∃ v, Lib.parseIntB 64 b = .ok v ∧ e = .returned (.tuple #[.int .i64 v, .nilIface])) ∨ ((∀ v, Lib.parseIntB 64 b ≠ .ok v) ∧ ∃ n N, e = .returned (.tuple #[.int .i64 n, .iface 53 (.pointer (some ⟨N, 0, none⟩))])) := hcase
  clear hcase
  have hbx3 := hbx2.mono b3
  obtain ⟨hz3, q0, q1⟩ := hbx3.parts
  rw [Nat.zero_add] at q1
  have B3 := belowCall B2 b3
  have z30 := (b3.frozen (p := ⟨w.heap.size, 0, none⟩) hsw).trans z20
  have z31 := (b3.frozen (p := ⟨w.heap.size, 1, none⟩) hsw).trans z21
  rcases hcase' with ⟨v, hv, rfl⟩ | ⟨hno, n, N, rfl⟩
  · have HY := Lib.hid (fun h => ro_eq HC.out hv h)
    have HNo := Lib.hid (fun h => ro_ne HC.out hv h)
    clear hv
    have B4 : Below w3.heap.size w3 (w3.alloc (.cells #[.string ⟨a.toArray⟩, .int .i64 v] 23)) := (Below.refl _ w3).alloc (Nat.le_refl _) _
    have hby := ObC.fresh w3 23 ⟨a.toArray⟩ v
    go_wp2_with fail
    refine (iObt_any ⟨a.toArray⟩ v _ ((hP.mono B3).mono (by (repeat (first | assumption | exact Below.refl _ _ | refine belowDN ?_ _ | refine Below.drew ?_ | refine Below.setCell ?_ (by first | omega | (simp <;> omega)) _ | refine Below.alloc ?_ (by first | omega | (simp <;> omega)) _ | refine belowCall ?_ (by assumption)))))).mono ?_
    rintro e w5 ⟨rfl, b5⟩
    rw [obtV_L]
    have B5 : Below w3.heap.size w3 w5 := belowCall B4 b5
    have z50 := (B5.frozen (p := ⟨w.heap.size, 0, none⟩) hz3).trans z30
    have z51 := (B5.frozen (p := ⟨w.heap.size, 1, none⟩) hz3).trans z31
    obtain ⟨-, r0, r1⟩ := (hbx3.mono B5).parts
    rw [Nat.zero_add] at r1
    obtain ⟨hz5, y0, y1⟩ := (hby.mono b5).parts
    rw [Nat.zero_add] at y1
    have hne : w.heap.size ≠ w3.heap.size := by omega
    clear q0 q1 z30 z31
    by_cases hq : obtL (⟨a.toArray⟩, v) = s.data.toList
    · have HN := HY.out hq
      have hst : (⟨(obtL (⟨a.toArray⟩, v)).toArray⟩ : ByteArray) = s := (str_eq _ _).2 hq
      rw [hst]
      clear hq hst HY HNo
      generalize (⟨a.toArray⟩ : ByteArray) = x0 at HN y0 y1 ⊢
      go_wp2
      have t0 : (w5.setCell ⟨w.heap.size, 0, none⟩ (.string x0)).cell? ⟨w.heap.size, 0, none⟩ = some (.string x0) := scS r0
      have t1 : ((w5.setCell ⟨w.heap.size, 0, none⟩ (.string x0)).setCell ⟨w.heap.size, 1, none⟩ (.int .i64 v)).cell? ⟨w.heap.size, 1, none⟩ = some (.int .i64 v) := scS (scO (by decide) r1)
      exact bodyPost_ret (v := roOk (x0, v)) (by simp [results, Tryd.results5, go_sem, roOk, t0, t1]) rfl ⟨_, rfl, HN, by (repeat (first | assumption | exact Below.refl _ _ | refine belowDN ?_ _ | refine Below.drew ?_ | refine Below.setCell ?_ (by first | omega | (simp <;> omega)) _ | refine Below.alloc ?_ (by first | omega | (simp <;> omega)) _ | refine belowCall ?_ (by assumption)))⟩
    · have HN := HNo.out hq
      have hst := str_ne (fun h => hq ((str_eq _ _).1 h))
      clear hq HY HNo
      generalize (⟨(obtL (⟨a.toArray⟩, v)).toArray⟩ : ByteArray) = u at hst ⊢
      go_wp2
      have t0 : (w5.setCell ⟨w.heap.size, 0, none⟩ (.string ⟨#[]⟩)).cell? ⟨w.heap.size, 0, none⟩ = some (.string ⟨#[]⟩) := scS r0
      have t1 : ((w5.setCell ⟨w.heap.size, 0, none⟩ (.string ⟨#[]⟩)).setCell ⟨w.heap.size, 1, none⟩ (.int .i64 0)).cell? ⟨w.heap.size, 1, none⟩ = some (.int .i64 0) := scS (scO (by decide) r1)
      exact bodyPost_ret (v := roNo) (by simp [results, Tryd.results5, go_sem, roNo, t0, t1]) rfl ⟨_, rfl, HN, by (repeat (first | assumption | exact Below.refl _ _ | refine belowDN ?_ _ | refine Below.drew ?_ | refine Below.setCell ?_ (by first | omega | (simp <;> omega)) _ | refine Below.alloc ?_ (by first | omega | (simp <;> omega)) _ | refine belowCall ?_ (by assumption)))⟩
  · have HN := ro_err HC.out hno
    clear hno
    go_wp2
    have hzz : w.heap.size ≠ w3.heap.size := by omega
    have s0 : (w3.setCell ⟨w.heap.size, 0, none⟩ (.string ⟨#[]⟩)).cell? ⟨w.heap.size, 0, none⟩ = some (.string ⟨#[]⟩) := scS q0
    have s1 : ((w3.setCell ⟨w.heap.size, 0, none⟩ (.string ⟨#[]⟩)).setCell ⟨w.heap.size, 1, none⟩ (.int .i64 0)).cell? ⟨w.heap.size, 0, none⟩ = some (.string ⟨#[]⟩) := scO (by decide) s0
    have s2 : ((w3.setCell ⟨w.heap.size, 0, none⟩ (.string ⟨#[]⟩)).setCell ⟨w.heap.size, 1, none⟩ (.int .i64 0)).cell? ⟨w.heap.size, 1, none⟩ = some (.int .i64 0) := scS (scO (by decide) q1)
    have t0 : (((w3.setCell ⟨w.heap.size, 0, none⟩ (.string ⟨#[]⟩)).setCell ⟨w.heap.size, 1, none⟩ (.int .i64 0)).alloc (.cells #[.string ⟨a.toArray⟩, .int .i64 n] 23)).cell? ⟨w.heap.size, 0, none⟩ = some (.string ⟨#[]⟩) := by
      rw [World.cell?_alloc_old _ _ _ (by simpa using hzz)]; exact s1
    have t1 : (((w3.setCell ⟨w.heap.size, 0, none⟩ (.string ⟨#[]⟩)).setCell ⟨w.heap.size, 1, none⟩ (.int .i64 0)).alloc (.cells #[.string ⟨a.toArray⟩, .int .i64 n] 23)).cell? ⟨w.heap.size, 1, none⟩ = some (.int .i64 0) := by
      rw [World.cell?_alloc_old _ _ _ (by simpa using hzz)]; exact s2
    exact bodyPost_ret (v := roNo) (by simp [results, Tryd.results5, go_sem, roNo, t0, t1]) rfl ⟨_, rfl, HN, by (repeat (first | assumption | exact Below.refl _ _ | refine belowDN ?_ _ | refine Below.drew ?_ | refine Below.setCell ?_ (by first | omega | (simp <;> omega)) _ | refine Below.alloc ?_ (by first | omega | (simp <;> omega)) _ | refine belowCall ?_ (by assumption)))⟩
end Go.Proofs.YtlfbfgdejoggpacDoor
