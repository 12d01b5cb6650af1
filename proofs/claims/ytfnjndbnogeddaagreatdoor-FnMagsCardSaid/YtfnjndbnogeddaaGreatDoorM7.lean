/- The program's MedianMag. -/
import Derived.Test.YtfnjndbnogeddaaGreatDoorM6
import Derived.Test.YtfnjndbnogeddaaGreatDoorQR
namespace Go.Proofs.YtfnjndbnogeddaaGreatDoor
open Go.ChangeShapes Go.WideShapes Go.ChangeAt Go.RowKit

theorem tiny_any (g n c Bs : Nat) (h1 : n = 1) (w : World) :
    Calls Tryz.prog 78 #[.iface 34 (.slice (some ⟨g, 0, none⟩) n c), .func (.func 79) #[] #[.pointer (some ⟨Bs, 0, none⟩)]] w fun e w' => e = .returned (.tuple #[]) ∧ ∃ os, w' = Go.Sort.grow w os := by
  have hK : Lib.swapperK n siE 6 = n + 1 := by subst h1; simp [Lib.swapperK]
  exact Go.Proofs.Any.sort_Slice_tiny Tryz.sa6 34 2 siT siE (by kernel_rfl) (by kernel_rfl) (by kernel_rfl) (by kernel_rfl) 6 (fun _ => by kernel_rfl) (some ⟨g, 0, none⟩) n c (by omega) 129 (by rw [hK]; subst h1; kernel_rfl) (.func 79) #[] #[.pointer (some ⟨Bs, 0, none⟩)] w
theorem sortS_any (g n c Bs B : Nat) (xs : List Int) (w0 w : World) (hB : Below B w0 w) (hbs : B ≤ w.heap.size) (hown : w.ownsRow B 2 1 (.slice (some ⟨g, 0, none⟩) n c) n (xs.map (Value.int .i64))) (hne : Bs ≠ g) (hlt : Bs < w.heap.size) (hbox : w.cell? ⟨Bs, 0, none⟩ = some (.slice (some ⟨g, 0, none⟩) n c)) (h0 : 0 < n) (hn : n ≤ 1048576) :
    Calls Tryz.prog 78 #[.iface 34 (.slice (some ⟨g, 0, none⟩) n c), .func (.func 79) #[] #[.pointer (some ⟨Bs, 0, none⟩)]] w fun e w' => e = .returned (.tuple #[]) ∧ Sorted B g n c Bs xs w0 w' := by
  by_cases h2 : 2 ≤ n
  · exact sort_any g n c Bs B xs w0 w hB hbs hown hne hlt hbox h2 hn
  · have hxl : xs.length = n := by have := hown.1; simpa using this
    refine (tiny_any g n c Bs (by omega) w).mono ?_
    rintro e w' ⟨rfl, os, rfl⟩
    have hgr : ∀ row, w.grownBy (Go.Sort.grow w os) row := fun row => ⟨rfl, rfl, rfl, by simp, fun k hk _ => Go.Sort.heap_grow_old _ _ hk⟩
    refine ⟨rfl, xs, hxl, ?_, List.Perm.refl _, hown.kept (hgr none) (.inr (by simp [Value.ownBlock])), ?_, hB.grown (hgr none) hbs (fun k hk => by cases hk)⟩
    · match xs, hxl with
      | [x], _ => exact List.pairwise_singleton _ _
      | [], hx => simp at hx; omega
      | x :: y :: l, hx => simp at hx; omega
    · rw [Go.Sort.cell?_grow _ _ _ hlt]; exact hbox
set_option maxHeartbeats 2000000 in
theorem medianOf_any (g o n c : Nat) (xs : List Int) (w : World) (h : Lst w (some ⟨g, o, none⟩) n xs) (hn : n ≤ 1048576) (h0 : 0 < n) (hx : ∀ x ∈ xs, -1000000000000 ≤ x ∧ x ≤ 1000000000000) :
    Calls Tryz.prog 51 #[.slice (some ⟨g, o, none⟩) n c] w fun e w' => ∃ ys, Rising ys ∧ ys.Perm xs ∧ e = .returned (.int .i64 (medP ys)) ∧ Below w.heap.size w w' := by
  have hl : (n : Int) ≤ 1048576 := by omega
  have htm : (n : Int).tmod 2 = (n : Int) % 2 := Int.tmod_eq_emod_of_nonneg (by omega)
  have htd : (n : Int).tdiv 2 = ((n / 2 : Nat) : Int) := by rw [Int.tdiv_eq_ediv_of_nonneg (by omega)]; omega
  have hlt : ((n / 2 : Nat) : Int) < (n : Int) := by omega
  go_enter Tryz.func51, Tryz.ntmps51
  go_wp2_with fail
  refine (clone_any g o n c xs w h hn).mono ?_
  rintro e w1 ⟨g1, c1, rfl, hown1, b1⟩
  have hs1 := b1.size
  have hg1 := hown1.lt g1 rfl
  go_wp2_with fail
  refine (sortS_any g1 n c1 w1.heap.size w.heap.size xs w _ (by (repeat (first | assumption | exact Below.refl _ _ | refine belowDN ?_ _ | refine Below.drew ?_ | refine Below.setCell ?_ (by first | omega | (simp <;> omega)) _ | refine Below.alloc ?_ (by first | omega | (simp <;> omega)) _ | refine belowCall ?_ (by assumption)))) (by simp; omega) (hown1.alloc _) (by omega) (by simp) (by simp) h0 hn).mono ?_
  rintro e w2 ⟨rfl, ys, hyl, hR, hP, hown, hbox, hB⟩
  have hcell : ∀ j, j < n → w2.cell? ⟨g1, j, none⟩ = some (.int .i64 (ys[j]?.getD 0)) := fun j hj => by
    rw [hown.cellAt j (by omega)]; simp [show j < ys.length by omega]
  have hc1 := hcell (n / 2) (by omega)
  have HR := Lib.hid hR
  have HP := Lib.hid hP
  have hs2 := hB.size
  by_cases hodd : n % 2 = 1
  · have hb : ((n : Int) % 2 == 1) = true := by simp; omega
    have HV := Lib.hid (medP_odd hyl hodd)
    obtain ⟨y, hy⟩ : ∃ y, ys[n / 2]?.getD 0 = y := ⟨_, rfl⟩
    rw [hy] at hc1 HV
    clear hy hR hP
    go_wp2
    go_ret
    exact ⟨ys, HR.out, HP.out, by rw [HV.out]; rfl, hB⟩
  · have hb : ((n : Int) % 2 == 1) = false := by simp; omega
    have HV := Lib.hid (medP_even hyl (by omega))
    have hc0 := hcell (n / 2 - 1) (by omega)
    obtain ⟨b1', b2'⟩ := perm_bd hP hx (n / 2) (by omega)
    obtain ⟨b3', b4'⟩ := perm_bd hP hx (n / 2 - 1) (by omega)
    obtain ⟨y, hy⟩ : ∃ y, ys[n / 2]?.getD 0 = y := ⟨_, rfl⟩
    obtain ⟨z, hz⟩ : ∃ z, ys[n / 2 - 1]?.getD 0 = z := ⟨_, rfl⟩
    rw [hy] at hc1 b1' b2' HV
    rw [hz] at hc0 b3' b4' HV
    have hm1 : ((n / 2 : Nat) : Int) - 1 = ((n / 2 - 1 : Nat) : Int) := by omega
    have hlt1 : ((n / 2 - 1 : Nat) : Int) < (n : Int) := by omega
    clear hy hz hR hP
    go_wp2
    refine region_tail 11 (by kernel_rfl) (by kernel_rfl) ?_
    (simp only [List.take_succ_cons, List.take_zero, List.drop_succ_cons, List.drop_zero])
    (repeat (go_big_quiet_step (fail)))
    refine wpQuiet_nil ?_
    have hBd : Below w.heap.size w w2.drew := hB.drew
    generalize w2.drew = w3 at hBd ⊢
    go_wp2_with fail
    refine (nearest_any (z + y) 2 _ (by omega) (by omega) (by omega) (by omega)).mono ?_
    rintro e w4 ⟨rfl, b4⟩
    go_wp2
    go_ret
    exact ⟨ys, HR.out, HP.out, by rw [HV.out]; rfl, by first | exact belowCall hBd b4 | (repeat (first | assumption | exact Below.refl _ _ | refine belowDN ?_ _ | refine Below.drew ?_ | refine Below.setCell ?_ (by first | omega | (simp <;> omega)) _ | refine Below.alloc ?_ (by first | omega | (simp <;> omega)) _ | refine belowCall ?_ (by assumption)))⟩
theorem iMedianMag_any (g o n c : Nat) (xs : List Int) (w : World) (h : Lst w (some ⟨g, o, none⟩) n xs) (hn : n ≤ 1048576) :
    Calls Tryz.prog 21 #[.slice (some ⟨g, o, none⟩) n c] w fun e w' => ∃ v, e = .returned v ∧ medS xs v ∧ Below w.heap.size w w' := by
  have hl := h.1
  by_cases hok : okMags xs = true ∧ 0 < xs.length
  · have hc := some_ok hok.1 hok.2
    have HOK := Lib.hid hok
    clear hok
    go_enter Tryz.func21, Tryz.ntmps21
    go_wp2_with fail
    refine (checkSome_any _ n c xs w h hn).mono ?_
    rintro e w2 ⟨rfl, b2⟩
    rw [hc]
    go_wp2_with fail
    refine (medianOf_any g o n c xs w2 (h.mono b2) hn (by have := HOK.out.2; omega) (mags_bd HOK.out.1)).mono ?_
    rintro e w3 ⟨ys, hR, hP, rfl, b3⟩
    have HR := Lib.hid hR
    have HP := Lib.hid hP
    clear hR hP
    go_wp2
    go_ret2
    exact ⟨_, rfl, .inl ⟨HOK.out.1, HOK.out.2, ys, HR.out, HP.out, rfl⟩, belowCall b2 b3⟩
  · have HOK := Lib.hid hok
    have hcode := some_bad hok
    clear hok
    obtain ⟨k, hk⟩ : ∃ k, someCode xs = k := ⟨_, rfl⟩
    rw [hk] at hcode
    have HK := Lib.hid hk
    clear hk
    have hb : (k != 0) = true := by rcases hcode with rfl | rfl <;> rfl
    clear hcode
    go_enter Tryz.func21, Tryz.ntmps21
    go_wp2_with fail
    refine (checkSome_any _ n c xs w h hn).mono ?_
    rintro e w2 ⟨rfl, b2⟩
    rw [HK.out]
    go_wp2
    go_ret2
    exact ⟨_, rfl, .inr ⟨HOK.out, by rw [HK.out]; rfl⟩, b2⟩
end Go.Proofs.YtfnjndbnogeddaaGreatDoor
