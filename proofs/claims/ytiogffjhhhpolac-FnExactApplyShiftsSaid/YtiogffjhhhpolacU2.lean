/- ApplyShifts, both sides. -/
import Derived.Test.YtiogffjhhhpolacU1
import Derived.Laws.OwnMore
namespace Go.Proofs.Ytiogffjhhhpolac
open Go.ChangeShapes Go.WideShapes Go.ChangeAt Go.RowKit Go.Deep

theorem own_form {w : World} {B T n : Nat} {v : Value} {xs : List Value} (h : w.ownsRow B T 2 v n xs) : (n = 0 ∧ v = .slice none 0 0) ∨ ∃ g c, v = .slice (some ⟨g, 0, none⟩) n c ∧ n ≤ c := by
  rcases h.2 with ⟨hv, h0⟩ | ⟨g, cap, cur, hv, _, _, hnc, _⟩
  · exact .inl ⟨h0, hv⟩
  · exact .inr ⟨g, cap, hv, hnc⟩
set_option maxRecDepth 100000 in
set_option maxHeartbeats 2000000 in
theorem iApply_any (a b : Option Addr) (n m c c' : Nat) (xs : List Ob) (zs : List Int) (w : World) (h : ObL w a n xs) (h' : Lst w b m zs) (hn : n ≤ 1048576) (hm : m ≤ 1048576) :
    Calls Try.prog 9 #[.slice a n c, .slice b m c'] w fun e w' => AppliedO w.heap.size 54 xs zs w' e ∧ Below w.heap.size w w' := by
  have HL := Lib.hid h.1
  have HM := Lib.hid h'.1
  have hl : (n : Int) ≤ 1048576 := by omega
  have hl2 : (m : Int) ≤ 1048576 := by omega
  cases hok : okO xs
  · have HC := Lib.hid (apC_1 (zs := zs) hok)
    go_enter Try.func9, Try.ntmps9
    go_wp2_with fail
    refine (iValidObservers_any a n c xs w h hn).mono ?_
    rintro e w2 ⟨rfl, b2⟩
    rw [hok]
    go_wp2
    go_ret2
    exact ⟨.inr ⟨by rw [HC.out]; decide, by rw [HC.out]; rfl⟩, b2⟩
  by_cases hmn : m = n
  rotate_left
  · have HC := Lib.hid (apC_2 (zs := zs) hok (by rw [HL.out, HM.out]; exact hmn))
    have hd : ((m : Int) != (n : Int)) = true := by simp; omega
    clear hmn
    go_enter Try.func9, Try.ntmps9
    go_wp2_with fail
    refine (iValidObservers_any a n c xs w h hn).mono ?_
    rintro e w2 ⟨rfl, b2⟩
    rw [hok]
    go_wp2
    go_ret2
    exact ⟨.inr ⟨by rw [HC.out]; decide, by rw [HC.out]; rfl⟩, b2⟩
  subst hmn
  go_enter Try.func9, Try.ntmps9
  go_wp2_with fail
  refine (iValidObservers_any a m c xs w h hn).mono ?_
  rintro e w2 ⟨rfl, b2⟩
  rw [hok]
  go_wp2_with fail
  refine (cloneO_any a m c xs w2 (h.mono b2) hn).mono ?_
  rintro e w3 ⟨v, rfl, hown, b3⟩
  have hs2 := b2.size
  have B3 := belowCall b2 b3
  have hown0 : w3.ownsRow w.heap.size 54 2 v m (flatOb (mixL xs zs 0)) := by rw [mixL_zero]; exact ownLow hown hs2
  have hform := own_form hown
  clear hown
  rcases hform with ⟨h0, rfl⟩ | ⟨g, cv, rfl, hcv⟩
  · subst h0
    have HC := Lib.hid (apC_0 (zs := zs) hok (by rw [HL.out, HM.out]) (shfB_yes HM.out (fun j hj => absurd hj (by omega))))
    have hx0 : apL xs zs = [] := List.length_eq_zero_iff.1 (apL_len HL.out HM.out)
    have HX0 := Lib.hid hx0
    clear hx0
    go_wp2
    go_loopw [21] (fun i wr => i = .int .i64 0 ∧ wr = w3) (fun _ _ => 0)
    case atStart => exact ⟨rfl, rfl⟩
    case round =>
      obtain ⟨rfl, rfl⟩ := hrel
      go_wp2
      go_ret2
      exact ⟨.inl ⟨HC.out, _, rfl, by rw [HX0.out]; exact World.ownsRow_nil _ _ _ _⟩, B3⟩
  · go_wp2
    go_loopw [21] (fun i wr => ∃ k : Nat, k ≤ m ∧ i = .int .i64 k ∧ (∀ j, j < k → inB (zs[j]?.getD 0) (-2000) 2000 = true) ∧ wr.ownsRow w.heap.size 54 2 (.slice (some ⟨g, 0, none⟩) m cv) m (flatOb (mixL xs zs k)) ∧ Below w.heap.size w wr) (fun i _ => m - (Go.RowKit.intOf i).toNat)
    case atStart => exact ⟨0, Nat.zero_le _, rfl, fun j hj => absurd hj (by omega), hown0, B3⟩
    case round =>
      obtain ⟨k, hk, rfl, hall, hownk, hB⟩ := hrel
      clear hown0
      have HALL := Lib.hid hall
      clear hall
      by_cases hlt : k < m
      · obtain ⟨b1, o1, rfl, hbs, hc⟩ := h'.2 k hlt
        obtain ⟨z, hz⟩ : ∃ z, zs[k]?.getD 0 = z := ⟨_, rfl⟩
        obtain ⟨⟨x0, x1⟩, hx⟩ : ∃ x, xs[k]?.getD ob0 = x := ⟨_, rfl⟩
        rw [hz] at hc
        have hcr := (hB.cell (p := ⟨b1, o1 + k, none⟩) hbs).trans hc
        have hkk : (k : Int) < (m : Int) := by omega
        have hset := mixL_set HL.out HM.out hlt hx hz
        have hat := mixL_at (zs := zs) HL.out HM.out hlt hx
        have d1 : wr.cell? ⟨g, k * 2 + 1, none⟩ = some (.int .i64 x1) := by rw [hownk.cellAt (k * 2 + 1) (by omega), hat]
        have f1 := hownk.frozenAt (k * 2 + 1)
        obtain ⟨hs1, hs3⟩ := hownk.stored (k * 2 + 1) (.int .i64 z)
        rw [hset] at hs1
        have HZ := Lib.hid hz
        have HSET := Lib.hid hset
        have HOWN := Lib.hid hs1
        have HG := Lib.hid hs3
        have hgl := hownk.lt g rfl
        clear hz hx hset hat hs1 hs3
        cases hv : inB z (-2000) 2000
        · have HC := Lib.hid (apC_3 (zs := zs) hok (shfB_no HM.out hlt (by rw [HZ.out]; exact hv)))
          go_wp2_with (go_at_call 30; refine (isShift_any _ _).mono ?_; rintro e w' ⟨rfl, rfl⟩)
          go_ret2
          exact ⟨.inr ⟨by rw [HC.out]; decide, by rw [HC.out]; rfl⟩, hB⟩
        · go_wp2_with (go_at_call 30; refine (isShift_any _ _).mono ?_; rintro e w' ⟨rfl, rfl⟩)
          go_roundw
          case rel => exact ⟨k + 1, by omega, by go_num, inB_next HALL.out HZ.out hv, HOWN.out, hB.grown HG.out hB.size (fun j e => by cases e; exact hgl.1)⟩
          case measure => simp [Go.RowKit.intOf]; omega
      · obtain rfl : k = m := by omega
        have HC := Lib.hid (apC_0 (zs := zs) hok (by rw [HL.out, HM.out]) (shfB_yes HM.out HALL.out))
        have hfull := mixL_full HL.out HM.out
        have hlen := apL_len HL.out HM.out
        rw [hfull] at hownk
        have HLEN := Lib.hid hlen
        clear hfull hlen
        go_wp2
        go_ret2
        exact ⟨.inl ⟨HC.out, _, rfl, by rw [HLEN.out]; exact hownk⟩, hB⟩
end Go.Proofs.Ytiogffjhhhpolac
