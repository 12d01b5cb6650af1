/- ShiftsFrom, the program's. -/
import Derived.Test.YtfnjndbnogeddaaLM
import Derived.Maps.RangeWalk
namespace Go.Proofs.Ytfnjndbnogeddaa
open Go.ChangeShapes Go.WideShapes Go.ChangeAt Go.RowKit Go.Deep Go.Maps

/-- the row while the entries of the map come: who has come has its shift -/
def shW (kn : Kn) (left : Lit → Bool) (y : Nat) : Value := .int .i64 (if left (.int .i64 (y : Int)) = false then (kn y).getD 0 else 0)
theorem grownBy_setAt (W : World) (b y : Nat) (v : Value) : W.grownBy (W.setCell ⟨b, y, none⟩ v) (some b) :=
  ⟨rfl, rfl, rfl, (KeepsWalks.setCell W _ v).size, fun k _ hk => Below.heap_setCell _ _ _ k (fun e => hk (by rw [e]))⟩
set_option maxRecDepth 100000 in
set_option maxHeartbeats 2000000 in
theorem iShiftsFrom_any (c first : Int) (a : Option Addr) (n cap : Nat) (xs : List Cm) (w : World) (h : CmL w a n xs) (hn : n ≤ 1048576) :
    Calls Try.prog 25 #[.int .i64 c, .slice a n cap, .int .i64 first] w fun e w' => NumsE w.heap.size (ckC c first xs) (shfL c first xs) w' e ∧ Below w.heap.size w w' := by
  rcases ckC_cases c first xs with hk | hk | ⟨hk, hv, g1⟩
  iterate 2
    · go_enter Try.func25, Try.ntmps25
      go_wp2_with fail
      refine (check_any c first a n cap xs w h hn).mono ?_
      rintro e w2 ⟨rfl, b2⟩
      rw [hk]
      go_wp2
      go_ret2
      exact ⟨.inr ⟨by simp [hk], by simp [hk]⟩, b2⟩
  obtain ⟨c1, c2, c60, call⟩ := cms_parts hv
  obtain ⟨cN, fN, rfl, rfl, hf⟩ := first_lt g1 (by omega)
  have h60 : n ≤ 60 := by rw [← h.1]; exact c60
  obtain ⟨i0, hi, hz0, hz1, hz2⟩ := info_parts A_info
  clear hv g1
  go_enter Try.func25, Try.ntmps25
  go_wp2_with fail
  refine (check_any _ _ a n cap xs w h hn).mono ?_
  rintro e w2 ⟨rfl, b2⟩
  rw [hk]
  go_wp2_with (at_make; refine wpList_make_full _ rfl _ _ 38 rfl w2.heap.size 2 i0 (.int .i64 0) 1 Try.underlying38 hi hz0 hz1 .i64 .i64 cN cN cN rfl rfl rfl rfl (by rw [hz2]; omega) (by unfold maxLen; omega) (Nat.le_refl _) ?_; intro w3 hown3 hg3)
  rw [rowF_made _ rfl] at hown3
  have hz23 := hg3.size
  have b3 : Below w.heap.size w w3 := b2.grown hg3 b2.size (fun g e => by cases e)
  have hr3 : RowA w2.heap.size 2 w3 w2.heap.size cN (fun _ => .int .i64 0) := hown3
  clear hown3 hg3
  go_wp2_with fail
  refine (linked_any cN fN a n cap xs w3 (h.mono b3) h60 (by omega) hf call).mono ?_
  rintro e w4 ⟨⟨bS, nn, rfl, hbS, hnn, D, hmap, hneg, hz⟩, b34⟩
  have b4 := belowCall b3 b34
  have hr4 := hr3.below b34
  have hlt3 := hr3.lt.2
  have hz4 := b34.size
  go_wp2_with (at_range; refine wpList_range_own _ rfl _ 74 rfl 2 2 lawC Try.underlying74 _ bS nn D rfl hmap ?_; intro w5 hrg0 hg5 hs5)
  go_frame
  have b5 : Below w.heap.size w w5 := b4.grown hg5 b4.size (fun g e => by cases e)
  have hr5 : RowA w2.heap.size 2 w5 w2.heap.size cN (fun _ => .int .i64 0) := World.ownsRow.kept hr4 hg5 (.inr (by simp [Value.ownBlock]))
  have HZ := Lib.hid hz
  have HN := Lib.hid hneg
  clear hz hneg hr3 hr4
  go_loopw [] (fun wr => ∃ left cnt, wr.ranges Try.prog 2 (plainElem Try.prog 2) bS w4.heap.size nn D left cnt ∧ RowA w2.heap.size 2 wr w2.heap.size cN (shW (finK xs cN fN) left) ∧ Below w.heap.size w wr) (fun wr => wr.rangeLeft bS w4.heap.size)
  case atStart => exact ⟨_, _, hrg0, hr5.congr (fun y _ => by
    unfold shW
    rw [(HZ.out y).1]
    cases hk9 : finK xs cN fN y <;> simp), b5⟩
  case round =>
    obtain ⟨left, cnt, hrg, hrow, hB⟩ := hrel
    go_wp2_with (at_next; refine wpList_next_ranges_ii _ rfl _ rfl 2 2 .i64 .i64 lawC Try.underlying2 Try.underlying2 bS w4.heap.size nn D left cnt rfl hrg ?_ ?_)
    · intro hc0 hl0
      have hfin : w.heap.size ≤ w2.heap.size := b2.size
      have hO : wr.ownsRow w.heap.size 2 1 (.slice (some ⟨w2.heap.size, 0, none⟩) cN cN) (shfL (cN : Int) (fN : Int) xs).length ((shfL (cN : Int) (fN : Int) xs).map (Value.int .i64)) := by
        have hl : (shfL (cN : Int) (fN : Int) xs).length = cN := by simp [shfL]
        have hm : (shfL (cN : Int) (fN : Int) xs).map (Value.int .i64) = rowF cN (shW (finK xs cN fN) left) := by
          unfold shfL rowF
          rw [List.map_map, Int.toNat_natCast, Int.toNat_natCast]
          refine List.map_congr_left (fun y _ => ?_)
          show Value.int .i64 _ = _
          unfold shW
          rw [hl0]; rfl
        rw [hl, hm]
        exact ownLow hrow hfin
      have HO := Lib.hid hO
      have HBB := Lib.hid hB
      clear hrow hrg hO hc0 hl0
      go_wp2
      go_ret2
      exact ⟨.inl ⟨hk, _, rfl, HO.out⟩, HBB.out⟩
    · intro x cc w1 cnt1 hwx hwc hlx hat hrg1 hltc hg1 hs1 hen
      have hhas : Maps.has D (.int .i64 x) = true := has_true_of_atKey hat
      obtain ⟨y, rfl⟩ : ∃ y : Nat, x = y := ⟨x.toNat, by have := HN.out x hhas; omega⟩
      have hso : (finK xs cN fN y).isSome = true := by rw [← (HZ.out y).1]; exact hhas
      have hyc := finK_lt hf y hso
      obtain ⟨s, hs⟩ := Option.isSome_iff_exists.1 hso
      obtain rfl : s = cc := by
        have h1 := (HZ.out y).2 s hs
        rw [hat] at h1
        simpa using h1.symm
      have hne : some w4.heap.size ≠ some w2.heap.size := fun e => by have := Option.some.inj e; omega
      have hrow1 : RowA w2.heap.size 2 w1 w2.heap.size cN (shW (finK xs cN fN) left) := World.ownsRow.kept hrow hg1 (.inr (by simp [Value.ownBlock]; omega))
      have hB1 : Below w.heap.size w w1 := hB.grown hg1 hB.size (fun g e => by cases e; exact b4.size)
      have hcell := hrow1.cell hyc
      have hfk := World.ownsRow.frozenAt hrow1 y
      have hyz : (y : Int) < (cN : Int) := by omega
      have hrow2 : RowA w2.heap.size 2 (w1.setCell ⟨w2.heap.size, y, none⟩ (.int .i64 s)) w2.heap.size cN (shW (finK xs cN fN) (fun z => left z && !z.sameKey (.int .i64 (y : Int)))) := (hrow1.set y (.int .i64 s)).congr (fun k _ => by
        unfold shW
        by_cases e : k = y
        · subst e; simp [hs, Lit.sameKey]
        · have e' : ¬ (k : Int) = (y : Int) := by omega
          simp [e, e', Lit.sameKey])
      have hrg2 := hrg1.kept (grownBy_setAt w1 w2.heap.size y (.int .i64 s)) (fun e => by have := Option.some.inj e; omega) hne
      have hB2 : Below w.heap.size w (w1.setCell ⟨w2.heap.size, y, none⟩ (.int .i64 s)) := hB1.setCell (p := ⟨w2.heap.size, y, none⟩) b2.size _
      have hl1 := hrg.left_eq
      have hl2 := hrg2.left_eq
      clear hat hwx hwc hlx hhas
      go_wp2
      go_roundw
      case rel => exact ⟨_, cnt1, hrg2, hrow2, hB2⟩
      case measure => rw [hl1, hl2]; omega
end Go.Proofs.Ytfnjndbnogeddaa
