/- ApplyShifts, the model's. -/
import Derived.Test.YtiogffjhhhpolacU2
import Derived.StillTailTactics
namespace Go.Proofs.Ytiogffjhhhpolac
open Go.ChangeShapes Go.WideShapes Go.ChangeAt Go.RowKit Go.Deep

set_option maxRecDepth 100000 in
set_option maxHeartbeats 2000000 in
theorem sApply_any (a b : Option Addr) (n m c c' : Nat) (xs : List Ob) (zs : List Int) (w : World) (h : ObL w a n xs) (h' : Lst w b m zs) (hn : n ≤ 1048576) (hm : m ≤ 1048576) :
    Calls Try.prog 6 #[.slice a n c, .slice b m c'] w fun e w' => AppliedO w.heap.size 54 xs zs w' e ∧ Below w.heap.size w w' := by
  have HL := Lib.hid h.1
  have HM := Lib.hid h'.1
  have hl : (n : Int) ≤ 1048576 := by omega
  have hl2 : (m : Int) ≤ 1048576 := by omega
  obtain ⟨i0, hi, hz0, hz1, hz2⟩ := info_parts Ob_info
  cases hok : okO xs
  · have HC := Lib.hid (apC_1 (zs := zs) hok)
    go_enter Try.func6, Try.ntmps6
    go_wp2_with fail
    refine (l05Ok_any a n c xs w h hn).mono ?_
    rintro e w2 ⟨rfl, q, rfl⟩
    rw [hok]
    go_wp2
    go_ret2
    exact ⟨.inr ⟨by rw [HC.out]; decide, by rw [HC.out]; rfl⟩, belowDN (Below.refl _ _) _⟩
  by_cases hmn : m = n
  rotate_left
  · have HC := Lib.hid (apC_2 (zs := zs) hok (by rw [HL.out, HM.out]; exact hmn))
    have hd : ((m : Int) != (n : Int)) = true := by simp; omega
    clear hmn
    go_enter Try.func6, Try.ntmps6
    go_wp2_with fail
    refine (l05Ok_any a n c xs w h hn).mono ?_
    rintro e w2 ⟨rfl, q, rfl⟩
    rw [hok]
    go_wp2
    go_ret2
    exact ⟨.inr ⟨by rw [HC.out]; decide, by rw [HC.out]; rfl⟩, belowDN (Below.refl _ _) _⟩
  subst hmn
  cases hsh : shfB 2000 zs
  · have HC := Lib.hid (apC_3 (zs := zs) hok hsh)
    go_enter Try.func6, Try.ntmps6
    go_wp2_with fail
    refine (l05Ok_any a m c xs w h hn).mono ?_
    rintro e w2 ⟨rfl, q, rfl⟩
    rw [hok]
    go_wp2_with (go_at_call 26; refine (l05Shifts_any b m c' zs 2000 _ (h'.mono (belowDN (Below.refl _ _) _)) hm (by omega) (by omega)).mono ?_; rintro e w' ⟨rfl, rfl⟩; rw [hsh])
    go_ret2
    exact ⟨.inr ⟨by rw [HC.out]; decide, by rw [HC.out]; rfl⟩, belowDN (Below.refl _ _) _⟩
  have HC := Lib.hid (apC_0 (zs := zs) hok (by rw [HL.out, HM.out]) hsh)
  go_enter Try.func6, Try.ntmps6
  go_wp2_with fail
  refine (l05Ok_any a m c xs w h hn).mono ?_
  rintro e w2 ⟨rfl, q, rfl⟩
  rw [hok]
  have B2 : Below w.heap.size w (w.drewN q) := belowDN (Below.refl _ _) _
  have h2 := h.mono B2
  have h2' := h'.mono B2
  generalize w.drewN q = w2 at B2 h2 h2' ⊢
  go_wp2_with (go_at_call 26; refine (l05Shifts_any b m c' zs 2000 _ h2' hm (by omega) (by omega)).mono ?_; rintro e w' ⟨rfl, rfl⟩; rw [hsh])
  have hlen := apL_len HL.out HM.out
  have HLEN := Lib.hid hlen
  clear hlen
  go_loopw [6, 7] (fun o i wr => ∃ (k g c' : Nat), k ≤ m ∧ i = .int .i64 k ∧ o = .slice (some ⟨g, 0, none⟩) k c' ∧ wr.ownsRow w2.heap.size 54 2 o k (flatOb ((apL xs zs).take k)) ∧ Below w2.heap.size w2 wr) (fun _ i _ => m - (Go.RowKit.intOf i).toNat)
  case atStart => exact ⟨0, w2.heap.size, 0, Nat.zero_le _, rfl, rfl, (by exact World.ownsRow_lit w2 #[] 0 (Nat.le_refl _) (by unfold maxLen; omega) rfl), by (repeat (first | assumption | exact Below.refl _ _ | refine belowDN ?_ _ | refine Below.drew ?_ | refine Below.setCell ?_ (by first | omega | (simp <;> omega)) _ | refine Below.alloc ?_ (by first | omega | (simp <;> omega)) _ | refine belowCall ?_ (by assumption)))⟩
  case round =>
    obtain ⟨k, g, c'', hk, rfl, rfl, hown, hB⟩ := hrel
    by_cases hlt : k < m
    · obtain ⟨b1, o1, rfl, hc⟩ := h2.2 k hlt
      obtain ⟨b2, o2, rfl, hbs, hcz⟩ := h2'.2 k hlt
      obtain ⟨z, hz⟩ : ∃ z, zs[k]?.getD 0 = z := ⟨_, rfl⟩
      obtain ⟨⟨x0, x1⟩, hx⟩ : ∃ x, xs[k]?.getD ob0 = x := ⟨_, rfl⟩
      rw [hz] at hcz
      rw [hx] at hc
      obtain ⟨p, p0, p1⟩ := (hc.mono hB).parts
      have hp1 := hc.1
      have q0 := (hB.cell (p := ⟨b2, o2 + k, none⟩) hbs).trans hcz
      have hstep := apL_step HL.out HM.out hlt hx hz
      have HS := Lib.hid hstep
      clear hx hz hc hcz hstep
      have hkk : (k : Int) < (m : Int) := by omega
      have hsz := hB.size
      have hbl1 : b1 < w2.heap.size := hp1
      have hownd : wr.drew.ownsRow w2.heap.size 54 2 (.slice (some ⟨g, 0, none⟩) k c'') k (flatOb ((apL xs zs).take k)) := hown.kept (gBut (Below.drew (Below.refl _ _)) none) (.inr (by simp [Value.ownBlock]))
      have hgl := (hown.lt g rfl).1
      have e0 : IntKind.i64.wrap ((k : Int) + 1) = (k : Int) + 1 := IntWalk.i64_in _ (by omega)
      go_wp2
      go_region_held3 (fun W' => W'.cell? ⟨b1, o1 + k * 2, none⟩ = some (.string x0) ∧ W'.cell? ⟨b2, o2 + k, none⟩ = some (.int .i64 z)) (refine ⟨?_, ?_⟩ <;> first | assumption | go_keep) (first | (refine Go.step_append_lies _ rfl _ _ 25 rfl w2.heap.size 54 i0 _ 2 24 Try.underlying25 hi hz0 hz1 hz2 rfl (by decide) (.slice (some ⟨g, 0, none⟩) k c'') k (flatOb ((apL xs zs).take k)) rfl (hownd.alloc _) ⟨wr.heap.size, 0, none⟩ 1 1 [.string x0, .int .i64 z] rfl rfl (cellsOb _ _ _ _) (by intro u hu; simp at hu; rcases hu with rfl | rfl <;> rfl) (by decide) (by unfold maxLen; omega) (by omega) (by simp; omega) _ rfl ?_; intro g7 c7 w7 hown7 hg7 hgg hlt7; have c70 := hg7.cell (a := ⟨b1, o1 + k * 2, none⟩) (v := .string x0) (by go_keep) (fun e => by have hh : b1 = g := Option.some.inj e; omega); have c71 := hg7.cell (a := ⟨b2, o2 + k, none⟩) (v := .int .i64 z) (by go_keep) (fun e => by have hh : b2 = g := Option.some.inj e; omega); have hBb : Below w2.heap.size w2 w7 := (show Below w2.heap.size w2 _ by (repeat (first | assumption | exact Below.refl _ _ | refine belowDN ?_ _ | refine Below.drew ?_ | refine Below.setCell ?_ (by first | omega | (simp <;> omega)) _ | refine Below.alloc ?_ (by first | omega | (simp <;> omega)) _ | refine belowCall ?_ (by assumption)))).grown hg7 (by simp; omega) (fun j e => by have hh : g = j := Option.some.inj e; omega); clear hg7 hgg))
      all_goals
        have hownb' : w7.ownsRow w2.heap.size 54 2 (.slice (some ⟨g7, 0, none⟩) (k + 1) c7) (k + 1) (flatOb ((apL xs zs).take (k + 1))) := by rw [HS.out, flatOb_snoc]; exact hown7
        clear hown7 hown hownd
        go_wp2
        go_roundw
        case rel => exact ⟨k + 1, g7, c7, by omega, by go_num, rfl, hownb', hBb⟩
        case measure => simp [Go.RowKit.intOf]; omega
    · obtain rfl : k = m := by omega
      have htk : (apL xs zs).take k = apL xs zs := List.take_of_length_le (by rw [HLEN.out]; omega)
      rw [htk] at hown
      have HOWN := Lib.hid (ownLow hown B2.size)
      clear htk hown
      go_wp2
      go_ret2
      exact ⟨.inl ⟨HC.out, _, rfl, by rw [HLEN.out]; exact HOWN.out⟩, belowCall B2 hB⟩
theorem AppliedO.opened {B T m : Nat} {xs : List Ob} {zs : List Int} {w : World} {e : Ending} (h : AppliedO B T xs zs w e) :
    ∃ L a c, L = (if apC xs zs = 0 then apL xs zs else []) ∧ e = .returned (.tuple #[.slice a L.length c, .int .i64 (apC xs zs)]) ∧ ObO B w a L.length 0 m L := by
  rcases h with ⟨h0, v, rfl, hown⟩ | ⟨h0, rfl⟩
  · rcases own_form hown with ⟨hz, rfl⟩ | ⟨g, c, rfl, -⟩
    · have hL : apL xs zs = [] := List.length_eq_zero_iff.1 hz
      exact ⟨_, none, 0, rfl, by rw [if_pos h0, hL, h0]; rfl, by rw [if_pos h0, hL]; exact .inl ⟨rfl, rfl⟩⟩
    · exact ⟨_, some ⟨g, 0, none⟩, c, rfl, by rw [if_pos h0, h0], by rw [if_pos h0]; exact ObO.of_own hown rfl⟩
  · exact ⟨_, none, 0, rfl, by rw [if_neg h0]; rfl, by rw [if_neg h0]; exact .inl ⟨rfl, rfl⟩⟩
end Go.Proofs.Ytiogffjhhhpolac
