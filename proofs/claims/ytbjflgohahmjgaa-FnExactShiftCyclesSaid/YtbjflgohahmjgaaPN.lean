/- ShiftCycles, the model's. -/
import Derived.Test.YtbjflgohahmjgaaPL
namespace Go.Proofs.Ytbjflgohahmjgaa
open Go.ChangeShapes Go.WideShapes Go.ChangeAt Go.RowKit Go.Deep

set_option maxRecDepth 100000 in
set_option maxHeartbeats 2000000 in
theorem sShf_any (a : Option Addr) (n c : Nat) (xs : List Mi) (d : Int) (w : World) (h : MiL w a n xs) (hn : n ≤ 1048576) :
    Calls Try.prog 36 #[.slice a n c, .int .i64 d] w fun x w' => MiRes w.heap.size (siA xs d) (.int .i64 (siC xs d)) w' x ∧ Below w.heap.size w w' := by
  obtain ⟨i0, hi, hz0, hz1, hz2⟩ := info_parts Mi_info
  have HIN : ∀ W, Calls Try.prog 52 #[.int .i64 d, .int .i64 (-10000), .int .i64 10000] W fun e w' => e = .returned (.bool (cyB d)) ∧ W = w' := fun W => l00In_any d (-10000) 10000 W
  cases hok : okM xs
  · have HD := Lib.hid (si_1 (d := d) hok)
    go_enter Try.func36, Try.ntmps36
    go_wp2_with fail
    refine (l13Ok_any a n c xs _ h hn).mono ?_
    rintro x w2 ⟨rfl, b2⟩
    rw [hok]
    go_wp2
    go_ret2
    exact ⟨by rw [HD.out.1, HD.out.2]; exact MiRes.nil _ _ _, b2⟩
  cases hd : cyB d
  · have HD := Lib.hid (si_2 hok hd)
    rw [hd] at HIN
    go_enter Try.func36, Try.ntmps36
    go_wp2_with fail
    refine (l13Ok_any a n c xs _ h hn).mono ?_
    rintro x w2 ⟨rfl, b2⟩
    rw [hok]
    go_wp2_with (first | (go_at_call 52; refine (HIN _).mono ?_; rintro x w' ⟨rfl, rfl⟩))
    go_ret2
    exact ⟨by rw [HD.out.1, HD.out.2]; exact MiRes.nil _ _ _, b2⟩
  have HSL : Hid ((shL d xs).length = n) := Lib.hid ((shL_len d xs).trans h.1)
  rw [hd] at HIN
  obtain ⟨hn50, hbd, -⟩ := okM_num h.1 hok
  obtain ⟨d1, d2⟩ := cyB_iff.1 hd
  have HBD := Lib.hid hbd
  have HL := Lib.hid h.1
  have hl : (n : Int) ≤ 50 := by omega
  clear hbd
  go_enter Try.func36, Try.ntmps36
  go_wp2_with fail
  refine (l13Ok_any a n c xs _ h hn).mono ?_
  rintro x w2 ⟨rfl, b2⟩
  rw [hok]
  have h2 := h.mono b2
  go_wp2_with (first | (go_at_call 52; refine (HIN _).mono ?_; rintro x w' ⟨rfl, rfl⟩))
  have hE0 : (w2.alloc (.cells #[] 34)).ownsRow w2.heap.size 34 2 (.slice (some ⟨w2.heap.size, 0, none⟩) 0 0) 0 [] := World.ownsRow_lit w2 #[] 0 (Nat.le_refl _) (by unfold maxLen; omega) rfl
  go_loopw [6, 7] (fun o i wr => ∃ k g cg : Nat, k ≤ n ∧ i = .int .i64 k ∧ o = .slice (some ⟨g, 0, none⟩) k cg ∧ wr.ownsRow w2.heap.size 34 2 (.slice (some ⟨g, 0, none⟩) k cg) k (flatMi (shL d (xs.take k))) ∧ Below w2.heap.size w2 wr) (fun _ i _ => n - (Go.RowKit.intOf i).toNat)
  case atStart => exact ⟨0, w2.heap.size, 0, Nat.zero_le _, rfl, rfl, hE0, by (repeat (first | assumption | exact Below.refl _ _ | refine belowDN ?_ _ | refine Below.drew ?_ | refine Below.setCell ?_ (by first | omega | (simp <;> omega)) _ | refine Below.alloc ?_ (by first | omega | (simp <;> omega)) _ | refine belowCall ?_ (by assumption)))⟩
  case round =>
    obtain ⟨k, g, cg, hk, rfl, rfl, hown, hB⟩ := hrel
    clear hE0
    have hsz := hB.size
    by_cases hlt : k < n
    · obtain ⟨b1, o1, rfl, hc⟩ := h2.2 k hlt
      obtain ⟨⟨x0, x1⟩, hx⟩ : ∃ x, xs[k]?.getD mi0 = x := ⟨_, rfl⟩
      have HST : Hid (flatMi (shL d (xs.take (k + 1))) = flatMi (shL d (xs.take k)) ++ [.int .i64 (x0 + d), .int .i64 x1]) := Lib.hid (shL_step (d := d) HL.out hlt hx)
      have hbx := HBD.out k hlt
      rw [hx] at hc hbx
      simp only at hbx
      obtain ⟨⟨v1, v2⟩, v3, v4⟩ := hbx
      obtain ⟨-, q0, q1⟩ := (hc.mono hB).parts
      have hb2 := hc.1
      have hb1 : b1 < wr.heap.size := by omega
      have hkk : (k : Int) < (n : Int) := by omega
      have hk0 : (0 : Int) ≤ (k : Int) := by omega
      have hwd : IntKind.i64.wrap (x0 + d) = x0 + d := IntWalk.i64_in _ (by omega)
      have hgl := hown.lt g rfl
      have hownd : wr.drew.ownsRow w2.heap.size 34 2 (.slice (some ⟨g, 0, none⟩) k cg) k (flatMi (shL d (xs.take k))) := ownKeepF hown (Below.drew (Below.refl _ _))
      generalize flatMi (shL d (xs.take k)) = RL at hownd hown HST
      clear hx hc
      go_wp2_with fail
      go_region_held3 (fun W' => W'.cell? ⟨b1, o1 + k * 2, none⟩ = some (.int .i64 x0) ∧ W'.cell? ⟨b1, o1 + k * 2 + 1, none⟩ = some (.int .i64 x1)) (refine ⟨?_, ?_⟩ <;> first | assumption | exact ((show Below wr.heap.size wr _ by (repeat (first | assumption | exact Below.refl _ _ | refine belowDN ?_ _ | refine Below.drew ?_ | refine Below.setCell ?_ (by first | omega | (simp <;> omega)) _ | refine Below.alloc ?_ (by first | omega | (simp <;> omega)) _ | refine belowCall ?_ (by assumption)))).cell (p := ⟨b1, o1 + k * 2, none⟩) hb1).trans q0 | exact ((show Below wr.heap.size wr _ by (repeat (first | assumption | exact Below.refl _ _ | refine belowDN ?_ _ | refine Below.drew ?_ | refine Below.setCell ?_ (by first | omega | (simp <;> omega)) _ | refine Below.alloc ?_ (by first | omega | (simp <;> omega)) _ | refine belowCall ?_ (by assumption)))).cell (p := ⟨b1, o1 + k * 2 + 1, none⟩) hb1).trans q1) (first | (refine Go.step_append_lies _ rfl _ _ 38 rfl w2.heap.size 34 i0 _ 2 16 Try.underlying38 hi hz0 hz1 hz2 rfl (by decide) (.slice (some ⟨g, 0, none⟩) k cg) k RL rfl (hownd.alloc _) ⟨wr.heap.size, 0, none⟩ 1 1 [.int .i64 (x0 + d), .int .i64 x1] rfl rfl (cellsMi wr.drew _ _ _) (by intro u hu; simp at hu; rcases hu with rfl | rfl <;> rfl) (by decide) (by unfold maxLen; omega) (by omega) (by simp; omega) _ rfl ?_; intro g7 c7 w7 hown7 hg7 hat7 hlt7; have hB7 : Below w2.heap.size w2 w7 := (show Below w2.heap.size w2 _ by (repeat (first | assumption | exact Below.refl _ _ | refine belowDN ?_ _ | refine Below.drew ?_ | refine Below.setCell ?_ (by first | omega | (simp <;> omega)) _ | refine Below.alloc ?_ (by first | omega | (simp <;> omega)) _ | refine belowCall ?_ (by assumption)))).grown hg7 (by simp; omega) (fun j e => by have hh : g = j := Option.some.inj e; omega); have t1 := hg7.cell (a := ⟨b1, o1 + k * 2, none⟩) (v := .int .i64 x0) (by go_keep) (fun e => by have hh : b1 = g := Option.some.inj e; omega); have t2 := hg7.cell (a := ⟨b1, o1 + k * 2 + 1, none⟩) (v := .int .i64 x1) (by go_keep) (fun e => by have hh : b1 = g := Option.some.inj e; omega); have HOWN7 := Lib.hid hown7; clear hg7 hat7 hown7) | fail)
      go_wp2
      go_roundw
      case rel => exact ⟨k + 1, g7, c7, by omega, by go_num, rfl, by rw [HST.out]; exact HOWN7.out, hB7⟩
      case measure => simp [Go.RowKit.intOf]; omega
    · obtain rfl : k = n := by omega
      have hT : xs.take k = xs := List.take_of_length_le (by rw [HL.out]; exact Nat.le_refl _)
      rw [hT] at hown
      have hL := MiL.of_own hown HSL.out
      have B3 := belowCall b2 hB
      have hs2 := b2.size
      cases hok2 : okM (shL d xs)
      · have HD := Lib.hid (si_5 hok hd hok2)
        clear hown
        go_wp2_with fail
        refine (l13Ok_any _ k cg _ _ hL hn).mono ?_
        rintro x w4 ⟨rfl, b4⟩
        rw [hok2]
        go_wp2
        go_ret2
        exact ⟨by rw [HD.out.1, HD.out.2]; exact MiRes.nil _ _ _, belowCall B3 b4⟩
      · have HD := Lib.hid (si_0 hok hd hok2)
        have HO := Lib.hid hown
        clear hown
        go_wp2_with fail
        refine (l13Ok_any _ k cg _ _ hL hn).mono ?_
        rintro x w4 ⟨rfl, b4⟩
        rw [hok2]
        go_wp2
        go_ret2
        exact ⟨by rw [HD.out.1, HD.out.2]; exact MiRes.own (ownLow (ownKeepF HO.out b4) (by omega)) HSL.out, belowCall B3 b4⟩
end Go.Proofs.Ytbjflgohahmjgaa
