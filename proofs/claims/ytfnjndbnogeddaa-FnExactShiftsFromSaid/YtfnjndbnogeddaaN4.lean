/- MedianDiff, the model's. -/
import Derived.Test.YtfnjndbnogeddaaN3
import Derived.Test.YtfnjndbnogeddaaM4
namespace Go.Proofs.Ytfnjndbnogeddaa
open Go.ChangeShapes Go.WideShapes Go.ChangeAt Go.RowKit Go.Deep

theorem difL_zero (a b : Int) (xs : List Cm) : difL a b (xs.take 0) = [] := rfl
theorem difL_none {a b : Int} {xs : List Cm} {k : Nat} {x0 x1 x2 : Int} (hk : k < xs.length) (hx : xs[k]?.getD cm0 = (x0, x1, x2)) (h1 : isAB a b (x0, x1, x2) = false) (h2 : isAB b a (x0, x1, x2) = false) : difL a b (xs.take (k + 1)) = difL a b (xs.take k) := by
  rw [difL_step hk hx, difO, h1, h2]; simp
theorem difL_fore {a b : Int} {xs : List Cm} {k : Nat} {x0 x1 x2 : Int} (hk : k < xs.length) (hx : xs[k]?.getD cm0 = (x0, x1, x2)) (h1 : isAB a b (x0, x1, x2) = true) (h2 : isAB b a (x0, x1, x2) = false) : difL a b (xs.take (k + 1)) = difL a b (xs.take k) ++ [x2] := by
  rw [difL_step hk hx, difO, h1, h2]; simp
theorem difL_back {a b : Int} {xs : List Cm} {k : Nat} {x0 x1 x2 : Int} (hk : k < xs.length) (hx : xs[k]?.getD cm0 = (x0, x1, x2)) (h1 : isAB a b (x0, x1, x2) = false) (h2 : isAB b a (x0, x1, x2) = true) : difL a b (xs.take (k + 1)) = difL a b (xs.take k) ++ [-x2] := by
  rw [difL_step hk hx, difO, h1, h2]; simp
theorem difL_upto (a b : Int) {xs : List Cm} {k n : Nat} (hn : xs.length = n) (hk : k ≤ n) : (difL a b (xs.take k)).length ≤ 2 * k := by
  have := difL_len a b (xs.take k)
  rw [List.length_take, hn, Nat.min_eq_left hk] at this
  exact this
set_option maxRecDepth 100000 in
set_option maxHeartbeats 4000000 in
theorem l05Diffs_any (a : Option Addr) (n c : Nat) (p q cc : Int) (xs : List Cm) (w : World) (h : CmL w a n xs) (hn : n ≤ 1048576) (hall : xs.all (cmB cc) = true) (hpq : (p == q) = false) :
    Calls Try.prog 61 #[.slice a n c, .int .i64 p, .int .i64 q] w fun e w' => ∃ g c', e = .returned (.slice (some ⟨g, 0, none⟩) (difL p q xs).length c') ∧ w'.ownsRow w.heap.size 2 1 (.slice (some ⟨g, 0, none⟩) (difL p q xs).length c') (difL p q xs).length ((difL p q xs).map (Value.int .i64)) ∧ Below w.heap.size w w' := by
  obtain ⟨i0, hi, hz0, hz1, hz2⟩ := info_parts A_info
  have HL := Lib.hid h.1
  have hl : (n : Int) ≤ 1048576 := by omega
  have hqp : (q == p) = false := by simp at hpq ⊢; exact fun e => hpq e.symm
  have HB := Lib.hid hall
  clear hall
  go_enter Try.func61, Try.ntmps61
  go_wp2
  go_loopw [7, 8] (fun o i wr => ∃ (k g c' : Nat), k ≤ n ∧ i = .int .i64 k ∧ o = .slice (some ⟨g, 0, none⟩) (difL p q (xs.take k)).length c' ∧ wr.ownsRow w.heap.size 2 1 (.slice (some ⟨g, 0, none⟩) (difL p q (xs.take k)).length c') (difL p q (xs.take k)).length ((difL p q (xs.take k)).map (Value.int .i64)) ∧ Below w.heap.size w wr) (fun _ i _ => n - (Go.RowKit.intOf i).toNat)
  case atStart => exact ⟨0, w.heap.size, 0, Nat.zero_le _, rfl, rfl, (by rw [difL_zero]; exact World.ownsRow_lit w #[] 0 (Nat.le_refl _) (by unfold maxLen; omega) rfl), by (repeat (first | assumption | exact Below.refl _ _ | refine belowDN ?_ _ | refine Below.drew ?_ | refine Below.setCell ?_ (by first | omega | (simp <;> omega)) _ | refine Below.alloc ?_ (by first | omega | (simp <;> omega)) _ | refine belowCall ?_ (by assumption)))⟩
  case round =>
    obtain ⟨k, g, c', hk, rfl, rfl, hown, hB⟩ := hrel
    have hsz := hB.size
    have hle := difL_upto p q HL.out hk
    by_cases hlt : k < n
    · obtain ⟨b1, o1, rfl, hc⟩ := h.2 k hlt
      obtain ⟨⟨x0, x1, x2⟩, hx⟩ : ∃ x, xs[k]?.getD cm0 = x := ⟨_, rfl⟩
      rw [hx] at hc
      obtain ⟨pb, p0, p1, p2⟩ := (hc.mono hB).parts
      have hbd := cm_all HB.out HL.out hlt
      rw [hx] at hbd
      obtain ⟨-, -, -, -, -, d1, d2⟩ := cm_bd hbd
      have hkl : k < xs.length := by rw [HL.out]; exact hlt
      have HX := Lib.hid (difL_none (a := p) (b := q) hkl hx)
      have HF := Lib.hid (difL_fore (a := p) (b := q) hkl hx)
      have HK := Lib.hid (difL_back (a := p) (b := q) hkl hx)
      have HC := Lib.hid hc
      clear hx hc hbd hkl
      have hkk : (k : Int) < (n : Int) := by omega
      have hneg : IntKind.i64.wrap (-x2) = -x2 := IntWalk.i64_in _ (by omega)
      generalize difL p q (xs.take k) = L at hown hle HX HF HK ⊢
      cases g1 : (x0 == p)
      · cases g2 : (x0 == q)
        · have HS := Lib.hid (HX.out (by simp [isAB, g1]) (by simp [isAB, g2]))
          clear HX HF HK
          go_wp2
          go_roundw
          case rel => exact ⟨k + 1, g, c', by omega, by go_num, by rw [HS.out], by rw [HS.out]; exact hown, hB⟩
          case measure => simp [Go.RowKit.intOf]; omega
        · cases g3 : (x1 == p)
          · have HS := Lib.hid (HX.out (by simp [isAB, g1]) (by simp [isAB, g3]))
            clear HX HF HK
            go_wp2
            go_roundw
            case rel => exact ⟨k + 1, g, c', by omega, by go_num, by rw [HS.out], by rw [HS.out]; exact hown, hB⟩
            case measure => simp [Go.RowKit.intOf]; omega
          · have HS := Lib.hid (HK.out (by simp [isAB, g1]) (by simp [isAB, g2, g3]))
            clear HX HF HK
            go_wp2_with (at_builtin; refine wpList_append_lies _ rfl _ _ 38 rfl w.heap.size 2 i0 (.int .i64 0) 1 8 Try.underlying38 hi hz0 hz1 hz2 rfl (by decide) _ _ _ rfl (hown.alloc _) ⟨wr.heap.size, 0, none⟩ 1 1 _ rfl rfl (cell_one_new _ _ _) (by simp [Value.oneCell']) (by decide) (by unfold maxLen; omega) (by omega) (by simp; omega) _ rfl ?_; intro g2 cc2 wb hownb hgb hlies hglt; have hBb : Below w.heap.size w wb := (show Below w.heap.size w (wr.alloc (.cells _ 2)) by (repeat (first | assumption | exact Below.refl _ _ | refine belowDN ?_ _ | refine Below.drew ?_ | refine Below.setCell ?_ (by first | omega | (simp <;> omega)) _ | refine Below.alloc ?_ (by first | omega | (simp <;> omega)) _ | refine belowCall ?_ (by assumption)))).grown hgb (by simp; omega) (fun j hj => (hown.lt j hj).1); obtain ⟨pb', q0, q1, q2⟩ := (HC.out.mono hBb).parts)
            go_roundw
            case rel => exact ⟨k + 1, g2, cc2, by omega, by go_num, by rw [HS.out, List.length_append]; rfl, by rw [HS.out]; simpa using hownb, hBb⟩
            case measure => simp [Go.RowKit.intOf]; omega
      · have g2 : (x0 == q) = false := by simp at g1; rw [g1]; exact hpq
        cases g3 : (x1 == q)
        · have HS := Lib.hid (HX.out (by simp [isAB, g3]) (by simp [isAB, g2]))
          clear HX HF HK
          go_wp2
          go_roundw
          case rel => exact ⟨k + 1, g, c', by omega, by go_num, by rw [HS.out], by rw [HS.out]; exact hown, hB⟩
          case measure => simp [Go.RowKit.intOf]; omega
        · have HS := Lib.hid (HF.out (by simp [isAB, g1, g3]) (by simp [isAB, g2]))
          clear HX HF HK
          go_wp2_with (at_builtin; refine wpList_append_lies _ rfl _ _ 38 rfl w.heap.size 2 i0 (.int .i64 0) 1 8 Try.underlying38 hi hz0 hz1 hz2 rfl (by decide) _ _ _ rfl (hown.alloc _) ⟨wr.heap.size, 0, none⟩ 1 1 _ rfl rfl (cell_one_new _ _ _) (by simp [Value.oneCell']) (by decide) (by unfold maxLen; omega) (by omega) (by simp; omega) _ rfl ?_; intro g2 cc2 wb hownb hgb hlies hglt; have hBb : Below w.heap.size w wb := (show Below w.heap.size w (wr.alloc (.cells _ 2)) by (repeat (first | assumption | exact Below.refl _ _ | refine belowDN ?_ _ | refine Below.drew ?_ | refine Below.setCell ?_ (by first | omega | (simp <;> omega)) _ | refine Below.alloc ?_ (by first | omega | (simp <;> omega)) _ | refine belowCall ?_ (by assumption)))).grown hgb (by simp; omega) (fun j hj => (hown.lt j hj).1); obtain ⟨pb', q0, q1, q2⟩ := (HC.out.mono hBb).parts)
          go_roundw
          case rel => exact ⟨k + 1, g2, cc2, by omega, by go_num, by rw [HS.out, List.length_append]; rfl, by rw [HS.out]; simpa using hownb, hBb⟩
          case measure => simp [Go.RowKit.intOf]; omega
    · obtain rfl : k = n := by omega
      have htk : xs.take k = xs := List.take_of_length_le (by rw [HL.out]; exact Nat.le_refl _)
      rw [htk] at hown hle ⊢
      clear htk
      go_wp2
      go_ret
      exact ⟨g, c', rfl, hown, hB⟩
/-- the code of MedianDiff -/
def mdC (c a b : Int) (xs : List Cm) : Int := if cmsB c xs = false then 1 else if inB a 0 (c - 1) = false then 2 else if inB b 0 (c - 1) = false then 2 else if (a == b) = true then 2 else if (difL a b xs).length = 0 then 3 else 0
def mdS (c a b : Int) (xs : List Cm) (v : Value) : Prop := (mdC c a b xs = 0 ∧ ∃ ys, Rising ys ∧ ys.Perm (difL a b xs) ∧ v = .tuple #[.int .i64 (medP ys), .int .i64 0]) ∨ (mdC c a b xs ≠ 0 ∧ v = .tuple #[.int .i64 0, .int .i64 (mdC c a b xs)])
theorem mdS_one {c a b : Int} {xs : List Cm} {v u : Value} (h : mdS c a b xs v) (h' : mdS c a b xs u) : v = u := by
  rcases h with ⟨h1, ys, h3, h4, rfl⟩ | ⟨h1, rfl⟩ <;> rcases h' with ⟨k1, zs, k3, k4, rfl⟩ | ⟨k1, rfl⟩
  · rw [rising_one h3 k3 (h4.trans k4.symm)]
  · exact absurd h1 k1
  · exact absurd k1 h1
  · rfl
theorem mdS_form {c a b : Int} {xs : List Cm} {v : Value} (h : mdS c a b xs v) : ∃ m k, v = .tuple #[.int .i64 m, .int .i64 k] := by
  rcases h with ⟨_, ys, _, _, rfl⟩ | ⟨_, rfl⟩ <;> exact ⟨_, _, rfl⟩
theorem mdC_1 {c a b : Int} {xs : List Cm} (h : cmsB c xs = false) : mdC c a b xs = 1 := if_pos h
theorem mdC_2a {c a b : Int} {xs : List Cm} (h : cmsB c xs = true) (h1 : inB a 0 (c - 1) = false) : mdC c a b xs = 2 := by simp [mdC, h, h1]
theorem mdC_2b {c a b : Int} {xs : List Cm} (h : cmsB c xs = true) (h1 : inB a 0 (c - 1) = true) (h2 : inB b 0 (c - 1) = false) : mdC c a b xs = 2 := by simp [mdC, h, h1, h2]
theorem mdC_2c {c a b : Int} {xs : List Cm} (h : cmsB c xs = true) (h1 : inB a 0 (c - 1) = true) (h2 : inB b 0 (c - 1) = true) (h3 : (a == b) = true) : mdC c a b xs = 2 := by simp [mdC, h, h1, h2, h3]
theorem mdC_3 {c a b : Int} {xs : List Cm} (h : cmsB c xs = true) (h1 : inB a 0 (c - 1) = true) (h2 : inB b 0 (c - 1) = true) (h3 : (a == b) = false) (h4 : (difL a b xs).length = 0) : mdC c a b xs = 3 := by
  unfold mdC
  rw [if_neg (by simp [h]), if_neg (by simp [h1]), if_neg (by simp [h2]), if_neg (by simp [h3]), if_pos h4]
theorem mdC_0 {c a b : Int} {xs : List Cm} (h : cmsB c xs = true) (h1 : inB a 0 (c - 1) = true) (h2 : inB b 0 (c - 1) = true) (h3 : (a == b) = false) (h4 : (difL a b xs).length ≠ 0) : mdC c a b xs = 0 := by
  unfold mdC
  rw [if_neg (by simp [h]), if_neg (by simp [h1]), if_neg (by simp [h2]), if_neg (by simp [h3]), if_neg h4]
theorem mdS_bad {c a b k : Int} {xs : List Cm} (h : mdC c a b xs = k) (hk : k ≠ 0) : mdS c a b xs (.tuple #[.int .i64 0, .int .i64 k]) := .inr ⟨by rw [h]; exact hk, by rw [h]⟩
end Go.Proofs.Ytfnjndbnogeddaa
