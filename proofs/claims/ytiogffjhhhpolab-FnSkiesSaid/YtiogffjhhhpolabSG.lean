/- InBox, the model's. -/
import Derived.Test.YtiogffjhhhpolabSF
import Derived.Test.YtiogffjhhhpolabSE
import Derived.Test.YtiogffjhhhpolabI2
import Derived.Lib.SmallJoins
namespace Go.Proofs.Ytiogffjhhhpolab
open Go.ChangeShapes Go.WideShapes Go.ChangeAt Go.RowKit Go.Deep

/-- the four numbers of a box -/
abbrev boxV (fa ta fd td : Int) : Value := .agg #[.int .i64 fa, .int .i64 ta, .int .i64 fd, .int .i64 td]
theorem BxC.fresh (w : World) (T : TypeId) (fa ta fd td : Int) : BxC (w.alloc (.cells #[.int .i64 fa, .int .i64 ta, .int .i64 fd, .int .i64 td] T)) w.heap.size 0 fa ta fd td :=
  ⟨by simp, by rw [World.cell?_alloc_new]; rfl, by rw [World.cell?_alloc_new]; rfl, by rw [World.cell?_alloc_new]; rfl, by rw [World.cell?_alloc_new]; rfl⟩
set_option maxHeartbeats 4000000 in
set_option maxRecDepth 100000 in
theorem sInBox_any (a : Option Addr) (n c : Nat) (xs : List St) (fa ta fd td : Int) (w : World) (h : StL w a n xs) (hn : n ≤ 1048576) :
    Calls Try.prog 37 #[.slice a n c, boxV fa ta fd td] w fun e w' => Chosen w.heap.size (okS xs && boxOk fa ta fd td) 1 (selL (inP fa ta fd td) xs n) w' e ∧ Below w.heap.size w w' := by
  have hl : (n : Int) ≤ 1048576 := by omega
  have HL := Lib.hid h.1
  obtain ⟨i0, hi, hz0, hz1, hz2⟩ := info_parts A_info
  have B1 : Below w.heap.size w (w.alloc (.cells #[.int .i64 fa, .int .i64 ta, .int .i64 fd, .int .i64 td] 58)) := (Below.refl _ w).alloc (Nat.le_refl _) _
  have h1 := h.mono B1
  have hbx := BxC.fresh w 58 fa ta fd td
  have hsw : w.heap.size < (w.alloc (.cells #[.int .i64 fa, .int .i64 ta, .int .i64 fd, .int .i64 td] 58)).heap.size := by simp
  cases hok : okS xs
  · go_enter Try.func37, Try.ntmps37
    go_wp2_with (go_at_call 88; refine (l04Ok_any a n c xs _ h1 hn).mono ?_; rintro e w2 ⟨rfl, q, rfl⟩; rw [hok])
    go_ret2
    exact ⟨.inr ⟨rfl, rfl⟩, belowDN B1 _⟩
  cases hbo : boxOk fa ta fd td
  · go_enter Try.func37, Try.ntmps37
    go_wp2_with fail
    generalize w.alloc (.cells #[.int .i64 fa, .int .i64 ta, .int .i64 fd, .int .i64 td] 58) = w1 at B1 h1 hbx hsw ⊢
    refine (l04Ok_any a n c xs _ h1 hn).mono ?_
    rintro e w2 ⟨rfl, q, rfl⟩
    rw [hok]
    have hbx2 : BxC (w1.drewN q) w.heap.size 0 fa ta fd td := hbx.mono (belowDN (Below.refl _ _) _)
    go_wp2_with (go_at_call 89; refine (l04Box_any _ _ fa ta fd td _ hbx2).mono ?_; rintro e w2 ⟨rfl, q, rfl⟩; rw [hbo])
    go_ret2
    exact ⟨.inr ⟨rfl, rfl⟩, belowDN B1 _⟩
  go_enter Try.func37, Try.ntmps37
  go_wp2_with fail
  generalize w.alloc (.cells #[.int .i64 fa, .int .i64 ta, .int .i64 fd, .int .i64 td] 58) = w1 at B1 h1 hbx hsw ⊢
  refine (l04Ok_any a n c xs _ h1 hn).mono ?_
  rintro e w2 ⟨rfl, q, rfl⟩
  rw [hok]
  have hbx2 : BxC (w1.drewN q) w.heap.size 0 fa ta fd td := hbx.mono (belowDN (Below.refl _ _) _)
  go_wp2_with fail
  refine (l04Box_any _ _ fa ta fd td _ hbx2).mono ?_
  rintro e w2 ⟨rfl, q', rfl⟩
  rw [hbo]
  have hbx3 : BxC ((w1.drewN q).drewN q') w.heap.size 0 fa ta fd td := hbx2.mono (belowDN (Below.refl _ _) _)
  have h3 : StL ((w1.drewN q).drewN q') a n xs := h1.mono (belowDN (belowDN (Below.refl _ _) _) _)
  have B3 : Below w.heap.size w ((w1.drewN q).drewN q') := belowDN (belowDN B1 _) _
  have hs3 : w.heap.size < ((w1.drewN q).drewN q').heap.size := hsw
  generalize ((w1.drewN q).drewN q') = w3 at hbx3 h3 B3 hs3 ⊢
  go_wp2
  go_loopw [6, 7] (fun o i wr => ∃ (k g c' : Nat), k ≤ n ∧ i = .int .i64 k ∧ o = .slice (some ⟨g, 0, none⟩) (selL (inP fa ta fd td) xs k).length c' ∧ wr.ownsRow w3.heap.size 2 1 o (selL (inP fa ta fd td) xs k).length ((selL (inP fa ta fd td) xs k).map (Value.int .i64)) ∧ Below w3.heap.size w3 wr) (fun _ i _ => n - (intOf i).toNat)
  case atStart => exact ⟨0, w3.heap.size, 0, Nat.zero_le _, rfl, rfl, (by rw [selL_zero]; exact World.ownsRow_lit w3 #[] 0 (Nat.le_refl _) (by unfold maxLen; omega) rfl), by (repeat (first | assumption | exact Below.refl _ _ | refine belowDN ?_ _ | refine Below.drew ?_ | refine Below.setCell ?_ (by first | omega | (simp <;> omega)) _ | refine Below.alloc ?_ (by first | omega | (simp <;> omega)) _ | refine belowCall ?_ (by assumption)))⟩
  case round =>
    obtain ⟨k, g, c', hk, rfl, rfl, hown, hB⟩ := hrel
    have hsz := hB.size
    have hle := selL_len (inP fa ta fd td) xs k
    by_cases hlt : k < n
    · obtain ⟨b1, o1, rfl, hc⟩ := h3.2 k hlt
      obtain ⟨⟨nm, x1, x2, x3, x4⟩, hx⟩ : ∃ x, xs[k]?.getD st0 = x := ⟨_, rfl⟩
      rw [hx] at hc
      have hcr := hc.mono hB
      have hbr := hbx3.mono hB
      have HX := Lib.hid hx
      clear hx hc
      have hkk : (k : Int) < (n : Int) := by omega
      cases hv : inP fa ta fd td (nm, x1, x2, x3, x4)
      · have HS := Lib.hid (selL_no (p := inP fa ta fd td) HX.out hv)
        go_wp2_with fail
        refine (l04In_any _ _ _ _ nm x1 x2 x3 x4 fa ta fd td wr hcr hbr).mono ?_
        rintro e w4 ⟨rfl, b4⟩
        rw [hv]
        have hown4 := hown.kept (grown_of_below b4) (.inr (by simp [Value.ownBlock]))
        have hB4 := belowCall hB b4
        go_wp2
        go_roundw
        case rel => exact ⟨k + 1, g, c', by omega, by go_num, by rw [HS.out], by rw [HS.out]; exact hown4, hB4⟩
        case measure => simp [intOf]; omega
      · have HS := Lib.hid (selL_yes (p := inP fa ta fd td) HX.out hv)
        generalize hL : selL (inP fa ta fd td) xs k = zs at hown hle HS ⊢
        clear hL
        have hlen := hown.1
        go_wp2_with fail
        refine (l04In_any _ _ _ _ nm x1 x2 x3 x4 fa ta fd td wr hcr hbr).mono ?_
        rintro e w4 ⟨rfl, b4⟩
        rw [hv]
        have hown2 := hown.kept (grown_of_below b4) (.inr (by simp [Value.ownBlock]))
        have hB4 := belowCall hB b4
        have hsz4 := b4.size
        go_wp2_with (at_builtin; refine wpList_append_own _ rfl _ _ 43 rfl w3.heap.size 2 i0 (.int .i64 0) 1 8 Try.underlying43 hi hz0 hz1 hz2 rfl (by decide) _ _ _ rfl (hown2.alloc _) ⟨w4.heap.size, 0, none⟩ 1 1 [.int .i64 k] rfl rfl ?c1 ?c2 ?c3 ?c4 ?c5 ?_)
        case c1 =>
          intro j u hj
          match j, hj with
          | 0, hj =>
            simp at hj
            subst hj
            rw [Go.WideShapes.add_plain]
            exact World.cell?_alloc_new w4 #[.int .i64 k] 2 0
          | j + 1, hj => simp at hj
        case c2 => intro u hu; simp at hu; subst hu; rfl
        case c3 => unfold maxLen; omega
        case c4 => omega
        case c5 => simp; omega
        intro v' wb hownb hgb hnil
        have hBb : Below w3.heap.size w3 wb := (show Below w3.heap.size w3 (w4.alloc (.cells #[.int .i64 k] 2)) by (repeat (first | assumption | exact Below.refl _ _ | refine belowDN ?_ _ | refine Below.drew ?_ | refine Below.setCell ?_ (by first | omega | (simp <;> omega)) _ | refine Below.alloc ?_ (by first | omega | (simp <;> omega)) _ | refine belowCall ?_ (by assumption)))).grown hgb (by simp; omega) (fun j hj => by simp [Value.ownBlock] at hj; subst hj; exact (hown.lt g rfl).1)
        rcases hownb.2 with ⟨hv0, _⟩ | ⟨g', c'', cur, hv', _⟩
        · exact absurd hv0 hnil
        · subst hv'
          clear hnil hgb
          have hownb' : wb.ownsRow w3.heap.size 2 1 (.slice (some ⟨g', 0, none⟩) (zs ++ [(k : Int)]).length c'') (zs ++ [(k : Int)]).length ((zs ++ [(k : Int)]).map (Value.int .i64)) := by simpa using hownb
          clear hownb
          go_wp2
          go_roundw
          case rel => exact ⟨k + 1, g', c'', by omega, by go_num, by rw [HS.out]; simp, by rw [HS.out]; simpa using hownb', hBb⟩
          case measure => simp [intOf]; omega
    · obtain rfl : k = n := by omega
      go_wp2
      go_ret2
      exact ⟨.inl ⟨by simp, g, c', rfl, Go.Joins.ownsRow_le hown (Nat.le_of_lt hs3)⟩, belowCall B3 hB⟩
end Go.Proofs.Ytiogffjhhhpolab
