/- VisibleAt, the model's: the indices of the stars that a test chooses. -/
import Derived.Test.YtiogffjhhhpolabS8
import Derived.Test.YtiogffjhhhpolabB3
namespace Go.Proofs.Ytiogffjhhhpolab
open Go.ChangeShapes Go.WideShapes Go.ChangeAt Go.RowKit Go.Deep

/-- the indices below k whose stars p chooses -/
def selL (p : St → Bool) (xs : List St) (k : Nat) : List Int := ((List.range k).filter fun (j : Nat) => p (xs[j]?.getD st0)).map fun (j : Nat) => (j : Int)
theorem selL_zero (p : St → Bool) (xs : List St) : selL p xs 0 = [] := rfl
theorem selL_yes {p : St → Bool} {xs : List St} {k : Nat} {x : St} (hx : xs[k]?.getD st0 = x) (h : p x = true) : selL p xs (k + 1) = selL p xs k ++ [(k : Int)] := by
  simp [selL, List.range_succ, List.filter_append, hx, h]
theorem selL_no {p : St → Bool} {xs : List St} {k : Nat} {x : St} (hx : xs[k]?.getD st0 = x) (h : p x = false) : selL p xs (k + 1) = selL p xs k := by
  simp [selL, List.range_succ, List.filter_append, hx, h]
theorem selL_len (p : St → Bool) (xs : List St) (k : Nat) : (selL p xs k).length ≤ k := by
  simp only [selL, List.length_map]
  exact Nat.le_trans (List.length_filter_le _ _) (by simp)
def visP (m : Int) (x : St) : Bool := inB m x.2.2.2.1 x.2.2.2.2
/-- what a function that chooses stars hands back: a slice of the call's own, or nil and a code -/
def Chosen (B : Nat) (good : Bool) (code : Int) (zs : List Int) (w' : World) (e : Ending) : Prop :=
  (good = true ∧ ∃ g c, e = .returned (.tuple #[.slice (some ⟨g, 0, none⟩) zs.length c, .int .i64 0]) ∧ w'.ownsRow B 2 1 (.slice (some ⟨g, 0, none⟩) zs.length c) zs.length (zs.map (Value.int .i64))) ∨
  (good = false ∧ e = .returned (.tuple #[.slice none 0 0, .int .i64 code]))
def visCode (xs : List St) : Int := if okS xs then 2 else 1
set_option maxHeartbeats 2000000 in
set_option maxRecDepth 100000 in
theorem sVisible_any (a : Option Addr) (n c : Nat) (xs : List St) (m : Int) (w : World) (h : StL w a n xs) (hn : n ≤ 1048576) :
    Calls Try.prog 45 #[.slice a n c, .int .i64 m] w fun e w' => Chosen w.heap.size (okS xs && magB m) (visCode xs) (selL (visP m) xs n) w' e ∧ Below w.heap.size w w' := by
  have hl : (n : Int) ≤ 1048576 := by omega
  have HL := Lib.hid h.1
  obtain ⟨i0, hi, hz0, hz1, hz2⟩ := info_parts A_info
  cases hok : okS xs
  · have HC : Hid (visCode xs = 1) := Lib.hid (by simp [visCode, hok])
    go_enter Try.func45, Try.ntmps45
    go_wp2_with fail
    refine (l04Ok_any a n c xs w h hn).mono ?_
    rintro e w2 ⟨rfl, q, rfl⟩
    rw [hok]
    go_wp2
    go_ret2
    exact ⟨.inr ⟨rfl, by rw [HC.out]; rfl⟩, belowDN (Below.refl _ _) _⟩
  cases hm : magB m
  · have HC : Hid (visCode xs = 2) := Lib.hid (by simp [visCode, hok])
    go_enter Try.func45, Try.ntmps45
    go_wp2_with fail
    refine (l04Ok_any a n c xs w h hn).mono ?_
    rintro e w2 ⟨rfl, q, rfl⟩
    rw [hok]
    go_wp2_with (go_at_call 83; refine (l02Mag_any _ _).mono ?_; rintro e w' ⟨rfl, rfl⟩)
    go_ret2
    exact ⟨.inr ⟨rfl, by rw [HC.out]; rfl⟩, belowDN (Below.refl _ _) _⟩
  go_enter Try.func45, Try.ntmps45
  go_wp2_with fail
  refine (l04Ok_any a n c xs w h hn).mono ?_
  rintro e w2 ⟨rfl, q, rfl⟩
  rw [hok]
  go_wp2_with (go_at_call 83; refine (l02Mag_any _ _).mono ?_; rintro e w' ⟨rfl, rfl⟩)
  go_loopw [6, 7] (fun o i wr => ∃ (k g c' : Nat), k ≤ n ∧ i = .int .i64 k ∧ o = .slice (some ⟨g, 0, none⟩) (selL (visP m) xs k).length c' ∧ wr.ownsRow w.heap.size 2 1 o (selL (visP m) xs k).length ((selL (visP m) xs k).map (Value.int .i64)) ∧ Below w.heap.size w wr) (fun _ i _ => n - (intOf i).toNat)
  case atStart => exact ⟨0, w.heap.size, 0, Nat.zero_le _, rfl, rfl, (by rw [selL_zero]; exact World.ownsRow_lit (w.drewN q) #[] 0 (Nat.le_refl _) (by unfold maxLen; omega) rfl), by (repeat (first | assumption | exact Below.refl _ _ | refine belowDN ?_ _ | refine Below.drew ?_ | refine Below.setCell ?_ (by first | omega | (simp <;> omega)) _ | refine Below.alloc ?_ (by first | omega | (simp <;> omega)) _ | refine belowCall ?_ (by assumption)))⟩
  case round =>
    obtain ⟨k, g, c', hk, rfl, rfl, hown, hB⟩ := hrel
    have hsz := hB.size
    have hle := selL_len (visP m) xs k
    by_cases hlt : k < n
    · obtain ⟨b1, o1, rfl, hc⟩ := h.2 k hlt
      obtain ⟨⟨nm, x1, x2, x3, x4⟩, hx⟩ : ∃ x, xs[k]?.getD st0 = x := ⟨_, rfl⟩
      rw [hx] at hc
      obtain ⟨p, p0, p1, p2, p3, p4⟩ := (hc.mono hB).parts
      have HX := Lib.hid hx
      clear hx hc
      have hkk : (k : Int) < (n : Int) := by omega
      cases hv : inB m x3 x4
      · have HS := Lib.hid (selL_no (p := visP m) HX.out (show visP m (nm, x1, x2, x3, x4) = false from hv))
        go_wp2
        go_big_quiet (first | (go_at_call 79; refine Calls.quiet_of_same (flipV (l00In_any _ _ _ _) (by assumption))))
        go_wp2
        go_roundw
        case rel => exact ⟨k + 1, g, c', by omega, by go_num, by rw [HS.out], by rw [HS.out]; exact hown, belowDN hB _⟩
        case measure => simp [intOf]; omega
      · have HS := Lib.hid (selL_yes (p := visP m) HX.out (show visP m (nm, x1, x2, x3, x4) = true from hv))
        generalize hL : selL (visP m) xs k = zs at hown hle HS ⊢
        clear hL
        have hlen := hown.1
        go_wp2
        go_big_quiet (first | (go_at_call 79; refine Calls.quiet_of_same (flipV (l00In_any _ _ _ _) (by assumption))))
        have hown2 : (wr.drewN nq).ownsRow w.heap.size 2 1 (.slice (some ⟨g, 0, none⟩) zs.length c') zs.length (zs.map (Value.int .i64)) := hown
        go_wp2_with (at_builtin; refine wpList_append_own _ rfl _ _ 43 rfl w.heap.size 2 i0 (.int .i64 0) 1 8 Try.underlying43 hi hz0 hz1 hz2 rfl (by decide) _ _ _ rfl (hown2.alloc _) ⟨wr.heap.size, 0, none⟩ 1 1 [.int .i64 k] rfl rfl ?c1 ?c2 ?c3 ?c4 ?c5 ?_)
        case c1 =>
          intro j u hj
          match j, hj with
          | 0, hj =>
            simp at hj
            subst hj
            rw [Go.WideShapes.add_plain]
            exact World.cell?_alloc_new (wr.drewN nq) #[.int .i64 k] 2 0
          | j + 1, hj => simp at hj
        case c2 => intro u hu; simp at hu; subst hu; rfl
        case c3 => unfold maxLen; omega
        case c4 => omega
        case c5 => simp; omega
        intro v' wb hownb hgb hnil
        have hBb : Below w.heap.size w wb := (show Below w.heap.size w ((wr.drewN nq).alloc (.cells #[.int .i64 k] 2)) by (repeat (first | assumption | exact Below.refl _ _ | refine belowDN ?_ _ | refine Below.drew ?_ | refine Below.setCell ?_ (by first | omega | (simp <;> omega)) _ | refine Below.alloc ?_ (by first | omega | (simp <;> omega)) _ | refine belowCall ?_ (by assumption)))).grown hgb (by simp; omega) (fun j hj => by simp [Value.ownBlock] at hj; subst hj; exact (hown.lt g rfl).1)
        rcases hownb.2 with ⟨hv0, _⟩ | ⟨g', c'', cur, hv', _⟩
        · exact absurd hv0 hnil
        · subst hv'
          clear hnil hgb
          have hownb' : wb.ownsRow w.heap.size 2 1 (.slice (some ⟨g', 0, none⟩) (zs ++ [(k : Int)]).length c'') (zs ++ [(k : Int)]).length ((zs ++ [(k : Int)]).map (Value.int .i64)) := by simpa using hownb
          clear hownb
          go_wp2
          go_roundw
          case rel => exact ⟨k + 1, g', c'', by omega, by go_num, by rw [HS.out]; simp, by rw [HS.out]; simpa using hownb', hBb⟩
          case measure => simp [intOf]; omega
    · obtain rfl : k = n := by omega
      go_wp2
      go_ret2
      exact ⟨.inl ⟨by simp, g, c', rfl, hown⟩, hB⟩
end Go.Proofs.Ytiogffjhhhpolab
