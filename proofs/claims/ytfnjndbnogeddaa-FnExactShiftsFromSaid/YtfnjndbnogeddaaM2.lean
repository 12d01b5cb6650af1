/- The model's copy of a list (l00Own). -/
import Derived.Test.YtfnjndbnogeddaaM1
import Derived.Test.YtfnjndbnogeddaaB3
import Derived.WalkLawsBesides
import Derived.Laws.Rows
namespace Go.Proofs.Ytfnjndbnogeddaa
open Go.ChangeShapes Go.WideShapes Go.ChangeAt Go.RowKit
set_option maxRecDepth 100000 in
theorem l00Own_any (g n c : Nat) (xs : List Int) (w : World) (h : Lst w (some ⟨g, 0, none⟩) n xs) (hn : n ≤ 1048576) :
    Calls Try.prog 94 #[.slice (some ⟨g, 0, none⟩) n c] w fun e w' => ∃ g' c', e = .returned (.slice (some ⟨g', 0, none⟩) n c') ∧ w'.ownsRow w.heap.size 2 1 (.slice (some ⟨g', 0, none⟩) n c') n (xs.map (Value.int .i64)) ∧ Below w.heap.size w w' := by
  obtain ⟨i0, hi, hz0, hz1, hz2⟩ := info_parts A_info
  have hB0 : Below w.heap.size w (w.alloc (.cells #[] 2)) := (Below.refl _ _).alloc (Nat.le_refl _) _
  have h1 := h.mono hB0
  have hl := h.1
  go_enter Try.func94, Try.ntmps94
  go_wp2_with (at_builtin; refine wpList_append_own _ rfl _ _ 38 rfl w.heap.size 2 i0 (.int .i64 0) 1 8 Try.underlying38 hi hz0 hz1 hz2 rfl (by decide) _ 0 [] rfl ?c0 ⟨g, 0, none⟩ n c (xs.map (Value.int .i64)) rfl ?cl ?c1 ?c2 ?c3 ?c4 ?c5 ?_)
  case c0 => exact World.ownsRow_lit w #[] 0 (Nat.le_refl _) (by unfold maxLen; omega) rfl
  case cl => simp [hl]
  case c1 =>
    intro j u hj
    have hjn : j < n := by
      have := (List.getElem?_eq_some_iff.1 hj).1
      simpa [hl] using this
    obtain ⟨b, off, e, _, hc⟩ := h1.2 j hjn
    injection e with e
    injection e with e1 e2
    subst e1 e2
    rw [Go.WideShapes.add_plain, hc, ← hj, List.getElem?_map, List.getElem?_eq_getElem (by omega)]
    rfl
  case c2 => intro u hu; obtain ⟨b, _, rfl⟩ := List.mem_map.1 hu; rfl
  case c3 => unfold maxLen; omega
  case c4 => omega
  case c5 => simp
  intro v' wb hownb hgb hnil
  have hBb : Below w.heap.size w wb := hB0.grown hgb (by simp) (fun k hk => by simp [Value.ownBlock] at hk; omega)
  rcases hownb.2 with ⟨hv, _⟩ | ⟨g', c', cur, hv', _⟩
  · exact absurd hv hnil
  · subst hv'
    clear hnil hgb
    go_wp2
    go_ret
    exact ⟨g', c', rfl, hownb, hBb⟩
end Go.Proofs.Ytfnjndbnogeddaa
