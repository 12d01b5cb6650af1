/- A map from numbers to slices of common estimates that a call owns (the program's 'against'). -/
import Derived.Test.YtfnjndbnogeddaaL5
import Derived.Test.YtfnjndbnogeddaaGCm3
import Derived.Maps.GroupsBeside
import Derived.Maps.OwnSet
import Derived.Maps.Views
import Derived.Carry
namespace Go.Proofs.Ytfnjndbnogeddaa
open Go.ChangeShapes Go.WideShapes Go.ChangeAt Go.RowKit Go.Deep Go.Maps

/-- a slice as a datum: which block, how long, how much room (of no world) -/
def encS : Value → Option (DataW Unit × List MemPlace)
  | .slice none 0 0 => some (.nil, [])
  | .slice (some ⟨g, 0, none⟩) n c => some (.slice [.lit (.int .i64 (g : Int)), .lit (.int .i64 (n : Int)), .lit (.int .i64 (c : Int))] [], [])
  | _ => none
theorem encS_form {w : World} {B T z n : Nat} {v : Value} {xs : List Value} (h : w.ownsRow B T z v n xs) : v = .slice none 0 0 ∨ ∃ g n c, v = .slice (some ⟨g, 0, none⟩) n c := by
  rcases h.2 with ⟨hv, _⟩ | ⟨g, cap, _, hv, _⟩
  · exact .inl hv
  · exact .inr ⟨g, n, cap, hv⟩
theorem encS_some {v : Value} (h : v = .slice none 0 0 ∨ ∃ g n c, v = .slice (some ⟨g, 0, none⟩) n c) : ∃ d, encS v = some (d, []) := by
  rcases h with rfl | ⟨g, n, c, rfl⟩
  · exact ⟨_, rfl⟩
  · exact ⟨_, rfl⟩
theorem encS_inv {v : Value} {z : DataW Unit × List MemPlace} (h : encS v = some z) : (v = .slice none 0 0 ∧ z = (.nil, [])) ∨ ∃ (g n c : Nat), v = .slice (some ⟨g, 0, none⟩) n c ∧ z = (.slice [.lit (.int .i64 (g : Int)), .lit (.int .i64 (n : Int)), .lit (.int .i64 (c : Int))] [], []) := by
  unfold encS at h
  split at h
  · cases h; exact .inl ⟨rfl, rfl⟩
  · cases h; exact .inr ⟨_, _, _, rfl, rfl⟩
  · cases h
theorem encS_inj {v u : Value} {z z' : DataW Unit × List MemPlace} (h : encS v = some z) (h' : encS u = some z') (e : z.1 = z'.1) : v = u := by
  rcases encS_inv h with ⟨rfl, rfl⟩ | ⟨g, n, c, rfl, rfl⟩ <;> rcases encS_inv h' with ⟨rfl, rfl⟩ | ⟨g', n', c', rfl, rfl⟩
  · rfl
  · cases e
  · cases e
  · simp at e
    obtain ⟨e1, e2, e3⟩ := e
    have a1 : g = g' := by omega
    have a2 : n = n' := by omega
    have a3 : c = c' := by omega
    rw [a1, a2, a3]
/-- block b is the map that groups ys by their first observer; the rows lie from base on, no two in one block -/
def AgM (w : World) (b base : Nat) (ys : List Cm) : Prop := ∃ (n : Nat) (D : DataW Unit) (V : Int → Value), n ≤ ys.length ∧ b < base ∧ w.ownsMap Try.prog 2 encS b n D ∧ (∀ a, ∃ d, encS (V a) = some (d, []) ∧ D.atKey (.int .i64 a) .nil = d) ∧
  (∀ a, w.ownsRow base 67 3 (V a) (agL ys a).length (flatCm (agL ys a))) ∧ ∀ a a', a ≠ a' → (V a).ownBlock = none ∨ (V a).ownBlock ≠ (V a').ownBlock
theorem agM_made (w : World) {base : Nat} (hb : w.heap.size < base) : AgM (w.alloc (.map #[] 0)) w.heap.size base [] :=
  ⟨0, .map [], fun _ => .slice none 0 0, Nat.le_refl _, hb, World.ownsMap_made _ _ _ _, fun a => ⟨.nil, rfl, by simp [DataW.atKey]⟩, fun a => World.ownsRow_nil _ _ _ _, fun _ _ _ => .inl rfl⟩
theorem AgM.kept {w w' : World} {b base : Nat} {ys : List Cm} {row : Option Nat} (h : AgM w b base ys) (hg : w.grownBy w' row) (hr : ∀ g, row = some g → g ≠ b ∧ g < base) : AgM w' b base ys := by
  obtain ⟨n, D, V, h1, h2, h3, h4, h5, h6⟩ := h
  refine ⟨n, D, V, h1, h2, h3.kept hg (fun e => (hr b e.symm).1 rfl), h4, fun a => (h5 a).kept hg ?_, h6⟩
  cases hv : (V a).ownBlock with
  | none => exact .inl rfl
  | some g => exact .inr (fun e => by have := (hr g e.symm).2; have := ((h5 a).lt g hv).1; omega)
theorem zeroCm (w : World) : (zeroValue 41).run Try.prog w = .ok (.slice none 0 0) w := by kernel_rfl
theorem lawC : Keyed Try.prog 2 := int_keyed Try.underlying2
theorem keyC {x : Int} (h1 : -9223372036854775808 ≤ x) (h2 : x ≤ 9223372036854775807) : keyOf Try.prog 2 (.int .i64 x) = some (.int .i64 x) := keyOf_int_mk Try.underlying2 (WalkArith.wf_i64 (by omega))
/-- block i is the row of an entry of the map in block b -/
def RowOf (W : World) (b i : Nat) : Prop := ∃ es clock, W.heap[b]? = some (.map es clock) ∧ ∃ x ∈ es.toList, x.val.ownBlock = some i
theorem RowOf.same {W W' : World} {b i : Nat} (e : W'.heap[b]? = W.heap[b]?) (h : RowOf W' b i) : RowOf W b i := by
  obtain ⟨es, clock, h1, h2⟩ := h
  exact ⟨es, clock, e.symm.trans h1, h2⟩
/-- m[a], and the way back with one estimate more -/
theorem AgM.at {w : World} {b base : Nat} {ys : List Cm} (h : AgM w b base ys) (hy : ys.length < 1048576) {a : Int} (ha1 : -1000 ≤ a) (ha2 : a ≤ 1000) :
    ∃ v, (Instr.lookup 93 (.map (some b)) (.int .i64 a) false).run Try.prog w = .ok v w ∧ w.ownsRow base 67 3 v (agL ys a).length (flatCm (agL ys a)) ∧ (∀ g, v.ownBlock = some g → RowOf w b g) ∧
      ∀ (w1 : World) (v' : Value) (x : Cm), x.1 = a → w.grownBy w1 v.ownBlock → w1.ownsRow base 67 3 v' ((agL ys a).length + 1) (flatCm (agL ys a ++ [x])) → (v'.ownBlock = v.ownBlock ∨ ∃ g, v'.ownBlock = some g ∧ w.heap.size ≤ g) →
        ∃ w2, (Instr.mapUpdate 93 (.map (some b)) (.int .i64 a) v').run Try.prog w1 = .ok () w2 ∧ AgM w2 b base (ys ++ [x]) ∧ w1.grownBy w2 (some b) ∧ ∀ i, RowOf w2 b i → RowOf w b i ∨ v'.ownBlock = some i := by
  obtain ⟨n, D, V, h1, h2, h3, h4, h5, h6⟩ := h
  obtain ⟨v, ps, hrun, hv⟩ := h3.lookup (e := 41) lawC Try.underlying93 (zeroCm w) (zd := .nil) (zp := []) rfl (keyC (x := a) (by omega) (by omega))
  obtain ⟨d, hd1, hd2⟩ := h4 a
  obtain rfl : v = V a := encS_inj hv hd1 hd2
  have hRO : ∀ g, (V a).ownBlock = some g → RowOf w b g := by
    obtain ⟨es, clock, hb, F, _⟩ := h3
    rcases Maps.fit_look (e := 41) false lawC Try.underlying93 (zeroCm w) hb F (keyC (x := a) (by omega) (by omega)) with ⟨hrun', _, _⟩ | ⟨e0, y, hm0, _, hrun', _, _, _⟩
    · rw [hrun] at hrun'
      have hv' : V a = .slice none 0 0 := by simpa using hrun'
      intro g hg'
      rw [hv'] at hg'
      cases hg'
    · rw [hrun] at hrun'
      have hv' : V a = e0.val := by simpa using hrun'
      exact fun g hg' => ⟨es, clock, hb, e0, hm0, by rw [← hv']; exact hg'⟩
  refine ⟨V a, hrun, h5 a, hRO, fun w1 v' x hx hg hown' hwho => ?_⟩
  have hbV : ∀ a', (V a').ownBlock ≠ some b := fun a' e => by have := ((h5 a').lt b e).1; omega
  have h3' := h3.kept hg (fun e => hbV a e.symm)
  obtain ⟨d', hd'⟩ := encS_some (encS_form hown')
  obtain ⟨w2, hrun2, hmap2, hg2⟩ := h3'.update (e := 41) lawC Try.underlying93 (by unfold maxLen; omega) (keyC (x := a) (by omega) (by omega)) hd'
  have hRW : ∀ i, RowOf w2 b i → RowOf w b i ∨ v'.ownBlock = some i := by
    obtain ⟨es, clock, hb, F, hs, _⟩ := h3'
    obtain ⟨es', clock', hb2, hw⟩ := stored_who (t := 93) (E := 41) (val := v') lawC Try.underlying93 hb F (by unfold maxLen; omega) (keyC (x := a) (by omega) (by omega)) hrun2
    rintro i ⟨es2, clock2, hb3, x', hx', hi⟩
    rw [hb2] at hb3
    cases hb3
    rcases hw x' hx' with ⟨h, _⟩ | ⟨_, h⟩
    · exact .inl (RowOf.same (hg.block b h3.lt (fun e => hbV a e.symm)) ⟨es, clock, hb, x', h, hi⟩)
    · exact .inr (by rw [← h]; exact hi)
  refine ⟨w2, hrun2, ⟨n + 1, D.put (.int .i64 a) d', fun a' => if a' = a then v' else V a', by simp; omega, h2, hmap2, fun a' => ?_, fun a' => ?_, fun a' a'' hne => ?_⟩, hg2, hRW⟩
  · by_cases e : a' = a
    · subst e
      exact ⟨d', by simpa using hd', by rw [atKey_put_same h3'.isMap (by simp [WideAt.IsKeyLit])]⟩
    · obtain ⟨d0, e1, e2⟩ := h4 a'
      exact ⟨d0, by simpa [e] using e1, by rw [atKey_put_other (by simpa using e)]; exact e2⟩
  · by_cases e : a' = a
    · subst e
      have : agL (ys ++ [x]) a' = agL ys a' ++ [x] := by rw [agL_snoc, if_pos hx]
      rw [this]
      simp only [if_true, List.length_append, List.length_cons, List.length_nil]
      refine hown'.kept hg2 (.inr (fun e => ?_))
      have := (hown'.lt b e).1; omega
    · have : agL (ys ++ [x]) a' = agL ys a' := by rw [agL_snoc, if_neg (fun e' => e (by rw [← e', hx]))]
      rw [this]
      simp only [if_neg e]
      have hk1 : w1.ownsRow base 67 3 (V a') (agL ys a').length (flatCm (agL ys a')) := (h5 a').kept hg (h6 a' a e)
      refine hk1.kept hg2 (.inr (fun e => hbV a' e))
  · have hnew : ∀ a0, a0 ≠ a → (V a0).ownBlock = none ∨ (V a0).ownBlock ≠ v'.ownBlock := fun a0 h0 => by
      rcases hwho with h | ⟨g, h, hgs⟩
      · rw [h]; exact h6 a0 a h0
      · refine .inr (fun e => ?_)
        have := ((h5 a0).lt g (e.trans h)).2
        omega
    dsimp only
    by_cases e : a' = a
    · subst e
      rw [if_pos rfl, if_neg (fun e => hne e.symm)]
      rcases hnew a'' (fun e => hne e.symm) with h | h
      · cases hv' : v'.ownBlock with
        | none => exact .inl rfl
        | some g => exact .inr (by rw [h]; simp)
      · exact .inr (fun e => h e.symm)
    · rw [if_neg e]
      by_cases e2 : a'' = a
      · rw [if_pos e2]; exact hnew a' e
      · rw [if_neg e2]; exact h6 a' a'' hne
end Go.Proofs.Ytfnjndbnogeddaa
