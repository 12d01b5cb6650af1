/- linkedShifts: the map of the offers (numbers to slices of numbers) and the map of the shifts (numbers to numbers), in plain words. -/
import Derived.Test.YtfnjndbnogeddaaL9
import Derived.Test.YtfnjndbnogeddaaL2
namespace Go.Proofs.Ytfnjndbnogeddaa
open Go.ChangeShapes Go.WideShapes Go.ChangeAt Go.RowKit Go.Deep Go.Maps

theorem has_key_put {D : DataW Unit} (h : IsMap D) (x y : Int) (d : DataW Unit) : Maps.has (D.put (.int .i64 x) d) (.int .i64 y) = (decide (y = x) || Maps.has D (.int .i64 y)) := by
  by_cases e : y = x
  · subst e
    rw [has_put_same h (by simp [WideAt.IsKeyLit])]; simp
  · rw [has_put_other (by simpa using e)]; simp [e]
/-- block b is the map of the shifts; n is a bound of its entries -/
def ShM (w : World) (b n : Nat) (kn : Kn) : Prop := ∃ D : DataW Unit, w.ownsMap Try.prog 2 (plainElem Try.prog 2) b n D ∧ (∀ z : Int, Maps.has D (.int .i64 z) = true → 0 ≤ z) ∧ ∀ z : Nat, Maps.has D (.int .i64 (z : Int)) = (kn z).isSome ∧ ∀ s, kn z = some s → D.atKey (.int .i64 (z : Int)) (.lit (.int .i64 0)) = .lit (.int .i64 s)
theorem zeroI (w : World) : (zeroValue 2).run Try.prog w = .ok (.int .i64 0) w := by kernel_rfl
theorem ShM.kept {w w' : World} {b n : Nat} {kn : Kn} {row : Option Nat} (h : ShM w b n kn) (hg : w.grownBy w' row) (hr : row ≠ some b) : ShM w' b n kn := by
  obtain ⟨D, h1, h2, h3⟩ := h
  exact ⟨D, h1.kept hg (fun e => hr e.symm), h2, h3⟩
theorem ShM.look {w : World} {b n : Nat} {kn : Kn} {z : Nat} (h : ShM w b n kn) (hz : z ≤ 1000) {s : Int} (hs : kn z = some s) :
    (Instr.lookup 74 (.map (some b)) (.int .i64 (z : Int)) false).run Try.prog w = .ok (.int .i64 s) w := by
  obtain ⟨D, h1, h2, h3⟩ := h
  obtain ⟨c, hrun, hat, _⟩ := h1.lookup_int lawC Try.underlying74 Try.underlying2 (zeroI w) (keyC (x := (z : Int)) (by omega) (by omega))
  rw [(h3 z).2 s hs] at hat
  have hc : s = c := by simpa using hat
  rw [hc]; exact hrun
theorem ShM.found {w : World} {b n : Nat} {kn : Kn} {z : Nat} (h : ShM w b n kn) (hz : z ≤ 1000) :
    ∃ c : Int, (Instr.lookup 74 (.map (some b)) (.int .i64 (z : Int)) true).run Try.prog w = .ok (.tuple #[.int .i64 c, .bool (kn z).isSome]) w := by
  obtain ⟨D, h1, h2, h3⟩ := h
  obtain ⟨v, ps, hrun, hR⟩ := h1.look_ok (e := 2) lawC Try.underlying74 (zeroI w) (plainElem_int (H := Unit) Try.underlying2 (WalkArith.wf_i64 (n := 0) (by omega))) (keyC (x := (z : Int)) (by omega) (by omega))
  obtain ⟨c, rfl, -, -⟩ := plainElem_int_inv Try.underlying2 hR
  rw [(h3 z).1] at hrun
  exact ⟨c, hrun⟩
theorem ShM.put {w : World} {b n : Nat} {kn : Kn} {z : Nat} (h : ShM w b n kn) (hn : n ≤ 100000) (hz : z ≤ 1000) {s : Int} (h1 : -9223372036854775808 ≤ s) (h2 : s ≤ 9223372036854775807) :
    ∃ w2, (Instr.mapUpdate 74 (.map (some b)) (.int .i64 (z : Int)) (.int .i64 s)).run Try.prog w = .ok () w2 ∧ ShM w2 b (n + 1) (fun a => if a = z then some s else kn a) ∧ w.grownBy w2 (some b) := by
  obtain ⟨D, k1, k2, k3⟩ := h
  obtain ⟨w2, hrun, hmap, hg⟩ := k1.update (e := 2) lawC Try.underlying74 (by unfold maxLen; omega) (keyC (x := (z : Int)) (by omega) (by omega)) (plainElem_int (H := Unit) Try.underlying2 (WalkArith.wf_i64 ⟨h1, h2⟩))
  refine ⟨w2, hrun, ⟨_, hmap, fun y hy => ?_, fun y => ⟨?_, fun s' hs' => ?_⟩⟩, hg⟩
  · rw [has_key_put k1.isMap, Bool.or_eq_true] at hy
    rcases hy with hy | hy
    · have := of_decide_eq_true hy; omega
    · exact k2 y hy
  · rw [has_key_put k1.isMap, (k3 y).1]
    by_cases e : y = z
    · subst e; simp
    · have e' : ¬ (y : Int) = (z : Int) := by omega
      simp [e, e']
  · by_cases e : y = z
    · subst e
      simp only [if_true] at hs'
      cases hs'
      rw [atKey_put_same k1.isMap (by simp [WideAt.IsKeyLit])]
    · simp only [if_neg e] at hs'
      have e' : ¬ (y : Int) = (z : Int) := by omega
      rw [atKey_put_other (by simpa using e')]
      exact (k3 y).2 s' hs'
/-- block b is the map of the offers: under y lies f y; a key for each y that is offered something; the rows lie from base on -/
def OfM (w : World) (b base n : Nat) (f : Nat → List Int) : Prop := ∃ (D : DataW Unit) (V : Int → Value), b < base ∧ w.ownsMap Try.prog 2 encS b n D ∧ (∀ a : Int, ∃ d, encS (V a) = some (d, []) ∧ D.atKey (.int .i64 a) .nil = d) ∧
  (∀ y : Nat, w.ownsRow base 2 1 (V y) (f y).length ((f y).map (Value.int .i64))) ∧ (∀ a a' : Int, a ≠ a' → (V a).ownBlock = none ∨ (V a).ownBlock ≠ (V a').ownBlock) ∧ (∀ a : Int, a < 0 → V a = .slice none 0 0) ∧ (∀ a : Int, Maps.has D (.int .i64 a) = true ↔ ∃ y : Nat, a = y ∧ f y ≠ []) ∧ ∀ y, (f y).length ≤ n
theorem ofM_made (w : World) {base : Nat} (hb : w.heap.size < base) : OfM (w.alloc (.map #[] 0)) w.heap.size base 0 (fun _ => []) :=
  ⟨.map [], fun _ => .slice none 0 0, hb, World.ownsMap_made _ _ _ _, fun a => ⟨.nil, rfl, by simp [DataW.atKey]⟩, fun a => World.ownsRow_nil _ _ _ _, fun _ _ _ => .inl rfl, fun _ _ => rfl, fun a => by simp [Maps.has], fun _ => Nat.le_refl _⟩
theorem zeroSlL (w : World) : (zeroValue 38).run Try.prog w = .ok (.slice none 0 0) w := by kernel_rfl
theorem OfM.kept {w w' : World} {b base n : Nat} {f : Nat → List Int} {row : Option Nat} (h : OfM w b base n f) (hg : w.grownBy w' row) (hr : ∀ g, row = some g → g ≠ b ∧ (g < base ∨ w.heap.size ≤ g)) : OfM w' b base n f := by
  obtain ⟨D, V, h1, h2, h3, h4, h5, h6, h7, h8⟩ := h
  refine ⟨D, V, h1, h2.kept hg (fun e => (hr b e.symm).1 rfl), h3, fun y => (h4 y).kept hg ?_, h5, h6, h7, h8⟩
  cases hv : (V y).ownBlock with
  | none => exact .inl rfl
  | some g => exact .inr (fun e => by have := (hr g e.symm).2; have := (h4 y).lt g hv; omega)
/-- m[y], and the way back with one number more -/
theorem OfM.at {w : World} {b base n : Nat} {f : Nat → List Int} (h : OfM w b base n f) (hn : n ≤ 100000) {y : Nat} (hy : y ≤ 1000) :
    ∃ v, (Instr.lookup 97 (.map (some b)) (.int .i64 (y : Int)) false).run Try.prog w = .ok v w ∧ w.ownsRow base 2 1 v (f y).length ((f y).map (Value.int .i64)) ∧ (f y).length ≤ n ∧
      ∀ (w1 : World) (v' : Value) (x : Int), w.grownBy w1 v.ownBlock → w1.ownsRow base 2 1 v' ((f y).length + 1) ((f y ++ [x]).map (Value.int .i64)) → (v'.ownBlock = v.ownBlock ∨ ∃ g, v'.ownBlock = some g ∧ w.heap.size ≤ g) →
        ∃ w2, (Instr.mapUpdate 97 (.map (some b)) (.int .i64 (y : Int)) v').run Try.prog w1 = .ok () w2 ∧ OfM w2 b base (n + 1) (fun a => if a = y then f y ++ [x] else f a) ∧ w1.grownBy w2 (some b) := by
  obtain ⟨D, V, h1, h2, h3, h4, h5, h6, h7, h8⟩ := h
  have hkey := keyC (x := (y : Int)) (by omega) (by omega)
  obtain ⟨v, ps, hrun, hv⟩ := h2.lookup (e := 38) lawC Try.underlying97 (zeroSlL w) (zd := .nil) (zp := []) rfl hkey
  obtain ⟨d, hd1, hd2⟩ := h3 (y : Int)
  obtain rfl : v = V y := encS_inj hv hd1 hd2
  refine ⟨V y, hrun, h4 y, h8 y, fun w1 v' x hg hown' hwho => ?_⟩
  have hbV : ∀ a' : Nat, (V a').ownBlock ≠ some b := fun a' e => by have := ((h4 a').lt b e).1; omega
  have h2' := h2.kept hg (fun e => hbV y e.symm)
  obtain ⟨d', hd'⟩ := encS_some (encS_form hown')
  obtain ⟨w2, hrun2, hmap2, hg2⟩ := h2'.update (e := 38) lawC Try.underlying97 (by unfold maxLen; omega) hkey hd'
  have hnew : ∀ a0 : Int, a0 ≠ y → (V a0).ownBlock = none ∨ (V a0).ownBlock ≠ v'.ownBlock := fun a0 h0 => by
    rcases hwho with h | ⟨g, h, hgs⟩
    · rw [h]; exact h5 a0 y h0
    · by_cases hneg : a0 < 0
      · rw [h6 a0 hneg]; exact .inl rfl
      · obtain ⟨k, rfl⟩ : ∃ k : Nat, a0 = k := ⟨a0.toNat, by omega⟩
        refine .inr (fun e => ?_)
        have := ((h4 k).lt g (e.trans h)).2
        omega
  refine ⟨w2, hrun2, ⟨D.put (.int .i64 y) d', fun a' => if a' = (y : Int) then v' else V a', h1, hmap2, fun a' => ?_, fun a' => ?_, fun a' a'' hne => ?_, fun a' ha' => ?_, fun a' => ?_, fun a' => ?_⟩, hg2⟩
  · by_cases e : a' = (y : Int)
    · subst e
      exact ⟨d', by simpa using hd', by rw [atKey_put_same h2'.isMap (by simp [WideAt.IsKeyLit])]⟩
    · obtain ⟨d0, e1, e2⟩ := h3 a'
      exact ⟨d0, by simpa [e] using e1, by rw [atKey_put_other (by simpa using e)]; exact e2⟩
  · by_cases e : a' = y
    · subst e
      simp only [if_true]
      rw [List.length_append]
      refine hown'.kept hg2 (.inr (fun e => ?_))
      have := (hown'.lt b e).1; omega
    · have e' : ¬ (a' : Int) = (y : Int) := by omega
      simp only [if_neg e, if_neg e']
      have hk1 : w1.ownsRow base 2 1 (V a') (f a').length ((f a').map (Value.int .i64)) := (h4 a').kept hg (h5 a' y e')
      refine hk1.kept hg2 (.inr (fun e => hbV a' e))
  · dsimp only
    by_cases e : a' = (y : Int)
    · subst e
      rw [if_pos rfl, if_neg (fun e => hne e.symm)]
      rcases hnew a'' (fun e => hne e.symm) with h | h
      · cases hv' : v'.ownBlock with
        | none => exact .inl rfl
        | some g => exact .inr (by rw [h]; simp)
      · exact .inr (fun e => h e.symm)
    · rw [if_neg e]
      by_cases e2 : a'' = (y : Int)
      · rw [if_pos e2]; exact hnew a' e
      · rw [if_neg e2]; exact h5 a' a'' hne
  · have e' : ¬ a' = (y : Int) := by omega
    dsimp only; rw [if_neg e']; exact h6 a' ha'
  · rw [has_key_put h2.isMap, Bool.or_eq_true, h7 a']
    constructor
    · rintro (e | ⟨k, rfl, hk⟩)
      · exact ⟨y, of_decide_eq_true e, by simp⟩
      · exact ⟨k, rfl, by by_cases e : k = y <;> simp [e, hk]⟩
    · rintro ⟨k, rfl, hk⟩
      by_cases e : k = y
      · subst e; exact .inl (by simp)
      · exact .inr ⟨k, rfl, by simpa [e] using hk⟩
  · have := h8 a'
    have h9 := h8 y
    by_cases e : a' = y
    · subst e; simp; omega
    · simp only [if_neg e]; omega
theorem own_other {w : World} {B e sz n g : Nat} {v : Value} {xs : List Value} {cs : Array Value} {T : TypeId} {fz : Nat × Nat} (h : w.ownsRow B e sz v n xs) (hg : w.heap[g]? = some (.cells cs T fz)) (hT : T ≠ e) : some g ≠ v.ownBlock := fun e' => by
  rcases h.2 with ⟨rfl, _⟩ | ⟨g', cap, cur, rfl, _, hgc, _⟩
  · cases e'
  · obtain rfl : g = g' := by simpa [Value.ownBlock] using e'
    rw [hg] at hgc; cases hgc; exact hT rfl
end Go.Proofs.Ytfnjndbnogeddaa
