/- Two ordered lists of estimates merged: plain lists. -/
import Derived.Test.YtfnjndbnogeddaaDoorP4
namespace Go.Proofs.YtfnjndbnogeddaaDoor

/-- the program's merge: the two heads compared, again and again; none where two of one place differ -/
def mrg : List Es → List Es → Option (List Es)
  | [], b => some b
  | x :: a, [] => some (x :: a)
  | x :: a, y :: b =>
    if cmpE x y < 0 then (mrg a (y :: b)).map (x :: ·)
    else if 0 < cmpE x y then (mrg (x :: a) b).map (y :: ·)
    else if EsE x y then mrg a (y :: b) else none
termination_by a b => a.length + b.length
theorem mrg_nil (b : List Es) : mrg [] b = some b := by rw [mrg]
theorem mrg_nil2 (a : List Es) : mrg a [] = some a := by cases a <;> rw [mrg]
theorem mrg_lt {x y : Es} {a b : List Es} (h : cmpE x y < 0) : mrg (x :: a) (y :: b) = (mrg a (y :: b)).map (x :: ·) := by rw [mrg, if_pos h]
theorem mrg_gt {x y : Es} {a b : List Es} (h : ¬ cmpE x y < 0) (h2 : 0 < cmpE x y) : mrg (x :: a) (y :: b) = (mrg (x :: a) b).map (y :: ·) := by rw [mrg, if_neg h, if_pos h2]
theorem mrg_eq {x y : Es} {a b : List Es} (h : ¬ cmpE x y < 0) (h2 : ¬ 0 < cmpE x y) (h3 : EsE x y = true) : mrg (x :: a) (y :: b) = mrg a (y :: b) := by rw [mrg, if_neg h, if_neg h2, if_pos h3]
theorem mrg_ne {x y : Es} {a b : List Es} (h : ¬ cmpE x y < 0) (h2 : ¬ 0 < cmpE x y) (h3 : EsE x y = false) : mrg (x :: a) (y :: b) = none := by rw [mrg, if_neg h, if_neg h2, if_neg (by simp [h3])]
theorem cmp_mid {x y : Es} (h : ¬ cmpE x y < 0) (h2 : ¬ 0 < cmpE x y) : esEq x y := (cmpE_zero x y).1 (by omega)
theorem cmp_up {x y : Es} (h : 0 < cmpE x y) : esLt y x = true := by
  rcases esLt_or x y with h9 | h9 | h9
  · have := (cmpE_lt x y).2 h9; omega
  · have := (cmpE_zero x y).2 h9; omega
  · exact h9
/-- two of one place that differ -/
def Clash (A B : List Es) : Prop := ∃ x ∈ A, ∃ y ∈ B, esEq x y ∧ x ≠ y
theorem rise_hd {x : Es} {l : List Es} (h : RiseE (x :: l)) : (∀ y ∈ l, esLt x y = true) ∧ RiseE l := List.pairwise_cons.1 h
theorem mrg_facts : ∀ (A B : List Es), RiseE A → RiseE B →
    (∀ T, mrg A B = some T → RiseE T ∧ (∀ y, y ∈ T ↔ y ∈ A ∨ y ∈ B) ∧ ¬ Clash A B) ∧ (mrg A B = none → Clash A B)
  | [], B, _, hB => by
    rw [mrg_nil]
    refine ⟨fun T hT => ?_, fun h => by cases h⟩
    cases hT
    exact ⟨hB, fun y => by simp, fun ⟨x, hx, _⟩ => by simp at hx⟩
  | x :: a, [], hA, _ => by
    rw [mrg_nil2]
    refine ⟨fun T hT => ?_, fun h => by cases h⟩
    cases hT
    exact ⟨hA, fun y => by simp, fun ⟨_, _, y, hy, _⟩ => by simp at hy⟩
  | x :: a, y :: b, hA, hB => by
    obtain ⟨a1, a2⟩ := rise_hd hA
    obtain ⟨b1, b2⟩ := rise_hd hB
    by_cases h : cmpE x y < 0
    · have hxy := (cmpE_lt x y).1 h
      obtain ⟨i1, i2⟩ := mrg_facts a (y :: b) a2 hB
      have hyb : ∀ z ∈ y :: b, esLt x z = true := fun z hz => by
        rcases List.mem_cons.1 hz with rfl | hz
        · exact hxy
        · exact esLt_trans hxy (b1 z hz)
      rw [mrg_lt h]
      refine ⟨fun T hT => ?_, fun hN => ?_⟩
      · obtain ⟨T', hT', rfl⟩ := Option.map_eq_some_iff.1 hT
        obtain ⟨c1, c2, c3⟩ := i1 T' hT'
        refine ⟨List.pairwise_cons.2 ⟨fun z hz => ?_, c1⟩, fun z => ?_, fun ⟨u, hu, v, hv, e1, e2⟩ => ?_⟩
        · rcases (c2 z).1 hz with hz | hz
          · exact a1 z hz
          · exact hyb z hz
        · rw [List.mem_cons, c2]; simp only [List.mem_cons, or_assoc]
        · rcases List.mem_cons.1 hu with rfl | hu
          · have := hyb v hv
            rw [esEq_not e1] at this; cases this
          · exact c3 ⟨u, hu, v, hv, e1, e2⟩
      · have hn : mrg a (y :: b) = none := by simpa using hN
        obtain ⟨u, hu, v, hv, e1, e2⟩ := i2 hn
        exact ⟨u, List.mem_cons_of_mem _ hu, v, hv, e1, e2⟩
    · by_cases h2 : 0 < cmpE x y
      · have hyx := cmp_up h2
        obtain ⟨i1, i2⟩ := mrg_facts (x :: a) b hA b2
        have hxa : ∀ z ∈ x :: a, esLt y z = true := fun z hz => by
          rcases List.mem_cons.1 hz with rfl | hz
          · exact hyx
          · exact esLt_trans hyx (a1 z hz)
        rw [mrg_gt h h2]
        refine ⟨fun T hT => ?_, fun hN => ?_⟩
        · obtain ⟨T', hT', rfl⟩ := Option.map_eq_some_iff.1 hT
          obtain ⟨c1, c2, c3⟩ := i1 T' hT'
          refine ⟨List.pairwise_cons.2 ⟨fun z hz => ?_, c1⟩, fun z => ?_, fun ⟨u, hu, v, hv, e1, e2⟩ => ?_⟩
          · rcases (c2 z).1 hz with hz | hz
            · exact hxa z hz
            · exact b1 z hz
          · rw [List.mem_cons, c2]; simp only [List.mem_cons, or_assoc]; constructor <;> (intro h9; rcases h9 with h9 | h9 | h9 | h9 <;> simp [h9])
          · rcases List.mem_cons.1 hv with rfl | hv
            · have := hxa u hu
              rw [esEq_not e1.symm] at this; cases this
            · exact c3 ⟨u, hu, v, hv, e1, e2⟩
        · have hn : mrg (x :: a) b = none := by simpa using hN
          obtain ⟨u, hu, v, hv, e1, e2⟩ := i2 hn
          exact ⟨u, hu, v, List.mem_cons_of_mem _ hv, e1, e2⟩
      · have hm := cmp_mid h h2
        cases h3 : EsE x y
        · rw [mrg_ne h h2 h3]
          refine ⟨fun T hT => (by cases hT), fun _ => ⟨x, List.mem_cons_self, y, List.mem_cons_self, hm, fun e => ?_⟩⟩
          rw [e, EsE_self] at h3; cases h3
        · have hxy := EsE_eq h3
          obtain ⟨i1, i2⟩ := mrg_facts a (y :: b) a2 hB
          rw [mrg_eq h h2 h3]
          refine ⟨fun T hT => ?_, fun hN => ?_⟩
          · obtain ⟨c1, c2, c3⟩ := i1 T hT
            refine ⟨c1, fun z => ?_, fun ⟨u, hu, v, hv, e1, e2⟩ => ?_⟩
            · rw [c2]; subst hxy; simp only [List.mem_cons, or_assoc]; constructor
              · intro h9; rcases h9 with h9 | h9 | h9 <;> simp [h9]
              · intro h9; rcases h9 with h9 | h9 | h9 | h9 <;> simp [h9]
            · rcases List.mem_cons.1 hu with rfl | hu
              · rcases List.mem_cons.1 hv with rfl | hv
                · exact e2 hxy
                · have := b1 v hv
                  rw [← hxy, esEq_not e1] at this; cases this
              · exact c3 ⟨u, hu, v, hv, e1, e2⟩
          · obtain ⟨u, hu, v, hv, e1, e2⟩ := i2 hN
            exact ⟨u, List.mem_cons_of_mem _ hu, v, hv, e1, e2⟩
termination_by A B => A.length + B.length
theorem rise_one : ∀ {l l' : List Es}, RiseE l → RiseE l' → (∀ y, y ∈ l ↔ y ∈ l') → l = l'
  | [], [], _, _, _ => rfl
  | [], y :: _, _, _, h => absurd ((h y).2 List.mem_cons_self) (by simp)
  | x :: _, [], _, _, h => absurd ((h x).1 List.mem_cons_self) (by simp)
  | x :: l, y :: l', h1, h2, h => by
    obtain ⟨a1, a2⟩ := rise_hd h1
    obtain ⟨b1, b2⟩ := rise_hd h2
    have hxy : x = y := by
      rcases List.mem_cons.1 ((h x).1 List.mem_cons_self) with e | e
      · exact e
      · rcases List.mem_cons.1 ((h y).2 List.mem_cons_self) with e2 | e2
        · exact e2.symm
        · have := esLt_asymm (a1 y e2)
          rw [b1 x e] at this; cases this
    subst hxy
    rw [rise_one a2 b2 (fun z => ⟨fun hz => ?_, fun hz => ?_⟩)]
    · rcases List.mem_cons.1 ((h z).1 (List.mem_cons_of_mem _ hz)) with e | e
      · subst e; have := a1 z hz; rw [esLt_irrefl] at this; cases this
      · exact e
    · rcases List.mem_cons.1 ((h z).2 (List.mem_cons_of_mem _ hz)) with e | e
      · subst e; have := b1 z hz; rw [esLt_irrefl] at this; cases this
      · exact e
/-- the code, and the list -/
def mgC (A B : List Es) : Int := if okE A && okE B then (match mrg A B with | none => 9 | some T => if T.length ≤ 100 then 0 else 5) else 1
def mgLs (A B : List Es) : List Es := if mgC A B = 0 then (mrg A B).getD [] else []
theorem mg_1 {A B : List Es} (h : (okE A && okE B) = false) : mgC A B = 1 ∧ mgLs A B = [] := by simp [mgLs, mgC, h]
theorem mg_9 {A B : List Es} (h : (okE A && okE B) = true) (h2 : mrg A B = none) : mgC A B = 9 ∧ mgLs A B = [] := by simp [mgLs, mgC, h, h2]
theorem mg_5 {A B T : List Es} (h : (okE A && okE B) = true) (h2 : mrg A B = some T) (h3 : ¬ T.length ≤ 100) : mgC A B = 5 ∧ mgLs A B = [] := by simp [mgLs, mgC, h, h2, h3]
theorem mg_0 {A B T : List Es} (h : (okE A && okE B) = true) (h2 : mrg A B = some T) (h3 : T.length ≤ 100) : mgC A B = 0 ∧ mgLs A B = T := by simp [mgLs, mgC, h, h2, h3]
theorem mg_len (A B : List Es) : (mgLs A B).length ≤ 1048576 := by
  unfold mgLs
  split
  · rename_i h
    by_cases h1 : (okE A && okE B) = true
    · cases h2 : mrg A B with
      | none => rw [(mg_9 h1 h2).1] at h; omega
      | some T =>
        by_cases h3 : T.length ≤ 100
        · simp; omega
        · rw [(mg_5 h1 h2 h3).1] at h; omega
    · rw [(mg_1 (by simpa using h1)).1] at h; omega
  · simp
/-- the model's rounds -/
theorem md_round {A B out : List Es} {n m k : Nat} {b : Es} (hA : A.length = n) (hB : B.length = m) (rA : RiseE A) (rB : RiseE B) (hk : k < m) (hb : B[k]?.getD es0 = b)
    (hno : ∀ x ∈ A, ∀ y ∈ B.take k, esEq x y → x = y) (hr : RiseE out) (hm : ∀ y, y ∈ out ↔ y ∈ A ∨ y ∈ B.take k) :
    (¬ fndE A b < n → (∀ y ∈ out, ¬ esEq y b) ∧ (∀ x ∈ A, ∀ y ∈ B.take (k + 1), esEq x y → x = y) ∧ RiseE (putE out b) ∧ (∀ y, y ∈ putE out b ↔ y ∈ A ∨ y ∈ B.take (k + 1))) ∧
    (fndE A b < n → A[fndE A b]?.getD es0 = b → (∀ x ∈ A, ∀ y ∈ B.take (k + 1), esEq x y → x = y) ∧ (∀ y, y ∈ out ↔ y ∈ A ∨ y ∈ B.take (k + 1))) ∧
    (fndE A b < n → A[fndE A b]?.getD es0 ≠ b → Clash A B) := by
  have hkl : k < B.length := by omega
  have hbB : b ∈ B := by rw [← hb, List.getElem?_eq_getElem hkl, Option.getD_some]; exact List.getElem_mem _
  have htk : B.take (k + 1) = B.take k ++ [b] := by
    rw [List.take_add_one, List.getElem?_eq_getElem hkl]
    rw [List.getElem?_eq_getElem hkl, Option.getD_some] at hb
    rw [hb]; rfl
  have hfm : fndE A b < n → A[fndE A b]?.getD es0 ∈ A := fun h => by
    rw [List.getElem?_eq_getElem (by omega), Option.getD_some]; exact List.getElem_mem _
  refine ⟨fun h => ?_, fun h he => ?_, fun h he => ?_⟩
  · have hnA := fndE_none (l := A) (x := b) (by omega)
    have hne : ∀ y ∈ out, ¬ esEq y b := fun y hy e => by
      rcases (hm y).1 hy with h9 | h9
      · exact hnA y h9 e
      · obtain ⟨j, hj, rfl⟩ := List.getElem_of_mem h9
        rw [List.length_take] at hj
        rw [List.getElem_take] at e
        have := rise_ltE hB rB (i := j) (j := k) (by omega) hk
        rw [hb, List.getElem?_eq_getElem (by omega), Option.getD_some, esEq_not e] at this
        cases this
    refine ⟨hne, fun x hx y hy e => ?_, putE_rise hr, fun y => ?_⟩
    · rw [htk] at hy
      rcases List.mem_append.1 hy with hy | hy
      · exact hno x hx y hy e
      · rw [List.mem_singleton.1 hy] at e; exact absurd e (hnA x hx)
    · rw [putE_mem hne, hm, htk]; simp [or_assoc]
  · refine ⟨fun x hx y hy e => ?_, fun y => ?_⟩
    · rw [htk] at hy
      rcases List.mem_append.1 hy with hy | hy
      · exact hno x hx y hy e
      · rw [List.mem_singleton.1 hy] at e ⊢
        obtain ⟨j, hj, rfl⟩ := List.getElem_of_mem hx
        have hbA := hfm h
        rw [he] at hbA
        obtain ⟨f, hf, rfl⟩ := List.getElem_of_mem hbA
        rcases Nat.lt_trichotomy j f with h9 | h9 | h9
        · have := rise_ltE rfl rA (i := j) (j := f) h9 hf
          rw [List.getElem?_eq_getElem hj, List.getElem?_eq_getElem hf, Option.getD_some, Option.getD_some, esEq_not e] at this; cases this
        · subst h9; rfl
        · have := rise_ltE rfl rA (i := f) (j := j) h9 hj
          rw [List.getElem?_eq_getElem hj, List.getElem?_eq_getElem hf, Option.getD_some, Option.getD_some, esEq_not e.symm] at this; cases this
    · rw [hm, htk]
      have hbA := hfm h
      rw [he] at hbA
      simp only [List.mem_append, List.mem_singleton]
      constructor
      · rintro (h9 | h9)
        · exact .inl h9
        · exact .inr (.inl h9)
      · rintro (h9 | h9 | h9)
        · exact .inl h9
        · exact .inr h9
        · rw [h9]; exact .inl hbA
  · exact ⟨_, hfm h, b, hbB, fndE_has (by omega), he⟩
/-- what the model hands back at the end -/
theorem md_end {A B out : List Es} (rA : RiseE A) (rB : RiseE B) (hno : ∀ x ∈ A, ∀ y ∈ B, esEq x y → x = y) (hr : RiseE out) (hm : ∀ y, y ∈ out ↔ y ∈ A ∨ y ∈ B) : mrg A B = some out := by
  obtain ⟨i1, i2⟩ := mrg_facts A B rA rB
  cases h : mrg A B with
  | none =>
    obtain ⟨x, hx, y, hy, e1, e2⟩ := i2 h
    exact absurd (hno x hx y hy e1) e2
  | some T =>
    obtain ⟨c1, c2, -⟩ := i1 T h
    rw [rise_one c1 hr (fun y => by rw [c2, hm])]
theorem md_clash {A B : List Es} (rA : RiseE A) (rB : RiseE B) (h : Clash A B) : mrg A B = none := by
  cases h2 : mrg A B with
  | none => rfl
  | some T => exact absurd h ((mrg_facts A B rA rB).1 T h2).2.2
end Go.Proofs.YtfnjndbnogeddaaDoor
