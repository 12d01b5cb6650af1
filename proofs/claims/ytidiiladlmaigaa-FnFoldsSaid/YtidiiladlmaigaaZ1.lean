/- A stable merge in plain arrays: what exchanges of ranges, rotations and binary searches leave. -/
import Derived.Sort.LotA
namespace Go.Proofs.Ytidiiladlmaigaa
open Go.Sort
variable {α : Type} {key : α → Int} {ix : α → Nat}
def ltX (key : α → Int) (ix : α → Nat) (x y : α) : Bool := decide (key x < key y ∨ key x = key y ∧ ix x < ix y)
theorem ltX_iff {x y : α} : ltX key ix x y = true ↔ (key x < key y ∨ key x = key y ∧ ix x < ix y) := by simp [ltX]
theorem ltX_no {x y : α} : ltX key ix x y = false ↔ ¬ (key x < key y ∨ key x = key y ∧ ix x < ix y) := by simp [ltX]
theorem ltX_swo : SWO (ltX key ix) where
  irrefl x := by rw [ltX_no]; omega
  trans x y z h1 h2 := by rw [ltX_iff] at *; omega
  ntrans x y z h1 h2 := by rw [ltX_no] at *; omega
theorem ltX_asymm {x y : α} (h : ltX key ix x y = true) : ltX key ix y x = false := by rw [ltX_iff] at h; rw [ltX_no]; omega
theorem ltX_key {lt : α → α → Bool} (hl : ∀ x y, lt x y = decide (key x < key y)) {x y : α} (h : ix y < ix x) : ltX key ix x y = lt x y := by
  rw [hl, ltX]
  congr 1
  refine propext ⟨fun hh => by omega, fun hh => .inl hh⟩
variable [Inhabited α]

theorem gx {d : Array α} {x y : Nat} (h : x = y) : d[x]! = d[y]! := by rw [h]
/-- n elements from a on and from b on are exchanged -/
structure SwrOf (a b n : Nat) (d d' : Array α) : Prop where
  sz : d'.size = d.size
  left : ∀ t, a ≤ t → t < a + n → d'[t]! = d[b + (t - a)]!
  right : ∀ t, b ≤ t → t < b + n → d'[t]! = d[a + (t - b)]!
  out : ∀ t, (t < a ∨ a + n ≤ t) → (t < b ∨ b + n ≤ t) → d'[t]! = d[t]!
  perm : ∀ x y, x ≤ a → b + n ≤ y → y ≤ d.size → PermIn x y d d'
theorem SwrOf.zero (a b : Nat) (d : Array α) : SwrOf a b 0 d d :=
  ⟨rfl, fun t h1 h2 => by omega, fun t h1 h2 => by omega, fun _ _ _ => rfl, fun _ _ _ _ _ => permIn_refl _ _ _⟩
theorem SwrOf.step {a b n : Nat} {d d' : Array α} (h : SwrOf a b n d d') (hab : a + n < b) (hb : b + n < d.size) : SwrOf a b (n + 1) d (swp d' (a + n) (b + n)) := by
  have hs := h.sz
  refine ⟨by rw [size_swp, hs], fun t h1 h2 => ?_, fun t h1 h2 => ?_, fun t h1 h2 => ?_, fun x y h1 h2 h3 => ?_⟩
  · by_cases e : t = a + n
    · subst e
      rw [swp_left _ _ _ (by omega) (by omega), h.out (b + n) (by omega) (by omega)]
      exact gx (by omega)
    · rw [swp_other _ _ _ _ e (by omega)]
      exact h.left t h1 (by omega)
  · by_cases e : t = b + n
    · subst e
      rw [swp_right _ _ _ (by omega), h.out (a + n) (by omega) (by omega)]
      exact gx (by omega)
    · rw [swp_other _ _ _ _ (by omega) e]
      exact h.right t h1 (by omega)
  · rw [swp_other _ _ _ _ (by omega) (by omega)]
    exact h.out t (by omega) (by omega)
  · exact permIn_trans _ _ _ _ _ (h.perm x y h1 (by omega) h3) (swp_permIn _ _ _ _ _ (by omega) (by omega) (by omega) (by omega) (by omega))
/-- the parts [a, m) and [m, b) have changed their places -/
structure RotOf (a m b : Nat) (d d' : Array α) : Prop where
  sz : d'.size = d.size
  lo : ∀ t, a ≤ t → t < a + (b - m) → d'[t]! = d[t + (m - a)]!
  hi : ∀ t, a + (b - m) ≤ t → t < b → d'[t]! = d[t - (b - m)]!
  out : ∀ t, t < a ∨ b ≤ t → d'[t]! = d[t]!
  perm : ∀ x y, x ≤ a → b ≤ y → y ≤ d.size → PermIn x y d d'
theorem RotOf.triv {a m b : Nat} (d : Array α) (_h1 : a ≤ m) (_h2 : m ≤ b) (h : a = m ∨ m = b) : RotOf a m b d d :=
  ⟨rfl, fun t h1 h2 => gx (by omega), fun t h1 h2 => gx (by omega), fun _ _ => rfl, fun _ _ _ _ _ => permIn_refl _ _ _⟩
theorem RotOf.last {A m i : Nat} {d d' : Array α} (hA : A + i = m) (S : SwrOf A m i d d') : RotOf A m (m + i) d d' :=
  ⟨S.sz, fun t h1 h2 => (S.left t h1 (by omega)).trans (gx (by omega)), fun t h1 h2 => (S.right t (by omega) h2).trans (gx (by omega)), fun t h => S.out t (by omega) (by omega), fun x y h1 h2 h3 => S.perm x y h1 h2 h3⟩
theorem RotOf.more {A m j : Nat} {d d1 d' : Array α} (hA : A + j < m) (S : SwrOf A m j d d1) (R : RotOf (A + j) m (m + j) d1 d') : RotOf A m (m + j) d d' := by
  have e := S.sz
  refine ⟨R.sz.trans e, fun t h1 h2 => ?_, fun t h1 h2 => ?_, fun t h => ?_, fun x y h1 h2 h3 => ?_⟩
  · exact (R.out t (by omega)).trans ((S.left t h1 (by omega)).trans (gx (by omega)))
  · by_cases c : t < A + j + j
    · exact (R.lo t (by omega) (by omega)).trans ((S.right _ (by omega) (by omega)).trans (gx (by omega)))
    · exact (R.hi t (by omega) h2).trans ((S.out _ (by omega) (by omega)).trans (gx (by omega)))
  · exact (R.out t (by omega)).trans (S.out t (by omega) (by omega))
  · exact permIn_trans _ _ _ _ _ (S.perm x y h1 h2 h3) (R.perm x y (by omega) h2 (by omega))
theorem RotOf.less {A m i j : Nat} {d d1 d' : Array α} (hA : A + i = m) (hij : i < j) (S : SwrOf A (m + j - i) i d d1) (R : RotOf A m (m + (j - i)) d1 d') : RotOf A m (m + j) d d' := by
  have e := S.sz
  refine ⟨R.sz.trans e, fun t h1 h2 => ?_, fun t h1 h2 => ?_, fun t h => ?_, fun x y h1 h2 h3 => ?_⟩
  · by_cases c : t < A + (j - i)
    · exact (R.lo t h1 (by omega)).trans ((S.out _ (by omega) (by omega)).trans (gx (by omega)))
    · by_cases c2 : t < m + (j - i)
      · exact (R.hi t (by omega) c2).trans ((S.left _ (by omega) (by omega)).trans (gx (by omega)))
      · omega
  · exact (R.out t (by omega)).trans ((S.right t (by omega) (by omega)).trans (gx (by omega)))
  · exact (R.out t (by omega)).trans (S.out t (by omega) (by omega))
  · exact permIn_trans _ _ _ _ _ (S.perm x y h1 (by omega) h3) (R.perm x y h1 (by omega) (by omega))
/-- the element at a has gone up to e -/
structure UpOf (a e : Nat) (d d' : Array α) : Prop where
  sz : d'.size = d.size
  mid : ∀ t, a ≤ t → t < e → d'[t]! = d[t + 1]!
  at_ : d'[e]! = d[a]!
  out : ∀ t, t < a ∨ e < t → d'[t]! = d[t]!
  perm : ∀ x y, x ≤ a → e < y → y ≤ d.size → PermIn x y d d'
theorem UpOf.zero (a : Nat) (d : Array α) : UpOf a a d d := ⟨rfl, fun t h1 h2 => by omega, rfl, fun _ _ => rfl, fun _ _ _ _ _ => permIn_refl _ _ _⟩
theorem UpOf.step {a e : Nat} {d d' : Array α} (h : UpOf a e d d') (hae : a ≤ e) (he : e + 1 < d.size) : UpOf a (e + 1) d (swp d' e (e + 1)) := by
  have hs := h.sz
  refine ⟨by rw [size_swp, hs], fun t h1 h2 => ?_, ?_, fun t h1 => ?_, fun x y h1 h2 h3 => ?_⟩
  · by_cases c : t = e
    · subst c
      rw [swp_left _ _ _ (by omega) (by omega)]
      exact h.out _ (by omega)
    · rw [swp_other _ _ _ _ c (by omega)]
      exact h.mid t h1 (by omega)
  · rw [swp_right _ _ _ (by omega)]; exact h.at_
  · rw [swp_other _ _ _ _ (by omega) (by omega)]; exact h.out t (by omega)
  · exact permIn_trans _ _ _ _ _ (h.perm x y h1 (by omega) h3) (swp_permIn _ _ _ _ _ (by omega) (by omega) (by omega) (by omega) (by omega))
/-- the element at m has gone down to e -/
structure DownOf (e m : Nat) (d d' : Array α) : Prop where
  sz : d'.size = d.size
  mid : ∀ t, e < t → t ≤ m → d'[t]! = d[t - 1]!
  at_ : d'[e]! = d[m]!
  out : ∀ t, t < e ∨ m < t → d'[t]! = d[t]!
  perm : ∀ x y, x ≤ e → m < y → y ≤ d.size → PermIn x y d d'
theorem DownOf.zero (m : Nat) (d : Array α) : DownOf m m d d := ⟨rfl, fun t h1 h2 => by omega, rfl, fun _ _ => rfl, fun _ _ _ _ _ => permIn_refl _ _ _⟩
theorem DownOf.step {e m : Nat} {d d' : Array α} (h : DownOf (e + 1) m d d') (hem : e + 1 ≤ m) (hm : m < d.size) : DownOf e m d (swp d' (e + 1) e) := by
  have hs := h.sz
  refine ⟨by rw [size_swp, hs], fun t h1 h2 => ?_, ?_, fun t h1 => ?_, fun x y h1 h2 h3 => ?_⟩
  · by_cases c : t = e + 1
    · subst c
      rw [swp_left _ _ _ (by omega) (by omega)]
      exact h.out _ (by omega)
    · rw [swp_other _ _ _ _ c (by omega)]
      exact h.mid t (by omega) h2
  · rw [swp_right _ _ _ (by omega)]; exact h.at_
  · rw [swp_other _ _ _ _ (by omega) (by omega)]; exact h.out t (by omega)
  · exact permIn_trans _ _ _ _ _ (h.perm x y (by omega) h2 h3) (swp_permIn _ _ _ _ _ (by omega) (by omega) (by omega) (by omega) (by omega))
/-! ### keys, and places for equal keys -/
section
variable {lt : α → α → Bool}
/-- all places of [a, m) are before those of [m, b) -/
def LRx (ix : α → Nat) (a m b : Nat) (d : Array α) : Prop := ∀ i j, a ≤ i → i < m → m ≤ j → j < b → ix d[i]! < ix d[j]!
/-- what a merge leaves -/
def Mrg (key : α → Int) (ix : α → Nat) (a b : Nat) (d d' : Array α) : Prop := PermIn a b d d' ∧ SortedIn (ltX key ix) a b d'
theorem mrg_left (hl : ∀ x y, lt x y = decide (key x < key y)) {a i b : Nat} {d d' : Array α} (h2 : SortedIn (ltX key ix) (a + 1) b d) (hx : LRx ix a (a + 1) b d) (hi1 : a + 1 ≤ i) (hi2 : i ≤ b) (hbs : b ≤ d.size)
    (H1 : i = a + 1 ∨ lt d[i - 1]! d[a]! = true) (H2 : i = b ∨ lt d[i]! d[a]! = false) (U : UpOf a (i - 1) d d') : Mrg key ix a b d d' := by
  have S := ltX_swo (key := key) (ix := ix)
  have agree : ∀ t, a + 1 ≤ t → t < b → ltX key ix d[t]! d[a]! = lt d[t]! d[a]! := fun t h3 h4 => ltX_key hl (hx a t (Nat.le_refl _) (by omega) h3 h4)
  have K1 : ∀ t, a + 1 ≤ t → t < i → ltX key ix d[a]! d[t]! = false := fun t h3 h4 => by
    rcases H1 with H1 | H1
    · omega
    · rw [← agree (i - 1) (by omega) (by omega)] at H1
      by_cases c : t = i - 1
      · subst c; exact ltX_asymm H1
      · exact S.ntrans _ _ _ (ltX_asymm H1) (h2 t (i - 1) h3 (by omega) (by omega))
  have K2 : ∀ t, i ≤ t → t < b → ltX key ix d[t]! d[a]! = false := fun t h3 h4 => by
    rcases H2 with H2 | H2
    · omega
    · rw [← agree i (by omega) (by omega)] at H2
      by_cases c : t = i
      · subst c; exact H2
      · exact S.ntrans _ _ _ (h2 i t (by omega) (by omega) h4) H2
  refine ⟨U.perm a b (Nat.le_refl _) (by omega) hbs, fun p q hp hpq hq => ?_⟩
  by_cases c1 : q < i - 1
  · rw [U.mid p hp (by omega), U.mid q (by omega) c1]
    exact h2 _ _ (by omega) (by omega) (by omega)
  by_cases c2 : q = i - 1
  · subst c2
    rw [U.at_, U.mid p hp (by omega)]
    exact K1 _ (by omega) (by omega)
  rw [U.out q (by omega)]
  by_cases c3 : p < i - 1
  · rw [U.mid p hp c3]; exact h2 _ _ (by omega) (by omega) hq
  by_cases c4 : p = i - 1
  · subst c4; rw [U.at_]; exact K2 q (by omega) hq
  · rw [U.out p (by omega)]; exact h2 _ _ (by omega) hpq hq
theorem mrg_right (hl : ∀ x y, lt x y = decide (key x < key y)) {a i m : Nat} {d d' : Array α} (h1 : SortedIn (ltX key ix) a m d) (hx : LRx ix a m (m + 1) d) (hi1 : a ≤ i) (hi2 : i ≤ m) (hbs : m + 1 ≤ d.size)
    (H1 : i = a ∨ lt d[m]! d[i - 1]! = false) (H2 : i = m ∨ lt d[m]! d[i]! = true) (U : DownOf i m d d') : Mrg key ix a (m + 1) d d' := by
  have S := ltX_swo (key := key) (ix := ix)
  have agree : ∀ t, a ≤ t → t < m → ltX key ix d[m]! d[t]! = lt d[m]! d[t]! := fun t h3 h4 => ltX_key hl (hx t m h3 h4 (Nat.le_refl _) (by omega))
  have K1 : ∀ t, a ≤ t → t < i → ltX key ix d[m]! d[t]! = false := fun t h3 h4 => by
    rcases H1 with H1 | H1
    · omega
    · rw [← agree (i - 1) (by omega) (by omega)] at H1
      by_cases c : t = i - 1
      · subst c; exact H1
      · exact S.ntrans _ _ _ H1 (h1 t (i - 1) h3 (by omega) (by omega))
  have K2 : ∀ t, i ≤ t → t < m → ltX key ix d[t]! d[m]! = false := fun t h3 h4 => by
    rcases H2 with H2 | H2
    · omega
    · rw [← agree i (by omega) (by omega)] at H2
      by_cases c : t = i
      · subst c; exact ltX_asymm H2
      · exact S.ntrans _ _ _ (h1 i t (by omega) (by omega) h4) (ltX_asymm H2)
  refine ⟨U.perm a (m + 1) hi1 (by omega) hbs, fun p q hp hpq hq => ?_⟩
  by_cases c1 : q < i
  · rw [U.out p (by omega), U.out q (by omega)]
    exact h1 _ _ hp hpq (by omega)
  by_cases c2 : q = i
  · subst c2
    rw [U.at_, U.out p (by omega)]
    exact K1 _ hp (by omega)
  rw [U.mid q (by omega) (by omega)]
  by_cases c3 : p < i
  · rw [U.out p (by omega)]; exact h1 _ _ hp (by omega) (by omega)
  by_cases c4 : p = i
  · subst c4; rw [U.at_]; exact K2 _ (by omega) (by omega)
  · rw [U.mid p (by omega) (by omega)]; exact h1 _ _ (by omega) (by omega) (by omega)
theorem ins_inner_perm (lt' : α → α → Bool) (a : Nat) : ∀ (j : Nat) (d : Array α), j < d.size → a ≤ j → PermIn a (j + 1) d (insInner lt' a j d)
  | 0, d, _, _ => permIn_refl _ _ _
  | j + 1, d, hj, ha => by
    rw [insInner]
    split
    · rename_i hc
      have hja : a < j + 1 := by
        have := (Bool.and_eq_true _ _ ▸ hc).1
        simpa using this
      have p1 : PermIn a (j + 1 + 1) d (swp d (j + 1) j) := swp_permIn _ _ _ _ _ (by omega) (by omega) (by omega) (by omega) (by omega)
      have p2 := ins_inner_perm lt' a j (swp d (j + 1) j) (by rw [size_swp]; omega) (by omega)
      exact permIn_trans _ _ _ _ _ p1 (permIn_mono _ _ _ _ _ _ (Nat.le_refl _) (by omega) (by rw [size_swp]; omega) p2)
    · exact permIn_refl _ _ _
theorem SortedIn.same {lt' : α → α → Bool} {a b : Nat} {d d' : Array α} (h : SortedIn lt' a b d) (e : ∀ t, a ≤ t → t < b → d'[t]! = d[t]!) : SortedIn lt' a b d' := fun i j h1 h2 h3 => by
  rw [e i h1 (by omega), e j (by omega) h3]; exact h i j h1 h2 h3
/-- the middle step: behind the rotation -/
theorem mrg_mid (hl : ∀ x y, lt x y = decide (key x < key y)) {a m b s e : Nat} {d d1 : Array α} (h1 : SortedIn (ltX key ix) a m d) (h2 : SortedIn (ltX key ix) m b d) (hx : LRx ix a m b d) (q1 : a ≤ s) (q2 : s ≤ m) (q3 : m ≤ e) (q4 : e ≤ b) (_hb : b ≤ d.size)
    (H1 : s = a ∨ e = b ∨ lt d[e]! d[s - 1]! = false) (H2 : s = m ∨ e = m ∨ lt d[e - 1]! d[s]! = true) (R : RotOf s m e d d1) :
    SortedIn (ltX key ix) a s d1 ∧ SortedIn (ltX key ix) s (s + (e - m)) d1 ∧ LRx ix a s (s + (e - m)) d1 ∧ SortedIn (ltX key ix) (s + (e - m)) e d1 ∧ SortedIn (ltX key ix) e b d1 ∧ LRx ix (s + (e - m)) e b d1 ∧ ∀ p q, a ≤ p → p < s + (e - m) → s + (e - m) ≤ q → q < b → ltX key ix d1[q]! d1[p]! = false := by
  have S := ltX_swo (key := key) (ix := ix)
  have C1 : ∀ p q, a ≤ p → p < s → e ≤ q → q < b → ltX key ix d[q]! d[p]! = false := fun p q g1 g2 g3 g4 => by
    rcases H1 with H1 | H1 | H1
    · omega
    · omega
    · rw [← ltX_key hl (hx (s - 1) e (by omega) (by omega) q3 (by omega))] at H1
      have t1 : ltX key ix d[e]! d[p]! = false := by
        by_cases c : p = s - 1
        · subst c; exact H1
        · exact S.ntrans _ _ _ H1 (h1 p (s - 1) g1 (by omega) (by omega))
      by_cases c : q = e
      · subst c; exact t1
      · exact S.ntrans _ _ _ (h2 e q (by omega) (by omega) g4) t1
  have C2 : ∀ p q, s ≤ p → p < m → m ≤ q → q < e → ltX key ix d[p]! d[q]! = false := fun p q g1 g2 g3 g4 => by
    rcases H2 with H2 | H2 | H2
    · omega
    · omega
    · rw [← ltX_key hl (hx s (e - 1) (by omega) (by omega) (by omega) (by omega))] at H2
      have t1 : ltX key ix d[s]! d[q]! = false := by
        by_cases c : q = e - 1
        · subst c; exact ltX_asymm H2
        · exact S.ntrans _ _ _ (ltX_asymm H2) (h2 q (e - 1) g3 (by omega) (by omega))
      by_cases c : p = s
      · subst c; exact t1
      · exact S.ntrans _ _ _ (h1 s p (by omega) (by omega) g2) t1
  have L : ∀ t, s ≤ t → t < s + (e - m) → d1[t]! = d[t + (m - s)]! := fun t g1 g2 => R.lo t g1 g2
  have U : ∀ t, s + (e - m) ≤ t → t < e → d1[t]! = d[t - (e - m)]! := fun t g1 g2 => R.hi t g1 g2
  refine ⟨fun i j g1 g2 g3 => ?_, fun i j g1 g2 g3 => ?_, fun i j g1 g2 g3 g4 => ?_, fun i j g1 g2 g3 => ?_, fun i j g1 g2 g3 => ?_, fun i j g1 g2 g3 g4 => ?_, fun p q g1 g2 g3 g4 => ?_⟩
  · rw [R.out i (.inl (by omega)), R.out j (.inl (by omega))]; exact h1 i j g1 g2 (by omega)
  · rw [L i g1 (by omega), L j (by omega) g3]; exact h2 _ _ (by omega) (by omega) (by omega)
  · rw [R.out i (.inl (by omega)), L j g3 g4]; exact hx _ _ g1 (by omega) (by omega) (by omega)
  · rw [U i g1 (by omega), U j (by omega) g3]; exact h1 _ _ (by omega) (by omega) (by omega)
  · rw [R.out i (.inr (by omega)), R.out j (.inr (by omega))]; exact h2 i j (by omega) g2 g3
  · rw [U i g1 g2, R.out j (.inr (by omega))]; exact hx _ _ (by omega) (by omega) (by omega) g4
  · by_cases c : p < s
    · rw [R.out p (.inl c)]
      by_cases c2 : q < e
      · rw [U q g3 c2]; exact h1 _ _ g1 (by omega) (by omega)
      · rw [R.out q (.inr (by omega))]; exact C1 p q g1 c (by omega) g4
    · rw [L p (by omega) g2]
      by_cases c2 : q < e
      · rw [U q g3 c2]; exact C2 _ _ (by omega) (by omega) (by omega) (by omega)
      · rw [R.out q (.inr (by omega))]; exact h2 _ _ (by omega) (by omega) g4
theorem mrg_join {a b mid : Nat} {d d1 d2 d3 : Array α} (P1 : PermIn a b d d1) (hb : b ≤ d.size) (am : a ≤ mid) (mb : mid ≤ b) (M2 : Mrg key ix a mid d1 d2) (M3 : Mrg key ix mid b d2 d3)
    (cross : ∀ p q, a ≤ p → p < mid → mid ≤ q → q < b → ltX key ix d1[q]! d1[p]! = false) : Mrg key ix a b d d3 := by
  have e1 := P1.1
  have e2 := M2.1.1
  refine ⟨permIn_trans _ _ _ _ _ P1 (permIn_trans _ _ _ _ _ (permIn_mono _ _ _ _ _ _ (Nat.le_refl _) mb (by omega) M2.1) (permIn_mono _ _ _ _ _ _ am (Nat.le_refl _) (by omega) M3.1)), fun p q g1 g2 g3 => ?_⟩
  by_cases c : q < mid
  · rw [M3.1.2.1 p (.inl (by omega)), M3.1.2.1 q (.inl c)]; exact M2.2 p q g1 g2 c
  by_cases c2 : mid ≤ p
  · exact M3.2 p q c2 g2 g3
  rw [M3.1.2.1 p (.inl (by omega))]
  refine permIn_all d2 d3 mid b (fun x => ltX key ix x d2[p]! = false) (by omega) M3.1 (fun i h1 h2 => ?_) q (by omega) g3
  rw [M2.1.2.1 i (.inr h1)]
  exact permIn_all d1 d2 a mid (fun y => ltX key ix d1[i]! y = false) (by omega) M2.1 (fun t h3 h4 => cross t i h3 h4 h1 h2) p g1 (by omega)
theorem LRx.same {a m b : Nat} {d d' : Array α} (h : LRx ix a m b d) (e : ∀ t, a ≤ t → t < b → d'[t]! = d[t]!) (_h1 : a ≤ m) (_h2 : m ≤ b) : LRx ix a m b d' := fun i j g1 g2 g3 g4 => by
  rw [e i g1 (by omega), e j (by omega) g4]; exact h i j g1 g2 g3 g4
/-- a part whose elements were the places before: still so behind permutations of its halves -/
theorem LRx.perm {a m b : Nat} {d d1 d2 : Array α} (h : LRx ix a m b d) (hb : b ≤ d.size) (_h1 : a ≤ m) (_h2 : m ≤ b) (P1 : PermIn a m d d1) (P2 : PermIn m b d1 d2) : LRx ix a m b d2 := fun i j g1 g2 g3 g4 => by
  have e1 := P1.1
  rw [P2.2.1 i (.inl g2)]
  refine permIn_all d1 d2 m b (fun x => ix d1[i]! < ix x) (by omega) P2 (fun t t1 t2 => ?_) j g3 g4
  rw [P1.2.1 t (.inr t1)]
  exact permIn_all d d1 a m (fun y => ix y < ix d[t]!) (by omega) P1 (fun u u1 u2 => h u t u1 u2 t1 t2) i g1 g2
/-- the insertion sort is stable: places that grow decide as the keys do -/
theorem ins_inner (hl : ∀ x y, lt x y = decide (key x < key y)) (a : Nat) : ∀ (j : Nat) (d : Array α), j < d.size → (∀ t, a ≤ t → t < j → ix d[t]! < ix d[j]!) → insInner lt a j d = insInner (ltX key ix) a j d
  | 0, _, _, _ => rfl
  | j + 1, d, hj, h => by
    rw [insInner, insInner]
    by_cases hja : a < j + 1
    · have e : ltX key ix d[j + 1]! d[j]! = lt d[j + 1]! d[j]! := ltX_key hl (h j (by omega) (by omega))
      rw [e]
      cases hc : lt d[j + 1]! d[j]!
      · simp
      · have ih := ins_inner hl a j (swp d (j + 1) j) (by rw [size_swp]; omega) (fun t h1 h2 => by
          rw [swp_other _ _ _ _ (by omega) (by omega), swp_right _ _ _ (by omega)]
          exact h t h1 (by omega))
        simp [hja, ih]
    · simp [show ¬ j + 1 > a by omega]
theorem ins_outer (hl : ∀ x y, lt x y = decide (key x < key y)) (a b : Nat) : ∀ (k i : Nat) (d : Array α), b - i ≤ k → a ≤ i → b ≤ d.size → (∀ s t, a ≤ s → s < t → i ≤ t → t < b → ix d[s]! < ix d[t]!) → insOuter lt a b i d = insOuter (ltX key ix) a b i d
  | k, i, d, hk, hai, hb, h => by
    by_cases hi : i < b
    · rw [show insOuter lt a b i d = insOuter lt a b (i + 1) (insInner lt a i d) by rw [insOuter, if_pos hi], show insOuter (ltX key ix) a b i d = insOuter (ltX key ix) a b (i + 1) (insInner (ltX key ix) a i d) by rw [insOuter, if_pos hi], ins_inner hl a i d (by omega) (fun t h1 h2 => h t i h1 h2 (Nat.le_refl _) hi)]
      match k with
      | 0 => omega
      | k + 1 =>
        have hp := ins_inner_perm (ltX key ix) a i d (by omega) hai
        have hs := hp.1
        refine ins_outer hl a b k (i + 1) _ (by omega) (by omega) (by omega) (fun s t h1 h2 h3 h4 => ?_)
        rw [hp.2.1 t (.inr (by omega))]
        by_cases c : s < i + 1
        · exact permIn_all d _ a (i + 1) (fun x => ix x < ix d[t]!) (by omega) hp (fun u u1 u2 => h u t u1 (by omega) (by omega) h4) s h1 c
        · rw [hp.2.1 s (.inr (by omega))]; exact h s t h1 h2 (by omega) h4
    · rw [show insOuter lt a b i d = d by rw [insOuter, if_neg hi], show insOuter (ltX key ix) a b i d = d by rw [insOuter, if_neg hi]]
theorem ins_stable (hl : ∀ x y, lt x y = decide (key x < key y)) {a b : Nat} {d : Array α} (hab : a ≤ b) (hb : b ≤ d.size) (h : ∀ s t, a ≤ s → s < t → t < b → ix d[s]! < ix d[t]!) : Mrg key ix a b d (insertionSort lt d a b) := by
  have e : insertionSort lt d a b = insertionSort (ltX key ix) d a b := ins_outer hl a b _ (a + 1) d (Nat.le_refl _) (by omega) hb (fun s t h1 h2 _ h4 => h s t h1 h2 h4)
  rw [e]
  exact insertionSort_holds ltX_swo d a b hab hb
end
end Go.Proofs.Ytidiiladlmaigaa
