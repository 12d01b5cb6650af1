/- The laws' marks on stars that a call has handed back; AddStar's answers as the law sees them. -/
import Derived.Test.YtiogffjhhhpolabDoorV4
import Derived.Test.YtiogffjhhhpolabDoorSD
import Derived.Test.YtiogffjhhhpolabDoorS6
import Derived.Deep.RegionHeld3
namespace Go.Proofs.YtiogffjhhhpolabDoor
open Go.ChangeShapes Go.WideShapes Go.ChangeAt Go.RowKit Go.Deep

/-- N cells of block g: writable; those that f names hold what it says -/
def SMF (w : World) (g N : Nat) (f : Nat → Option Value) : Prop := ∀ j, j < N → g < w.heap.size ∧ (∃ v, w.cell? ⟨g, j, none⟩ = some v ∧ ∀ u, f j = some u → v = u) ∧ w.frozen? ⟨g, j, none⟩ = false
theorem SMF.below {w w' : World} {g N : Nat} {f : Nat → Option Value} (h : SMF w g N f) (hb : Below w.heap.size w w') : SMF w' g N f := fun j hj => by
  obtain ⟨h1, ⟨v, h2, h3⟩, h4⟩ := h j hj
  exact ⟨Nat.lt_of_lt_of_le h1 hb.size, ⟨v, by rw [hb.cell (p := ⟨g, j, none⟩) h1]; exact h2, h3⟩, by rw [hb.frozen (p := ⟨g, j, none⟩) h1]; exact h4⟩
theorem SMF.put {w : World} {g N : Nat} {f : Nat → Option Value} (h : SMF w g N f) (i : Nat) (u : Value) : SMF (w.setCell ⟨g, i, none⟩ u) g N (fun j => if j = i then some u else f j) := fun j hj => by
  obtain ⟨h1, ⟨v, h2, h3⟩, h4⟩ := h j hj
  refine ⟨by simpa using h1, ?_, by rw [World.frozen?_setCell]; exact h4⟩
  by_cases hji : j = i
  · subst hji
    exact ⟨u, scS h2, fun x hx => by simpa using hx⟩
  · exact ⟨v, scO (fun e => hji e.symm) h2, fun x hx => h3 x (by simpa [hji] using hx)⟩
theorem SMF.congr {w : World} {g N : Nat} {f f' : Nat → Option Value} (h : SMF w g N f) (hf : ∀ j u, j < N → f' j = some u → f j = some u) : SMF w g N f' := fun j hj => by
  obtain ⟨h1, ⟨v, h2, h3⟩, h4⟩ := h j hj
  exact ⟨h1, ⟨v, h2, fun u hu => h3 u (hf j u hj hu)⟩, h4⟩
theorem SMF.far {w w' : World} {g g' N : Nat} {f : Nat → Option Value} (h : SMF w g N f) (hg : w.grownBy w' (some g')) (hne : g ≠ g') : SMF w' g N f := fun j hj => by
  obtain ⟨h1, ⟨v, h2, h3⟩, h4⟩ := h j hj
  have hb := hg.block g h1 (by simpa using hne)
  exact ⟨Nat.lt_of_lt_of_le h1 hg.size, ⟨v, by rw [World.cell?_of_block (a := ⟨g, j, none⟩) hb]; exact h2, h3⟩, by rw [World.frozen?_of_block (a := ⟨g, j, none⟩) hb]; exact h4⟩
/-- what the mark at cell j is -/
def mkV (m j : Nat) : Value := if j % 5 = 0 then .string (mkB (m + j)) else .int .i64 ((m + j : Nat) : Int)
def mkF (m k j : Nat) : Option Value := if j < k * 5 then some (mkV m j) else none
theorem mkF_step {m k : Nat} {T : ByteArray} (hT : mkB (m + 5 * k) = T) : ∀ j u, mkF m (k + 1) j = some u →
    (if j = k * 5 + 4 then some (.int .i64 ((m + 5 * k + 4 : Nat) : Int)) else if j = k * 5 + 3 then some (.int .i64 ((m + 5 * k + 3 : Nat) : Int)) else if j = k * 5 + 2 then some (.int .i64 ((m + 5 * k + 2 : Nat) : Int)) else if j = k * 5 + 1 then some (.int .i64 ((m + 5 * k + 1 : Nat) : Int)) else if j = k * 5 then some (.string T) else mkF m k j) = some u := by
  intro j u h
  unfold mkF at h ⊢
  split at h
  · rename_i hlt
    rw [← h]
    by_cases h4 : j = k * 5 + 4
    · subst h4; rw [if_pos rfl]; congr 1; rw [mkV, if_neg (by omega)]; congr 2; omega
    by_cases h3 : j = k * 5 + 3
    · subst h3; rw [if_neg h4, if_pos rfl]; congr 1; rw [mkV, if_neg (by omega)]; congr 2; omega
    by_cases h2 : j = k * 5 + 2
    · subst h2; rw [if_neg h4, if_neg h3, if_pos rfl]; congr 1; rw [mkV, if_neg (by omega)]; congr 2; omega
    by_cases h1 : j = k * 5 + 1
    · subst h1; rw [if_neg h4, if_neg h3, if_neg h2, if_pos rfl]; congr 1; rw [mkV, if_neg (by omega)]; congr 2; omega
    by_cases h0 : j = k * 5
    · subst h0; rw [if_neg h4, if_neg h3, if_neg h2, if_neg h1, if_pos rfl]; congr 1; rw [mkV, if_pos (by omega), ← hT]; congr 2; omega
    · rw [if_neg h4, if_neg h3, if_neg h2, if_neg h1, if_neg h0, if_pos (by omega)]
  · cases h
set_option maxHeartbeats 4000000 in
set_option maxRecDepth 100000 in
theorem markStarS_f (g n m c : Nat) (w : World) (hM : SMF w g (n * 5) (mkF m 0)) (hn : n ≤ 1048576) (h1 : 1 ≤ m) (hm : m ≤ 1000) :
    Calls Tryd.prog 12 #[.slice (some ⟨g, 0, none⟩) n c, .int .i64 m] w fun e w' => e = .returned (.int .i64 ((m + 5 * n : Nat) : Int)) ∧ SMF w' g (n * 5) (mkF m n) ∧ w.grownBy w' (some g) := by
  have hl : (n : Int) ≤ 1048576 := by omega
  go_enter Tryd.func12, Tryd.ntmps12
  go_wp2
  go_loopw [1, 5] (fun a i wr => ∃ (k : Nat), k ≤ n ∧ i = .int .i64 k ∧ a = .int .i64 ((m + 5 * k : Nat) : Int) ∧ SMF wr g (n * 5) (mkF m k) ∧ w.grownBy wr (some g)) (fun _ i _ => n - (Go.RowKit.intOf i).toNat)
  case atStart => exact ⟨0, Nat.zero_le _, rfl, rfl, hM, grown_refl _ _⟩
  case round =>
    obtain ⟨k, hk, rfl, rfl, hrk, hBr⟩ := hrel
    by_cases hlt : k < n
    · have hkk : (k : Int) < (n : Int) := by omega
      go_wp2_with fail
      refine (markText_any (m + 5 * k) wr (by omega) (by omega)).mono ?_
      rintro e w2 ⟨rfl, b2⟩
      have hr2 := hrk.below b2
      have hB2 : w.grownBy w2 (some g) := hBr.trans (grown_but b2 _)
      obtain ⟨-, ⟨v0, d0, -⟩, f0⟩ := hr2 (k * 5) (by omega)
      obtain ⟨-, ⟨v1, d1, -⟩, f1⟩ := hr2 (k * 5 + 1) (by omega)
      obtain ⟨-, ⟨v2, d2, -⟩, f2⟩ := hr2 (k * 5 + 2) (by omega)
      obtain ⟨-, ⟨v3, d3, -⟩, f3⟩ := hr2 (k * 5 + 3) (by omega)
      obtain ⟨-, ⟨v4, d4, -⟩, f4⟩ := hr2 (k * 5 + 4) (by omega)
      obtain ⟨T, hT⟩ : ∃ T, mkB (m + 5 * k) = T := ⟨_, rfl⟩
      rw [hT]
      have HT := Lib.hid hT
      have HP := Lib.hid ((((((hr2.put (k * 5) (.string T)).put (k * 5 + 1) (.int .i64 ((m + 5 * k + 1 : Nat) : Int))).put (k * 5 + 2) (.int .i64 ((m + 5 * k + 2 : Nat) : Int))).put (k * 5 + 3) (.int .i64 ((m + 5 * k + 3 : Nat) : Int))).put (k * 5 + 4) (.int .i64 ((m + 5 * k + 4 : Nat) : Int))).congr (fun j u _ hu => mkF_step hT j u hu))
      clear hT hrk hr2
      go_wp2
      go_roundw
      case rel => exact ⟨k + 1, by omega, by go_num, by go_num, HP.out, grown_put (grown_put (grown_put (grown_put (grown_put hB2 _ _) _ _) _ _) _ _) _ _⟩
      case measure => simp [Go.RowKit.intOf]; omega
    · obtain rfl : k = n := by omega
      go_wp2
      go_ret
      exact ⟨rfl, hrk, hBr⟩
set_option maxHeartbeats 4000000 in
set_option maxRecDepth 100000 in
theorem heldStarS_f (g n m c : Nat) (w : World) (hM : SMF w g (n * 5) (mkF m n)) (hn : n ≤ 1048576) (h1 : 1 ≤ m) (hm : m ≤ 1000) :
    Calls Tryd.prog 13 #[.slice (some ⟨g, 0, none⟩) n c, .int .i64 m] w fun e w' => e = .returned (.int .i64 ((m + 5 * n : Nat) : Int)) ∧ Below w.heap.size w w' := by
  have hl : (n : Int) ≤ 1048576 := by omega
  go_enter Tryd.func13, Tryd.ntmps13
  go_wp2
  go_loopw [1, 5] (fun a i wr => ∃ (k : Nat), k ≤ n ∧ i = .int .i64 k ∧ a = .int .i64 ((m + 5 * k : Nat) : Int) ∧ Below w.heap.size w wr) (fun _ i _ => n - (Go.RowKit.intOf i).toNat)
  case atStart => exact ⟨0, Nat.zero_le _, rfl, rfl, Below.refl _ _⟩
  case round =>
    obtain ⟨k, hk, rfl, rfl, hB⟩ := hrel
    by_cases hlt : k < n
    · have hkk : (k : Int) < (n : Int) := by omega
      have hMr := hM.below hB
      have hv : ∀ f, f < 5 → wr.cell? ⟨g, k * 5 + f, none⟩ = some (mkV m (k * 5 + f)) := fun f hf => by
        obtain ⟨-, ⟨v, h2, h3⟩, -⟩ := hMr (k * 5 + f) (by omega)
        rw [h2, h3 (mkV m (k * 5 + f)) (by rw [mkF, if_pos (by omega)])]
      have hgl := (hMr (k * 5) (by omega)).1
      obtain ⟨T, hT⟩ : ∃ T, mkB (m + 5 * k) = T := ⟨_, rfl⟩
      have c0 : wr.cell? ⟨g, k * 5, none⟩ = some (.string T) := by rw [← Nat.add_zero (k * 5), hv 0 (by omega), mkV, if_pos (by omega), ← hT]; congr 3; omega
      have c1 : wr.cell? ⟨g, k * 5 + 1, none⟩ = some (.int .i64 ((m : Int) + 5 * k + 1)) := by rw [hv 1 (by omega), mkV, if_neg (by omega)]; congr 2; omega
      have c2 : wr.cell? ⟨g, k * 5 + 2, none⟩ = some (.int .i64 ((m : Int) + 5 * k + 1 + 1)) := by rw [hv 2 (by omega), mkV, if_neg (by omega)]; congr 2; omega
      have c3 : wr.cell? ⟨g, k * 5 + 3, none⟩ = some (.int .i64 ((m : Int) + 5 * k + 1 + 1 + 1)) := by rw [hv 3 (by omega), mkV, if_neg (by omega)]; congr 2; omega
      have c4 : wr.cell? ⟨g, k * 5 + 4, none⟩ = some (.int .i64 ((m : Int) + 5 * k + 1 + 1 + 1 + 1)) := by rw [hv 4 (by omega), mkV, if_neg (by omega)]; congr 2; omega
      have hne := str_ne_self T
      have HT := Lib.hid hT
      clear hT hv hMr
      go_wp2
      go_region_held3 (fun W' => W'.cell? ⟨g, k * 5, none⟩ = some (.string T)) (first | assumption | exact ((show Below wr.heap.size wr _ by (repeat (first | assumption | exact Below.refl _ _ | refine belowDN ?_ _ | refine Below.drew ?_ | refine Below.setCell ?_ (by first | omega | (simp <;> omega)) _ | refine Below.alloc ?_ (by first | omega | (simp <;> omega)) _ | refine belowCall ?_ (by assumption)))).cell (p := ⟨g, k * 5, none⟩) hgl).trans c0) (first | (go_at_call 21; refine (markText_any (m + 5 * k) _ (by omega) (by omega)).mono ?_; rintro e w2 ⟨rfl, b2⟩; rw [HT.out]; have b3 : Below wr.heap.size wr w2 := belowCall (by (repeat (first | assumption | exact Below.refl _ _ | refine belowDN ?_ _ | refine Below.drew ?_ | refine Below.setCell ?_ (by first | omega | (simp <;> omega)) _ | refine Below.alloc ?_ (by first | omega | (simp <;> omega)) _ | refine belowCall ?_ (by assumption)))) b2))
      all_goals
        have e1 := (b3.cell (p := ⟨g, k * 5 + 1, none⟩) hgl).trans c1
        have e2 := (b3.cell (p := ⟨g, k * 5 + 2, none⟩) hgl).trans c2
        have e3 := (b3.cell (p := ⟨g, k * 5 + 3, none⟩) hgl).trans c3
        have e4 := (b3.cell (p := ⟨g, k * 5 + 4, none⟩) hgl).trans c4
        have n1 : ∀ x : Int, (x != x) = false := fun x => by simp
        go_wp2
        go_roundw
        case rel => exact ⟨k + 1, by omega, by go_num, by go_num, belowCall hB b3⟩
        case measure => simp [Go.RowKit.intOf]; omega
    · obtain rfl : k = n := by omega
      go_wp2
      go_ret
      exact ⟨rfl, hB⟩
/-- stars whose cells lie in blocks below B -/
def StLB (B : Nat) (w : World) (a : Option Addr) (n : Nat) (xs : List St) : Prop :=
  xs.length = n ∧ ∀ i, i < n → ∃ b off, a = some ⟨b, off, none⟩ ∧ b < B ∧ StC w b (off + i * 5) (xs[i]?.getD st0)
theorem StL.toB {w : World} {a : Option Addr} {n : Nat} {xs : List St} (h : StL w a n xs) : StLB w.heap.size w a n xs :=
  ⟨h.1, fun i hi => by
    obtain ⟨b, off, e, hc⟩ := h.2 i hi
    exact ⟨b, off, e, hc.1, hc⟩⟩
theorem StLB.toS {B : Nat} {w : World} {a : Option Addr} {n : Nat} {xs : List St} (h : StLB B w a n xs) : StL w a n xs :=
  ⟨h.1, fun i hi => by
    obtain ⟨b, off, e, _, hc⟩ := h.2 i hi
    exact ⟨b, off, e, hc⟩⟩
theorem StC.of_block {w w' : World} {b o : Nat} {x : St} (h : StC w b o x) (hs : w.heap.size ≤ w'.heap.size) (e : w'.heap[b]? = w.heap[b]?) : StC w' b o x :=
  ⟨Nat.lt_of_lt_of_le h.1 hs, fun f hf => by rw [World.cell?_of_block (a := ⟨b, o + f, none⟩) e]; exact h.2 f hf⟩
theorem StLB.below {B B' : Nat} {w w' : World} {a : Option Addr} {n : Nat} {xs : List St} (h : StLB B w a n xs) (hb : Below B' w w') (hB : B ≤ B') : StLB B w' a n xs :=
  ⟨h.1, fun i hi => by
    obtain ⟨b, off, e, hlt, hc⟩ := h.2 i hi
    exact ⟨b, off, e, hlt, hc.of_block hb.size (hb.block b (by omega))⟩⟩
theorem StLB.grown {B g : Nat} {w w' : World} {a : Option Addr} {n : Nat} {xs : List St} (h : StLB B w a n xs) (hg : w.grownBy w' (some g)) (hne : B ≤ g) : StLB B w' a n xs :=
  ⟨h.1, fun i hi => by
    obtain ⟨b, off, e, hlt, hc⟩ := h.2 i hi
    exact ⟨b, off, e, hlt, hc.of_block hg.size (hg.block b hc.1 (by simp; omega))⟩⟩
/-- stars of a call's own, nil where there are none: k = 0: they hold xs; k = n: they hold the marks from m on -/
def SMo (B : Nat) (w : World) (a : Option Addr) (n k m : Nat) (xs : List St) : Prop :=
  (n = 0 ∧ xs = []) ∨ ∃ g, a = some ⟨g, 0, none⟩ ∧ B ≤ g ∧ SMF w g (n * 5) (mkF m k) ∧ (k = 0 → StL w a n xs)
theorem SMo.below {B : Nat} {w w' : World} {a : Option Addr} {n k m : Nat} {xs : List St} (h : SMo B w a n k m xs) (hb : Below w.heap.size w w') : SMo B w' a n k m xs := by
  rcases h with h | ⟨g, e, h1, h2, h3⟩
  · exact .inl h
  · exact .inr ⟨g, e, h1, h2.below hb, fun hk => (h3 hk).mono hb⟩
theorem SMo.far {B g' : Nat} {w w' : World} {a : Option Addr} {n k m : Nat} {xs : List St} (h : SMo B w a n k m xs) (hg : w.grownBy w' (some g')) (hne : g' < B) : SMo B w' a n k m xs := by
  rcases h with h | ⟨g, e, h1, h2, h3⟩
  · exact .inl h
  · refine .inr ⟨g, e, h1, h2.far hg (by omega), fun hk => ?_⟩
    have hS := h3 hk
    refine ⟨hS.1, fun i hi => ?_⟩
    obtain ⟨b, o, e', hc⟩ := hS.2 i hi
    rw [e] at e'
    cases e'
    exact ⟨g, 0, e, hc.of_block hg.size (hg.block g hc.1 (by simp; omega))⟩
theorem SMo.stl {B : Nat} {w : World} {a : Option Addr} {n m : Nat} {xs : List St} (h : SMo B w a n 0 m xs) : StL w a n xs := by
  rcases h with ⟨h1, h2⟩ | ⟨g, e, h1, h2, h3⟩
  · exact ⟨by simp [h1, h2], fun i hi => absurd hi (by omega)⟩
  · exact h3 rfl
def selA (xs : List St) (x : St) : List St := if addC xs x = 0 then addL xs x else []
theorem selA_len {xs : List St} {x : St} : (selA xs x).length ≤ 1048576 := by
  unfold selA
  split
  · rename_i h
    by_cases h1 : okS xs = true
    · by_cases h2 : starB x = true
      · by_cases h3 : findS xs x.1 < xs.length
        · rw [addC_has h1 h2 h3] at h; omega
        · rw [addL_len (none_ne h3)]
          have := (okS_parts rfl h1).1
          omega
      · rw [addC_star h1 (by simpa using h2)] at h; omega
    · rw [addC_ok (by simpa using h1)] at h; omega
  · simp
theorem SMF.of_own {w : World} {B e g n c m : Nat} {xs : List Value} (h : w.ownsRow B e 5 (.slice (some ⟨g, 0, none⟩) n c) n xs) : SMF w g (n * 5) (mkF m 0) := fun j hj => by
  have hlt := (h.lt g rfl).2
  have hl := h.1
  have hx : xs[j]? = some (xs[j]'(by omega)) := List.getElem?_eq_getElem (by omega)
  have h1 := h.cells (g := g) rfl j _ hx
  rw [Go.WideShapes.add_plain, Nat.zero_add] at h1
  exact ⟨hlt, ⟨_, h1, fun u hu => by simp [mkF] at hu⟩, h.frozenAt j⟩
theorem Added.opened {B T m : Nat} {xs : List St} {x : St} {w : World} {e : Ending} (h : Added B T xs x w e) :
    ∃ a c, e = .returned (.tuple #[.slice a (selA xs x).length c, .int .i64 (addC xs x)]) ∧ SMo B w a (selA xs x).length 0 m (selA xs x) := by
  rcases h with ⟨h0, g, c, rfl, hown⟩ | ⟨h0, rfl⟩
  · have hs : selA xs x = addL xs x := by rw [selA, if_pos h0]
    rw [hs, h0]
    exact ⟨_, c, rfl, .inr ⟨g, rfl, (hown.lt g rfl).1, SMF.of_own hown, fun _ => StL.of_own hown rfl⟩⟩
  · have hs : selA xs x = [] := by rw [selA, if_neg h0]
    rw [hs]
    exact ⟨none, 0, rfl, .inl ⟨rfl, rfl⟩⟩
set_option maxHeartbeats 1000000 in
theorem markStarS_o (a : Option Addr) (n m c B : Nat) (xs : List St) (w0 w : World) (hB : Below B w0 w) (hBs : B ≤ w.heap.size) (hM : SMo B w a n 0 m xs) (hn : n ≤ 1048576) (h1 : 1 ≤ m) (hm : m ≤ 1000) :
    Calls Tryd.prog 12 #[.slice a n c, .int .i64 m] w fun e w' => e = .returned (.int .i64 ((m + 5 * n : Nat) : Int)) ∧ SMo B w' a n n m [] ∧ Below B w0 w' := by
  rcases hM with ⟨rfl, rfl⟩ | ⟨g, rfl, h2, h3, -⟩
  · go_enter Tryd.func12, Tryd.ntmps12
    go_wp2
    go_loopw [1, 5] (fun a i wr => i = .int .i64 0 ∧ a = .int .i64 (m : Int) ∧ wr = w) (fun _ i _ => 0)
    case atStart => exact ⟨rfl, rfl, rfl⟩
    case round =>
      obtain ⟨rfl, rfl, rfl⟩ := hrel
      go_wp2
      go_ret
      exact ⟨rfl, .inl ⟨rfl, rfl⟩, hB⟩
  · refine (markStarS_f g n m c w h3 hn h1 hm).mono ?_
    rintro e w' ⟨rfl, hM, hb⟩
    refine ⟨rfl, ?_, hB.grown hb hBs (fun j e => by cases e; exact h2)⟩
    by_cases h0 : n = 0
    · exact .inl ⟨h0, rfl⟩
    · exact .inr ⟨g, rfl, h2, hM, fun hk => absurd hk h0⟩
set_option maxHeartbeats 1000000 in
theorem heldStarS_o (a : Option Addr) (n m c B : Nat) (xs : List St) (w : World) (hM : SMo B w a n n m xs) (hn : n ≤ 1048576) (h1 : 1 ≤ m) (hm : m ≤ 1000) :
    Calls Tryd.prog 13 #[.slice a n c, .int .i64 m] w fun e w' => e = .returned (.int .i64 ((m + 5 * n : Nat) : Int)) ∧ Below w.heap.size w w' := by
  rcases hM with ⟨rfl, rfl⟩ | ⟨g, rfl, h2, h3, -⟩
  · go_enter Tryd.func13, Tryd.ntmps13
    go_wp2
    go_loopw [1, 5] (fun a i wr => i = .int .i64 0 ∧ a = .int .i64 (m : Int) ∧ wr = w) (fun _ i _ => 0)
    case atStart => exact ⟨rfl, rfl, rfl⟩
    case round =>
      obtain ⟨rfl, rfl, rfl⟩ := hrel
      go_wp2
      go_ret
      exact ⟨rfl, Below.refl _ _⟩
  · exact heldStarS_f g n m c w h3 hn h1 hm
end Go.Proofs.YtiogffjhhhpolabDoor
