/- LinkedTo, the program's. -/
import Derived.Test.YtfnjndbnogeddaaLK
namespace Go.Proofs.Ytfnjndbnogeddaa
open Go.ChangeShapes Go.WideShapes Go.ChangeAt Go.RowKit Go.Deep Go.Maps

theorem lt_one : ∀ {l l' : List Int}, l.Pairwise (· < ·) → l'.Pairwise (· < ·) → (∀ y, y ∈ l ↔ y ∈ l') → l = l'
  | [], [], _, _, _ => rfl
  | [], y :: _, _, _, h => absurd ((h y).2 List.mem_cons_self) (by simp)
  | x :: _, [], _, _, h => absurd ((h x).1 List.mem_cons_self) (by simp)
  | x :: l, y :: l', h1, h2, h => by
    obtain ⟨a1, a2⟩ := List.pairwise_cons.1 h1
    obtain ⟨b1, b2⟩ := List.pairwise_cons.1 h2
    have hxy : x = y := by
      rcases List.mem_cons.1 ((h x).1 List.mem_cons_self) with e | e
      · exact e
      · rcases List.mem_cons.1 ((h y).2 List.mem_cons_self) with e2 | e2
        · exact e2.symm
        · have := a1 y e2; have := b1 x e; omega
    subst hxy
    rw [lt_one a2 b2 (fun z => ⟨fun hz => ?_, fun hz => ?_⟩)]
    · rcases List.mem_cons.1 ((h z).1 (List.mem_cons_of_mem _ hz)) with e | e
      · subst e; have := a1 z hz; omega
      · exact e
    · rcases List.mem_cons.1 ((h z).2 (List.mem_cons_of_mem _ hz)) with e | e
      · subst e; have := b1 z hz; omega
      · exact e
theorem itK_lt {xs : List Cm} {c first : Nat} (hf : first < c) : ∀ (i b : Nat), (itK xs c (kn0 first) i b).isSome = true → b < c
  | 0, b, h => by
    have h : (kn0 first b).isSome = true := h
    unfold kn0 at h
    by_cases e : b = first
    · omega
    · rw [if_neg e] at h; cases h
  | i + 1, b, h => by
    have h : (rndK xs c (itK xs c (kn0 first) i) b).isSome = true := h
    unfold rndK at h
    cases hk : itK xs c (kn0 first) i b with
    | some s => exact itK_lt hf i b (by rw [hk]; rfl)
    | none =>
      rw [hk] at h
      simp only [] at h
      by_cases e : b < c ∧ offL xs (itK xs c (kn0 first) i) (List.range c) b ≠ []
      · exact e.1
      · rw [if_neg e] at h; cases h
theorem finK_lt {xs : List Cm} {c first : Nat} (hf : first < c) (b : Nat) (h : (finK xs c first b).isSome = true) : b < c := by
  unfold finK at h
  split at h
  · exact itK_lt hf _ b h
  · exact itK_lt (xs := xs) hf 0 b h
theorem lnk_is {xs : List Cm} {c first : Nat} (hf : first < c) {L : List Int} (hs : L.Pairwise (· < ·)) (hm : ∀ z, z ∈ L ↔ ∃ y : Nat, z = y ∧ (finK xs c first y).isSome = true) : L = (lnkN c (finK xs c first)).map fun b : Nat => (b : Int) := by
  refine lt_one hs ?_ (fun z => ?_)
  · rw [List.pairwise_map]
    have : (lnkN c (finK xs c first)).Pairwise (· < ·) := List.Pairwise.filter _ List.pairwise_lt_range
    exact this.imp (fun h => by omega)
  · rw [hm, List.mem_map]
    constructor
    · rintro ⟨y, rfl, hy⟩
      exact ⟨y, List.mem_filter.2 ⟨List.mem_range.2 (finK_lt hf y hy), hy⟩, rfl⟩
    · rintro ⟨y, hy, rfl⟩
      exact ⟨y, rfl, (List.mem_filter.1 hy).2⟩
theorem first_lt {c first : Int} (h : inB first 0 (c - 1) = true) (h1 : 1 ≤ c) : ∃ cN fN : Nat, c = cN ∧ first = fN ∧ fN < cN := by
  simp only [inB, Bool.and_eq_true, decide_eq_true_eq] at h
  exact ⟨c.toNat, first.toNat, by omega, by omega, by omega⟩
set_option maxRecDepth 100000 in
set_option maxHeartbeats 2000000 in
theorem iLinkedTo_any (c first : Int) (a : Option Addr) (n cap : Nat) (xs : List Cm) (w : World) (h : CmL w a n xs) (hn : n ≤ 1048576) :
    Calls Try.prog 18 #[.int .i64 c, .slice a n cap, .int .i64 first] w fun e w' => NumsE w.heap.size (ckC c first xs) (lnkL c first xs) w' e ∧ Below w.heap.size w w' := by
  rcases ckC_cases c first xs with hk | hk | ⟨hk, hv, g1⟩
  iterate 2
    · go_enter Try.func18, Try.ntmps18
      go_wp2_with fail
      refine (check_any c first a n cap xs w h hn).mono ?_
      rintro e w2 ⟨rfl, b2⟩
      rw [hk]
      go_wp2
      go_ret2
      exact ⟨.inr ⟨by simp [hk], by simp [hk]⟩, b2⟩
  obtain ⟨c1, c2, c60, call⟩ := cms_parts hv
  obtain ⟨cN, fN, rfl, rfl, hf⟩ := first_lt g1 (by omega)
  have h60 : n ≤ 60 := by rw [← h.1]; exact c60
  clear hv g1
  go_enter Try.func18, Try.ntmps18
  go_wp2_with fail
  refine (check_any _ _ a n cap xs w h hn).mono ?_
  rintro e w2 ⟨rfl, b2⟩
  rw [hk]
  go_wp2_with fail
  refine (linked_any cN fN a n cap xs w2 (h.mono b2) h60 (by omega) hf call).mono ?_
  rintro e w3 ⟨⟨bS, nn, rfl, hbS, hnn, D, hmap, hneg, hz⟩, b3⟩
  have hB4 : Below w.heap.size w (w3.alloc (.cells #[.map (some bS)] 74)) := (belowCall b2 b3).alloc (belowCall b2 b3).size _
  have hmap4 := hmap.kept (World.grownBy_alloc w3 (.cells #[.map (some bS)] 74) none) (by simp)
  have hc4 : (w3.alloc (.cells #[.map (some bS)] 74)).cell? ⟨w3.heap.size, 0, none⟩ = some (.map (some bS)) := by rw [World.cell?_alloc_new]; rfl
  go_wp2_with fail
  refine (keysP_any bS w3).mono ?_
  rintro e w4 ⟨rfl, rfl⟩
  go_wp2_with fail
  refine (sortedP_any w3.heap.size bS nn D _ _ hc4 hmap4 (by have := hmap4.size_le; omega)).mono ?_
  rintro e w5 ⟨v5, ss, rfl, hperm, hown5, -, b5⟩
  obtain ⟨hsrt, hsm, hsl⟩ := sorted_keysD hmap4 hperm
  have hLQ := lnk_is (xs := xs) hf hsrt (fun z => by
    rw [hsm]
    constructor
    · intro h9
      have := hneg z h9
      exact ⟨z.toNat, by omega, by rw [← (hz z.toNat).1, show ((z.toNat : Nat) : Int) = z by omega]; exact h9⟩
    · rintro ⟨y, rfl, hy⟩; rw [(hz y).1]; exact hy)
  rw [← hsl, hLQ] at hown5
  have HO := Lib.hid (ownLow hown5 hB4.size)
  have HB := Lib.hid (belowCall hB4 b5)
  clear hsrt hsm hsl hLQ hown5 hperm b5
  go_wp2
  go_ret2
  exact ⟨.inl ⟨hk, v5, by simp, by
    have := HO.out
    simpa [lnkL] using this⟩, HB.out⟩
end Go.Proofs.Ytfnjndbnogeddaa
