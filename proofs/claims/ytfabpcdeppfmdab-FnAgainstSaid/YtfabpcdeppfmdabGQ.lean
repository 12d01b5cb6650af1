/- Slices of pairs of numbers ([][]int64 whose rows have two numbers) that a call owns, and the laws' marks on them. -/
import Derived.Test.YtfabpcdeppfmdabGI
import Derived.Maps.AppendAt
namespace Go.Proofs.Ytfabpcdeppfmdab
open Go.ChangeShapes Go.WideShapes Go.ChangeAt Go.RowKit Go.Deep

/-- the slice 'a, n' reads as the pairs L, all blocks below B -/
def QqLB (B : Nat) (w : World) (a : Option Addr) (n : Nat) (L : List (Int × Int)) : Prop :=
  L.length = n ∧ ∀ i, i < n → ∃ b off h c, a = some ⟨b, off, none⟩ ∧ b < B ∧ b < w.heap.size ∧ h < B ∧ h < w.heap.size ∧ w.cell? ⟨b, off + i, none⟩ = some (.slice (some ⟨h, 0, none⟩) 2 c) ∧ w.cell? ⟨h, 0, none⟩ = some (.int .i64 (L[i]?.getD (0, 0)).1) ∧ w.cell? ⟨h, 1, none⟩ = some (.int .i64 (L[i]?.getD (0, 0)).2)
def QqL (w : World) (a : Option Addr) (n : Nat) (L : List (Int × Int)) : Prop := QqLB w.heap.size w a n L
theorem QqL.toB {w : World} {a : Option Addr} {n : Nat} {L : List (Int × Int)} (h : QqL w a n L) : QqLB w.heap.size w a n L := h
theorem QqLB.toL {B : Nat} {w : World} {a : Option Addr} {n : Nat} {L : List (Int × Int)} (h : QqLB B w a n L) : QqL w a n L :=
  ⟨h.1, fun i hi => by
    obtain ⟨b, off, r, c, e, _, h2, _, h4, h5⟩ := h.2 i hi
    exact ⟨b, off, r, c, e, h2, h2, h4, h4, h5⟩⟩
theorem QqLB.of_block {B : Nat} {w w' : World} {a : Option Addr} {n : Nat} {L : List (Int × Int)} (h : QqLB B w a n L) (hs : w.heap.size ≤ w'.heap.size) (e : ∀ b, b < B → b < w.heap.size → w'.heap[b]? = w.heap[b]?) : QqLB B w' a n L :=
  ⟨h.1, fun i hi => by
    obtain ⟨b, off, r, c, e', h1, h2, h3, h4, h5, h6, h7⟩ := h.2 i hi
    exact ⟨b, off, r, c, e', h1, Nat.lt_of_lt_of_le h2 hs, h3, Nat.lt_of_lt_of_le h4 hs, by rw [World.cell?_of_block (a := ⟨b, off + i, none⟩) (e b h1 h2)]; exact h5, by rw [World.cell?_of_block (a := ⟨r, 0, none⟩) (e r h3 h4)]; exact h6, by rw [World.cell?_of_block (a := ⟨r, 1, none⟩) (e r h3 h4)]; exact h7⟩⟩
theorem QqLB.below {B B' : Nat} {w w' : World} {a : Option Addr} {n : Nat} {L : List (Int × Int)} (h : QqLB B w a n L) (hb : Below B' w w') (hB : B ≤ B') : QqLB B w' a n L :=
  h.of_block hb.size (fun b h1 _ => hb.block b (by omega))
theorem QqLB.grown {B g : Nat} {w w' : World} {a : Option Addr} {n : Nat} {L : List (Int × Int)} (h : QqLB B w a n L) (hg : w.grownBy w' (some g)) (hne : B ≤ g) : QqLB B w' a n L :=
  h.of_block hg.size (fun b h1 h2 => hg.block b h2 (by simp; omega))
/-- pairs of a call's own, nil where there are none: those ahead of k hold the marks from m on; k = 0: they are L -/
def QqO (B : Nat) (w : World) (a : Option Addr) (n k m : Nat) (L : List (Int × Int)) : Prop :=
  (n = 0 ∧ L = []) ∨ ∃ (g : Nat) (bs cs : Nat → Nat), a = some ⟨g, 0, none⟩ ∧ B ≤ g ∧ g < w.heap.size ∧
    (∀ j, j < n → w.cell? ⟨g, j, none⟩ = some (.slice (some ⟨bs j, 0, none⟩) 2 (cs j)) ∧ B ≤ bs j ∧ bs j ≠ g ∧ bs j < w.heap.size ∧ SMG w (bs j) 2 (mfI (m + 2 * j) (if j < k then 2 else 0)) ∧ (k = 0 → w.cell? ⟨bs j, 0, none⟩ = some (.int .i64 (L[j]?.getD (0, 0)).1) ∧ w.cell? ⟨bs j, 1, none⟩ = some (.int .i64 (L[j]?.getD (0, 0)).2))) ∧
    (∀ i j, i < n → j < n → i ≠ j → bs i ≠ bs j) ∧ (k = 0 → L.length = n)
theorem QqO.below {B : Nat} {w w' : World} {a : Option Addr} {n k m : Nat} {L : List (Int × Int)} (h : QqO B w a n k m L) (hb : Below w.heap.size w w') : QqO B w' a n k m L := by
  rcases h with h | ⟨g, bs, cs, e, h1, h2, h3, h4, h5⟩
  · exact .inl h
  · refine .inr ⟨g, bs, cs, e, h1, Nat.lt_of_lt_of_le h2 hb.size, fun j hj => ?_, h4, h5⟩
    obtain ⟨a1, a2, a3, a4, a5, a6⟩ := h3 j hj
    exact ⟨(hb.cell (p := ⟨g, j, none⟩) h2).trans a1, a2, a3, Nat.lt_of_lt_of_le a4 hb.size, a5.below hb, fun hk => ⟨(hb.cell (p := ⟨bs j, 0, none⟩) a4).trans (a6 hk).1, (hb.cell (p := ⟨bs j, 1, none⟩) a4).trans (a6 hk).2⟩⟩
theorem QqO.far {B g' : Nat} {w w' : World} {a : Option Addr} {n k m : Nat} {L : List (Int × Int)} (h : QqO B w a n k m L) (hg : w.grownBy w' (some g')) (hne : g' < B) : QqO B w' a n k m L := by
  rcases h with h | ⟨g, bs, cs, e, h1, h2, h3, h4, h5⟩
  · exact .inl h
  · refine .inr ⟨g, bs, cs, e, h1, Nat.lt_of_lt_of_le h2 hg.size, fun j hj => ?_, h4, h5⟩
    obtain ⟨a1, a2, a3, a4, a5, a6⟩ := h3 j hj
    have e1 := hg.block g h2 (by simp; omega)
    have e2 := hg.block (bs j) a4 (by simp; omega)
    exact ⟨(World.cell?_of_block (a := ⟨g, j, none⟩) e1).trans a1, a2, a3, Nat.lt_of_lt_of_le a4 hg.size, a5.far hg (by omega), fun hk => ⟨(World.cell?_of_block (a := ⟨bs j, 0, none⟩) e2).trans (a6 hk).1, (World.cell?_of_block (a := ⟨bs j, 1, none⟩) e2).trans (a6 hk).2⟩⟩
theorem QqO.toL {B : Nat} {w : World} {a : Option Addr} {n m : Nat} {L : List (Int × Int)} (h : QqO B w a n 0 m L) : QqL w a n L := by
  rcases h with ⟨h1, h2⟩ | ⟨g, bs, cs, e, h1, h2, h3, h4, h5⟩
  · exact ⟨by simp [h1, h2], fun i hi => absurd hi (by omega)⟩
  · refine ⟨h5 rfl, fun i hi => ?_⟩
    obtain ⟨a1, a2, a3, a4, a5, a6⟩ := h3 i hi
    exact ⟨g, 0, bs i, cs i, e, h2, h2, a4, a4, by rw [Nat.zero_add]; exact a1, (a6 rfl).1, (a6 rfl).2⟩
theorem QqO.low {B B' : Nat} {w : World} {a : Option Addr} {n k m : Nat} {L : List (Int × Int)} (h : QqO B w a n k m L) (hB : B' ≤ B) : QqO B' w a n k m L := by
  rcases h with h | ⟨g, bs, cs, e, h1, h2, h3, h4, h5⟩
  · exact .inl h
  · refine .inr ⟨g, bs, cs, e, Nat.le_trans hB h1, h2, fun j hj => ?_, h4, h5⟩
    obtain ⟨a1, a2, a3⟩ := h3 j hj
    exact ⟨a1, Nat.le_trans hB a2, a3⟩
/-- while the list is being made: the slice v of a call's own, its rows in blocks of two numbers -/
def QqB (B T : Nat) (w : World) (v : Value) (L : List (Int × Int)) : Prop :=
  ∃ (bs : Nat → Nat), w.ownsRow B T 1 v L.length ((List.range L.length).map fun j => .slice (some ⟨bs j, 0, none⟩) 2 2) ∧
    (∀ j, j < L.length → B ≤ bs j ∧ v.ownBlock ≠ some (bs j) ∧ w.heap[bs j]? = some (.cells #[.int .i64 (L[j]?.getD (0, 0)).1, .int .i64 (L[j]?.getD (0, 0)).2] 2)) ∧
    ∀ i j, i < L.length → j < L.length → i ≠ j → bs i ≠ bs j
theorem QqB.nil (B T : Nat) (w : World) : QqB B T w (.slice none 0 0) [] := ⟨fun _ => 0, World.ownsRow_nil _ _ _ _, fun j hj => absurd hj (by simp), fun i j hi => absurd hi (by simp)⟩
theorem QqB.lit (T : Nat) (w : World) : QqB w.heap.size T (w.alloc (.cells #[] T)) (.slice (some ⟨w.heap.size, 0, none⟩) 0 0) [] :=
  ⟨fun _ => 0, World.ownsRow_lit w #[] 0 (Nat.le_refl _) (by unfold maxLen; omega) rfl, fun j hj => absurd hj (by simp), fun i j hi => absurd hi (by simp)⟩
theorem QqB.below {B T : Nat} {w w' : World} {v : Value} {L : List (Int × Int)} (h : QqB B T w v L) (hb : Below w.heap.size w w') : QqB B T w' v L := by
  obtain ⟨bs, h1, h2, h3⟩ := h
  refine ⟨bs, h1.kept (gBut hb none) (by
    cases hv : v.ownBlock with
    | none => exact .inl rfl
    | some g => exact .inr (by simp)), fun j hj => ?_, h3⟩
  obtain ⟨a1, a2, a3⟩ := h2 j hj
  exact ⟨a1, a2, (hb.block _ (Array.getElem?_eq_some_iff.1 a3).1).trans a3⟩
theorem ownKeepQ {w w' : World} {B e s n : Nat} {v : Value} {xs : List Value} (h : w.ownsRow B e s v n xs) (hb : Below w.heap.size w w') : w'.ownsRow B e s v n xs :=
  h.kept (gBut hb none) (by
    cases hv : v.ownBlock with
    | none => exact .inl rfl
    | some g => exact .inr (by simp))
/-- one pair more: its block r is new, then the slice has been appended to -/
theorem QqB.snoc {B T r : Nat} {w w1 w' : World} {v v' : Value} {L : List (Int × Int)} {bs : Nat → Nat} {x y : Int} (h1 : w.ownsRow B T 1 v L.length ((List.range L.length).map fun j => .slice (some ⟨bs j, 0, none⟩) 2 2))
    (h2 : ∀ j, j < L.length → B ≤ bs j ∧ v.ownBlock ≠ some (bs j) ∧ w.heap[bs j]? = some (.cells #[.int .i64 (L[j]?.getD (0, 0)).1, .int .i64 (L[j]?.getD (0, 0)).2] 2)) (h3 : ∀ i j, i < L.length → j < L.length → i ≠ j → bs i ≠ bs j)
    (hb : Below w.heap.size w w1) (hr : w1.heap[r]? = some (.cells #[.int .i64 x, .int .i64 y] 2)) (hrB : B ≤ r) (hrn : w.heap.size ≤ r)
    (hown : w'.ownsRow B T 1 v' (L.length + 1) (((List.range L.length).map fun j => Value.slice (some ⟨bs j, 0, none⟩) 2 2) ++ [.slice (some ⟨r, 0, none⟩) 2 2])) (hg : w1.grownBy w' v.ownBlock) (hlies : v'.ownBlock = v.ownBlock ∨ v'.ownBlock = some w1.heap.size) :
    QqB B T w' v' (L ++ [(x, y)]) := by
  have hlen : (L ++ [(x, y)]).length = L.length + 1 := by simp
  have hr1 : r < w1.heap.size := (Array.getElem?_eq_some_iff.1 hr).1
  have hvr : v.ownBlock ≠ some r := fun e => by have := (h1.lt r e).2; omega
  have hat : ∀ j, j < L.length → (L ++ [(x, y)])[j]?.getD (0, 0) = L[j]?.getD (0, 0) := fun j hj => by rw [List.getElem?_append_left hj]
  have hatn : (L ++ [(x, y)])[L.length]?.getD (0, 0) = (x, y) := by simp
  refine ⟨fun j => if j = L.length then r else bs j, ?_, fun j hj => ?_, fun i j hi hj hne => ?_⟩
  · rw [hlen]
    have e : (List.range (L.length + 1)).map (fun j => Value.slice (some ⟨if j = L.length then r else bs j, 0, none⟩) 2 2) = ((List.range L.length).map fun j => Value.slice (some ⟨bs j, 0, none⟩) 2 2) ++ [.slice (some ⟨r, 0, none⟩) 2 2] := by
      rw [List.range_succ, List.map_append]
      congr 1
      · apply List.map_congr_left
        intro j hj
        have : j ≠ L.length := by have := List.mem_range.1 hj; omega
        simp [this]
      · simp
    rw [e]; exact hown
  · rw [hlen] at hj
    by_cases e : j = L.length
    · subst e
      simp only [if_true, hatn]
      refine ⟨hrB, ?_, ?_⟩
      · rcases hlies with h | h <;> rw [h]
        · exact hvr
        · intro e; simp at e; omega
      · exact (hg.block r hr1 (fun e => hvr e.symm)).trans hr
    · have hj' : j < L.length := by omega
      obtain ⟨a1, a2, a3⟩ := h2 j hj'
      have hbs : bs j < w.heap.size := (Array.getElem?_eq_some_iff.1 a3).1
      have hz := hb.size
      simp only [if_neg e, hat j hj']
      refine ⟨a1, ?_, ?_⟩
      · rcases hlies with h | h <;> rw [h]
        · exact a2
        · intro e; simp at e; omega
      · exact (hg.block _ (by omega) (fun e => a2 e.symm)).trans ((hb.block _ hbs).trans a3)
  · rw [hlen] at hi hj
    dsimp only
    have hlt : ∀ k, k < L.length → bs k < w.heap.size := fun k hk => (Array.getElem?_eq_some_iff.1 (h2 k hk).2.2).1
    by_cases ei : i = L.length <;> by_cases ej : j = L.length
    · omega
    · rw [if_pos ei, if_neg ej]; have := hlt j (by omega); omega
    · rw [if_neg ei, if_pos ej]; have := hlt i (by omega); omega
    · rw [if_neg ei, if_neg ej]; exact h3 i j (by omega) (by omega) hne
/-- when it is handed back -/
theorem QqB.toO {B T : Nat} {w : World} {v : Value} {L : List (Int × Int)} (h : QqB B T w v L) : ∃ a c, v = .slice a L.length c ∧ ∀ m, QqO B w a L.length 0 m L := by
  obtain ⟨bs, h1, h2, h3⟩ := h
  rcases h1.2 with ⟨hv, h0⟩ | ⟨g, cap, cur, hv, hg, hgc, _⟩
  · exact ⟨none, 0, by rw [hv, h0], fun m => .inl ⟨h0, List.length_eq_zero_iff.1 h0⟩⟩
  · subst hv
    refine ⟨_, cap, rfl, fun m => .inr ⟨g, bs, fun _ => 2, rfl, hg, (Array.getElem?_eq_some_iff.1 hgc).1, fun j hj => ?_, h3, fun _ => rfl⟩⟩
    obtain ⟨a1, a2, a3⟩ := h2 j hj
    have hc : w.cell? ⟨g, j, none⟩ = some (.slice (some ⟨bs j, 0, none⟩) 2 2) := by
      rw [h1.cellAt j (by omega)]; simp [hj]
    have cc : ∀ i, w.cell? ⟨bs j, i, none⟩ = (#[Value.int .i64 (L[j]?.getD (0, 0)).1, .int .i64 (L[j]?.getD (0, 0)).2] : Array Value)[i]? := fun i => by simp [World.cell?, a3]
    refine ⟨hc, a1, fun e => a2 (by rw [e]; rfl), (Array.getElem?_eq_some_iff.1 a3).1, fun i hi => ⟨(Array.getElem?_eq_some_iff.1 a3).1, ?_, by simp [World.frozen?, a3]⟩, fun _ => ⟨by rw [cc]; rfl, by rw [cc]; rfl⟩⟩
    have hm : mfI (m + 2 * j) (if j < 0 then 2 else 0) i = none := by simp [mfI]
    rw [hm]
    match i, hi with
    | 0, _ => exact ⟨_, by rw [cc]; rfl, fun u hu => by cases hu⟩
    | 1, _ => exact ⟨_, by rw [cc]; rfl, fun u hu => by cases hu⟩
/-- a call's answer: pairs of its own, and a value beside them -/
def QqRes (B : Nat) (L : List (Int × Int)) (v : Value) (w : World) (e : Ending) : Prop := ∃ a c, e = .returned (.tuple #[.slice a L.length c, v]) ∧ ∀ m, QqO B w a L.length 0 m L
theorem QqRes.nil (B : Nat) (v : Value) (w : World) : QqRes B [] v w (.returned (.tuple #[.slice none 0 0, v])) := ⟨none, 0, rfl, fun _ => .inl ⟨rfl, rfl⟩⟩
theorem QqRes.own {B T : Nat} {u v : Value} {L : List (Int × Int)} {w : World} (h : QqB B T w u L) : QqRes B L v w (.returned (.tuple #[u, v])) := by
  obtain ⟨a, c, rfl, hO⟩ := h.toO
  exact ⟨a, c, rfl, hO⟩
theorem QqB.low {B B' T : Nat} {w : World} {v : Value} {L : List (Int × Int)} (h : QqB B T w v L) (hB : B' ≤ B) : QqB B' T w v L := by
  obtain ⟨bs, h1, h2, h3⟩ := h
  exact ⟨bs, ownLow h1 hB, fun j hj => ⟨Nat.le_trans hB (h2 j hj).1, (h2 j hj).2⟩, h3⟩
set_option maxHeartbeats 2000000 in
theorem markQq_o (a : Option Addr) (n m c B : Nat) (L : List (Int × Int)) (w0 w : World) (hB : Below B w0 w) (hBs : B ≤ w.heap.size) (hM : QqO B w a n 0 m L) (hn : n ≤ 1048576) (h1 : 1 ≤ m) (hm : m ≤ 100000000) :
    Calls Try.prog 16 #[.slice a n c, .int .i64 m] w fun e w' => e = .returned (.int .i64 ((m + 2 * n : Nat) : Int)) ∧ QqO B w' a n n m [] ∧ Below B w0 w' := by
  rcases hM with ⟨rfl, rfl⟩ | ⟨g, bs, cs, rfl, h2, h3, h4, h5, -⟩
  · go_enter Try.func16, Try.ntmps16
    go_wp2
    go_loopw [1, 5] (fun a i wr => i = .int .i64 0 ∧ a = .int .i64 (m : Int) ∧ wr = w) (fun _ i _ => 0)
    case atStart => exact ⟨rfl, rfl, rfl⟩
    case round =>
      obtain ⟨rfl, rfl, rfl⟩ := hrel
      go_wp2
      go_ret
      exact ⟨rfl, .inl ⟨rfl, rfl⟩, hB⟩
  · have hl : (n : Int) ≤ 1048576 := by omega
    have HI := Lib.hid h5
    have h4' : ∀ j, j < n → w.cell? ⟨g, j, none⟩ = some (.slice (some ⟨bs j, 0, none⟩) 2 (cs j)) ∧ B ≤ bs j ∧ bs j ≠ g ∧ bs j < w.heap.size ∧ SMG w (bs j) 2 (mfI (m + 2 * j) (if j < 0 then 2 else 0)) := fun j hj => by
      obtain ⟨a1, a2, a3, a4, a5, _⟩ := h4 j hj
      exact ⟨a1, a2, a3, a4, a5⟩
    clear h4 h5
    go_enter Try.func16, Try.ntmps16
    go_wp2
    go_loopw [1, 5] (fun a i wr => ∃ k : Nat, k ≤ n ∧ i = .int .i64 k ∧ a = .int .i64 ((m + 2 * k : Nat) : Int) ∧ g < wr.heap.size ∧ (∀ j, j < n → wr.cell? ⟨g, j, none⟩ = some (.slice (some ⟨bs j, 0, none⟩) 2 (cs j)) ∧ B ≤ bs j ∧ bs j ≠ g ∧ bs j < wr.heap.size ∧ SMG wr (bs j) 2 (mfI (m + 2 * j) (if j < k then 2 else 0))) ∧ Below B w0 wr) (fun _ i _ => n - (Go.RowKit.intOf i).toNat)
    case atStart => exact ⟨0, Nat.zero_le _, rfl, rfl, h3, h4', hB⟩
    case round =>
      obtain ⟨k, hk, rfl, rfl, hgr, hall, hBr⟩ := hrel
      clear h4'
      by_cases hlt : k < n
      · have hkk : (k : Int) < (n : Int) := by omega
        obtain ⟨a1, a2, a3, a4, a5⟩ := hall k hlt
        rw [if_neg (Nat.lt_irrefl k)] at a5
        have HA := Lib.hid hall
        clear hall
        have hBsr : B ≤ wr.heap.size := by omega
        go_wp2_with fail
        refine (markI_f (bs k) 2 (m + 2 * k) (cs k) wr a5 (by omega) (by omega) (by omega)).mono ?_
        rintro e w2 ⟨rfl, hS2, hg2⟩
        have hB2 : Below B w0 w2 := hBr.grown hg2 hBsr (fun j e => by cases e; exact a2)
        have hall2 : ∀ j, j < n → w2.cell? ⟨g, j, none⟩ = some (.slice (some ⟨bs j, 0, none⟩) 2 (cs j)) ∧ B ≤ bs j ∧ bs j ≠ g ∧ bs j < w2.heap.size ∧ SMG w2 (bs j) 2 (mfI (m + 2 * j) (if j < k + 1 then 2 else 0)) := fun j hj => by
          obtain ⟨c1, c2, c3, c4, c5⟩ := HA.out j hj
          refine ⟨(World.cell?_of_block (a := ⟨g, j, none⟩) (hg2.block g hgr (by simp; exact a3.symm))).trans c1, c2, c3, Nat.lt_of_lt_of_le c4 hg2.size, ?_⟩
          by_cases e : j = k
          · subst e; rw [if_pos (by omega)]; exact hS2
          · have h9 := c5.far hg2 (HI.out j k hj hlt e)
            by_cases e2 : j < k
            · rw [if_pos (by omega)]; rw [if_pos e2] at h9; exact h9
            · rw [if_neg (by omega)]; rw [if_neg e2] at h9; exact h9
        have HA2 := Lib.hid hall2
        have hgr2 : g < w2.heap.size := Nat.lt_of_lt_of_le hgr hg2.size
        clear hall2
        go_wp2
        go_roundw
        case rel => exact ⟨k + 1, by omega, by go_num, by go_num, hgr2, HA2.out, hB2⟩
        case measure => simp [Go.RowKit.intOf]; omega
      · obtain rfl : k = n := by omega
        have HA := Lib.hid hall
        clear hall
        go_wp2
        go_ret
        refine ⟨rfl, ?_, hBr⟩
        by_cases h0 : k = 0
        · exact .inl ⟨h0, rfl⟩
        · exact .inr ⟨g, bs, cs, rfl, h2, hgr, fun j hj => by
            obtain ⟨c1, c2, c3, c4, c5⟩ := HA.out j hj
            exact ⟨c1, c2, c3, c4, c5, fun h => absurd h h0⟩, HI.out, fun h => absurd h h0⟩
set_option maxHeartbeats 2000000 in
theorem heldQq_o (a : Option Addr) (n m c B : Nat) (L : List (Int × Int)) (w : World) (hM : QqO B w a n n m L) (hn : n ≤ 1048576) (h1 : 1 ≤ m) (hm : m ≤ 100000000) :
    Calls Try.prog 17 #[.slice a n c, .int .i64 m] w fun e w' => e = .returned (.int .i64 ((m + 2 * n : Nat) : Int)) ∧ Below w.heap.size w w' := by
  rcases hM with ⟨rfl, rfl⟩ | ⟨g, bs, cs, rfl, h2, h3, h4, h5, -⟩
  · go_enter Try.func17, Try.ntmps17
    go_wp2
    go_loopw [1, 5] (fun a i wr => i = .int .i64 0 ∧ a = .int .i64 (m : Int) ∧ wr = w) (fun _ i _ => 0)
    case atStart => exact ⟨rfl, rfl, rfl⟩
    case round =>
      obtain ⟨rfl, rfl, rfl⟩ := hrel
      go_wp2
      go_ret
      exact ⟨rfl, Below.refl _ _⟩
  · have hl : (n : Int) ≤ 1048576 := by omega
    have HA := Lib.hid h4
    clear h4 h5
    go_enter Try.func17, Try.ntmps17
    go_wp2
    go_loopw [1, 5] (fun a i wr => ∃ k : Nat, k ≤ n ∧ i = .int .i64 k ∧ a = .int .i64 ((m + 2 * k : Nat) : Int) ∧ Below w.heap.size w wr) (fun _ i _ => n - (Go.RowKit.intOf i).toNat)
    case atStart => exact ⟨0, Nat.zero_le _, rfl, rfl, Below.refl _ _⟩
    case round =>
      obtain ⟨k, hk, rfl, rfl, hBr⟩ := hrel
      by_cases hlt : k < n
      · have hkk : (k : Int) < (n : Int) := by omega
        obtain ⟨a1, a2, a3, a4, a5, -⟩ := HA.out k hlt
        rw [if_pos hlt] at a5
        have c1 := (hBr.cell (p := ⟨g, k, none⟩) h3).trans a1
        have hneg : ¬ ((m + 2 * k + 2 : Nat) : Int) < 0 := by omega
        go_wp2_with fail
        refine (heldI_f (bs k) 2 (m + 2 * k) (cs k) wr (a5.below hBr) (by omega) (by omega) (by omega)).mono ?_
        rintro e w2 ⟨rfl, b2⟩
        go_wp2
        go_roundw
        case rel => exact ⟨k + 1, by omega, by go_num, by go_num, belowCall hBr b2⟩
        case measure => simp [Go.RowKit.intOf]; omega
      · obtain rfl : k = n := by omega
        go_wp2
        go_ret
        exact ⟨rfl, hBr⟩
set_option maxRecDepth 100000 in
set_option maxHeartbeats 2000000 in
theorem eqQq_self (a b : Option Addr) (n c c' : Nat) (L : List (Int × Int)) (w : World) (h : QqL w a n L) (h' : QqL w b n L) (hn : n ≤ 1048576) :
    Calls Try.prog 13 #[.slice a n c, .slice b n c'] w fun e w' => e = .returned (.bool true) ∧ Below w.heap.size w w' := by
  have hl : (n : Int) ≤ 1048576 := by omega
  go_enter Try.func13, Try.ntmps13
  go_wp2
  go_loopw [5] (fun i wr => ∃ k : Nat, k ≤ n ∧ i = .int .i64 k ∧ Below w.heap.size w wr) (fun i _ => n - (Go.RowKit.intOf i).toNat)
  case atStart => exact ⟨0, Nat.zero_le _, rfl, Below.refl _ _⟩
  case round =>
    obtain ⟨k, hk, rfl, hB⟩ := hrel
    by_cases hlt : k < n
    · obtain ⟨b1, o1, r1, c1, rfl, -, x1, -, x2, x3, x4, x5⟩ := h.2 k hlt
      obtain ⟨b2, o2, r2, c2, rfl, -, y1, -, y2, y3, y4, y5⟩ := h'.2 k hlt
      have p := (hB.cell (p := ⟨b1, o1 + k, none⟩) x1).trans x3
      have q := (hB.cell (p := ⟨b2, o2 + k, none⟩) y1).trans y3
      obtain ⟨x, hx⟩ : ∃ x, L[k]?.getD (0, 0) = x := ⟨_, rfl⟩
      rw [hx] at x4 x5 y4 y5
      have hL1 : Lst wr (some ⟨r1, 0, none⟩) 2 [x.1, x.2] := ⟨rfl, fun i hi => ⟨r1, 0, rfl, Nat.lt_of_lt_of_le x2 hB.size, by
        match i, hi with
        | 0, _ => exact (hB.cell (p := ⟨r1, 0, none⟩) x2).trans x4
        | 1, _ => exact (hB.cell (p := ⟨r1, 1, none⟩) x2).trans x5⟩⟩
      have hL2 : Lst wr (some ⟨r2, 0, none⟩) 2 [x.1, x.2] := ⟨rfl, fun i hi => ⟨r2, 0, rfl, Nat.lt_of_lt_of_le y2 hB.size, by
        match i, hi with
        | 0, _ => exact (hB.cell (p := ⟨r2, 0, none⟩) y2).trans y4
        | 1, _ => exact (hB.cell (p := ⟨r2, 1, none⟩) y2).trans y5⟩⟩
      clear x4 x5 y4 y5 hx x3 y3
      have hkk : (k : Int) < (n : Int) := by omega
      go_wp2
      go_still_tail 8, (by kernel_rfl)
      have hBd : Below w.heap.size w wr.drew := hB.drew
      have hL1' := hL1.mono (Below.drew (Below.refl wr.heap.size wr))
      have hL2' := hL2.mono (Below.drew (Below.refl wr.heap.size wr))
      change wpList _ _ _ _ _ wr.drew
      generalize wr.drew = w2 at hBd hL1' hL2' ⊢
      go_wp2_with fail
      refine (eqI_self _ _ _ _ _ [x.1, x.2] w2 hL1' hL2' (by omega)).mono ?_
      rintro e w3 ⟨rfl, b3⟩
      go_wp2
      go_roundw
      case rel => exact ⟨k + 1, by omega, by go_num, belowCall hBd b3⟩
      case measure => simp [Go.RowKit.intOf]; omega
    · obtain rfl : k = n := by omega
      go_wp2
      go_ret
      exact ⟨rfl, hB⟩
end Go.Proofs.Ytfabpcdeppfmdab
