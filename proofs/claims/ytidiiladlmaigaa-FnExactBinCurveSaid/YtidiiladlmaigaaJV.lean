/- Bins: the program's binned (sort.Search with a closure over its slice), BinCurve. -/
import Derived.Test.YtidiiladlmaigaaJS
import Derived.Test.YtidiiladlmaigaaJ2
import Derived.Deep.AppendLies
import Derived.Shelf.SlSorted.Search
import Derived.Shelf.Lay
import Derived.Ground.SlsoProg
namespace Go.Proofs.Ytidiiladlmaigaa
open Go.ChangeShapes Go.WideShapes Go.ChangeAt Go.RowKit Go.Deep Go.Shelf

/-- points in the order of their times, and bounded -/
def SB (xs : List Pt) : Prop := (∀ k, k < xs.length → bdP (xs[k]?.getD pt0)) ∧ ∀ a b, a ≤ b → b < xs.length → (xs[a]?.getD pt0).1 ≤ (xs[b]?.getD pt0).1
theorem SB.drop {xs : List Pt} (h : SB xs) (i : Nat) : SB (xs.drop i) := by
  refine ⟨fun k hk => ?_, fun a b hab hb => ?_⟩
  · rw [List.length_drop] at hk
    rw [drop_at]; exact h.1 (i + k) (by omega)
  · rw [List.length_drop] at hb
    rw [drop_at, drop_at]; exact h.2 (i + a) (i + b) (by omega) (by omega)
theorem SB.of_ok {xs : List Pt} (h : okP xs = true) : SB xs := by
  obtain ⟨h1, h2, h3⟩ := okP_num rfl h
  refine ⟨fun k hk => by have := h2 k hk; unfold bdP; omega, fun a b hab => ?_⟩
  induction b with
  | zero => intro _; have : a = 0 := by omega
            subst this; exact Int.le_refl _
  | succ b ih =>
    intro hb
    have := h3 b hb
    by_cases e : a = b + 1
    · subst e; exact Int.le_refl _
    · have := ih (by omega) (by omega)
      omega
theorem take_at (xs : List Pt) {i j : Nat} (h : j < i) : (xs.take i)[j]?.getD pt0 = xs[j]?.getD pt0 := by rw [List.getElem?_take, if_pos h]
theorem sT_take (xs : List Pt) (g : Nat) : sT (xs.take g) g = sT xs g := sumF_congr fun j hj => by rw [take_at xs hj]
theorem sM_take (xs : List Pt) (g : Nat) : sM (xs.take g) g = sM xs g := sumF_congr fun j hj => by rw [take_at xs hj]
def lenV : Value → Nat
  | .slice _ n _ => n
  | _ => 0
shelf_lay SlLaysO.n16 Slso 16 at Try as Try.srt16
set_option maxRecDepth 100000 in
set_option maxHeartbeats 1000000 in
theorem endClos_any (B E b o n c : Nat) (v : Int) (ys : List Pt) (w : World) (h : PtL w (some ⟨b, o, none⟩) n ys) (h1 : w.cell? ⟨B, 0, none⟩ = some (.slice (some ⟨b, o, none⟩) n c)) (h2 : w.cell? ⟨E, 0, none⟩ = some (.int .i64 v)) (i : Nat) (hi : i < n) :
    Calls Try.prog 65 #[.int .i64 i, .pointer (some ⟨B, 0, none⟩), .pointer (some ⟨E, 0, none⟩)] w fun e w' => e = .returned (.bool (decide (v ≤ (ys[i]?.getD pt0).1))) ∧ ∃ q, w' = w.drewN q := by
  obtain ⟨b1, o1, he, hc⟩ := h.2 i hi
  cases he
  obtain ⟨⟨x0, x1⟩, hx⟩ : ∃ x, ys[i]?.getD pt0 = x := ⟨_, rfl⟩
  rw [hx] at hc ⊢
  obtain ⟨-, p0, -⟩ := hc.parts
  have hii : (i : Int) < (n : Int) := by omega
  clear hc hx h
  go_enter Try.func65, Try.ntmps65
  go_wp2
  go_big_quiet (fail)
  go_wp2
  go_ret
  exact ⟨rfl, _, rfl⟩
theorem binSearch_any (B E b o n c : Nat) (wd : Int) (ys : List Pt) (w : World) (h : PtL w (some ⟨b, o, none⟩) n ys) (h0 : 0 < n) (hw : 1 ≤ wd) (hs : SB ys) (hn : n ≤ 100) (h1 : w.cell? ⟨B, 0, none⟩ = some (.slice (some ⟨b, o, none⟩) n c)) (h2 : w.cell? ⟨E, 0, none⟩ = some (.int .i64 (((ys[0]?.getD pt0).1.tdiv wd + 1) * wd))) :
    Calls Try.prog 64 #[.int .i64 n, .func (.func 65) #[] #[.pointer (some ⟨B, 0, none⟩), .pointer (some ⟨E, 0, none⟩)]] w fun e w' => e = .returned (.int .i64 (grp wd ys : Nat)) ∧ Below w.heap.size w w' := by
  have hb1 := World.block_lt_of_cell? w _ h1
  have hb2 := World.block_lt_of_cell? w _ h2
  dsimp only at hb1 hb2
  have hcon := Any.sort_Search Try.srt16 65 #[.pointer (some ⟨B, 0, none⟩), .pointer (some ⟨E, 0, none⟩)] n (fun i => decide (((ys[0]?.getD pt0).1.tdiv wd + 1) * wd ≤ (ys[i]?.getD pt0).1)) w
    (Go.Proofs.enters_of Try.func65 (by kernel_rfl) rfl) (by omega)
    (fun m os i hi => by
      have hb := below_grown_sl w.heap.size w m os (Nat.le_refl _)
      refine (endClos_any B E b o n c _ ys _ (h.mono hb) ((hb.cell (p := ⟨B, 0, none⟩) hb1).trans h1) ((hb.cell (p := ⟨E, 0, none⟩) hb2).trans h2) i hi).mono ?_
      rintro e w' ⟨rfl, q, rfl⟩
      exact ⟨rfl, q, #[], by rw [Go.Sort.grow_empty]⟩)
    (fun a b hab hb ha => by
      have := hs.2 a b hab (by rw [h.1]; exact hb)
      simp only [decide_eq_true_eq] at ha ⊢
      omega)
  change Calls Try.prog 64 _ _ _ at hcon
  have hg := srch_grp (wd := wd) h.1 h0 hw (fun j hj => (hs.1 j (by rw [h.1]; exact hj)).1) (fun a b hab hb => hs.2 a b hab (by rw [h.1]; exact hb))
  refine hcon.mono ?_
  rintro e w' ⟨rfl, q, os, rfl⟩
  exact ⟨by rw [hg], below_grown_sl _ _ _ _ (Nat.le_refl _)⟩
end Go.Proofs.Ytidiiladlmaigaa
