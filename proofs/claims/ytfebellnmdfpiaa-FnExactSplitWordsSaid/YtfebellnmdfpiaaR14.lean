/- The laws' marks on strings: markText, markStringS, heldStringS. -/
import Derived.Test.YtfebellnmdfpiaaR12
import Derived.Laws.BytesString
import Derived.Laws.IdiomStrings
import Derived.Deep.RegionHeld3
namespace Go.Proofs.Ytfebellnmdfpiaa
open Go.ChangeShapes Go.WideShapes Go.ChangeAt Go.RowKit

theorem digV (j : Nat) : ((UInt8.ofNat (48 + j % 10)).toNat : Int) = 48 + (j : Int) % 10 := by
  have h : (UInt8.ofNat (48 + j % 10)).toNat = 48 + j % 10 := by
    rw [UInt8.toNat_ofNat']; omega
  rw [h]; omega
theorem scS {w : World} {a : Addr} {v u : Value} (h : w.cell? a = some u) : (w.setCell a v).cell? a = some v := World.cell?_setCell_same _ _ _ h
theorem scO {w : World} {b o o' : Nat} {v u : Value} (hne : o ≠ o') (h : w.cell? ⟨b, o', none⟩ = some u) : (w.setCell ⟨b, o, none⟩ v).cell? ⟨b, o', none⟩ = some u := by
  rw [World.cell?_setCell_other _ _ _ _ (fun e => hne (congrArg Addr.off e))]; exact h
def chB (k : Nat) : ByteArray := ⟨#[UInt8.ofNat (48 + k % 10)]⟩
/-- what markText spells, a digit a step -/
def mkR : Nat → Nat → ByteArray → ByteArray
  | 0, _, o => o
  | f + 1, k, o => if k = 0 then o else mkR f (k / 10) (chB k ++ o)
def mkB (k : Nat) : ByteArray := ⟨#[109]⟩ ++ mkR k k ⟨#[]⟩
theorem mkR_zero (f : Nat) (o : ByteArray) : mkR f 0 o = o := by cases f <;> rfl
theorem mkR_step {f k : Nat} (o : ByteArray) (h : k ≠ 0) : mkR (f + 1) k o = mkR f (k / 10) (chB k ++ o) := by rw [mkR, if_neg h]
set_option maxHeartbeats 1000000 in
set_option maxRecDepth 100000 in
theorem markText_any (K : Nat) (w : World) (h1 : 1 ≤ K) (hK : K ≤ 1000000000) :
    Calls Try.prog 42 #[.int .i64 K] w fun e w' => e = .returned (.string (mkB K)) ∧ Below w.heap.size w w' := by
  have hK0 : ¬ K = 0 := by omega
  go_enter Try.func42, Try.ntmps42
  go_wp2
  go_loopw [0, 3] (fun a o wr => ∃ (f k : Nat) (out : ByteArray), k ≤ f ∧ a = .int .i64 k ∧ o = .string out ∧ mkR f k out = mkR K K ⟨#[]⟩ ∧ out.size + k ≤ K ∧ Below w.heap.size w wr) (fun a _ _ => (intOf a).toNat)
  case atStart => exact ⟨K, K, ⟨#[]⟩, Nat.le_refl _, rfl, rfl, rfl, (by show 0 + K ≤ K; omega), Below.refl _ _⟩
  case round =>
    obtain ⟨f, k, out, hkf, rfl, rfl, hV, hsz, hB⟩ := hrel
    have HV := Lib.hid hV
    clear hV
    by_cases hz : k = 0
    · subst hz
      have hO : Hid (mkR K K ⟨#[]⟩ = out) := by rw [← HV.out, mkR_zero]; exact rfl
      have hcat : ¬ 9223372036854775807 < 1 + out.size := by omega
      go_wp2
      go_ret
      exact ⟨by rw [mkB, hO.out]; rfl, hB⟩
    · obtain ⟨f', rfl⟩ : ∃ f', f = f' + 1 := ⟨f - 1, by omega⟩
      have hS : Hid (mkR f' (k / 10) (chB k ++ out) = mkR K K ⟨#[]⟩) := by rw [← mkR_step out hz]; exact HV.out
      have hk0 : (0 : Int) < (k : Int) := by omega
      have tm : (k : Int).tmod 10 = (k : Int) % 10 := Int.tmod_eq_emod_of_nonneg (by omega)
      have td : (k : Int).tdiv 10 = (k : Int) / 10 := Int.tdiv_eq_ediv_of_nonneg (by omega)
      have e0 : 0 ≤ (k : Int) % 10 := by omega
      have e1 : (k : Int) % 10 ≤ 9 := by omega
      have hcat : ¬ 9223372036854775807 < 1 + out.size := by omega
      have hcv : (convert 57 9 (.slice (some ⟨wr.heap.size, 0, none⟩) 1 1)).run Try.prog (wr.alloc (.cells #[.int .u8 (48 + (k : Int) % 10)] 5)) = .ok (.string (chB k)) (wr.alloc (.cells #[.int .u8 (48 + (k : Int) % 10)] 5)) :=
        run_convert_bytes_back (P := Try.prog) _ 57 9 5 ⟨wr.heap.size, 0, none⟩ 1 [UInt8.ofNat (48 + k % 10)] Try.underlying57 Try.underlying5 Try.underlying9 (by
          intro j hj
          obtain rfl : j = 0 := by simpa using hj
          rw [Go.WideShapes.add_plain, World.cell?_alloc_new]
          simp only [List.getElem_cons_zero, digV]
          rfl)
      have hch : (chB k).size = 1 := rfl
      generalize chB k = ck at hcv hS hch
      go_wp2
      go_roundw
      case rel => exact ⟨f', k / 10, ck ++ out, by omega, by simp, rfl, hS.out, (by rw [ByteArray.size_append]; omega), hB.alloc hB.size _⟩
      case measure => simp [intOf]; omega
/-- the first k of n strings in block g are marked from m on; all can be written -/
def MK (wr : World) (g n k m : Nat) : Prop := ∀ j, j < n → g < wr.heap.size ∧ (∃ v, wr.cell? ⟨g, j, none⟩ = some v ∧ (j < k → v = .string (mkB (m + j)))) ∧ wr.frozen? ⟨g, j, none⟩ = false
theorem MK.below {wr w' : World} {g n k m : Nat} (h : MK wr g n k m) (hb : Below wr.heap.size wr w') : MK w' g n k m := fun j hj => by
  obtain ⟨h1, ⟨v, h2, h3⟩, h4⟩ := h j hj
  exact ⟨Nat.lt_of_lt_of_le h1 hb.size, ⟨v, by rw [hb.cell (p := ⟨g, j, none⟩) h1]; exact h2, h3⟩, by rw [hb.frozen (p := ⟨g, j, none⟩) h1]; exact h4⟩
theorem MK.put {wr : World} {g n k m : Nat} (h : MK wr g n k m) (hk : k < n) : MK (wr.setCell ⟨g, k, none⟩ (.string (mkB (m + k)))) g n (k + 1) m := fun j hj => by
  obtain ⟨h1, ⟨v, h2, h3⟩, h4⟩ := h j hj
  refine ⟨by simpa using h1, ?_, by rw [World.frozen?_setCell]; exact h4⟩
  by_cases hjk : j = k
  · subst hjk
    exact ⟨_, scS h2, fun _ => rfl⟩
  · exact ⟨v, scO (fun e => hjk e.symm) h2, fun hj2 => h3 (by omega)⟩
set_option maxHeartbeats 1000000 in
set_option maxRecDepth 100000 in
theorem markStringS_any (g n m c : Nat) (w0 w : World) (hB : Below w0.heap.size w0 w) (hg : w0.heap.size ≤ g) (hM : MK w g n 0 m) (hn : n ≤ 2097152) (h1 : 1 ≤ m) (hm : m ≤ 1000) :
    Calls Try.prog 27 #[.slice (some ⟨g, 0, none⟩) n c, .int .i64 m] w fun e w' => e = .returned (.int .i64 ((m + n : Nat) : Int)) ∧ MK w' g n n m ∧ Below w0.heap.size w0 w' := by
  go_enter Try.func27, Try.ntmps27
  go_wp2
  go_loopw [1, 5] (fun a i wr => ∃ k : Nat, k ≤ n ∧ i = .int .i64 k ∧ a = .int .i64 ((m + k : Nat) : Int) ∧ MK wr g n k m ∧ Below w0.heap.size w0 wr) (fun _ i _ => n - (intOf i).toNat)
  case atStart => exact ⟨0, Nat.zero_le _, rfl, rfl, hM, hB⟩
  case round =>
    obtain ⟨k, hk, rfl, rfl, hMk, hBr⟩ := hrel
    by_cases hlt : k < n
    · have hkk : (k : Int) < (n : Int) := by omega
      go_wp2_with fail
      refine (markText_any (m + k) wr (by omega) (by omega)).mono ?_
      rintro e w2 ⟨rfl, b2⟩
      have hM2 := hMk.below b2
      have hM3 := hM2.put hlt
      have hB2 : Below w0.heap.size w0 w2 := belowCall hBr b2
      obtain ⟨hg2, ⟨v0, hc, -⟩, hf⟩ := hM2 k hlt
      generalize mkB (m + k) = T at hM3 ⊢
      go_wp2
      go_roundw
      case rel => exact ⟨k + 1, by omega, by go_num, by go_num, hM3, hB2.setCell hg _⟩
      case measure => simp [intOf]; omega
    · obtain rfl : k = n := by omega
      go_wp2
      go_ret
      exact ⟨rfl, hMk, hBr⟩
set_option maxHeartbeats 1000000 in
set_option maxRecDepth 100000 in
theorem heldStringS_any (g n m c : Nat) (w : World) (h : ∀ j, j < n → g < w.heap.size ∧ w.cell? ⟨g, j, none⟩ = some (.string (mkB (m + j)))) (hn : n ≤ 2097152) (h1 : 1 ≤ m) (hm : m ≤ 1000) :
    Calls Try.prog 28 #[.slice (some ⟨g, 0, none⟩) n c, .int .i64 m] w fun e w' => e = .returned (.int .i64 ((m + n : Nat) : Int)) ∧ Below w.heap.size w w' := by
  go_enter Try.func28, Try.ntmps28
  go_wp2
  go_loopw [1, 5] (fun a i wr => ∃ k : Nat, k ≤ n ∧ i = .int .i64 k ∧ a = .int .i64 ((m + k : Nat) : Int) ∧ Below w.heap.size w wr) (fun _ i _ => n - (intOf i).toNat)
  case atStart => exact ⟨0, Nat.zero_le _, rfl, rfl, Below.refl _ _⟩
  case round =>
    obtain ⟨k, hk, rfl, rfl, hBr⟩ := hrel
    by_cases hlt : k < n
    · have hkk : (k : Int) < (n : Int) := by omega
      obtain ⟨hg, hc⟩ := h k hlt
      have hgr : g < wr.heap.size := Nat.lt_of_lt_of_le hg hBr.size
      have hcr : wr.cell? ⟨g, k, none⟩ = some (.string (mkB (m + k))) := by rw [hBr.cell (p := ⟨g, k, none⟩) hg]; exact hc
      go_wp2
      go_region_held3 (fun W' => Below wr.heap.size wr W' ∧ W'.cell? ⟨g, k, none⟩ = some (.string (mkB (m + k)))) (refine ⟨?_, ?_⟩ <;> first | assumption | exact Below.drew (Below.refl _ _) | exact belowCall (Below.drew (Below.refl _ _)) b2 | (rw [hc2 _ _ (by exact hgr)]; exact hcr) | go_keep) ((go_at_call 42; refine (markText_any (m + k) _ (by omega) (by omega)).mono ?_; rintro e w2 ⟨rfl, b2⟩; obtain ⟨hc2, hf2⟩ := bcell b2; have hz2 := b2.size))
      all_goals
        have hB2 : Below w.heap.size w w2 := belowCall hBr (belowCall (Below.drew (Below.refl _ _)) b2)
        go_wp2
        go_roundw
        case rel => exact ⟨k + 1, by omega, by go_num, by go_num, hB2⟩
        case measure => simp [intOf]; omega
    · obtain rfl : k = n := by omega
      go_wp2
      go_ret
      exact ⟨rfl, hBr⟩
end Go.Proofs.Ytfebellnmdfpiaa
