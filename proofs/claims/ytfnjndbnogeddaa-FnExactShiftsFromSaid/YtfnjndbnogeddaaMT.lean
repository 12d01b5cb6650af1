/- The laws' marks: markText. -/
import Derived.Test.YtfnjndbnogeddaaB1
import Derived.Laws.BytesString
import Derived.Laws.IdiomStrings
namespace Go.Proofs.Ytfnjndbnogeddaa
open Go.ChangeShapes Go.WideShapes Go.ChangeAt Go.RowKit

theorem digV (j : Nat) : ((UInt8.ofNat (48 + j % 10)).toNat : Int) = 48 + (j : Int) % 10 := by
  have h : (UInt8.ofNat (48 + j % 10)).toNat = 48 + j % 10 := by
    rw [UInt8.toNat_ofNat']; omega
  rw [h]; omega
theorem scS {w : World} {a : Addr} {v u : Value} (h : w.cell? a = some u) : (w.setCell a v).cell? a = some v := World.cell?_setCell_same _ _ _ h
theorem scO {w : World} {b o o' : Nat} {v u : Value} (hne : o ≠ o') (h : w.cell? ⟨b, o', none⟩ = some u) : (w.setCell ⟨b, o, none⟩ v).cell? ⟨b, o', none⟩ = some u := by
  rw [World.cell?_setCell_other _ _ _ _ (fun e => hne (congrArg Addr.off e))]; exact h
def chB (k : Nat) : ByteArray := ⟨#[UInt8.ofNat (48 + k % 10)]⟩
/-- what markText spells, a digit a step -/
def mkR : Nat → Nat → ByteArray → ByteArray
  | 0, _, o => o
  | f + 1, k, o => if k = 0 then o else mkR f (k / 10) (chB k ++ o)
def mkB (k : Nat) : ByteArray := ⟨#[109]⟩ ++ mkR k k ⟨#[]⟩
theorem mkR_zero (f : Nat) (o : ByteArray) : mkR f 0 o = o := by cases f <;> rfl
theorem mkR_step {f k : Nat} (o : ByteArray) (h : k ≠ 0) : mkR (f + 1) k o = mkR f (k / 10) (chB k ++ o) := by rw [mkR, if_neg h]
set_option maxHeartbeats 1000000 in
set_option maxRecDepth 100000 in
theorem markText_any (K : Nat) (w : World) (h1 : 1 ≤ K) (hK : K ≤ 1000000000) :
    Calls Try.prog 37 #[.int .i64 K] w fun e w' => e = .returned (.string (mkB K)) ∧ Below w.heap.size w w' := by
  have hK0 : ¬ K = 0 := by omega
  go_enter Try.func37, Try.ntmps37
  go_wp2
  go_loopw [0, 3] (fun a o wr => ∃ (f k : Nat) (out : ByteArray), k ≤ f ∧ a = .int .i64 k ∧ o = .string out ∧ mkR f k out = mkR K K ⟨#[]⟩ ∧ out.size + k ≤ K ∧ Below w.heap.size w wr) (fun a _ _ => (intOf a).toNat)
  case atStart => exact ⟨K, K, ⟨#[]⟩, Nat.le_refl _, rfl, rfl, rfl, (by show 0 + K ≤ K; omega), Below.refl _ _⟩
  case round =>
    obtain ⟨f, k, out, hkf, rfl, rfl, hV, hsz, hB⟩ := hrel
    have HV := Lib.hid hV
    clear hV
    by_cases hz : k = 0
    · subst hz
      have hO : Hid (mkR K K ⟨#[]⟩ = out) := by rw [← HV.out, mkR_zero]; exact rfl
      have hcat : ¬ 9223372036854775807 < 1 + out.size := by omega
      go_wp2
      go_ret
      exact ⟨by rw [mkB, hO.out]; rfl, hB⟩
    · obtain ⟨f', rfl⟩ : ∃ f', f = f' + 1 := ⟨f - 1, by omega⟩
      have hS : Hid (mkR f' (k / 10) (chB k ++ out) = mkR K K ⟨#[]⟩) := by rw [← mkR_step out hz]; exact HV.out
      have hk0 : (0 : Int) < (k : Int) := by omega
      have tm : (k : Int).tmod 10 = (k : Int) % 10 := Int.tmod_eq_emod_of_nonneg (by omega)
      have td : (k : Int).tdiv 10 = (k : Int) / 10 := Int.tdiv_eq_ediv_of_nonneg (by omega)
      have e0 : 0 ≤ (k : Int) % 10 := by omega
      have e1 : (k : Int) % 10 ≤ 9 := by omega
      have hcat : ¬ 9223372036854775807 < 1 + out.size := by omega
      have hcv : (convert 86 9 (.slice (some ⟨wr.heap.size, 0, none⟩) 1 1)).run Try.prog (wr.alloc (.cells #[.int .u8 (48 + (k : Int) % 10)] 5)) = .ok (.string (chB k)) (wr.alloc (.cells #[.int .u8 (48 + (k : Int) % 10)] 5)) :=
        run_convert_bytes_back (P := Try.prog) _ 86 9 5 ⟨wr.heap.size, 0, none⟩ 1 [UInt8.ofNat (48 + k % 10)] Try.underlying86 Try.underlying5 Try.underlying9 (by
          intro j hj
          obtain rfl : j = 0 := by simpa using hj
          rw [Go.WideShapes.add_plain, World.cell?_alloc_new]
          simp only [List.getElem_cons_zero, digV]
          rfl)
      have hch : (chB k).size = 1 := rfl
      generalize chB k = ck at hcv hS hch
      go_wp2
      go_roundw
      case rel => exact ⟨f', k / 10, ck ++ out, by omega, by simp, rfl, hS.out, (by rw [ByteArray.size_append]; omega), hB.alloc hB.size _⟩
      case measure => simp [intOf]; omega
end Go.Proofs.Ytfnjndbnogeddaa
