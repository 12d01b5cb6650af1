/- StarsIn, the model's: a name put into a list. -/
import Derived.Test.YtichcfahmdlndaaP0
import Derived.Lib.SliceRun
namespace Go.Proofs.Ytichcfahmdlndaa
open Go.ChangeShapes Go.WideShapes Go.ChangeAt Go.RowKit Go.Deep

theorem S_info : (Try.prog.info? 9).map (fun i => (i.zero, i.size, i.bytes)) = some (some (.string ByteArray.empty), 1, 16) := by kernel_rfl
/-- what PutName hands back: the slice itself where it has the name, else a new one -/
def PutPost (v0 : Value) (B T : Nat) (ps : List ByteArray) (nm : ByteArray) (v : Value) (w' : World) : Prop :=
  (nm ∈ ps ∧ v = v0) ∨ (v ≠ .slice none 0 0 ∧ w'.ownsRow B T 1 v (putN ps nm).length ((putN ps nm).map Value.string))
set_option maxRecDepth 100000 in
set_option maxHeartbeats 4000000 in
theorem putName_any (b off : Nat) (n c : Nat) (ps : List ByteArray) (nm : ByteArray) (w : World) (h : SsL w (some ⟨b, off, none⟩) n ps) (hn : n ≤ 1048576) (hnc : n ≤ c) (hs : RiseN ps) :
    Calls Try.prog 62 #[.slice (some ⟨b, off, none⟩) n c, .string nm] w fun e w' => ∃ v, e = .returned v ∧ PutPost (.slice (some ⟨b, off, none⟩) n c) w.heap.size 9 ps nm v w' ∧ Below w.heap.size w w' := by
  have HL := Lib.hid h.1
  have HS := Lib.hid hs
  obtain ⟨i0, hi, hz0, hz1, hz2⟩ := info_parts S_info
  have hl : (n : Int) ≤ 1048576 := by omega
  have hnc' : (n : Int) ≤ (c : Int) := by omega
  clear hs
  go_enter Try.func62, Try.ntmps62
  go_wp2
  go_loopw [5] (fun kk wi => ∃ k : Nat, k ≤ n ∧ kk = .int .i64 k ∧ (∀ j, k ≤ j → j < n → bl nm (ps[j]?.getD ⟨#[]⟩) = true) ∧ w = wi) (fun kk _ => (Go.RowKit.intOf kk).toNat)
  case atStart => exact ⟨n, Nat.le_refl _, rfl, fun j h1 h2 => by omega, rfl⟩
  case round =>
    obtain ⟨k, hki, rfl, hall, rfl⟩ := hrel
    have HALL := Lib.hid hall
    clear hall
    have hki' : (k : Int) ≤ (n : Int) := by omega
    have hk00 : (0 : Int) ≤ (k : Int) := by omega
    have hkc : (k : Int) ≤ (c : Int) := by omega
    have tok1 : True := trivial
    have tok2 : True := trivial
    by_cases hk0 : 0 < k
    · obtain ⟨k', hk'⟩ : ∃ k', k = k' + 1 := ⟨k - 1, by omega⟩
      obtain ⟨b', off', e0, -, hc⟩ := h.2 k' (by omega)
      cases e0
      obtain ⟨y, hy⟩ : ∃ y, ps[k']?.getD ⟨#[]⟩ = y := ⟨_, rfl⟩
      rw [hy] at hc
      have HY := Lib.hid hy
      have HK := Lib.hid hk'
      have s1 : (k : Int) - 1 = (k' : Int) := by omega
      have s3 : (k' : Int) < (n : Int) := by omega
      clear hk' hy
      cases hless : Op.bytesLess y.toList nm.toList
      · cases heq : (y.toList == nm.toList)
        · have HB : Hid (bl nm y = true) := Lib.hid (by
            rcases bl_or y nm with h1 | h1 | h1
            · rw [show bl y nm = false from hless] at h1; cases h1
            · subst h1; simp at heq
            · exact h1)
          go_wp2
          go_roundw
          case rel =>
            have hk' := HK.out
            refine ⟨k', by omega, by go_num, fun j h1 h2 => ?_, by first | rfl | trivial⟩
            by_cases hjk : j = k'
            · subst hjk; rw [HY.out]; exact HB.out
            · exact HALL.out j (by omega) h2
          case measure => simp [Go.RowKit.intOf]; omega
        · have HM : Hid (nm ∈ ps) := Lib.hid (by
            have e := ba_eq.1 (eq_of_beq heq)
            have hkl : k' < ps.length := by have := HL.out; have := HK.out; omega
            have := HY.out
            rw [List.getElem?_eq_getElem hkl, Option.getD_some] at this
            rw [← e, ← this]
            exact List.getElem_mem hkl)
          go_wp2
          go_ret
          exact ⟨_, rfl, .inl ⟨HM.out, rfl⟩, Below.refl _ _⟩
      · have heq : (y.toList == nm.toList) = false := by
          cases h2 : (y.toList == nm.toList)
          · rfl
          · rw [ba_eq.1 (eq_of_beq h2)] at hless
            rw [show Op.bytesLess nm.toList nm.toList = false from bl_irrefl nm] at hless
            cases hless
        have HPUT := Lib.hid (putN_at (x := nm) HL.out hki HALL.out (fun j hj => by
          have hyy : bl (ps[k']?.getD ⟨#[]⟩) nm = true := by rw [HY.out]; exact hless
          by_cases hjk : j = k'
          · subst hjk; exact hyy
          · exact bl_trans (rise_lt HL.out HS.out (show j < k' by have := HK.out; omega) (by have := HK.out; omega)) hyy))
        by_cases hkc2 : c = k
        all_goals
          go_wp2_with (first | (at_builtin; have _t := tok1; refine wpList_append_own _ rfl _ _ 43 rfl w.heap.size 9 i0 _ 1 16 Try.underlying43 hi hz0 hz1 hz2 rfl (by decide) _ 0 [] rfl (World.ownsRow_lit w #[] 0 (Nat.le_refl _) (by unfold maxLen; omega) rfl) ⟨b, off, none⟩ k _ ((ps.take k).map Value.string) rfl (by rw [List.length_map, List.length_take, HL.out, Nat.min_eq_left hki, Nat.mul_one]) (ss_cells ((h.take hki).mono ((Below.refl _ w).alloc (Nat.le_refl _) _))) (ss_one _) (by unfold maxLen; omega) (by omega) (by simp) ?_; intro v6 w6 hown6 hg6 hnil6; clear tok1; have b56 : Below w.heap.size w w6 := ((Below.refl w.heap.size w).alloc (Nat.le_refl _) (.cells #[] 9)).grown hg6 (by simp) (fun j e => by have : w.heap.size = j := Option.some.inj e; omega); have z56 := b56.size; clear hg6) | (at_builtin; have _t := tok2; refine wpList_append_own _ rfl _ _ 43 rfl w.heap.size 9 i0 _ 1 16 Try.underlying43 hi hz0 hz1 hz2 rfl (by decide) _ _ _ rfl (hown6.alloc _) ⟨w6.heap.size, 0, none⟩ 1 1 [.string nm] rfl rfl (cell_one_new _ _ _) (by simp [Value.oneCell']) (by unfold maxLen; omega) (by omega) (by simp; omega) ?_; intro v7 w7 hown7 hg7 hnil7; clear tok2; have b57 : Below w.heap.size w w7 := (b56.alloc z56 (.cells #[.string nm] 9)).grown hg7 (by simp; omega) (fun j e => (hown6.lt j e).1); have z57 := b57.size; clear hg7) | (at_builtin; refine wpList_append_own _ rfl _ _ 43 rfl w.heap.size 9 i0 _ 1 16 Try.underlying43 hi hz0 hz1 hz2 rfl (by decide) _ _ _ rfl hown7 ⟨b, off + k, none⟩ (n - k) _ ((ps.drop k).map Value.string) rfl (by rw [List.length_map, List.length_drop, HL.out, Nat.mul_one]) (ss_cells ((h.drop hki).mono b57)) (ss_one _) (by unfold maxLen; omega) (by omega) z57 ?_) | (at_builtin; refine wpList_append_own _ rfl _ _ 43 rfl w.heap.size 9 i0 _ 1 16 Try.underlying43 hi hz0 hz1 hz2 rfl (by decide) _ _ _ rfl hown7 ⟨b, off, none⟩ (n - k) _ ((ps.drop k).map Value.string) rfl (by rw [List.length_map, List.length_drop, HL.out, Nat.mul_one]) (fun j u hj => by rw [List.drop_eq_nil_of_le (by have := HL.out; omega)] at hj; simp at hj) (ss_one _) (by unfold maxLen; omega) (by omega) z57 ?_))
          (intro v8 w8 hown8 hg8 hnil8; have C8 : Below w.heap.size w w8 := b57.grown hg8 z57 (fun j e => (hown7.lt j e).1); have HLEN : Hid ((putN ps nm).length = n + 1) := Lib.hid (by rw [HPUT.out]; rw [List.length_append, List.length_cons, List.length_take, List.length_drop, HL.out]; omega); have HFL : Hid ((putN ps nm).map Value.string = (ps.take k).map Value.string ++ ([.string nm] ++ (ps.drop k).map Value.string)) := Lib.hid (by rw [HPUT.out]; simp); have HOWN := Lib.hid hown8; clear hown8 hown7 hown6 hnil7 hg8; go_wp2; go_ret; exact ⟨v8, rfl, .inr ⟨hnil8, by rw [HLEN.out, HFL.out]; have h9 := HOWN.out; rw [show n + 1 = k + 1 + (n - k) from by omega]; simpa using h9⟩, C8⟩)
    · obtain rfl : k = 0 := by omega
      have HPUT := Lib.hid (putN_at (x := nm) HL.out (Nat.zero_le _) HALL.out (fun j hj => absurd hj (by omega)))
      go_wp2_with (first | (at_builtin; have _t := tok1; refine wpList_append_own _ rfl _ _ 43 rfl w.heap.size 9 i0 _ 1 16 Try.underlying43 hi hz0 hz1 hz2 rfl (by decide) _ 0 [] rfl (World.ownsRow_lit w #[] 0 (Nat.le_refl _) (by unfold maxLen; omega) rfl) _ 0 _ [] rfl rfl (fun j u hj => by simp at hj) (fun u hu => by simp at hu) (by unfold maxLen; omega) (by omega) (by simp) ?_; intro v6 w6 hown6 hg6 hnil6; clear tok1; have b56 : Below w.heap.size w w6 := ((Below.refl w.heap.size w).alloc (Nat.le_refl _) (.cells #[] 9)).grown hg6 (by simp) (fun j e => by have : w.heap.size = j := Option.some.inj e; omega); have z56 := b56.size; clear hg6) | (at_builtin; have _t := tok2; refine wpList_append_own _ rfl _ _ 43 rfl w.heap.size 9 i0 _ 1 16 Try.underlying43 hi hz0 hz1 hz2 rfl (by decide) _ _ _ rfl (hown6.alloc _) ⟨w6.heap.size, 0, none⟩ 1 1 [.string nm] rfl rfl (cell_one_new _ _ _) (by simp [Value.oneCell']) (by unfold maxLen; omega) (by omega) (by simp; omega) ?_; intro v7 w7 hown7 hg7 hnil7; clear tok2; have b57 : Below w.heap.size w w7 := (b56.alloc z56 (.cells #[.string nm] 9)).grown hg7 (by simp; omega) (fun j e => (hown6.lt j e).1); have z57 := b57.size; clear hg7) | (at_builtin; refine wpList_append_own _ rfl _ _ 43 rfl w.heap.size 9 i0 _ 1 16 Try.underlying43 hi hz0 hz1 hz2 rfl (by decide) _ _ _ rfl hown7 ⟨b, off, none⟩ n _ (ps.map Value.string) rfl (by rw [List.length_map, HL.out, Nat.mul_one]) (ss_cells (h.mono b57)) (ss_one _) (by unfold maxLen; omega) (by omega) z57 ?_))
      (intro v8 w8 hown8 hg8 hnil8; have C8 : Below w.heap.size w w8 := b57.grown hg8 z57 (fun j e => (hown7.lt j e).1); have HLEN : Hid ((putN ps nm).length = n + 1) := Lib.hid (by rw [HPUT.out]; rw [List.length_append, List.length_cons, List.length_take, List.length_drop, HL.out]; omega); have HFL : Hid ((putN ps nm).map Value.string = [.string nm] ++ ps.map Value.string) := Lib.hid (by rw [HPUT.out]; simp); have HOWN := Lib.hid hown8; clear hown8 hown7 hown6 hnil7 hg8; go_wp2; go_ret; exact ⟨v8, rfl, .inr ⟨hnil8, by rw [HLEN.out, HFL.out]; have h9 := HOWN.out; rw [show n + 1 = 1 + n from by omega]; simpa using h9⟩, C8⟩)
end Go.Proofs.Ytichcfahmdlndaa
