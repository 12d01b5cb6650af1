/- slices.Clone and slices.Insert at estimates: one more, at its place. -/
import Derived.Test.YtfnjndbnogeddaaGEs3
import Derived.Lib.SliceRun
import Derived.Deep.RegionHeld3
import Derived.Deep.AppendLies
import Derived.Shelf.Spec.SlicesInsertGrow
import Derived.Laws.CopyRow
namespace Go.Proofs.Ytfnjndbnogeddaa
open Go.ChangeShapes Go.WideShapes Go.ChangeAt Go.RowKit Go.Deep Go.Lib

/-- copy where an element has any number of cells -/
theorem run_copy_rowK {P : Program} (w : World) (dT sT ty elem : TypeId) (sz g o dLen dCap : Nat) (a : Addr) (sLen sCap : Nat) (cur : Array Value) (t : TypeId) (cs : List Value)
    (hu : P.underlying dT = some (.slice elem)) (hs : (P.info? elem).map (·.size) = some sz)
    (hg : w.heap[g]? = some (.cells cur t (0, 0))) (hn : cs.length = Nat.min sLen dLen * sz)
    (hsrc : ∀ j v, cs[j]? = some v → w.cell? (a.add j) = some v) (hfit : o + cs.length ≤ cur.size) (h1 : ∀ v ∈ cs, v.oneCell' = true) :
    (Builtin.copy_ #[dT, sT] ty #[.slice (some ⟨g, o, none⟩) dLen dCap, .slice (some a) sLen sCap]).run P w =
      .ok (goInt (Nat.min sLen dLen)) (w.setRow g (cur.toList.take o ++ cs ++ cur.toList.drop (o + cs.length)).toArray) := by
  have hl := run_loadCells_list (P := P) w a cs hsrc
  have hst := run_storeCells_at P g o t cs 0 cur w hg (by simpa using hfit) h1
  cases hq : P.info? elem with
  | none => simp [hq] at hs
  | some i =>
    have hi : i.size = sz := by simpa [hq] using hs
    simp [Builtin.copy_, run_underlying hu, Builtin.lenOf, Builtin.firstCells, sizeOf, typeInfo, hq, hi, ← hn, hl, hst]
theorem flatEs_take (xs : List Es) {k n : Nat} (hn : xs.length = n) (hk : k ≤ n) : (flatEs xs).take (k * 5) = flatEs (xs.take k) := by
  conv => lhs; rw [← List.take_append_drop k xs, flatEs_app]
  exact List.take_left' (by rw [flatEs_len, List.length_take, hn]; omega)
theorem flatEs_drop (xs : List Es) {k n : Nat} (hn : xs.length = n) (hk : k ≤ n) : (flatEs xs).drop (k * 5) = flatEs (xs.drop k) := by
  conv => lhs; rw [← List.take_append_drop k xs, flatEs_app]
  exact List.drop_left' (by rw [flatEs_len, List.length_take, hn]; omega)
theorem flatEs_put (xs : List Es) (x : Es) {i n : Nat} (hn : xs.length = n) (hi : i ≤ n) : flatEs (xs.take i ++ x :: xs.drop i) = (flatEs xs).take (i * 5) ++ flatEs [x] ++ (flatEs xs).drop (i * 5) := by
  rw [flatEs_take xs hn hi, flatEs_drop xs hn hi, show xs.take i ++ x :: xs.drop i = xs.take i ++ [x] ++ xs.drop i by simp, flatEs_app, flatEs_app]
/-- the two copies in place -/
def ins1 (cur F : List Value) (i : Nat) : List Value := cur.take ((i + 1) * 5) ++ F.drop (i * 5) ++ cur.drop ((i + 1) * 5 + (F.drop (i * 5)).length)
def ins2 (cur1 X : List Value) (i : Nat) : List Value := cur1.take (i * 5) ++ X ++ cur1.drop (i * 5 + X.length)
theorem ins_is {cur F X : List Value} {i n c : Nat} (hF : F.length = n * 5) (hX : X.length = 5) (hc : cur.length = c * 5) (hnc : n + 1 ≤ c) (hi : i ≤ n) (ht : cur.take (n * 5) = F) :
    (ins2 (ins1 cur F i) X i).length = c * 5 ∧ (ins2 (ins1 cur F i) X i).take ((n + 1) * 5) = F.take (i * 5) ++ X ++ F.drop (i * 5) := by
  have e1 : (F.drop (i * 5)).length = (n - i) * 5 := by rw [List.length_drop, hF]; omega
  have e2 : (cur.take ((i + 1) * 5)).length = (i + 1) * 5 := by rw [List.length_take, hc]; omega
  have e3 : (ins1 cur F i).take (i * 5) = F.take (i * 5) := by
    rw [ins1, List.append_assoc, List.take_append_of_le_length (by rw [e2]; omega), List.take_take, ← ht, List.take_take]
    congr 1; omega
  have e4 : (ins1 cur F i).drop (i * 5 + 5) = F.drop (i * 5) ++ cur.drop ((n + 1) * 5) := by
    rw [ins1, List.append_assoc, List.drop_left' (by rw [e2]; omega), e1]
    congr 2; omega
  have e5 : (F.take (i * 5)).length = i * 5 := by rw [List.length_take, hF]; omega
  unfold ins2
  rw [e3, hX, e4]
  refine ⟨?_, ?_⟩
  · simp only [List.length_append, List.length_drop, e5, hX, hF, hc]; omega
  · rw [← List.append_assoc]
    exact List.take_left' (by simp only [List.length_append, e5, hX, e1]; omega)
set_option maxRecDepth 100000 in
set_option maxHeartbeats 1000000 in
theorem cloneE_any (a : Option Addr) (n c : Nat) (xs : List Es) (w : World) (h : EsL w a n xs) (hn : n ≤ 1048576) :
    Calls Try.prog 35 #[.slice a n c] w fun e w' => ∃ v, e = .returned v ∧ w'.ownsRow w.heap.size 31 5 v n (flatEs xs) ∧ Below w.heap.size w w' := by
  have qT : ∀ (w : World) (a : Option Addr) (n c n' c' : Nat), (binOp .eql 27 (.slice a n c) (.slice none n' c')).run Try.prog w = .ok (.bool a.isNone) w := fun w a n c n' c' => Lib.run_eql_slice_nil w _ _ a n c n' c' Try.underlying27
  obtain ⟨i0, hi, hz0, hz1, hz2⟩ := info_parts Es_info
  have hl := h.1
  rcases a with _ | y
  · have h0 : n = 0 := by
      by_cases hz : n = 0
      · exact hz
      · obtain ⟨b, off, e, _⟩ := h.2 0 (by omega)
        cases e
    subst h0
    have hx : xs = [] := List.length_eq_zero_iff.1 hl
    subst hx
    go_enter Try.func35, Try.ntmps35
    go_wp2
    go_ret
    exact ⟨_, rfl, World.ownsRow_nil _ _ _ _, by (repeat (first | assumption | exact Below.refl _ _ | refine belowDN ?_ _ | refine Below.drew ?_ | refine Below.setCell ?_ (by first | omega | (simp <;> omega)) _ | refine Below.alloc ?_ (by first | omega | (simp <;> omega)) _ | refine belowCall ?_ (by assumption)))⟩
  · have hB0 : Below w.heap.size w (w.alloc (.cells #[] 31)) := (Below.refl _ _).alloc (Nat.le_refl _) _
    have hcl := flatEs_cells (h.mono hB0)
    go_enter Try.func35, Try.ntmps35
    go_wp2_with (at_builtin; refine wpList_append_own _ rfl _ _ 27 rfl w.heap.size 31 i0 _ 5 56 Try.underlying27 hi hz0 hz1 hz2 rfl (by decide) _ 0 [] rfl ?c0 y n c (flatEs xs) rfl (by rw [flatEs_len, hl]) hcl (flatEs_one xs) (by unfold maxLen; omega) (by omega) (by simp) ?_)
    case c0 => exact World.ownsRow_lit w #[] 0 (Nat.le_refl _) (by unfold maxLen; omega) rfl
    intro v' wb hownb hgb _
    have hBb : Below w.heap.size w wb := hB0.grown hgb (by simp) (fun k hk => by simp [Value.ownBlock] at hk; omega)
    go_wp2
    go_ret
    exact ⟨_, rfl, hownb, hBb⟩
set_option maxRecDepth 100000 in
set_option maxHeartbeats 4000000 in
/-- at the end -/
theorem insE_end (B n : Nat) (v : Value) (vb : Nat) (xs : List Es) (x : Es) (w : World) (hown : w.ownsRow B 31 5 v n (flatEs xs)) (hB : B ≤ w.heap.size) (hn : n ≤ 100)
    (hv : ∀ j u, (flatEs [x])[j]? = some u → w.cell? ((⟨vb, 0, none⟩ : Addr).add j) = some u) :
    Calls Try.prog 34 #[v, .int .i64 n, .slice (some ⟨vb, 0, none⟩) 1 1] w fun e w' => ∃ v', e = .returned v' ∧ w'.ownsRow B 31 5 v' (n + 1) (flatEs (xs ++ [x])) ∧ Below B w w' := by
  obtain ⟨i0, hi, hz0, hz1, hz2⟩ := info_parts Es_info
  have hB' := fun g (hg : v.ownBlock = some g) => (hown.lt g hg).1
  obtain ⟨a, c, rfl, hnc⟩ : ∃ a c, v = .slice a n c ∧ (n : Int) ≤ (c : Int) := by
    rcases hown.2 with ⟨rfl, rfl⟩ | ⟨g, cap, cur, rfl, _, _, hnc, _⟩
    · exact ⟨none, 0, rfl, by omega⟩
    · exact ⟨_, cap, rfl, by omega⟩
  have hnz : (0 : Int) ≤ (n : Int) := by omega
  have hnn : ((n : Int) == (n : Int)) = true := by simp
  rcases Nat.decEq c n with hcn | hcn
  case' isTrue => subst hcn
  all_goals
    go_enter Try.func34, Try.ntmps34
    go_wp2_with (at_builtin; refine wpList_append_own _ rfl _ _ 27 rfl B 31 i0 _ 5 56 Try.underlying27 hi hz0 hz1 hz2 rfl (by decide) _ _ (flatEs xs) rfl hown ⟨vb, 0, none⟩ 1 1 (flatEs [x]) rfl (by rw [flatEs_len]; rfl) hv (flatEs_one [x]) (by unfold maxLen; omega) (by omega) hB ?_)
    intro v' wb hownb hgb _
    rw [← flatEs_app] at hownb
    have HO := Lib.hid hownb
    have HB : Below B w wb := (Below.refl _ _).grown hgb hB (fun k hk => hB' k hk)
    clear hownb hgb
    go_wp2
    go_ret
    exact ⟨_, rfl, HO.out, HB⟩
set_option maxRecDepth 100000 in
set_option maxHeartbeats 4000000 in
/-- where there is room: in place -/
theorem insE_room (g n c i vb : Nat) (xs : List Es) (x0 : Int) (x1 x2 : ByteArray) (x3 : Int) (x4 : Bool) (cur : Array Value) (w : World) (hg : w.heap[g]? = some (.cells cur 31 (0, 0))) (hcs : cur.size = c * 5) (ht : cur.toList.take (n * 5) = flatEs xs) (hxl : xs.length = n)
    (hvb : w.heap[vb]? = some (.cells #[.int .i64 x0, .string x1, .string x2, .int .i64 x3, .bool x4] 31 (0, 0))) (hne : vb ≠ g) (hi : i < n) (hroom : n + 1 ≤ c) (hn : n ≤ 100) :
    Calls Try.prog 34 #[.slice (some ⟨g, 0, none⟩) n c, .int .i64 i, .slice (some ⟨vb, 0, none⟩) 1 1] w fun e w' => e = .returned (.slice (some ⟨g, 0, none⟩) (n + 1) c) ∧ (∃ cur2 : Array Value, w'.heap[g]? = some (.cells cur2 31 (0, 0)) ∧ cur2.size = c * 5 ∧ cur2.toList.take ((n + 1) * 5) = flatEs (xs.take i ++ (x0, x1, x2, x3, x4) :: xs.drop i)) ∧ w.grownBy w' (some g) := by
  have hFl : (flatEs xs).length = n * 5 := by rw [flatEs_len, hxl]
  have hX : (flatEs [(x0, x1, x2, x3, x4)]) = [.int .i64 x0, .string x1, .string x2, .int .i64 x3, .bool x4] := rfl
  obtain ⟨i0, hi0, hz0, hz1, hz2⟩ := info_parts Es_info
  have hsz : (Try.prog.info? 31).map (·.size) = some 5 := by rw [hi0]; simp [hz1]
  have hzs : ∀ w, (Go.sizeOf 31).run Try.prog w = .ok 5 w := fun w => by simp [Go.sizeOf, Go.typeInfo, hi0, hz1]
  have hsa : w.shape? vb = some (31, 5) := by simp [World.shape?, hvb]
  have hsb : w.shape? g = some (31, c * 5) := by simp [World.shape?, hg, hcs]
  have hfa : w.frozen? ⟨vb, 0, none⟩ = false := by simp [World.frozen?, hvb]
  have hfe : w.frozen? ⟨vb, 5, none⟩ = false := by simp [World.frozen?, hvb]
  have hov : ∀ lb cb, (callFunc 57 #[.slice (some ⟨vb, 0, none⟩) 1 1, .slice (some ⟨g, (i + 1) * 5, none⟩) lb cb]).run Try.prog w = .ok (.value (.bool false)) w := fun lb cb => by
    rw [run_callFunc_extern Try.func57 (by kernel_rfl) (by kernel_rfl) (by kernel_rfl) (e := Extern.SlicesOverlaps.overlaps #[27, 27] #[4]) (by kernel_rfl),
      Lib.run_overlaps_apart w 27 4 31 Try.underlying27 5 hzs ⟨vb, 0, none⟩ ⟨g, (i + 1) * 5, none⟩ 1 1 lb cb hne _ _ 5 (c * 5) hsa hsb (by omega) hfa hfe]
    rfl
  have hdl : ((flatEs xs).drop (i * 5)).length = (n - i) * 5 := by rw [List.length_drop, hFl]; omega
  have hat : ∀ j v, ((flatEs xs).drop (i * 5))[j]? = some v → cur[i * 5 + j]? = some v := fun j v hj => by
    rw [List.getElem?_drop, ← ht, List.getElem?_take] at hj
    split at hj
    · simpa using hj
    · cases hj
  obtain ⟨cur1, hc1⟩ : ∃ cur1 : Array Value, cur1 = (ins1 cur.toList (flatEs xs) i).toArray := ⟨_, rfl⟩
  have hcp1 : ∀ ty dc sc, (Builtin.copy_ #[27, 27] ty #[.slice (some ⟨g, (i + 1) * 5, none⟩) (n - i) dc, .slice (some ⟨g, i * 5, none⟩) (n + 1 - i) sc]).run Try.prog w.drew = .ok (goInt (Nat.min (n + 1 - i) (n - i))) (w.drew.setRow g cur1) := fun ty dc sc => by
    rw [hc1]
    exact run_copy_rowK w.drew _ _ ty 31 5 g ((i + 1) * 5) (n - i) dc ⟨g, i * 5, none⟩ (n + 1 - i) sc cur 31 ((flatEs xs).drop (i * 5)) Try.underlying27 hsz hg (by rw [hdl]; simp only [Nat.min_def]; split <;> omega)
      (fun j v hj => by rw [Addr.add_lit]; show w.cell? ⟨g, i * 5 + j, none⟩ = some v; simp [World.cell?, hg]; exact hat j v hj) (by rw [hdl, hcs]; omega) (fun v hv => flatEs_one xs v (List.mem_of_mem_drop hv))
  obtain ⟨W1, hW1⟩ : ∃ W1, W1 = w.drew.setRow g cur1 := ⟨_, rfl⟩
  have hg1 : W1.heap[g]? = some (.cells cur1 31 (0, 0)) := by rw [hW1]; exact setRow_heap w.drew g cur cur1 _ _ hg
  have hv1 : W1.heap[vb]? = some (.cells #[.int .i64 x0, .string x1, .string x2, .int .i64 x3, .bool x4] 31 (0, 0)) := by rw [hW1, setRow_other w.drew g vb cur1 hne]; exact hvb
  have hgw : w.grownBy W1 (some g) := by
    rw [hW1]
    exact ⟨rfl, rfl, rfl, by simp, fun k hk hk2 => setRow_other w.drew g k cur1 (fun e => hk2 (by rw [e]))⟩
  have hls : (ins1 cur.toList (flatEs xs) i).length = c * 5 := by
    have : (cur.toList).length = c * 5 := by simpa using hcs
    simp only [ins1, List.length_append, List.length_take, List.length_drop, hFl, this]; omega
  obtain ⟨cur2, hc2⟩ : ∃ cur2 : Array Value, cur2 = (ins2 cur1.toList (flatEs [(x0, x1, x2, x3, x4)]) i).toArray := ⟨_, rfl⟩
  have hcp2 : ∀ ty dc, (Builtin.copy_ #[27, 27] ty #[.slice (some ⟨g, i * 5, none⟩) (n + 1 - i) dc, .slice (some ⟨vb, 0, none⟩) 1 1]).run Try.prog W1 = .ok (goInt (Nat.min 1 (n + 1 - i))) (W1.setRow g cur2) := fun ty dc => by
    rw [hc2]
    exact run_copy_rowK W1 _ _ ty 31 5 g (i * 5) (n + 1 - i) dc ⟨vb, 0, none⟩ 1 1 cur1 31 (flatEs [(x0, x1, x2, x3, x4)]) Try.underlying27 hsz hg1 (by rw [hX]; simp only [Nat.min_def, List.length_cons, List.length_nil]; split <;> omega)
      (fun j v hj => by rw [Addr.add_lit]; simp [World.cell?, hv1]; rw [hX] at hj; simpa using hj) (by rw [hX]; simp only [List.length_cons, List.length_nil]; rw [hc1]; simp only [List.size_toArray]; rw [hls]; omega) (flatEs_one _)
  have hend : cur2.size = c * 5 ∧ cur2.toList.take ((n + 1) * 5) = flatEs (xs.take i ++ (x0, x1, x2, x3, x4) :: xs.drop i) := by
    have h9 := ins_is (cur := cur.toList) (F := flatEs xs) (X := flatEs [(x0, x1, x2, x3, x4)]) (i := i) (n := n) (c := c) hFl rfl (by simpa using hcs) hroom (by omega) ht
    rw [hc2, hc1, flatEs_put xs _ hxl (by omega)]
    exact ⟨by simpa using h9.1, by simpa using h9.2⟩
  have HE : Hid ((∃ cur2 : Array Value, (W1.setRow g cur2).heap[g]? = some (.cells cur2 31 (0, 0)) ∧ W1.setRow g cur2 = W1.setRow g cur2 ∧ cur2.size = c * 5 ∧ cur2.toList.take ((n + 1) * 5) = flatEs (xs.take i ++ (x0, x1, x2, x3, x4) :: xs.drop i))) := Lib.hid ⟨cur2, setRow_heap W1 g cur1 cur2 _ _ hg1, rfl, hend⟩
  have HEND : Hid ((∃ cur3 : Array Value, (W1.setRow g cur2).heap[g]? = some (.cells cur3 31 (0, 0)) ∧ cur3.size = c * 5 ∧ cur3.toList.take ((n + 1) * 5) = flatEs (xs.take i ++ (x0, x1, x2, x3, x4) :: xs.drop i)) ∧ w.grownBy (W1.setRow g cur2) (some g)) := Lib.hid ⟨⟨cur2, setRow_heap W1 g cur1 cur2 _ _ hg1, hend⟩, ⟨hgw.os, hgw.tape, hgw.output, by simp; exact hgw.size, fun k hk hk2 => (setRow_other W1 g k cur2 (fun e => hk2 (by rw [e]))).trans (hgw.block k hk hk2)⟩⟩
  rw [← hW1] at hcp1
  clear HE hend hat hc1 hc2 hls hgw hg1 hv1 hdl hfa hfe hsa hsb hzs hW1
  have mixed : Try.prog.follows .mixedOrders = true := by kernel_rfl
  have hin : (i : Int) < (n : Int) := by omega
  have hin2 : ¬ ((i : Int) = (n : Int)) := by omega
  have hw1 : IntKind.i64.wrap ((n : Int) + 1) = (n : Int) + 1 := IntWalk.i64_in _ (by omega)
  have hw2 : IntKind.i64.wrap ((i : Int) + 1) = (i : Int) + 1 := IntWalk.i64_in _ (by omega)
  have hb0 : (0 : Int) ≤ (i : Int) + 1 := by omega
  have hb1 : (n : Int) + 1 ≤ (c : Int) := by omega
  have hb2 : (i : Int) + 1 ≤ (n : Int) + 1 := by omega
  have hb3 : (i : Int) ≤ (n : Int) + 1 := by omega
  have hb4 : ¬ (c : Int) < (n : Int) + 1 := by omega
  have hb5 : ((i : Int) + 1).toNat = i + 1 := by omega
  have hb6 : ((n : Int) + 1).toNat = n + 1 := by omega
  have hb7 : ¬ (c = i + 1) := by omega
  have hb8 : ¬ (c = i) := by omega
  go_enter Try.func34, Try.ntmps34
  go_wp2_with (simp only [hov])
  go_region_law_o (refine step_copy_runI rfl _ _ 27 27 rfl _ _ (by simp [Act.eval, Act.put]) (by simp [Act.eval, Act.put]) (hcp1 _ _ _) ?_)
  go_wp2_with (at_builtin; refine wpList_copy_runI _ rfl _ _ 27 27 rfl _ _ rfl rfl (hcp2 _ _) ?_)
  go_ret
  exact ⟨rfl, HEND.out⟩
set_option maxRecDepth 100000 in
set_option maxHeartbeats 4000000 in
/-- where there is none: a new row -/
theorem insE_grow (g n i vb : Nat) (xs : List Es) (x0 : Int) (x1 x2 : ByteArray) (x3 : Int) (x4 : Bool) (cur : Array Value) (w : World) (hg : w.heap[g]? = some (.cells cur 31 (0, 0))) (hcs : cur.size = n * 5) (ht : cur.toList.take (n * 5) = flatEs xs) (hxl : xs.length = n)
    (hvb : w.heap[vb]? = some (.cells #[.int .i64 x0, .string x1, .string x2, .int .i64 x3, .bool x4] 31 (0, 0))) (hi : i < n) (hn : n ≤ 100) :
    Calls Try.prog 34 #[.slice (some ⟨g, 0, none⟩) n n, .int .i64 i, .slice (some ⟨vb, 0, none⟩) 1 1] w fun e w' => ∃ G, e = .returned (.slice (some ⟨w.heap.size, 0, none⟩) (n + 1) G) ∧ n + 1 ≤ G ∧ G ≤ maxLen ∧ (∃ cur2 : Array Value, w'.heap[w.heap.size]? = some (.cells cur2 31 (0, 0)) ∧ cur2.size = G * 5 ∧ cur2.toList.take ((n + 1) * 5) = flatEs (xs.take i ++ (x0, x1, x2, x3, x4) :: xs.drop i)) ∧ w.grownBy w' none := by
  have hFl : (flatEs xs).length = n * 5 := by rw [flatEs_len, hxl]
  have hX : (flatEs [(x0, x1, x2, x3, x4)]) = [.int .i64 x0, .string x1, .string x2, .int .i64 x3, .bool x4] := rfl
  obtain ⟨i0, hi0, hz0, hz1, hz2⟩ := info_parts Es_info
  have hsz : (Try.prog.info? 31).map (·.size) = some 5 := by rw [hi0]; simp [hz1]
  have hgl : g < w.heap.size := (Array.getElem?_eq_some_iff.1 hg).1
  have hvl : vb < w.heap.size := (Array.getElem?_eq_some_iff.1 hvb).1
  have hat : ∀ (k j : Nat) v, ((flatEs xs).drop k)[j]? = some v → cur[k + j]? = some v := fun k j v hj => by
    rw [List.getElem?_drop, ← ht, List.getElem?_take] at hj
    split at hj
    · simpa using hj
    · cases hj
  have hold : (Builtin.firstCells i0.size i (.slice (some ⟨g, 0, none⟩) i n)).run Try.prog w.drew = .ok ((flatEs xs).take (i * 5)).toArray w.drew := by
    rw [hz1]
    exact run_firstCells_some w.drew 5 i ⟨g, 0, none⟩ i n ((flatEs xs).take (i * 5)) (by rw [List.length_take, hFl]; omega) (fun j v hj => by
      rw [Addr.add_lit, Nat.zero_add]
      show w.cell? ⟨g, j, none⟩ = some v
      rw [List.getElem?_take] at hj
      split at hj
      · simp [World.cell?, hg]; have := hat 0 j v (by simpa using hj); simpa using this
      · cases hj)
  obtain ⟨Z, hZ⟩ : ∃ Z : Array Value, Z = (Value.agg #[.int .i64 0, .string ByteArray.empty, .string ByteArray.empty, .int .i64 0, .bool false]).cells := ⟨_, rfl⟩
  have hZ5 : Z.size = 5 := by rw [hZ]; rfl
  obtain ⟨G, hG⟩ : ∃ G, G = grownCap w (n + 1) n 31 := ⟨_, rfl⟩
  have hGn : n + 1 ≤ G := by rw [hG]; exact grownCap_ge w _ _ _
  have hGm : G ≤ maxLen := by rw [hG]; exact grownCap_le_maxLen w (n + 1) n _ (by unfold maxLen; omega)
  have hG63 : G ≤ 9223372036854775807 := by unfold maxLen at hGm; omega
  obtain ⟨ROW, hROW⟩ : ∃ ROW : Array Value, ROW = ((flatEs xs).take (i * 5)).toArray ++ Builtin.zeroCells Z (n + 1 - i) ++ Builtin.zeroCells Z (G - (n + 1)) := ⟨_, rfl⟩
  have hzl : ∀ k, (Builtin.zeroCells Z k).size = k * 5 := fun k => by simp [Builtin.zeroCells, hZ5]
  have hFt : ((flatEs xs).take (i * 5)).length = i * 5 := by rw [List.length_take, hFl]; omega
  have hRs : ROW.size = G * 5 := by
    rw [hROW]; simp only [Array.size_append, List.size_toArray, hzl, hFt]; omega
  have hRt : ROW.toList.take (i * 5) = (flatEs xs).take (i * 5) := by
    rw [hROW]; simp only [Array.toList_append, List.append_assoc]
    exact List.take_left' hFt
  have hrz : ∀ ty, (Builtin.append_ #[27, 3] ty #[.slice (some ⟨g, 0, none⟩) i n, .int .i64 ((n : Int) + 1 - (i : Int))]).run Try.prog w =
      .ok (.slice (some ⟨w.heap.size, 0, none⟩) (n + 1) G) (w.drew.alloc (.cells ROW 31)) := fun ty => by
    have h := Lib.run_append_grow_zeros w 27 3 ty 31 i0 _ .i64 .i64 Try.underlying27 Try.underlying3 hi0 hz0 (some ⟨g, 0, none⟩) i n _ hold (n + 1 - i) (by omega) (by omega) (by omega) (by omega) (by rw [hz2]; omega) (by rw [hz2, show i + (n + 1 - i) = n + 1 by omega]; exact growslice_fits (by omega) (by omega))
    rw [show i + (n + 1 - i) = n + 1 by omega, ← hG, ← hZ, ← hROW] at h
    rw [show (n : Int) + 1 - (i : Int) = ((n + 1 - i : Nat) : Int) by omega]
    exact h
  obtain ⟨W1, hW1⟩ : ∃ W1, W1 = w.drew.alloc (.cells ROW 31) := ⟨_, rfl⟩
  rw [← hW1] at hrz
  have hb1 : W1.heap[w.heap.size]? = some (.cells ROW 31 (0, 0)) := by rw [hW1]; show (w.heap.push _)[w.heap.size]? = _; rw [Array.getElem?_push_size]
  have hold1 : ∀ k, k < w.heap.size → W1.heap[k]? = w.heap[k]? := fun k hk => by rw [hW1]; show (w.heap.push _)[k]? = _; rw [Array.getElem?_push_lt hk, Array.getElem?_eq_getElem hk]
  have hs1 : W1.heap.size = w.heap.size + 1 := by rw [hW1]; show (w.heap.push _).size = _; simp
  have hgr1 : W1.os = w.os ∧ W1.tape = w.tape ∧ W1.output = w.output := by rw [hW1]; exact ⟨rfl, rfl, rfl⟩
  clear hW1
  obtain ⟨c1, hc1⟩ : ∃ c1 : Array Value, c1 = (ins2 ROW.toList (flatEs [(x0, x1, x2, x3, x4)]) i).toArray := ⟨_, rfl⟩
  have hcpA : ∀ ty dc, (Builtin.copy_ #[27, 27] ty #[.slice (some ⟨w.heap.size, i * 5, none⟩) (n + 1 - i) dc, .slice (some ⟨vb, 0, none⟩) 1 1]).run Try.prog W1 = .ok (goInt (Nat.min 1 (n + 1 - i))) (W1.setRow w.heap.size c1) := fun ty dc => by
    rw [hc1]
    exact run_copy_rowK W1 _ _ ty 31 5 w.heap.size (i * 5) (n + 1 - i) dc ⟨vb, 0, none⟩ 1 1 ROW 31 (flatEs [(x0, x1, x2, x3, x4)]) Try.underlying27 hsz hb1 (by rw [hX]; simp only [Nat.min_def, List.length_cons, List.length_nil]; split <;> omega)
      (fun j v hj => by rw [Addr.add_lit]; simp [World.cell?, hold1 vb hvl, hvb]; rw [hX] at hj; simpa using hj) (by rw [hX]; simp only [List.length_cons, List.length_nil]; omega) (flatEs_one _)
  obtain ⟨W2, hW2⟩ : ∃ W2, W2 = W1.setRow w.heap.size c1 := ⟨_, rfl⟩
  rw [← hW2] at hcpA
  have hb2 : W2.heap[w.heap.size]? = some (.cells c1 31 (0, 0)) := by rw [hW2]; exact setRow_heap W1 w.heap.size ROW c1 _ _ hb1
  have hold2 : ∀ k, k < w.heap.size → W2.heap[k]? = w.heap[k]? := fun k hk => by rw [hW2, setRow_other W1 w.heap.size k c1 (by omega)]; exact hold1 k hk
  have hs2 : W2.heap.size = w.heap.size + 1 := by rw [hW2]; simp [hs1]
  have hgr2 : W2.os = w.os ∧ W2.tape = w.tape ∧ W2.output = w.output := by rw [hW2]; exact hgr1
  clear hW2 hb1 hold1 hs1 hgr1
  have hdl : ((flatEs xs).drop (i * 5)).length = (n - i) * 5 := by rw [List.length_drop, hFl]; omega
  have hl1 : (ins2 ROW.toList (flatEs [(x0, x1, x2, x3, x4)]) i).length = G * 5 := by
    have : ROW.toList.length = G * 5 := by simpa using hRs
    simp only [ins2, List.length_append, List.length_take, List.length_drop, this, flatEs_len, List.length_cons, List.length_nil]; omega
  obtain ⟨c2, hc2⟩ : ∃ c2 : Array Value, c2 = (c1.toList.take ((i + 1) * 5) ++ (flatEs xs).drop (i * 5) ++ c1.toList.drop ((i + 1) * 5 + ((flatEs xs).drop (i * 5)).length)).toArray := ⟨_, rfl⟩
  have hcpB : ∀ ty dc sc, (Builtin.copy_ #[27, 27] ty #[.slice (some ⟨w.heap.size, (i + 1) * 5, none⟩) (n - i) dc, .slice (some ⟨g, i * 5, none⟩) (n - i) sc]).run Try.prog W2.drew = .ok (goInt (Nat.min (n - i) (n - i))) (W2.drew.setRow w.heap.size c2) := fun ty dc sc => by
    rw [hc2]
    exact run_copy_rowK W2.drew _ _ ty 31 5 w.heap.size ((i + 1) * 5) (n - i) dc ⟨g, i * 5, none⟩ (n - i) sc c1 31 ((flatEs xs).drop (i * 5)) Try.underlying27 hsz hb2 (by rw [hdl]; simp only [Nat.min_def]; split <;> omega)
      (fun j v hj => by rw [Addr.add_lit]; show W2.cell? ⟨g, i * 5 + j, none⟩ = some v; simp [World.cell?, hold2 g hgl, hg]; exact hat (i * 5) j v hj) (by rw [hdl, hc1]; simp only [List.size_toArray]; rw [hl1]; omega) (fun v hv => flatEs_one xs v (List.mem_of_mem_drop hv))
  have hend : c2.size = G * 5 ∧ c2.toList.take ((n + 1) * 5) = flatEs (xs.take i ++ (x0, x1, x2, x3, x4) :: xs.drop i) := by
    have e5 : c1.toList.take ((i + 1) * 5) = (flatEs xs).take (i * 5) ++ flatEs [(x0, x1, x2, x3, x4)] := by
      rw [hc1, ins2, hRt]
      exact List.take_left' (by simp only [List.length_append, hFt, flatEs_len, List.length_cons, List.length_nil]; omega)
    rw [hc2, flatEs_put xs _ hxl (by omega), e5]
    refine ⟨?_, List.take_left' (by simp only [List.length_append, hFt, hdl, flatEs_len, List.length_cons, List.length_nil]; omega)⟩
    have : c1.toList.length = G * 5 := by rw [hc1]; simpa using hl1
    simp only [List.size_toArray, List.length_append, List.length_drop, hFt, hdl, flatEs_len, List.length_cons, List.length_nil, this]; omega
  have HEND : Hid ((∃ cur3 : Array Value, (W2.drew.setRow w.heap.size c2).heap[w.heap.size]? = some (.cells cur3 31 (0, 0)) ∧ cur3.size = G * 5 ∧ cur3.toList.take ((n + 1) * 5) = flatEs (xs.take i ++ (x0, x1, x2, x3, x4) :: xs.drop i)) ∧ w.grownBy (W2.drew.setRow w.heap.size c2) none) := Lib.hid ⟨⟨c2, setRow_heap W2.drew w.heap.size c1 c2 _ _ hb2, hend⟩, ⟨hgr2.1, hgr2.2.1, hgr2.2.2, by simp; show w.heap.size ≤ W2.heap.size; omega, fun k hk _ => (setRow_other W2.drew w.heap.size k c2 (by omega)).trans (hold2 k hk)⟩⟩
  clear hend hc2 hl1 hdl hb2 hold2 hs2 hgr2 hc1 hRt hRs hROW hold hat hG hZ hZ5 hzl hFt hsz
  have mixed : Try.prog.follows .mixedOrders = true := by kernel_rfl
  have hin : (i : Int) < (n : Int) := by omega
  have hin2 : ¬ ((i : Int) = (n : Int)) := by omega
  have hw1 : IntKind.i64.wrap ((n : Int) + 1) = (n : Int) + 1 := IntWalk.i64_in _ (by omega)
  have hw2 : IntKind.i64.wrap ((i : Int) + 1) = (i : Int) + 1 := IntWalk.i64_in _ (by omega)
  have hw3 : IntKind.i64.wrap ((n : Int) + 1 - (i : Int)) = (n : Int) + 1 - (i : Int) := IntWalk.i64_in _ (by omega)
  have ha0 : (0 : Int) ≤ (i : Int) + 1 := by omega
  have ha2 : (i : Int) + 1 ≤ (n : Int) + 1 := by omega
  have ha3 : (i : Int) ≤ (n : Int) + 1 := by omega
  have ha4 : (i : Int) ≤ (n : Int) := by omega
  have ha5 : ((i : Int) + 1).toNat = i + 1 := by omega
  have ha6 : ((n : Int) + 1).toNat = n + 1 := by omega
  have ha7 : ¬ (G = i + 1) := by omega
  have ha8 : ¬ (G = i) := by omega
  have ha9 : ¬ (n = i) := by omega
  go_enter Try.func34, Try.ntmps34
  go_wp2_with (first
    | (at_builtin; refine Lib.wpList_append_run _ rfl _ _ _ _ rfl _ _ rfl rfl _ _ (hrz _) ?_)
    | (at_builtin; refine wpList_copy_runI _ rfl _ _ 27 27 rfl _ _ rfl rfl (hcpA _ _) ?_))
  go_region_law_o (refine step_copy_runI rfl _ _ 27 27 rfl _ _ (by simp [Act.eval, Act.put]) (by simp [Act.eval, Act.put]) (hcpB _ _ _) ?_)
  go_wp2
  go_ret
  exact ⟨_, rfl, hGn, hGm, HEND.out⟩
/-- one more estimate, at its place -/
theorem insE_any (B n i : Nat) (v : Value) (vb : Nat) (xs : List Es) (x0 : Int) (x1 x2 : ByteArray) (x3 : Int) (x4 : Bool) (w : World) (hown : w.ownsRow B 31 5 v n (flatEs xs)) (hxl : xs.length = n) (hB : B ≤ w.heap.size) (hn : n ≤ 100) (hi : i ≤ n)
    (hvb : w.heap[vb]? = some (.cells #[.int .i64 x0, .string x1, .string x2, .int .i64 x3, .bool x4] 31 (0, 0))) (hne : v.ownBlock ≠ some vb) :
    Calls Try.prog 34 #[v, .int .i64 i, .slice (some ⟨vb, 0, none⟩) 1 1] w fun e w' => ∃ v', e = .returned v' ∧ w'.ownsRow B 31 5 v' (n + 1) (flatEs (xs.take i ++ (x0, x1, x2, x3, x4) :: xs.drop i)) ∧ Below B w w' := by
  by_cases he : i = n
  · subst he
    have e1 : xs.take i ++ (x0, x1, x2, x3, x4) :: xs.drop i = xs ++ [(x0, x1, x2, x3, x4)] := by rw [List.take_of_length_le (by omega), List.drop_of_length_le (by omega)]
    rw [e1]
    exact insE_end B i v vb xs _ w hown hB hn (fun j u hj => by
      rw [Go.WideShapes.add_plain, Nat.zero_add]
      simp [World.cell?, hvb]
      exact hj)
  · have hlen : (xs.take i ++ (x0, x1, x2, x3, x4) :: xs.drop i).length = n + 1 := by simp; omega
    rcases hown.2 with ⟨rfl, h0⟩ | ⟨g, cap, cur, rfl, hBg, hg, hnc, hcm, hcs, ht⟩
    · omega
    · by_cases hroom : n + 1 ≤ cap
      · refine (insE_room g n cap i vb xs x0 x1 x2 x3 x4 cur w hg hcs ht hxl hvb (fun e => hne (by rw [e]; rfl)) (by omega) hroom hn).mono ?_
        rintro e w' ⟨rfl, ⟨cur2, h1, h2, h3⟩, hgr⟩
        exact ⟨_, rfl, ⟨by rw [flatEs_len, hlen], .inr ⟨g, cap, cur2, rfl, hBg, h1, hroom, hcm, h2, h3⟩⟩, (Below.refl _ _).grown hgr hB (fun k hk => by cases hk; exact hBg)⟩
      · obtain rfl : cap = n := by omega
        refine (insE_grow g cap i vb xs x0 x1 x2 x3 x4 cur w hg hcs ht hxl hvb (by omega) hn).mono ?_
        rintro e w' ⟨G, rfl, hG1, hG2, ⟨cur2, h1, h2, h3⟩, hgr⟩
        exact ⟨_, rfl, ⟨by rw [flatEs_len, hlen], .inr ⟨w.heap.size, G, cur2, rfl, hB, h1, hG1, hG2, h2, h3⟩⟩, (Below.refl _ _).grown hgr hB (fun k hk => by cases hk)⟩
end Go.Proofs.Ytfnjndbnogeddaa
