/- ReadDate: the program's (strings.SplitN, strconv.ParseInt, then the text written again). -/
import Derived.Test.YtfebellnmdfpiabDoorR9
import Derived.Test.YtfebellnmdfpiabDoorR6
namespace Go.Proofs.YtfebellnmdfpiabDoor
open Go.ChangeShapes Go.WideShapes Go.ChangeAt Go.RowKit

theorem splitK_hit1 {c : UInt8} {a b : List UInt8} (k : Nat) (h : ∀ x ∈ a, x ≠ c) : Lib.splitK [c] 0 (k + 1) (a ++ c :: b) = a :: Lib.splitK [c] 0 k b := by
  have hi : Lib.index (a ++ c :: b) [c] = (a.length : Int) := by rw [Lib.index_one]; exact indexByte_at h
  rw [Lib.splitK, hi]
  have : ((a.length : Int) == -1) = false := by simp
  rw [this]
  simp
theorem dg45 {l : List UInt8} (h : l.all isDg = true) : ∀ x ∈ l, x ≠ 45 := fun x hx => (dg_ne (List.all_eq_true.1 h x hx)).1
theorem parse_pad {l : List UInt8} {n k : Nat} (hl : l.length = k + 1) (h18 : k + 1 ≤ 18) (hd : l.all isDg = true) (hv : dval l = n) : Lib.parseIntB 64 l = .ok (n : Int) := by
  rw [parse_digits (by intro e; subst e; simp at hl) hd (by omega), hv]
/-- what a date's text is cut into, and what its pieces spell -/
theorem dat_pieces {y m d : Int} (h : vdB y m d = true) {l : List UInt8} (he : dateP y m d = l) {P : List (List UInt8)} (hP : P = Lib.splitK [45] 0 (min 3 (l.length + 1) - 1) l) :
    P.length = 3 ∧ Lib.parseIntB 64 (P[0]?.getD []) = .ok y ∧ Lib.parseIntB 64 (P[1]?.getD []) = .ok m ∧ Lib.parseIntB 64 (P[2]?.getD []) = .ok d := by
  obtain ⟨p0, _, _, _, _, _, q1, q2, q3, r1, r2, r3⟩ := dat_parts h he
  obtain ⟨h1, h2, h3, h4, h5, h6⟩ := vd_bounds h
  have hs : P = [padL y 4, padL m 2, padL d 2] := by
    rw [hP, p0, show min 3 (10 + 1) - 1 = 1 + 1 from by decide, ← he, dateP, splitK_hit1 1 (dg45 q1), splitK_hit1 0 (dg45 q2)]
    rfl
  obtain ⟨y, rfl⟩ := Int.eq_ofNat_of_zero_le (show 0 ≤ y by omega)
  obtain ⟨m, rfl⟩ := Int.eq_ofNat_of_zero_le (show 0 ≤ m by omega)
  obtain ⟨d, rfl⟩ := Int.eq_ofNat_of_zero_le (show 0 ≤ d by omega)
  subst hs
  have l1 : (padL (y : Int) 4).length = 3 + 1 := pad4_len (by omega)
  have l2 : (padL (m : Int) 2).length = 1 + 1 := by rw [pad2 (by omega)]; rfl
  have l3 : (padL (d : Int) 2).length = 1 + 1 := by rw [pad2 (by omega)]; rfl
  exact ⟨rfl, parse_pad (l := padL (y : Int) 4) l1 (by omega) q1 (by omega), parse_pad (l := padL (m : Int) 2) l2 (by omega) q2 (by omega), parse_pad (l := padL (d : Int) 2) l3 (by omega) q3 (by omega)⟩
theorem pieces_len (sep : List UInt8) : ∀ (k : Nat) (l x : List UInt8), x ∈ Lib.splitK sep 0 k l → x.length ≤ l.length
  | 0, l, x, h => by
    rw [Lib.splitK, List.mem_singleton] at h
    rw [h]; exact Nat.le_refl _
  | k + 1, l, x, h => by
    rw [Lib.splitK] at h
    split at h
    · rw [List.mem_singleton] at h
      rw [h]; exact Nat.le_refl _
    · rcases List.mem_cons.1 h with e | e
      · rw [e, List.length_take]; omega
      · have := pieces_len sep k _ x e
        rw [List.length_drop] at this; omega
def dtL (y m d : Int) : List UInt8 := if vdB y m d then dateP y m d else []
theorem dtxt_L (y m d : Int) : dtxtV y m d = strV (dtL y m d) := by unfold dtxtV dtL; split <;> rfl
def pieceL (P : List ByteArray) (j : Nat) : List UInt8 := (P[j]?.getD ⟨#[]⟩).data.toList
theorem piece_map (P : List ByteArray) (j : Nat) : ((P.map (·.data.toList))[j]?.getD []) = pieceL P j := by
  unfold pieceL
  rw [List.getElem?_map]
  cases P[j]? <;> rfl
theorem piece_len {P : List ByteArray} {l sep : List UInt8} {n : Nat} (hP : P.map (·.data.toList) = Lib.splitK sep 0 n l) (j : Nat) : (P[j]?.getD ⟨#[]⟩).size ≤ l.length := by
  cases h : P[j]? with
  | none => exact Nat.zero_le _
  | some x =>
    have hx : x.data.toList ∈ P.map (·.data.toList) := List.mem_map.2 ⟨x, List.mem_of_getElem? h, rfl⟩
    rw [hP] at hx
    have := pieces_len _ _ _ _ hx
    rw [← sizeL]; exact this
theorem datPost_err {l : List UInt8} {P : List ByteArray} (hP : P.map (·.data.toList) = Lib.splitK [45] 0 (min 3 (l.length + 1) - 1) l) {j : Nat} (hj : j < P.length) (hno : ∀ v, Lib.parseIntB 64 (pieceL P j) ≠ .ok v) : DatPost l datNo := by
  refine .inr ⟨fun y m d hv he => ?_, rfl⟩
  obtain ⟨e0, e1, e2, e3⟩ := dat_pieces hv he hP
  rw [List.length_map] at e0
  simp only [piece_map] at e1 e2 e3
  rcases (show j = 0 ∨ j = 1 ∨ j = 2 by omega) with rfl | rfl | rfl
  · exact hno _ e1
  · exact hno _ e2
  · exact hno _ e3
theorem datPost_txt {l : List UInt8} {P : List ByteArray} {N : Nat → Int} (hP : P.map (·.data.toList) = Lib.splitK [45] 0 (min 3 (l.length + 1) - 1) l) (hN : ∀ j, j < P.length → Lib.parseIntB 64 (pieceL P j) = .ok (N j)) (hne : dtL (N 0) (N 1) (N 2) ≠ l) : DatPost l datNo := by
  refine .inr ⟨fun y m d hv he => hne ?_, rfl⟩
  obtain ⟨e0, e1, e2, e3⟩ := dat_pieces hv he hP
  rw [List.length_map] at e0
  simp only [piece_map] at e1 e2 e3
  have a1 := (hN 0 (by omega)).symm.trans e1
  have a2 := (hN 1 (by omega)).symm.trans e2
  have a3 := (hN 2 (by omega)).symm.trans e3
  injection a1 with a1; injection a2 with a2; injection a3 with a3
  rw [a1, a2, a3, dtL, if_pos hv]; exact he
theorem datPost_yes {l : List UInt8} {P : List ByteArray} {N : Nat → Int} (hP : P.map (·.data.toList) = Lib.splitK [45] 0 (min 3 (l.length + 1) - 1) l) (hN : ∀ j, j < P.length → Lib.parseIntB 64 (pieceL P j) = .ok (N j)) (he : dtL (N 0) (N 1) (N 2) = l) : DatPost l (datOk (N 0) (N 1) (N 2)) := by
  cases hv : vdB (N 0) (N 1) (N 2)
  · unfold dtL at he
    rw [hv] at he
    simp at he
    subst he
    have h1 : P.map (·.data.toList) = [[]] := by rw [hP]; rfl
    have h2 : P.length = 1 := by have := congrArg List.length h1; simpa using this
    have h3 := hN 0 (by omega)
    rw [← piece_map, h1] at h3
    exact absurd h3 (by intro e; cases e)
  · unfold dtL at he
    rw [if_pos hv] at he
    exact .inl ⟨_, _, _, hv, he, rfl⟩
/-- the program's state in the loop: the result, the numbers read so far, the pieces -/
def RDF (w W : World) (P : List ByteArray) (N : Nat → Int) : Prop :=
  Below w.heap.size w W ∧ w.heap.size + 2 < W.heap.size ∧ (∀ j, j < P.length → W.cell? ⟨w.heap.size + 1 + 1, j, none⟩ = some (.string (P[j]?.getD ⟨#[]⟩))) ∧
  (∀ j, j < 3 → W.cell? ⟨w.heap.size, j, none⟩ = some (.int .i64 0) ∧ W.frozen? ⟨w.heap.size, j, none⟩ = false) ∧
  (∀ j, j < 3 → W.cell? ⟨w.heap.size + 1, j, none⟩ = some (.int .i64 (N j)) ∧ W.frozen? ⟨w.heap.size + 1, j, none⟩ = false)
theorem RDF.below {w W W' : World} {P : List ByteArray} {N : Nat → Int} (h : RDF w W P N) (hb : Below W.heap.size W W') : RDF w W' P N := by
  obtain ⟨h1, h2, h3, h4, h5⟩ := h
  refine ⟨belowCall h1 hb, Nat.lt_of_lt_of_le h2 hb.size, fun j hj => ?_, fun j hj => ⟨?_, ?_⟩, fun j hj => ⟨?_, ?_⟩⟩
  · rw [hb.cell (p := ⟨w.heap.size + 1 + 1, j, none⟩) h2]; exact h3 j hj
  · rw [hb.cell (p := ⟨w.heap.size, j, none⟩) (by show w.heap.size < W.heap.size; omega)]; exact (h4 j hj).1
  · rw [hb.frozen (p := ⟨w.heap.size, j, none⟩) (by show w.heap.size < W.heap.size; omega)]; exact (h4 j hj).2
  · rw [hb.cell (p := ⟨w.heap.size + 1, j, none⟩) (by show w.heap.size + 1 < W.heap.size; omega)]; exact (h5 j hj).1
  · rw [hb.frozen (p := ⟨w.heap.size + 1, j, none⟩) (by show w.heap.size + 1 < W.heap.size; omega)]; exact (h5 j hj).2
theorem cell_far {w : World} {b b' o o' : Nat} {v : Value} (h : b ≠ b') : (w.setCell ⟨b, o, none⟩ v).cell? ⟨b', o', none⟩ = w.cell? ⟨b', o', none⟩ :=
  World.cell?_setCell_other _ _ _ _ (fun e => h (congrArg Addr.block e))
theorem RDF.put {w W : World} {P : List ByteArray} {N : Nat → Int} (h : RDF w W P N) {k : Nat} (hk : k < 3) (v : Int) : RDF w (W.setCell ⟨w.heap.size + 1, k, none⟩ (.int .i64 v)) P (fun j => if j = k then v else N j) := by
  obtain ⟨h1, h2, h3, h4, h5⟩ := h
  refine ⟨h1.setCell (by show w.heap.size ≤ w.heap.size + 1; omega) _, by simpa using h2, fun j hj => ?_, fun j hj => ⟨?_, ?_⟩, fun j hj => ⟨?_, ?_⟩⟩
  · rw [cell_far (by omega)]; exact h3 j hj
  · rw [cell_far (by omega)]; exact (h4 j hj).1
  · rw [World.frozen?_setCell]; exact (h4 j hj).2
  · by_cases hjk : j = k
    · subst hjk; simp only [if_true]; exact sc_same (h5 j hj).1
    · simp only [hjk, if_false]; exact sc_other (fun e => hjk e.symm) (h5 j hj).1
  · rw [World.frozen?_setCell]; exact (h5 j hj).2
set_option maxHeartbeats 4000000 in
set_option maxRecDepth 100000 in
theorem iReadDate_any (s : ByteArray) (w : World) (hs : s.size ≤ 1048576) (hE : Errs w) (hP : Pow w) (hM : Mon w) (hSh : w.ShapedOpen Tryd.prog) :
    Calls Tryd.prog 14 #[.string s] w fun e w' => ∃ v, e = .returned v ∧ DatPost s.data.toList v ∧ Below w.heap.size w w' := by
  go_enter Tryd.func14, Tryd.ntmps14
  go_wp2_with fail
  refine (Tryd.strings_SplitN_shaped s ⟨#[45]⟩ 3 _ (shapedBelow hSh (by (repeat (first | assumption | exact Below.refl _ _ | refine belowDN ?_ _ | refine Below.drew ?_ | refine Below.setCell ?_ (by first | omega | (simp <;> omega)) _ | refine Below.alloc ?_ (by first | omega | (simp <;> omega)) _ | refine belowCall ?_ (by assumption))))) (by omega) (by decide) (by omega) (by omega)).mono ?_
  rintro e w1 ⟨rfl, rfl⟩
  have hPm := Lib.splitB_data ⟨#[45]⟩ 0 (min 3 (s.size + 1) - 1) s
  have hPl := Lib.splitB_length_le ⟨#[45]⟩ 0 (min 3 (s.size + 1) - 1) s
  have hRD : RDF w (((w.alloc (.cells #[.int .i64 0, .int .i64 0, .int .i64 0] 25)).alloc (.cells #[.int .i64 0, .int .i64 0, .int .i64 0] 46)).alloc (.cells (Lib.cellsOf (Lib.splitB ⟨#[45]⟩ 0 (min 3 (s.size + 1) - 1) s) (min 3 (s.size + 1))) 9)) (Lib.splitB ⟨#[45]⟩ 0 (min 3 (s.size + 1) - 1) s) (fun _ => 0) := by
    refine ⟨by (repeat (first | assumption | exact Below.refl _ _ | refine belowDN ?_ _ | refine Below.drew ?_ | refine Below.setCell ?_ (by first | omega | (simp <;> omega)) _ | refine Below.alloc ?_ (by first | omega | (simp <;> omega)) _ | refine belowCall ?_ (by assumption))), by simp, fun j hj => ?_, fun j hj => ?_, fun j hj => ?_⟩
    · have e : w.heap.size + 1 + 1 = ((w.alloc (.cells #[.int .i64 0, .int .i64 0, .int .i64 0] 25)).alloc (.cells #[.int .i64 0, .int .i64 0, .int .i64 0] 46)).heap.size := by simp
      rw [e, World.cell?_alloc_new]
      simp [Lib.cellsOf, hj, List.getElem?_append_left]
    · rcases (show j = 0 ∨ j = 1 ∨ j = 2 by omega) with rfl | rfl | rfl <;> exact ⟨by go_keep, by rw [World.frozen?_alloc_old _ _ _ (by first | (simp; done) | (simp; omega))]; simp⟩
    · rcases (show j = 0 ∨ j = 1 ∨ j = 2 by omega) with rfl | rfl | rfl <;> exact ⟨by go_keep, by rw [World.frozen?_alloc_old _ _ _ (by first | (simp; done) | (simp; omega))]; simp⟩
  have hz2 : ((w.alloc (.cells #[.int .i64 0, .int .i64 0, .int .i64 0] 25)).alloc (.cells #[.int .i64 0, .int .i64 0, .int .i64 0] 46)).heap.size = w.heap.size + 1 + 1 := by simp
  rw [hz2]
  generalize Lib.splitB ⟨#[45]⟩ 0 (min 3 (s.size + 1) - 1) s = P at hPm hPl hRD ⊢
  generalize (((w.alloc (.cells #[.int .i64 0, .int .i64 0, .int .i64 0] 25)).alloc (.cells #[.int .i64 0, .int .i64 0, .int .i64 0] 46)).alloc (.cells (Lib.cellsOf P (min 3 (s.size + 1))) 9)) = W0 at hRD ⊢
  go_wp2
  have hP3 : P.length ≤ 3 := by omega
  have hsz := piece_len hPm
  rw [sizeL] at hsz
  go_loopw [13] (fun i wr => ∃ (k : Nat) (N : Nat → Int), k ≤ P.length ∧ i = .int .i64 k ∧ (∀ j, j < k → Lib.parseIntB 64 (pieceL P j) = .ok (N j)) ∧ (∀ j, k ≤ j → N j = 0) ∧ RDF w wr P N) (fun i _ => P.length - (intOf i).toNat)
  case atStart => exact ⟨0, fun _ => 0, by omega, rfl, fun j hj => by omega, fun _ _ => rfl, hRD⟩
  case round =>
    obtain ⟨k, N, hk, rfl, hN, hN0, hR⟩ := hrel
    clear hRD
    by_cases hlt : k < P.length
    · obtain ⟨x, hx⟩ : ∃ x, P[k]?.getD ⟨#[]⟩ = x := ⟨_, rfl⟩
      have c0 := hR.2.2.1 k hlt
      have hsx := hsz k
      rw [hx] at c0 hsx
      have hpx : pieceL P k = x.data.toList := by unfold pieceL; rw [hx]
      go_wp2_with fail
      refine (parseInt_any x wr (by omega) (hE.mono hR.1)).mono ?_
      rintro e w2 ⟨hcase, b2⟩
      have hR2 := hR.below b2
      rw [← hpx] at hcase
      rcases hcase with ⟨v, hv, rfl⟩ | ⟨hno, n, M, rfl⟩
      · obtain ⟨d0, g0⟩ := hR2.2.2.2.2 k (by omega)
        have hR3 := hR2.put (k := k) (by omega) v
        go_wp2
        go_roundw
        case rel =>
          refine ⟨k + 1, fun j => if j = k then v else N j, by omega, by go_num, fun j hj => ?_, fun j hj => ?_, hR3⟩
          · by_cases hjk : j = k
            · subst hjk; simp only [if_true]; exact hv
            · simp only [hjk, if_false]; exact hN j (by omega)
          · have hjk : ¬ j = k := by omega
            simp only [hjk, if_false]; exact hN0 j (by omega)
        case measure => simp [intOf]; omega
      · have HN := datPost_err hPm hlt hno
        obtain ⟨q0, g0⟩ := hR2.2.2.2.1 0 (by omega)
        obtain ⟨q1, g1⟩ := hR2.2.2.2.1 1 (by omega)
        obtain ⟨q2, g2⟩ := hR2.2.2.2.1 2 (by omega)
        have hb2 := hR2.1
        clear hno hN hN0 hsz hR hR2 c0 hpx hx hPm
        go_wp2
        have z0 : (((w2.setCell ⟨w.heap.size, 0, none⟩ (.int .i64 0)).setCell ⟨w.heap.size, 1, none⟩ (.int .i64 0)).setCell ⟨w.heap.size, 2, none⟩ (.int .i64 0)).cell? ⟨w.heap.size, 0, none⟩ = some (.int .i64 0) := sc_other (by decide) (sc_other (by decide) (sc_same q0))
        have z1 : (((w2.setCell ⟨w.heap.size, 0, none⟩ (.int .i64 0)).setCell ⟨w.heap.size, 1, none⟩ (.int .i64 0)).setCell ⟨w.heap.size, 2, none⟩ (.int .i64 0)).cell? ⟨w.heap.size, 1, none⟩ = some (.int .i64 0) := sc_other (by decide) (sc_same (sc_other (by decide) q1))
        have z2 : (((w2.setCell ⟨w.heap.size, 0, none⟩ (.int .i64 0)).setCell ⟨w.heap.size, 1, none⟩ (.int .i64 0)).setCell ⟨w.heap.size, 2, none⟩ (.int .i64 0)).cell? ⟨w.heap.size, 2, none⟩ = some (.int .i64 0) := sc_same (sc_other (by decide) (sc_other (by decide) q2))
        have hbV : Below w.heap.size w (((w2.setCell ⟨w.heap.size, 0, none⟩ (.int .i64 0)).setCell ⟨w.heap.size, 1, none⟩ (.int .i64 0)).setCell ⟨w.heap.size, 2, none⟩ (.int .i64 0)) := by (repeat (first | assumption | exact Below.refl _ _ | refine belowDN ?_ _ | refine Below.drew ?_ | refine Below.setCell ?_ (by first | omega | (simp <;> omega)) _ | refine Below.alloc ?_ (by first | omega | (simp <;> omega)) _ | refine belowCall ?_ (by assumption)))
        generalize (((w2.setCell ⟨w.heap.size, 0, none⟩ (.int .i64 0)).setCell ⟨w.heap.size, 1, none⟩ (.int .i64 0)).setCell ⟨w.heap.size, 2, none⟩ (.int .i64 0)) = V at z0 z1 z2 hbV ⊢
        exact bodyPost_ret (v := datNo) (by simp [results, Tryd.results14, go_sem, datNo, z0, z1, z2]) rfl ⟨_, rfl, HN, hbV⟩
    · obtain rfl : k = P.length := by omega
      obtain ⟨d0, g0⟩ := hR.2.2.2.2 0 (by omega)
      obtain ⟨d1, g1⟩ := hR.2.2.2.2 1 (by omega)
      obtain ⟨d2, g2⟩ := hR.2.2.2.2 2 (by omega)
      have HY := Lib.hid (fun h => datPost_yes (N := N) hPm hN h)
      have HNo := Lib.hid (fun h => datPost_txt (N := N) hPm hN h)
      have hwf : (Lit.int .i64 (N 2)).wf = true := by
        have : -9223372036854775808 ≤ N 2 ∧ N 2 ≤ 9223372036854775807 := by
          by_cases h2 : 2 < P.length
          · exact parse_bounds (hN 2 h2)
          · rw [hN0 2 (by omega)]; omega
        simp [Lit.wf, IntKind.min, IntKind.max, IntKind.signed, IntKind.bits]; omega
      go_wp2_with fail
      have hb1 : Below w.heap.size w (wr.alloc (.cells #[.int .i64 (N 0), .int .i64 (N 1), .int .i64 (N 2)] 25)) := hR.1.alloc (by have := hR.2.1; omega) _
      refine (iDateText_any (N 0) (N 1) (N 2) _ (hM.mono hb1) hwf (hP.mono hb1)).mono ?_
      rintro e w3 ⟨rfl, b3⟩
      rw [dtxt_L, strV]
      obtain ⟨hc, hf⟩ := bcell b3
      have hsz3 := b3.size
      simp at hsz3
      have hsw := hR.2.1
      have hne : w.heap.size ≠ wr.heap.size := by omega
      have q0 : w3.cell? ⟨w.heap.size, 0, none⟩ = some (.int .i64 0) := by rw [hc _ _ (by first | (simp; done) | (simp; omega)), World.cell?_alloc_old _ _ _ (by show w.heap.size ≠ wr.heap.size; omega)]; exact (hR.2.2.2.1 0 (by omega)).1
      have q1 : w3.cell? ⟨w.heap.size, 1, none⟩ = some (.int .i64 0) := by rw [hc _ _ (by first | (simp; done) | (simp; omega)), World.cell?_alloc_old _ _ _ (by show w.heap.size ≠ wr.heap.size; omega)]; exact (hR.2.2.2.1 1 (by omega)).1
      have q2 : w3.cell? ⟨w.heap.size, 2, none⟩ = some (.int .i64 0) := by rw [hc _ _ (by first | (simp; done) | (simp; omega)), World.cell?_alloc_old _ _ _ (by show w.heap.size ≠ wr.heap.size; omega)]; exact (hR.2.2.2.1 2 (by omega)).1
      have o0 : w3.frozen? ⟨w.heap.size, 0, none⟩ = false := by rw [hf _ _ (by first | (simp; done) | (simp; omega)), World.frozen?_alloc_old _ _ _ (by show w.heap.size ≠ wr.heap.size; omega)]; exact (hR.2.2.2.1 0 (by omega)).2
      have o1 : w3.frozen? ⟨w.heap.size, 1, none⟩ = false := by rw [hf _ _ (by first | (simp; done) | (simp; omega)), World.frozen?_alloc_old _ _ _ (by show w.heap.size ≠ wr.heap.size; omega)]; exact (hR.2.2.2.1 1 (by omega)).2
      have o2 : w3.frozen? ⟨w.heap.size, 2, none⟩ = false := by rw [hf _ _ (by first | (simp; done) | (simp; omega)), World.frozen?_alloc_old _ _ _ (by show w.heap.size ≠ wr.heap.size; omega)]; exact (hR.2.2.2.1 2 (by omega)).2
      have p0 : w3.cell? ⟨wr.heap.size, 0, none⟩ = some (.int .i64 (N 0)) := by rw [hc _ _ (by simp), World.cell?_alloc_new]; rfl
      have p1 : w3.cell? ⟨wr.heap.size, 1, none⟩ = some (.int .i64 (N 1)) := by rw [hc _ _ (by simp), World.cell?_alloc_new]; rfl
      have p2 : w3.cell? ⟨wr.heap.size, 2, none⟩ = some (.int .i64 (N 2)) := by rw [hc _ _ (by simp), World.cell?_alloc_new]; rfl
      have hb3 : Below w.heap.size w w3 := belowCall hb1 b3
      clear hR hb1 hc hf d0 d1 d2 g0 g1 g2 hN hN0 hsz hPm
      generalize N 0 = n0 at *
      generalize N 1 = n1 at *
      generalize N 2 = n2 at *
      clear hwf
      by_cases hq : dtL n0 n1 n2 = s.data.toList
      · have HN := HY.out hq
        have hst : (⟨(dtL n0 n1 n2).toArray⟩ : ByteArray) = s := (str_eq _ _).2 hq
        rw [hst]
        clear hq hst HY HNo
        go_wp2
        have z0 : (((w3.setCell ⟨w.heap.size, 0, none⟩ (.int .i64 n0)).setCell ⟨w.heap.size, 1, none⟩ (.int .i64 n1)).setCell ⟨w.heap.size, 2, none⟩ (.int .i64 n2)).cell? ⟨w.heap.size, 0, none⟩ = some (.int .i64 n0) := sc_other (by decide) (sc_other (by decide) (sc_same q0))
        have z1 : (((w3.setCell ⟨w.heap.size, 0, none⟩ (.int .i64 n0)).setCell ⟨w.heap.size, 1, none⟩ (.int .i64 n1)).setCell ⟨w.heap.size, 2, none⟩ (.int .i64 n2)).cell? ⟨w.heap.size, 1, none⟩ = some (.int .i64 n1) := sc_other (by decide) (sc_same (sc_other (by decide) q1))
        have z2 : (((w3.setCell ⟨w.heap.size, 0, none⟩ (.int .i64 n0)).setCell ⟨w.heap.size, 1, none⟩ (.int .i64 n1)).setCell ⟨w.heap.size, 2, none⟩ (.int .i64 n2)).cell? ⟨w.heap.size, 2, none⟩ = some (.int .i64 n2) := sc_same (sc_other (by decide) (sc_other (by decide) q2))
        have hbV : Below w.heap.size w (((w3.setCell ⟨w.heap.size, 0, none⟩ (.int .i64 n0)).setCell ⟨w.heap.size, 1, none⟩ (.int .i64 n1)).setCell ⟨w.heap.size, 2, none⟩ (.int .i64 n2)) := by (repeat (first | assumption | exact Below.refl _ _ | refine belowDN ?_ _ | refine Below.drew ?_ | refine Below.setCell ?_ (by first | omega | (simp <;> omega)) _ | refine Below.alloc ?_ (by first | omega | (simp <;> omega)) _ | refine belowCall ?_ (by assumption)))
        generalize (((w3.setCell ⟨w.heap.size, 0, none⟩ (.int .i64 n0)).setCell ⟨w.heap.size, 1, none⟩ (.int .i64 n1)).setCell ⟨w.heap.size, 2, none⟩ (.int .i64 n2)) = V at z0 z1 z2 hbV ⊢
        exact bodyPost_ret (v := datOk n0 n1 n2) (by simp [results, Tryd.results14, go_sem, datOk, z0, z1, z2]) rfl ⟨_, rfl, HN, hbV⟩
      · have HN := HNo.out hq
        have hst := str_ne (fun h => hq ((str_eq _ _).1 h))
        clear hq HY HNo
        generalize (⟨(dtL n0 n1 n2).toArray⟩ : ByteArray) = u at hst ⊢
        go_wp2
        have z0 : (((w3.setCell ⟨w.heap.size, 0, none⟩ (.int .i64 0)).setCell ⟨w.heap.size, 1, none⟩ (.int .i64 0)).setCell ⟨w.heap.size, 2, none⟩ (.int .i64 0)).cell? ⟨w.heap.size, 0, none⟩ = some (.int .i64 0) := sc_other (by decide) (sc_other (by decide) (sc_same q0))
        have z1 : (((w3.setCell ⟨w.heap.size, 0, none⟩ (.int .i64 0)).setCell ⟨w.heap.size, 1, none⟩ (.int .i64 0)).setCell ⟨w.heap.size, 2, none⟩ (.int .i64 0)).cell? ⟨w.heap.size, 1, none⟩ = some (.int .i64 0) := sc_other (by decide) (sc_same (sc_other (by decide) q1))
        have z2 : (((w3.setCell ⟨w.heap.size, 0, none⟩ (.int .i64 0)).setCell ⟨w.heap.size, 1, none⟩ (.int .i64 0)).setCell ⟨w.heap.size, 2, none⟩ (.int .i64 0)).cell? ⟨w.heap.size, 2, none⟩ = some (.int .i64 0) := sc_same (sc_other (by decide) (sc_other (by decide) q2))
        have hbV : Below w.heap.size w (((w3.setCell ⟨w.heap.size, 0, none⟩ (.int .i64 0)).setCell ⟨w.heap.size, 1, none⟩ (.int .i64 0)).setCell ⟨w.heap.size, 2, none⟩ (.int .i64 0)) := by (repeat (first | assumption | exact Below.refl _ _ | refine belowDN ?_ _ | refine Below.drew ?_ | refine Below.setCell ?_ (by first | omega | (simp <;> omega)) _ | refine Below.alloc ?_ (by first | omega | (simp <;> omega)) _ | refine belowCall ?_ (by assumption)))
        generalize (((w3.setCell ⟨w.heap.size, 0, none⟩ (.int .i64 0)).setCell ⟨w.heap.size, 1, none⟩ (.int .i64 0)).setCell ⟨w.heap.size, 2, none⟩ (.int .i64 0)) = V at z0 z1 z2 hbV ⊢
        exact bodyPost_ret (v := datNo) (by simp [results, Tryd.results14, go_sem, datNo, z0, z1, z2]) rfl ⟨_, rfl, HN, hbV⟩
end Go.Proofs.YtfebellnmdfpiabDoor
