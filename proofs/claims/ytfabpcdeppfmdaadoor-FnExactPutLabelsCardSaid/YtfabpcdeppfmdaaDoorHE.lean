/- PutLabels in plain lists; the model's (a recursion). -/
import Derived.Test.YtfabpcdeppfmdaaDoorHC
import Derived.Test.YtfabpcdeppfmdaaDoorGI
import Derived.Lib.SliceRun
namespace Go.Proofs.YtfabpcdeppfmdaaDoor
open Go.ChangeShapes Go.WideShapes Go.ChangeAt Go.RowKit Go.Deep

/-- the next label on side s does not overlap those that are put -/
def freTo (xs : List Mk) (ss : List Int) (s : Int) (k : Nat) : Bool := (List.range k).all fun j => !ovB (bxQ (xs[ss.length]?.getD mk0) s) (bxQ (xs[j]?.getD mk0) (ss[j]?.getD 0))
theorem freTo_yes {xs : List Mk} {ss : List Int} {s : Int} {k : Nat} (h : freTo xs ss s k = true) (h2 : ovB (bxQ (xs[ss.length]?.getD mk0) s) (bxQ (xs[k]?.getD mk0) (ss[k]?.getD 0)) = false) : freTo xs ss s (k + 1) = true := by
  unfold freTo at h ⊢
  rw [List.range_succ, List.all_append, h]
  simp [h2]
theorem freTo_no {xs : List Mk} {ss : List Int} {s : Int} {k : Nat} (h : freTo xs ss s k = false) : freTo xs ss s (k + 1) = false := by
  unfold freTo at h ⊢
  rw [List.range_succ, List.all_append, h]
  simp
theorem freTo_bad {xs : List Mk} {ss : List Int} {s : Int} {k : Nat} (h2 : ovB (bxQ (xs[ss.length]?.getD mk0) s) (bxQ (xs[k]?.getD mk0) (ss[k]?.getD 0)) = true) : freTo xs ss s (k + 1) = false := by
  unfold freTo
  rw [List.range_succ, List.all_append]
  simp [h2]
/-- the first of the sides from s on, c of them, with which f has an answer -/
def tryS (f : Nat → Option (List Int)) : Nat → Nat → Option (List Int)
  | 0, _ => none
  | c + 1, s => match f s with
    | some L => some L
    | none => tryS f c (s + 1)
theorem tryS_some {f : Nat → Option (List Int)} {c s : Nat} {L : List Int} (h : f s = some L) : tryS f (c + 1) s = some L := by rw [tryS, h]
theorem tryS_none {f : Nat → Option (List Int)} {c s : Nat} (h : f s = none) : tryS f (c + 1) s = tryS f c (s + 1) := by rw [tryS, h]
/-- r more labels -/
def putF (xs : List Mk) : Nat → List Int → Option (List Int)
  | 0, ss => some ss
  | r + 1, ss => tryS (fun s => if freTo xs ss (s : Int) ss.length then putF xs r (ss ++ [(s : Int)]) else none) 4 0
def canF (xs : List Mk) (r : Nat) (ss : List Int) (s : Nat) : Option (List Int) := if freTo xs ss (s : Int) ss.length then putF xs r (ss ++ [(s : Int)]) else none
theorem putF_succ (xs : List Mk) (r : Nat) (ss : List Int) : putF xs (r + 1) ss = tryS (canF xs r ss) 4 0 := rfl
theorem tryS_len {f : Nat → Option (List Int)} {n : Nat} (h : ∀ s L, f s = some L → L.length = n) : ∀ (c s : Nat) (L : List Int), tryS f c s = some L → L.length = n
  | 0, _, _, e => by cases e
  | c + 1, s, L, e => by
    cases hf : f s with
    | some M => rw [tryS_some hf] at e; cases e; exact h s _ hf
    | none => rw [tryS_none hf] at e; exact tryS_len h c (s + 1) L e
theorem putF_len (xs : List Mk) : ∀ (r : Nat) (ss L : List Int), putF xs r ss = some L → L.length = ss.length + r
  | 0, ss, L, e => by cases e; rfl
  | r + 1, ss, L, e => by
    rw [putF_succ] at e
    refine tryS_len (n := ss.length + (r + 1)) (fun s M h => ?_) _ _ _ e
    unfold canF at h
    split at h
    · have := putF_len xs r _ _ h
      rw [List.length_append, List.length_singleton] at this
      omega
    · cases h
def ptC (xs : List Mk) : Int := if okC xs then (if 8 < xs.length then 5 else if (putF xs xs.length []).isSome then 0 else 9) else 1
def ptL (xs : List Mk) : List Int := if ptC xs = 0 then (putF xs xs.length []).getD [] else []
theorem pt_1 {xs : List Mk} (h : okC xs = false) : ptC xs = 1 ∧ ptL xs = [] := by simp [ptL, ptC, h]
theorem pt_5 {xs : List Mk} {n : Nat} (hn : xs.length = n) (h : okC xs = true) (h2 : 8 < n) : ptC xs = 5 ∧ ptL xs = [] := by simp [ptL, ptC, h, hn, h2]
theorem pt_9 {xs : List Mk} {n : Nat} (hn : xs.length = n) (h : okC xs = true) (h2 : ¬ 8 < n) (h3 : putF xs n [] = none) : ptC xs = 9 ∧ ptL xs = [] := by simp [ptL, ptC, h, hn, h2, h3]
theorem pt_0 {xs : List Mk} {n : Nat} {L : List Int} (hn : xs.length = n) (h : okC xs = true) (h2 : ¬ 8 < n) (h3 : putF xs n [] = some L) : ptC xs = 0 ∧ ptL xs = L := by simp [ptL, ptC, h, hn, h2, h3]
theorem ptL_len (xs : List Mk) : (ptL xs).length ≤ 1048576 := by
  unfold ptL
  split
  · rename_i h
    cases hp : putF xs xs.length [] with
    | none => simp
    | some L =>
      have h1 := putF_len xs _ _ _ hp
      have hok : okC xs = true := by
        cases hh : okC xs
        · rw [(pt_1 hh).1] at h; omega
        · rfl
      have := (okC_at rfl hok).1
      simp at h1 ⊢
      omega
  · simp
def PutE (B : Nat) (o : Option (List Int)) (w : World) (e : Ending) : Prop := match o with
  | some L => ∃ g c, e = .returned (.tuple #[.slice (some ⟨g, 0, none⟩) L.length c, .bool true]) ∧ w.ownsRow B 2 1 (.slice (some ⟨g, 0, none⟩) L.length c) L.length (L.map (Value.int .i64))
  | none => e = .returned (.tuple #[.slice none 0 0, .bool false])
set_option maxRecDepth 100000 in
theorem l00OwnH_any (g n c : Nat) (xs : List Int) (w : World) (h : Lst w (some ⟨g, 0, none⟩) n xs) (hn : n ≤ 1048576) :
    Calls Tryd.prog 69 #[.slice (some ⟨g, 0, none⟩) n c] w fun e w' => ∃ g' c', e = .returned (.slice (some ⟨g', 0, none⟩) n c') ∧ w'.ownsRow w.heap.size 2 1 (.slice (some ⟨g', 0, none⟩) n c') n (xs.map (Value.int .i64)) ∧ Below w.heap.size w w' := by
  obtain ⟨i0, hi, hz0, hz1, hz2⟩ := info_parts A_info
  have hB0 : Below w.heap.size w (w.alloc (.cells #[] 2)) := (Below.refl _ _).alloc (Nat.le_refl _) _
  have h1 := h.mono hB0
  have hl := h.1
  go_enter Tryd.func69, Tryd.ntmps69
  go_wp2_with (at_builtin; refine wpList_append_own _ rfl _ _ 26 rfl w.heap.size 2 i0 (.int .i64 0) 1 8 Tryd.underlying26 hi hz0 hz1 hz2 rfl (by decide) _ 0 [] rfl ?c0 ⟨g, 0, none⟩ n c (xs.map (Value.int .i64)) rfl ?cl ?c1 ?c2 ?c3 ?c4 ?c5 ?_)
  case c0 => exact World.ownsRow_lit w #[] 0 (Nat.le_refl _) (by unfold maxLen; omega) rfl
  case cl => simp [hl]
  case c1 =>
    intro j u hj
    have hjn : j < n := by
      have := (List.getElem?_eq_some_iff.1 hj).1
      simpa [hl] using this
    obtain ⟨b, off, e, _, hc⟩ := h1.2 j hjn
    injection e with e
    injection e with e1 e2
    subst e1 e2
    rw [Go.WideShapes.add_plain, hc, ← hj, List.getElem?_map, List.getElem?_eq_getElem (by omega)]
    rfl
  case c2 => intro u hu; obtain ⟨b, _, rfl⟩ := List.mem_map.1 hu; rfl
  case c3 => unfold maxLen; omega
  case c4 => omega
  case c5 => simp
  intro v' wb hownb hgb hnil
  have hBb : Below w.heap.size w wb := hB0.grown hgb (by simp) (fun k hk => by simp [Value.ownBlock] at hk; omega)
  rcases hownb.2 with ⟨hv, _⟩ | ⟨g', c', cur, hv', _⟩
  · exact absurd hv hnil
  · subst hv'
    clear hnil hgb
    go_wp2
    go_ret
    exact ⟨g', c', rfl, hownb, hBb⟩
theorem ownPut {w : World} {B e : Nat} {v : Value} {ss : List Int} {k n : Nat} (h : w.ownsRow B e 1 v n (ss.map (Value.int .i64) ++ [.int .i64 (k : Int)])) (hn : n = ss.length + 1) (hnil : v ≠ .slice none 0 0) : ∃ g c, v = .slice (some ⟨g, 0, none⟩) (ss ++ [(k : Int)]).length c ∧ w.ownsRow B e 1 (.slice (some ⟨g, 0, none⟩) (ss ++ [(k : Int)]).length c) (ss ++ [(k : Int)]).length ((ss ++ [(k : Int)]).map (Value.int .i64)) := by
  subst hn
  have hl : (ss ++ [(k : Int)]).length = ss.length + 1 := by simp
  rw [hl]
  rcases h.2 with ⟨h0, _⟩ | ⟨g, c, cur, hv, _⟩
  · exact absurd h0 hnil
  · subst hv
    exact ⟨g, c, rfl, by rw [List.map_append]; exact h⟩
set_option maxRecDepth 100000 in
set_option maxHeartbeats 8000000 in
theorem l07Put_any (a : Option Addr) (n c B : Nat) (xs : List Mk) (hok : okC xs = true) (hn8 : n ≤ 8) : ∀ (r : Nat) (ss : List Int) (g cc : Nat) (w : World), MkL w a n xs → ss.length + r = n → (∀ k, k < ss.length → inB (ss[k]?.getD 0) 0 3 = true) → B ≤ w.heap.size → w.ownsRow B 2 1 (.slice (some ⟨g, 0, none⟩) ss.length cc) ss.length (ss.map (Value.int .i64)) →
    Calls Tryd.prog 41 #[.slice a n c, .slice (some ⟨g, 0, none⟩) ss.length cc] w fun e w' => PutE B (putF xs r ss) w' e ∧ Below w.heap.size w w'
  | 0, ss, g, cc, w, h, hr, _, _, hown => by
    have hd : ((ss.length : Int) == (n : Int)) = true := by simp; omega
    have HO := Lib.hid hown
    have hl1 : (ss.length : Int) ≤ 8 := by omega
    clear hown
    go_enter Tryd.func41, Tryd.ntmps41
    go_wp2
    go_ret2
    exact ⟨⟨g, cc, rfl, HO.out⟩, Below.refl _ _⟩
  | r + 1, ss, g, cc, w, h, hr, hsd, hBw, hown => by
    have IH := l07Put_any a n c B xs hok hn8 r
    obtain ⟨i0, hi, hz0, hz1, hz2⟩ := info_parts A_info
    have HL := Lib.hid h.1
    have HOK := Lib.hid hok
    have HSD := Lib.hid hsd
    have hls := Lst.of_own hown
    have hnn : ss.length < n := by omega
    have hd : ((ss.length : Int) == (n : Int)) = false := by simp; omega
    have hlni : (ss.length : Int) < (n : Int) := by omega
    have hln0 : (0 : Int) ≤ (ss.length : Int) := by omega
    have hni : (n : Int) ≤ 8 := by omega
    obtain ⟨b1, o1, rfl, hcn⟩ := h.2 ss.length hnn
    obtain ⟨⟨y0, y1, y2⟩, hy⟩ : ∃ x, xs[ss.length]?.getD mk0 = x := ⟨_, rfl⟩
    have HVY := Lib.hid (okC_mark HL.out HOK.out hnn hy)
    rw [hy] at hcn
    have HY := Lib.hid hy
    have HPS := Lib.hid (putF_succ xs r ss)
    have hgl0 : g < w.heap.size := (hown.lt g rfl).2
    clear hy hok hsd hown
    go_enter Tryd.func41, Tryd.ntmps41
    go_wp2
    go_loopw [7, 8, 9, 10, 11, 12] (fun s _ _ _ _ _ wr => ∃ k : Nat, k ≤ 4 ∧ s = .int .i64 k ∧ putF xs (r + 1) ss = tryS (canF xs r ss) (4 - k) k ∧ Below w.heap.size w wr) (fun s _ _ _ _ _ _ => 4 - (Go.RowKit.intOf s).toNat)
    case atStart => exact ⟨0, by omega, rfl, HPS.out, Below.refl _ _⟩
    case round =>
      obtain ⟨k, hk4, rfl, hpf, hB⟩ := hrel
      have HPF := Lib.hid hpf
      clear hpf
      have hz := hB.size
      by_cases hk : k < 4
      · have hcnt : 4 - k = (4 - (k + 1)) + 1 := by omega
        have HCN := Lib.hid hcnt
        have hkk : (k : Int) < 4 := by omega
        obtain ⟨-, q0, q1, q2⟩ := (hcn.mono hB).parts
        obtain ⟨⟨a0, a1, a2, a3⟩, ha⟩ : ∃ q, bxQ (y0, y1, y2) (k : Int) = q := ⟨_, rfl⟩
        have HA := Lib.hid ha
        clear ha hcnt
        go_wp2_with fail
        refine (l07Box_any y0 y1 y2 (k : Int) wr HVY.out (by omega) (by omega)).mono ?_
        rintro e wA ⟨gA, rfl, hoA, bA⟩
        have hqA := Q4C.of_own hoA
        rw [HA.out] at hqA
        have hBA := belowCall hB bA
        clear hoA q0 q1 q2 hB bA
        go_wp2
        go_loopw [9, 10] (fun fr kk wi => ∃ j : Nat, j ≤ ss.length ∧ kk = .int .i64 j ∧ fr = .bool (freTo xs ss (k : Int) j) ∧ Below wA.heap.size wA wi) (fun _ kk _ => ss.length - (Go.RowKit.intOf kk).toNat)
        case atStart => exact ⟨0, Nat.zero_le _, rfl, rfl, Below.refl _ _⟩
        case round =>
          obtain ⟨j, hjn, rfl, rfl, hBi⟩ := hrel
          have hBW := belowCall hBA hBi
          have hzW := hBW.size
          by_cases hj : j < ss.length
          · obtain ⟨b1', o1', he, hc'⟩ := h.2 j (by omega)
            cases he
            obtain ⟨⟨x0, x1, x2⟩, hx⟩ : ∃ x, xs[j]?.getD mk0 = x := ⟨_, rfl⟩
            have HVX := Lib.hid (okC_mark HL.out HOK.out (show j < n by omega) hx)
            rw [hx] at hc'
            obtain ⟨_, _, he, -, hsc⟩ := hls.2 j hj
            cases he
            rw [Nat.zero_add] at hsc
            have hsj := HSD.out j hj
            obtain ⟨sj, hsje⟩ : ∃ s, ss[j]?.getD 0 = s := ⟨_, rfl⟩
            rw [hsje] at hsj hsc
            obtain ⟨hsj0, hsj3⟩ := inB_iff.1 hsj
            obtain ⟨hb1, p0, p1, p2⟩ := (hc'.mono hBW).parts
            have t0 := (hBW.cell (p := ⟨g, j, none⟩) hgl0).trans hsc
            have hgl : g < wr.heap.size := by omega
            obtain ⟨⟨b0, b1', b2, b3⟩, hbq⟩ : ∃ q, bxQ (x0, x1, x2) sj = q := ⟨_, rfl⟩
            have HB := Lib.hid hbq
            have HOVE : Hid (ovB (bxQ (xs[ss.length]?.getD mk0) (k : Int)) (bxQ (xs[j]?.getD mk0) (ss[j]?.getD 0)) = ovB (a0, a1, a2, a3) (b0, b1', b2, b3)) := Lib.hid (by rw [HY.out, HA.out, hx, hsje, hbq])
            have hjj : (j : Int) < (ss.length : Int) := by omega
            have hjn2 : (j : Int) < (n : Int) := by omega
            have hj0 : (0 : Int) ≤ (j : Int) := by omega
            clear hx hsje hsj hbq hc' hsc
            cases hfr : freTo xs ss (k : Int) j
            · have HS := Lib.hid (freTo_no hfr)
              clear hfr
              go_wp2
              go_big_quiet (fail)
              go_wp2
              go_roundw
              case rel => exact ⟨j + 1, by omega, by go_num, by rw [HS.out], by (repeat (first | assumption | exact Below.refl _ _ | refine belowDN ?_ _ | refine Below.drew ?_ | refine Below.setCell ?_ (by first | omega | (simp <;> omega)) _ | refine Below.alloc ?_ (by first | omega | (simp <;> omega)) _ | refine belowCall ?_ (by assumption)))⟩
              case measure => simp [Go.RowKit.intOf]; omega
            · cases hov : ovB (a0, a1, a2, a3) (b0, b1', b2, b3)
              · have HS := Lib.hid (freTo_yes hfr (by rw [HOVE.out]; exact hov))
                clear hfr
                go_wp2
                go_region_held3 (fun W' => W'.cell? ⟨b1, o1 + j * 3, none⟩ = some (.int .i64 x0) ∧ W'.cell? ⟨b1, o1 + j * 3 + 1, none⟩ = some (.int .i64 x1) ∧ W'.cell? ⟨b1, o1 + j * 3 + 2, none⟩ = some (.int .i64 x2) ∧ W'.cell? ⟨g, j, none⟩ = some (.int .i64 sj)) (refine ⟨?_, ?_, ?_, ?_⟩ <;> first | assumption | exact ((show Below wr.heap.size wr _ by (repeat (first | assumption | exact Below.refl _ _ | refine belowDN ?_ _ | refine Below.drew ?_ | refine Below.setCell ?_ (by first | omega | (simp <;> omega)) _ | refine Below.alloc ?_ (by first | omega | (simp <;> omega)) _ | refine belowCall ?_ (by assumption)))).cell (p := ⟨b1, o1 + j * 3, none⟩) hb1).trans p0 | exact ((show Below wr.heap.size wr _ by (repeat (first | assumption | exact Below.refl _ _ | refine belowDN ?_ _ | refine Below.drew ?_ | refine Below.setCell ?_ (by first | omega | (simp <;> omega)) _ | refine Below.alloc ?_ (by first | omega | (simp <;> omega)) _ | refine belowCall ?_ (by assumption)))).cell (p := ⟨b1, o1 + j * 3 + 1, none⟩) hb1).trans p1 | exact ((show Below wr.heap.size wr _ by (repeat (first | assumption | exact Below.refl _ _ | refine belowDN ?_ _ | refine Below.drew ?_ | refine Below.setCell ?_ (by first | omega | (simp <;> omega)) _ | refine Below.alloc ?_ (by first | omega | (simp <;> omega)) _ | refine belowCall ?_ (by assumption)))).cell (p := ⟨b1, o1 + j * 3 + 2, none⟩) hb1).trans p2 | exact ((show Below wr.heap.size wr _ by (repeat (first | assumption | exact Below.refl _ _ | refine belowDN ?_ _ | refine Below.drew ?_ | refine Below.setCell ?_ (by first | omega | (simp <;> omega)) _ | refine Below.alloc ?_ (by first | omega | (simp <;> omega)) _ | refine belowCall ?_ (by assumption)))).cell (p := ⟨g, j, none⟩) hgl).trans t0) (first | (go_at_call 51; refine (l07Box_any _ _ _ _ _ HVX.out hsj0 hsj3).mono ?_; rintro e wN ⟨gN, rfl, hoN, bN⟩; have hqN := Q4C.of_own hoN; rw [HB.out] at hqN; clear hoN) | (go_at_call 50; refine (l07Meet_any _ _ a0 a1 a2 a3 b0 b1' b2 b3 _ (Q4C.mono (by assumption) (by (repeat (first | assumption | exact Below.refl _ _ | refine belowDN ?_ _ | refine Below.drew ?_ | refine Below.setCell ?_ (by first | omega | (simp <;> omega)) _ | refine Below.alloc ?_ (by first | omega | (simp <;> omega)) _ | refine belowCall ?_ (by assumption))))) (by assumption)).mono ?_; rintro e wM ⟨rfl, bM⟩; rw [hov]; have hbD : Below wr.heap.size wr wM := (by (repeat (first | assumption | exact Below.refl _ _ | refine belowDN ?_ _ | refine Below.drew ?_ | refine Below.setCell ?_ (by first | omega | (simp <;> omega)) _ | refine Below.alloc ?_ (by first | omega | (simp <;> omega)) _ | refine belowCall ?_ (by assumption))))))
                all_goals
                  have hBM := belowCall hBi hbD
                  clear bM
                  go_wp2
                  go_roundw
                  case rel => exact ⟨j + 1, by omega, by go_num, by rw [HS.out], hBM⟩
                  case measure => simp [Go.RowKit.intOf]; omega
              · have HS := Lib.hid (freTo_bad (xs := xs) (ss := ss) (s := (k : Int)) (k := j) (by rw [HOVE.out]; exact hov))
                clear hfr
                go_wp2
                go_region_held3 (fun W' => W'.cell? ⟨b1, o1 + j * 3, none⟩ = some (.int .i64 x0) ∧ W'.cell? ⟨b1, o1 + j * 3 + 1, none⟩ = some (.int .i64 x1) ∧ W'.cell? ⟨b1, o1 + j * 3 + 2, none⟩ = some (.int .i64 x2) ∧ W'.cell? ⟨g, j, none⟩ = some (.int .i64 sj)) (refine ⟨?_, ?_, ?_, ?_⟩ <;> first | assumption | exact ((show Below wr.heap.size wr _ by (repeat (first | assumption | exact Below.refl _ _ | refine belowDN ?_ _ | refine Below.drew ?_ | refine Below.setCell ?_ (by first | omega | (simp <;> omega)) _ | refine Below.alloc ?_ (by first | omega | (simp <;> omega)) _ | refine belowCall ?_ (by assumption)))).cell (p := ⟨b1, o1 + j * 3, none⟩) hb1).trans p0 | exact ((show Below wr.heap.size wr _ by (repeat (first | assumption | exact Below.refl _ _ | refine belowDN ?_ _ | refine Below.drew ?_ | refine Below.setCell ?_ (by first | omega | (simp <;> omega)) _ | refine Below.alloc ?_ (by first | omega | (simp <;> omega)) _ | refine belowCall ?_ (by assumption)))).cell (p := ⟨b1, o1 + j * 3 + 1, none⟩) hb1).trans p1 | exact ((show Below wr.heap.size wr _ by (repeat (first | assumption | exact Below.refl _ _ | refine belowDN ?_ _ | refine Below.drew ?_ | refine Below.setCell ?_ (by first | omega | (simp <;> omega)) _ | refine Below.alloc ?_ (by first | omega | (simp <;> omega)) _ | refine belowCall ?_ (by assumption)))).cell (p := ⟨b1, o1 + j * 3 + 2, none⟩) hb1).trans p2 | exact ((show Below wr.heap.size wr _ by (repeat (first | assumption | exact Below.refl _ _ | refine belowDN ?_ _ | refine Below.drew ?_ | refine Below.setCell ?_ (by first | omega | (simp <;> omega)) _ | refine Below.alloc ?_ (by first | omega | (simp <;> omega)) _ | refine belowCall ?_ (by assumption)))).cell (p := ⟨g, j, none⟩) hgl).trans t0) (first | (go_at_call 51; refine (l07Box_any _ _ _ _ _ HVX.out hsj0 hsj3).mono ?_; rintro e wN ⟨gN, rfl, hoN, bN⟩; have hqN := Q4C.of_own hoN; rw [HB.out] at hqN; clear hoN) | (go_at_call 50; refine (l07Meet_any _ _ a0 a1 a2 a3 b0 b1' b2 b3 _ (Q4C.mono (by assumption) (by (repeat (first | assumption | exact Below.refl _ _ | refine belowDN ?_ _ | refine Below.drew ?_ | refine Below.setCell ?_ (by first | omega | (simp <;> omega)) _ | refine Below.alloc ?_ (by first | omega | (simp <;> omega)) _ | refine belowCall ?_ (by assumption))))) (by assumption)).mono ?_; rintro e wM ⟨rfl, bM⟩; rw [hov]; have hbD : Below wr.heap.size wr wM := (by (repeat (first | assumption | exact Below.refl _ _ | refine belowDN ?_ _ | refine Below.drew ?_ | refine Below.setCell ?_ (by first | omega | (simp <;> omega)) _ | refine Below.alloc ?_ (by first | omega | (simp <;> omega)) _ | refine belowCall ?_ (by assumption))))))
                all_goals
                  have hBM := belowCall hBi hbD
                  clear bM
                  go_wp2
                  go_roundw
                  case rel => exact ⟨j + 1, by omega, by go_num, by rw [HS.out], hBM⟩
                  case measure => simp [Go.RowKit.intOf]; omega
          · have hje : j = ss.length := by omega
            subst hje
            cases hfr : freTo xs ss (k : Int) ss.length
            · have HN : Hid (canF xs r ss k = none) := Lib.hid (by simp [canF, hfr])
              have HT := Lib.hid (HPF.out.trans (by rw [HCN.out, tryS_none HN.out]))
              clear hfr
              go_wp2
              go_roundw
              case rel => exact ⟨k + 1, by omega, by go_num, HT.out, hBW⟩
              case measure => simp [Go.RowKit.intOf]; omega
            · have HN : Hid (canF xs r ss k = putF xs r (ss ++ [(k : Int)])) := Lib.hid (by simp [canF, hfr])
              have hlW := hls.mono hBW
              have hl8 : ss.length ≤ 8 := by omega
              clear hfr
              go_wp2_with (first | (go_at_call 69; refine (l00OwnH_any g ss.length cc ss _ (hls.mono (by (repeat (first | assumption | exact Below.refl _ _ | refine belowDN ?_ _ | refine Below.drew ?_ | refine Below.setCell ?_ (by first | omega | (simp <;> omega)) _ | refine Below.alloc ?_ (by first | omega | (simp <;> omega)) _ | refine belowCall ?_ (by assumption))))) (by omega)).mono ?_; rintro e w4 ⟨g4, c4, rfl, hown4', b4⟩; have hB4 : Below w.heap.size w w4 := (by (repeat (first | assumption | exact Below.refl _ _ | refine belowDN ?_ _ | refine Below.drew ?_ | refine Below.setCell ?_ (by first | omega | (simp <;> omega)) _ | refine Below.alloc ?_ (by first | omega | (simp <;> omega)) _ | refine belowCall ?_ (by assumption)))); have z4 := hB4.size; have hown4w := ownLow (B' := w.heap.size) hown4' (by omega); have hown4 := ownLow (B' := B) hown4' (by omega); clear hown4') | (at_builtin; refine wpList_append_own _ rfl _ _ 26 rfl B 2 i0 (.int .i64 0) 1 8 Tryd.underlying26 hi hz0 hz1 hz2 rfl (by decide) _ _ _ rfl (hown4.alloc _) ⟨w4.heap.size, 0, none⟩ 1 1 [.int .i64 (k : Int)] rfl rfl (cell_one_new _ _ _) (by intro u hu; simp at hu; subst hu; rfl) (by unfold maxLen; omega) (by omega) (by simp; omega) ?_; intro v7 w7 hown7 hg7 hnil7))
              have hB7 : Below w.heap.size w w7 := (show Below w.heap.size w (w4.alloc (.cells #[.int .i64 (k : Int)] 2)) by (repeat (first | assumption | exact Below.refl _ _ | refine belowDN ?_ _ | refine Below.drew ?_ | refine Below.setCell ?_ (by first | omega | (simp <;> omega)) _ | refine Below.alloc ?_ (by first | omega | (simp <;> omega)) _ | refine belowCall ?_ (by assumption)))).grown hg7 (by simp; omega) (fun kk hk => (hown4w.lt kk hk).1)
              obtain ⟨g8, c8, rfl, hown8⟩ := ownPut hown7 rfl (fun hv => absurd (hnil7.1 hv).2 (by decide))
              have hz7 := hB7.size
              clear hown7 hg7 hnil7 hown4 hown4w
              go_wp2_with fail
              refine (IH (ss ++ [(k : Int)]) g8 c8 w7 (h.mono hB7) (by rw [List.length_append, List.length_singleton]; omega) (fun q hq => ?_) (by omega) hown8).mono ?_
              · rw [List.length_append, List.length_singleton] at hq
                by_cases e : q < ss.length
                · rw [List.getElem?_append_left e]; exact HSD.out q e
                · have e2 : q = ss.length := by omega
                  subst e2
                  rw [List.getElem?_append_right (Nat.le_refl _), Nat.sub_self]
                  exact inB_iff.2 ⟨by simp, by simp; omega⟩
              rintro e w8 ⟨hP, b8⟩
              have hB8 := belowCall hB7 b8
              cases hpr : putF xs r (ss ++ [(k : Int)]) with
              | some L =>
                rw [hpr] at hP
                obtain ⟨g9, c9, rfl, hown9⟩ := hP
                have HR : Hid (putF xs (r + 1) ss = some L) := Lib.hid (by rw [HPF.out, HCN.out]; exact tryS_some (by rw [HN.out, hpr]))
                have HO := Lib.hid hown9
                clear hpr hown9 hown8
                go_wp2
                go_ret2
                exact ⟨by rw [HR.out]; exact ⟨g9, c9, rfl, HO.out⟩, hB8⟩
              | none =>
                rw [hpr] at hP
                obtain rfl : e = _ := hP
                have HT := Lib.hid (HPF.out.trans (by rw [HCN.out, tryS_none (by rw [HN.out, hpr])]))
                clear hpr hown8
                go_wp2
                go_roundw
                case rel => exact ⟨k + 1, by omega, by go_num, HT.out, hB8⟩
                case measure => simp [Go.RowKit.intOf]; omega
      · have hk' : k = 4 := by omega
        subst hk'
        have HN : Hid (putF xs (r + 1) ss = none) := Lib.hid HPF.out
        go_wp2
        go_ret2
        exact ⟨by rw [HN.out]; exact rfl, hB⟩
set_option maxRecDepth 100000 in
set_option maxHeartbeats 4000000 in
theorem sPut_any (a : Option Addr) (n c : Nat) (xs : List Mk) (w : World) (h : MkL w a n xs) (hn : n ≤ 1048576) :
    Calls Tryd.prog 11 #[.slice a n c] w fun e w' => IntRes w.heap.size (ptL xs) (.int .i64 (ptC xs)) w' e ∧ Below w.heap.size w w' := by
  have HL := Lib.hid h.1
  have hl : (n : Int) ≤ 1048576 := by omega
  cases hok : okC xs
  · have HC := Lib.hid (pt_1 hok)
    go_enter Tryd.func11, Tryd.ntmps11
    go_wp2_with fail
    refine (l07Ok_any a n c xs w h hn).mono ?_
    rintro e w2 ⟨rfl, b2⟩
    rw [hok]
    go_wp2
    go_ret2
    exact ⟨by rw [HC.out.1, HC.out.2]; exact IntRes.nil _ _ _, b2⟩
  by_cases h8 : 8 < n
  · have HC := Lib.hid (pt_5 HL.out hok h8)
    have hd : decide ((8 : Int) < (n : Int)) = true := by simp; omega
    go_enter Tryd.func11, Tryd.ntmps11
    go_wp2_with fail
    refine (l07Ok_any a n c xs w h hn).mono ?_
    rintro e w2 ⟨rfl, b2⟩
    rw [hok]
    go_wp2
    go_ret2
    exact ⟨by rw [HC.out.1, HC.out.2]; exact IntRes.nil _ _ _, b2⟩
  have hd : decide ((8 : Int) < (n : Int)) = false := by simp; omega
  have hn8 : n ≤ 8 := by omega
  have HOK := Lib.hid hok
  go_enter Tryd.func11, Tryd.ntmps11
  go_wp2_with fail
  refine (l07Ok_any a n c xs w h hn).mono ?_
  rintro e w2 ⟨rfl, b2⟩
  rw [hok]
  have h2 := h.mono b2
  clear hok
  go_wp2_with fail
  have hown : (w2.alloc (.cells #[] 2)).ownsRow w2.heap.size 2 1 (.slice (some ⟨w2.heap.size, 0, none⟩) ([] : List Int).length 0) ([] : List Int).length (([] : List Int).map (Value.int .i64)) := World.ownsRow_lit w2 #[] 0 (Nat.le_refl _) (by unfold maxLen; omega) rfl
  have hb3 : Below w2.heap.size w2 (w2.alloc (.cells #[] 2)) := (Below.refl _ w2).alloc (Nat.le_refl _) _
  refine (l07Put_any a n c w2.heap.size xs HOK.out hn8 n [] w2.heap.size 0 (w2.alloc (.cells #[] 2)) (h2.mono hb3) (by simp) (fun k hk => absurd hk (by simp)) hb3.size hown).mono ?_
  rintro e w4 ⟨hP, b4⟩
  have hB4 := belowCall b2 (belowCall hb3 b4)
  cases hpr : putF xs n [] with
  | some L =>
    rw [hpr] at hP
    obtain ⟨g9, c9, rfl, hown9⟩ := hP
    have HC := Lib.hid (pt_0 HL.out HOK.out h8 hpr)
    have HO := Lib.hid (ownLow hown9 b2.size)
    clear hpr hown9 hown
    go_wp2
    go_ret2
    exact ⟨by rw [HC.out.1, HC.out.2]; exact IntRes.own HO.out rfl, hB4⟩
  | none =>
    rw [hpr] at hP
    obtain rfl : e = _ := hP
    have HC := Lib.hid (pt_9 HL.out HOK.out h8 hpr)
    clear hpr hown
    go_wp2
    go_ret2
    exact ⟨by rw [HC.out.1, HC.out.2]; exact IntRes.nil _ _ _, hB4⟩
end Go.Proofs.YtfabpcdeppfmdaaDoor
