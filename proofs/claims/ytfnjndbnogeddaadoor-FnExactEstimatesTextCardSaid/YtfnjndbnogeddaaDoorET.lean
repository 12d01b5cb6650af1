/- EstimatesText, both sides. -/
import Derived.Test.YtfnjndbnogeddaaDoorE3
import Derived.Test.YtfnjndbnogeddaaDoorD5
import Derived.Deep.RegionHeld3
import Derived.Deep.AppendLies
import Derived.Lib.AppendStr
namespace Go.Proofs.YtfnjndbnogeddaaDoor
open Go.ChangeShapes Go.WideShapes Go.ChangeAt Go.RowKit Go.Deep

/-- the line of an estimate, without its end -/
def esLine (x : Es) : List UInt8 := Lib.itoa x.1 ++ 32 :: (x.2.1.data.toList ++ 32 :: (x.2.2.1.data.toList ++ 32 :: ((if x.2.2.2.2 then [60] else []) ++ magP x.2.2.2.1)))
/-- the text of the first k estimates -/
def esTx (xs : List Es) (k : Nat) : List UInt8 := (xs.take k).flatMap fun x => esLine x ++ [10]
theorem esTx_succ {xs : List Es} {n k : Nat} {x : Es} (hn : xs.length = n) (hk : k < n) (hx : xs[k]?.getD es0 = x) : esTx xs (k + 1) = esTx xs k ++ (esLine x ++ [10]) := by
  have hkl : k < xs.length := by omega
  rw [List.getElem?_eq_getElem hkl, Option.getD_some] at hx
  rw [esTx, List.take_add_one, List.getElem?_eq_getElem hkl, hx, List.flatMap_append, ← esTx]
  simp
theorem esB_parts {x0 : Int} {x1 x2 : ByteArray} {x3 : Int} {x4 : Bool} (h : esB (x0, x1, x2, x3, x4) = true) : (0 ≤ x0 ∧ x0 ≤ 10000000) ∧ x1.size ≤ 12 ∧ x2.size ≤ 12 ∧ magB x3 = true := by
  simp only [esB, Bool.and_eq_true] at h
  obtain ⟨h1, h2, h3, h4⟩ := h
  simp only [nameB, Bool.and_eq_true, decide_eq_true_eq] at h2 h3
  exact ⟨inB_iff.1 h1, by omega, by omega, h4⟩
theorem magP_len {m : Int} (h : magB m = true) : (magP m).length ≤ 82 := by
  obtain ⟨m1, m2⟩ := magB_iff.1 h
  have h1 := itoa_len ((m.natAbs / 1000 : Nat) : Int) (by omega) (by omega)
  have h2 := three_len ((m.natAbs % 1000 : Nat) : Int) (by omega) (by omega)
  rw [magP_is, magL]
  split <;> simp only [List.length_append, List.length_cons, List.length_nil] <;> omega
theorem esLine_len {x0 : Int} {x1 x2 : ByteArray} {x3 : Int} {x4 : Bool} (h : esB (x0, x1, x2, x3, x4) = true) : (esLine (x0, x1, x2, x3, x4)).length ≤ 140 := by
  obtain ⟨⟨h1, h2⟩, h3, h4, h5⟩ := esB_parts h
  have e1 := itoa_len x0 (by omega) (by omega)
  have e2 := magP_len h5
  have e3 : x1.data.toList.length ≤ 12 := by simpa using h3
  have e4 : x2.data.toList.length ≤ 12 := by simpa using h4
  unfold esLine
  cases x4 <;> simp only [List.length_append, List.length_cons] <;> simp at e3 e4 ⊢ <;> omega
theorem esTx_len {xs : List Es} {n : Nat} (hn : xs.length = n) (h : ∀ k, k < n → okAtE xs k = true) : ∀ k, k ≤ n → (esTx xs k).length ≤ 141 * k
  | 0, _ => by simp [esTx]
  | k + 1, hk => by
    have h1 := esTx_len hn h k (by omega)
    have h2 := h k (by omega)
    rw [okAtE, Bool.and_eq_true] at h2
    obtain ⟨⟨x0, x1, x2, x3, x4⟩, hx⟩ : ∃ x, xs[k]?.getD es0 = x := ⟨_, rfl⟩
    rw [hx] at h2
    have h3 := esLine_len h2.1
    rw [esTx_succ hn (by omega) hx]
    simp only [List.length_append, List.length_cons, List.length_nil]
    omega
def esTxt (xs : List Es) : List UInt8 := if okE xs then esTx xs xs.length else []
theorem esTxt_no {xs : List Es} (h : okE xs = false) : esTxt xs = [] := by simp [esTxt, h]
theorem esTxt_yes {xs : List Es} {n : Nat} (hn : xs.length = n) (h : okE xs = true) : esTxt xs = esTx xs n := by simp [esTxt, h, hn]
/-- a line, joined out of its four words -/
theorem esLine_join (x0 : Int) (x1 x2 : ByteArray) (x3 : Int) (x4 : Bool) : Lib.join [Lib.itoa x0, x1.data.toList, x2.data.toList, (if x4 then [60] else []) ++ magP x3] [32] = esLine (x0, x1, x2, x3, x4) := by
  rw [Lib.join_cons]; simp [Lib.joinTail, esLine]
theorem ba_cat (a b : List UInt8) : ((⟨a.toArray⟩ : ByteArray) ++ (⟨b.toArray⟩ : ByteArray)) = ⟨(a ++ b).toArray⟩ := by apply ByteArray.ext; simp
/-- four texts in a new row -/
theorem four_cells (W : World) (a b c d : ByteArray) (T : TypeId) : ∀ (j : Nat) (x : ByteArray), ([a, b, c, d] : List ByteArray)[j]? = some x → (W.alloc (.cells #[.string a, .string b, .string c, .string d] T)).cell? ⟨W.heap.size, 0 + j, none⟩ = some (.string x) := fun j x hj => by
  rw [Nat.zero_add, World.cell?_alloc_new]
  match j, hj with
  | 0, hj => cases hj; rfl
  | 1, hj => cases hj; rfl
  | 2, hj => cases hj; rfl
  | 3, hj => cases hj; rfl
set_option maxRecDepth 100000 in
set_option maxHeartbeats 4000000 in
theorem esText_any (x0 : Int) (x1 x2 : ByteArray) (x3 : Int) (x4 : Bool) (w : World) (hv : esB (x0, x1, x2, x3, x4) = true) (hp : Pow w) :
    Calls Tryd.prog 20 #[.agg #[.int .i64 x0, .string x1, .string x2, .int .i64 x3, .bool x4]] w fun e w' => e = .returned (strV (esLine (x0, x1, x2, x3, x4))) ∧ Below w.heap.size w w' := by
  obtain ⟨⟨h1, h2⟩, h3, h4, h5⟩ := esB_parts hv
  have B1 : Below w.heap.size w (w.alloc (.cells #[.int .i64 x0, .string x1, .string x2, .int .i64 x3, .bool x4] 37)) := (Below.refl _ w).alloc (Nat.le_refl _) _
  have hbx := EsC.fresh w 37 x0 x1 x2 x3 x4
  have hml := magP_len h5
  have HM : Hid (magV x3 = strV (magP x3)) := Lib.hid (by rw [magV, h5, if_pos rfl])
  have hll := esLine_len hv
  have hdl := itoa_len x0 (by omega) (by omega)
  have HDC : ∀ W, Pow W → Calls Tryd.prog 38 #[.int .i64 x0] W fun e w' => e = .returned (.string ⟨(Lib.itoa x0).toArray⟩) ∧ Below W.heap.size W w' := fun W hW => iDecimal_any x0 W (by omega) (by omega) hW
  obtain ⟨sm, hsm⟩ : ∃ sm : ByteArray, (⟨((if x4 then [60] else []) ++ magP x3).toArray⟩ : ByteArray) = sm := ⟨_, rfl⟩
  have HJ : ∀ (W : World) (bk : Nat), (∀ (j : Nat) (x : ByteArray), ([⟨(Lib.itoa x0).toArray⟩, x1, x2, sm] : List ByteArray)[j]? = some x → W.cell? ⟨bk, 0 + j, none⟩ = some (.string x)) → bk < W.heap.size → Calls Tryd.prog 37 #[.slice (some ⟨bk, 0, none⟩) 4 4, .string ⟨#[32]⟩] W fun e w' => e = .returned (strV (esLine (x0, x1, x2, x3, x4))) ∧ Below W.heap.size W w' := fun W bk hc hb => by
    have hjj : Lib.join (([⟨(Lib.itoa x0).toArray⟩, x1, x2, sm] : List ByteArray).map (·.data.toList)) (⟨#[32]⟩ : ByteArray).data.toList = esLine (x0, x1, x2, x3, x4) := by
      rw [← esLine_join, ← hsm]; rfl
    have h9 := Tryd.strings_Join bk 0 4 [⟨(Lib.itoa x0).toArray⟩, x1, x2, sm] ⟨#[32]⟩ W hc hb (by simp) (by simp) (by rw [hjj]; omega)
    rw [hjj] at h9
    exact h9
  have HSM := Lib.hid hsm
  clear hsm hv
  generalize esLine (x0, x1, x2, x3, x4) = L at HJ hll ⊢
  go_enter Tryd.func20, Tryd.ntmps20
  go_wp2_with fail
  generalize w.alloc (.cells #[.int .i64 x0, .string x1, .string x2, .int .i64 x3, .bool x4] 37) = v at hbx B1 ⊢
  obtain ⟨-, k0, k1, k2, k3, k4⟩ := hbx.parts
  rw [Nat.zero_add] at k1 k2 k3 k4
  refine (iMagText_any x3 v (hp.mono B1)).mono ?_
  rintro e w2 ⟨rfl, b2⟩
  rw [HM.out, strV]
  have B2 := belowCall B1 b2
  have hp2 := hp.mono B2
  clear k0 k1 k2 k3 k4
  obtain ⟨hlt2, k0, k1, k2, k3, k4⟩ := (hbx.mono b2).parts
  rw [Nat.zero_add] at k1 k2 k3 k4
  have mixed : Tryd.prog.follows .mixedOrders = true := by kernel_rfl
  generalize (Lib.itoa x0).toArray = dd at HDC HJ
  cases x4
  · have HS : Hid ((⟨(magP x3).toArray⟩ : ByteArray) = sm) := Lib.hid HSM.out
    rw [HS.out]
    go_wp2_with fail
    go_region_held3 (fun W' => W'.cell? ⟨w.heap.size, 0, none⟩ = some (.int .i64 x0) ∧ W'.cell? ⟨w.heap.size, 1, none⟩ = some (.string x1) ∧ W'.cell? ⟨w.heap.size, 2, none⟩ = some (.string x2)) (refine ⟨?_, ?_, ?_⟩ <;> first | assumption | exact ((show Below w2.heap.size w2 _ by (repeat (first | assumption | exact Below.refl _ _ | refine belowDN ?_ _ | refine Below.drew ?_ | refine Below.setCell ?_ (by first | omega | (simp <;> omega)) _ | refine Below.alloc ?_ (by first | omega | (simp <;> omega)) _ | refine belowCall ?_ (by assumption)))).cell (p := ⟨w.heap.size, 0, none⟩) hlt2).trans k0 | exact ((show Below w2.heap.size w2 _ by (repeat (first | assumption | exact Below.refl _ _ | refine belowDN ?_ _ | refine Below.drew ?_ | refine Below.setCell ?_ (by first | omega | (simp <;> omega)) _ | refine Below.alloc ?_ (by first | omega | (simp <;> omega)) _ | refine belowCall ?_ (by assumption)))).cell (p := ⟨w.heap.size, 1, none⟩) hlt2).trans k1 | exact ((show Below w2.heap.size w2 _ by (repeat (first | assumption | exact Below.refl _ _ | refine belowDN ?_ _ | refine Below.drew ?_ | refine Below.setCell ?_ (by first | omega | (simp <;> omega)) _ | refine Below.alloc ?_ (by first | omega | (simp <;> omega)) _ | refine belowCall ?_ (by assumption)))).cell (p := ⟨w.heap.size, 2, none⟩) hlt2).trans k2) (first | (go_at_call 38; refine (HDC _ (hp2.mono (by (repeat (first | assumption | exact Below.refl _ _ | refine belowDN ?_ _ | refine Below.drew ?_ | refine Below.setCell ?_ (by first | omega | (simp <;> omega)) _ | refine Below.alloc ?_ (by first | omega | (simp <;> omega)) _ | refine belowCall ?_ (by assumption)))))).mono ?_; rintro e wA ⟨rfl, bA⟩; have bA' : Below w2.heap.size w2 wA := belowCall (by (repeat (first | assumption | exact Below.refl _ _ | refine belowDN ?_ _ | refine Below.drew ?_ | refine Below.setCell ?_ (by first | omega | (simp <;> omega)) _ | refine Below.alloc ?_ (by first | omega | (simp <;> omega)) _ | refine belowCall ?_ (by assumption)))) bA; have zA := bA'.size) | (go_at_call 37; refine (HJ _ _ (four_cells _ _ _ _ _ _) (by simp)).mono ?_; rintro e wB ⟨rfl, bB⟩))
    all_goals
      go_wp2
      go_ret
      exact ⟨rfl, belowCall B2 (by (repeat (first | assumption | exact Below.refl _ _ | refine belowDN ?_ _ | refine Below.drew ?_ | refine Below.setCell ?_ (by first | omega | (simp <;> omega)) _ | refine Below.alloc ?_ (by first | omega | (simp <;> omega)) _ | refine belowCall ?_ (by assumption))))⟩
  · have hcat : (⟨#[60]⟩ : ByteArray) ++ (⟨(magP x3).toArray⟩ : ByteArray) = sm := by rw [← HSM.out]; exact ba_cat [60] (magP x3)
    have hsz : ¬ 9223372036854775807 < 1 + (magP x3).length := by omega
    go_wp2_with (rw [hcat])
    go_region_held3 (fun W' => W'.cell? ⟨w.heap.size, 0, none⟩ = some (.int .i64 x0) ∧ W'.cell? ⟨w.heap.size, 1, none⟩ = some (.string x1) ∧ W'.cell? ⟨w.heap.size, 2, none⟩ = some (.string x2)) (refine ⟨?_, ?_, ?_⟩ <;> first | assumption | exact ((show Below w2.heap.size w2 _ by (repeat (first | assumption | exact Below.refl _ _ | refine belowDN ?_ _ | refine Below.drew ?_ | refine Below.setCell ?_ (by first | omega | (simp <;> omega)) _ | refine Below.alloc ?_ (by first | omega | (simp <;> omega)) _ | refine belowCall ?_ (by assumption)))).cell (p := ⟨w.heap.size, 0, none⟩) hlt2).trans k0 | exact ((show Below w2.heap.size w2 _ by (repeat (first | assumption | exact Below.refl _ _ | refine belowDN ?_ _ | refine Below.drew ?_ | refine Below.setCell ?_ (by first | omega | (simp <;> omega)) _ | refine Below.alloc ?_ (by first | omega | (simp <;> omega)) _ | refine belowCall ?_ (by assumption)))).cell (p := ⟨w.heap.size, 1, none⟩) hlt2).trans k1 | exact ((show Below w2.heap.size w2 _ by (repeat (first | assumption | exact Below.refl _ _ | refine belowDN ?_ _ | refine Below.drew ?_ | refine Below.setCell ?_ (by first | omega | (simp <;> omega)) _ | refine Below.alloc ?_ (by first | omega | (simp <;> omega)) _ | refine belowCall ?_ (by assumption)))).cell (p := ⟨w.heap.size, 2, none⟩) hlt2).trans k2) (first | (go_at_call 38; refine (HDC _ (hp2.mono (by (repeat (first | assumption | exact Below.refl _ _ | refine belowDN ?_ _ | refine Below.drew ?_ | refine Below.setCell ?_ (by first | omega | (simp <;> omega)) _ | refine Below.alloc ?_ (by first | omega | (simp <;> omega)) _ | refine belowCall ?_ (by assumption)))))).mono ?_; rintro e wA ⟨rfl, bA⟩; have bA' : Below w2.heap.size w2 wA := belowCall (by (repeat (first | assumption | exact Below.refl _ _ | refine belowDN ?_ _ | refine Below.drew ?_ | refine Below.setCell ?_ (by first | omega | (simp <;> omega)) _ | refine Below.alloc ?_ (by first | omega | (simp <;> omega)) _ | refine belowCall ?_ (by assumption)))) bA; have zA := bA'.size) | (go_at_call 37; refine (HJ _ _ (four_cells _ _ _ _ _ _) (by simp)).mono ?_; rintro e wB ⟨rfl, bB⟩))
    all_goals
      go_wp2
      go_ret
      exact ⟨rfl, belowCall B2 (by (repeat (first | assumption | exact Below.refl _ _ | refine belowDN ?_ _ | refine Below.drew ?_ | refine Below.setCell ?_ (by first | omega | (simp <;> omega)) _ | refine Below.alloc ?_ (by first | omega | (simp <;> omega)) _ | refine belowCall ?_ (by assumption))))⟩
set_option maxRecDepth 100000 in
set_option maxHeartbeats 4000000 in
theorem iEsTxt_any (a : Option Addr) (n c : Nat) (xs : List Es) (w : World) (h : EsL w a n xs) (hn : n ≤ 1048576) (hp : Pow w) :
    Calls Tryd.prog 8 #[.slice a n c] w fun e w' => e = .returned (strV (esTxt xs)) ∧ Below w.heap.size w w' := by
  have HL := Lib.hid h.1
  cases hok : okE xs
  · have HD := Lib.hid (esTxt_no hok)
    go_enter Tryd.func8, Tryd.ntmps8
    go_wp2_with fail
    refine (iValidEs_any a n c xs w h hn).mono ?_
    rintro e w2 ⟨rfl, b2⟩
    rw [hok]
    go_wp2
    go_ret
    exact ⟨by rw [HD.out]; rfl, b2⟩
  have HD := Lib.hid (esTxt_yes h.1 hok)
  obtain ⟨h100, hall⟩ := okE_at h.1 hok
  have HLE := Lib.hid (esTx_len h.1 hall)
  have HAL := Lib.hid hall
  have hl : (n : Int) ≤ 100 := by omega
  go_enter Tryd.func8, Tryd.ntmps8
  go_wp2_with fail
  refine (iValidEs_any a n c xs w h hn).mono ?_
  rintro e w2 ⟨rfl, b2⟩
  rw [hok]
  have h2 := h.mono b2
  have hp2 := hp.mono b2
  have hnew := bld_new w2
  have bnew : Below w2.heap.size w2 (w2.alloc (.cells #[.pointer none, .slice none 0 0] 42)) := (Below.refl _ _).alloc (Nat.le_refl _) _
  clear hok hall
  go_wp2
  go_loopw [11] (fun i wr => ∃ k : Nat, k ≤ n ∧ i = .int .i64 k ∧ Bld w2.heap.size w2.heap.size (esTx xs k) wr ∧ Below w2.heap.size w2 wr) (fun i _ => n - (Go.RowKit.intOf i).toNat)
  case atStart => exact ⟨0, Nat.zero_le _, rfl, hnew, bnew⟩
  case round =>
    obtain ⟨k, hk, rfl, hb, hB⟩ := hrel
    clear hnew bnew
    have hlk := HLE.out k hk
    by_cases hlt : k < n
    · obtain ⟨b1, o1, rfl, hc⟩ := h2.2 k hlt
      obtain ⟨⟨x0, x1, x2, x3, x4⟩, hx⟩ : ∃ x, xs[k]?.getD es0 = x := ⟨_, rfl⟩
      have hv : esB (x0, x1, x2, x3, x4) = true := by
        have h9 := HAL.out k hlt
        rw [okAtE, Bool.and_eq_true, hx] at h9
        exact h9.1
      have HS := Lib.hid (esTx_succ HL.out hlt hx)
      have hln := esLine_len hv
      rw [hx] at hc
      obtain ⟨-, p0, p1, p2, p3, p4⟩ := (hc.mono hB).parts
      clear hx hc
      have hkk : (k : Int) < (n : Int) := by omega
      have hBA : Below w2.heap.size w2 (wr.alloc (.cells #[.int .i64 x0, .string x1, .string x2, .int .i64 x3, .bool x4] 37)) := hB.alloc hB.size _
      have hbA : Bld w2.heap.size w2.heap.size (esTx xs k) (wr.alloc (.cells #[.int .i64 x0, .string x1, .string x2, .int .i64 x3, .bool x4] 37)) := hb.below ((Below.refl _ _).alloc (Nat.le_refl _) _)
      go_wp2_with fail
      generalize wr.alloc (.cells #[.int .i64 x0, .string x1, .string x2, .int .i64 x3, .bool x4] 37) = wA at hBA hbA ⊢
      refine (esText_any x0 x1 x2 x3 x4 wA hv (hp2.mono hBA)).mono ?_
      rintro e w5 ⟨rfl, b5⟩
      have hb5 := hbA.below b5
      have c5 := belowCall hBA b5
      generalize esLine (x0, x1, x2, x3, x4) = L at hln HS ⊢
      go_wp2_with fail
      refine (bwString w2.heap.size w2.heap.size (esTx xs k) L w5 hb5 (by omega)).mono ?_
      rintro e w6 ⟨rfl, hb6, b6⟩
      go_wp2_with fail
      refine (bwByte w2.heap.size w2.heap.size _ 10 10 w6 rfl hb6 (by simp only [List.length_append]; omega)).mono ?_
      rintro e w7 ⟨rfl, hb7, b7⟩
      have HB7 := Lib.hid (c5.trans (b6.trans b7))
      have HBL := Lib.hid hb7
      clear hb7 b6 b7
      go_wp2
      go_roundw
      case rel => exact ⟨k + 1, by omega, by go_num, by rw [HS.out, ← List.append_assoc]; exact HBL.out, HB7.out⟩
      case measure => simp [Go.RowKit.intOf]; omega
    · obtain rfl : k = n := by omega
      go_wp2_with fail
      refine (bwDone w2.heap.size w2.heap.size _ wr hb).mono ?_
      rintro e w6 ⟨rfl, b6⟩
      go_wp2
      go_ret
      exact ⟨by rw [HD.out]; rfl, belowCall b2 (hB.trans b6)⟩
theorem step_append_str {P : Program} {ops : Array Oper} {o : Oper} {a : Act} {w : World} {K : Act → World → Prop} {Q : Exit → Act → World → Prop} {E : Prop} (hgd : o.guard = none) (sl x : Operand) (t u : TypeId)
    (ho : o.op = .call { callee := .builtin .append, args := #[sl, x], argTypes := #[t, u] })
    (base : Nat) (e : TypeId) (i : TypeInfo) (ht : P.underlying t = some (.slice e)) (hu : P.underlying u = some .string) (hi : P.info? e = some i) (hz : i.zero = some (.int .u8 0))
    (hsize : i.size = 1) (hby : i.bytes = 1)
    (v : Value) (n : Nat) (xs : List Value) (hs : a.eval sl = v) (hown : w.ownsRow base e 1 v n xs) (s : ByteArray) (hx : a.eval x = .string s)
    (h63 : n + s.size ≤ maxLen) (hbytes : n + s.size ≤ 140737488355328) (hbase : base ≤ w.heap.size)
    (h : ∀ v' w', w'.ownsRow base e 1 v' (n + s.size) (xs ++ Lib.strCells s) → w.grownBy w' v.ownBlock → (v' = .slice none 0 0 ↔ v = .slice none 0 0 ∧ s.size = 0) → K (a.put o.dst v') w') :
    if Region.wanted o (yielded ops a.tmps) = true then Oper.wp P o a w K Q else E := by
  have hw : Region.wanted o (yielded ops a.tmps) = true := by simp [Region.wanted, hgd]
  rw [if_pos hw]
  obtain ⟨v', w', hr, h2, h3, h4⟩ := Lib.run_append_own_string (P := P) w base t u o.type e i ht hu hi hz hsize hby v n xs hown s h63 hbytes hbase
  unfold Oper.wp execOp
  simp only [ho, resolve, invoke, builtin, Sem.run_bind, Sem.run_pure, Result.andThen_ok, List.map_toArray, List.map_cons, List.map_nil, hs, hx, hr]
  exact h v' w' h2 h3 h4
theorem strCells_is (l : List UInt8) : Lib.strCells ⟨l.toArray⟩ = bytesV l := by simp [Lib.strCells, bytesV]
theorem bytesV_app (a b : List UInt8) : bytesV a ++ bytesV b = bytesV (a ++ b) := by simp [bytesV]
theorem ownKeepT {w w' : World} {B e s n : Nat} {v : Value} {xs : List Value} (h : w.ownsRow B e s v n xs) (hb : Below w.heap.size w w') : w'.ownsRow B e s v n xs :=
  h.kept ⟨hb.os, hb.tape, hb.output, hb.size, fun k hk _ => hb.block k hk⟩ (row := none) (by
    cases hv : v.ownBlock with
    | none => exact .inl rfl
    | some g => exact .inr (by simp))
theorem one_new9 (w : World) (v : Value) (T : TypeId) : ∀ j u, [v][j]? = some u → (w.alloc (.cells #[v] T)).cell? ((⟨w.heap.size, 0, none⟩ : Addr).add j) = some u := by
  intro j u hj
  match j, hj with
  | 0, hj => cases hj; rw [Go.WideShapes.add_plain, World.cell?_alloc_new]; rfl
/-- a list that owns something is no nil -/
theorem own_shape {w : World} {B e n : Nat} {v : Value} {xs : List Value} (h : w.ownsRow B e 1 v n xs) (h0 : n ≠ 0 ∨ v ≠ .slice none 0 0) : ∃ g c, v = .slice (some ⟨g, 0, none⟩) n c := by
  rcases h.2 with ⟨rfl, rfl⟩ | ⟨g, cap, cur, rfl, _⟩
  · rcases h0 with h0 | h0 <;> exact absurd rfl h0
  · exact ⟨g, cap, rfl⟩
/-- the front of a line -/
def esFront (x0 : Int) (x1 x2 : ByteArray) : List UInt8 := Lib.itoa x0 ++ 32 :: (x1.data.toList ++ 32 :: (x2.data.toList ++ [32]))
theorem esFront_is (x0 : Int) (x1 x2 : ByteArray) : ((((⟨(Lib.itoa x0).toArray⟩ ++ ⟨#[32]⟩ : ByteArray) ++ x1) ++ ⟨#[32]⟩) ++ x2) ++ ⟨#[32]⟩ = ⟨(esFront x0 x1 x2).toArray⟩ := by
  apply ByteArray.ext
  simp [esFront]
theorem esLine_front (x0 : Int) (x1 x2 : ByteArray) (x3 : Int) (x4 : Bool) : esLine (x0, x1, x2, x3, x4) ++ [10] = esFront x0 x1 x2 ++ ((if x4 then [60] else []) ++ (magL x3 ++ [10])) := by
  rw [← magP_is]; simp [esLine, esFront]
set_option maxRecDepth 100000 in
set_option maxHeartbeats 4000000 in
theorem l06Text_any (a : Option Addr) (n c : Nat) (xs : List Es) (w : World) (h : EsL w a n xs) (h100 : n ≤ 100) (hall : ∀ k, k < n → okAtE xs k = true) :
    Calls Tryd.prog 16 #[.slice a n c] w fun e w' => e = .returned (strV (esTx xs n)) ∧ Below w.heap.size w w' := by
  have HL := Lib.hid h.1
  have HLE := Lib.hid (esTx_len h.1 hall)
  have HAL := Lib.hid hall
  have hl : (n : Int) ≤ 100 := by omega
  obtain ⟨i0, hi, hz0, hz1, hz2⟩ := info_parts U_info
  have hE2 : (w.alloc (.cells #[] 5)).ownsRow w.heap.size 5 1 (.slice (some ⟨w.heap.size, 0, none⟩) 0 0) 0 [] := World.ownsRow_lit w #[] 0 (Nat.le_refl _) (by unfold maxLen; omega) rfl
  have b2e : Below w.heap.size w (w.alloc (.cells #[] 5)) := (Below.refl _ _).alloc (Nat.le_refl _) _
  have mixed : Tryd.prog.follows .mixedOrders = true := by kernel_rfl
  clear hall
  go_enter Tryd.func16, Tryd.ntmps16
  go_wp2
  go_loopw [3, 4] (fun o i wr => ∃ (k g c : Nat), k ≤ n ∧ i = .int .i64 k ∧ o = .slice (some ⟨g, 0, none⟩) (esTx xs k).length c ∧ wr.ownsRow w.heap.size 5 1 (.slice (some ⟨g, 0, none⟩) (esTx xs k).length c) (esTx xs k).length (bytesV (esTx xs k)) ∧ Below w.heap.size w wr) (fun _ i _ => n - (Go.RowKit.intOf i).toNat)
  case atStart => exact ⟨0, w.heap.size, 0, Nat.zero_le _, rfl, rfl, hE2, b2e⟩
  case round =>
    obtain ⟨k, g, cg, hk, rfl, rfl, hown, hB⟩ := hrel
    clear hE2 b2e
    have hlk := HLE.out k hk
    by_cases hlt : k < n
    · obtain ⟨b1, o1, rfl, hc⟩ := h.2 k hlt
      obtain ⟨⟨x0, x1, x2, x3, x4⟩, hx⟩ : ∃ x, xs[k]?.getD es0 = x := ⟨_, rfl⟩
      have hv : esB (x0, x1, x2, x3, x4) = true := by
        have h9 := HAL.out k hlt
        rw [okAtE, Bool.and_eq_true, hx] at h9
        exact h9.1
      have HS := Lib.hid (esTx_succ HL.out hlt hx)
      rw [hx] at hc
      have hbw : b1 < w.heap.size := hc.1
      obtain ⟨hb1, p0, p1, p2, p3, p4⟩ := (hc.mono hB).parts
      have hgw : w.heap.size ≤ g := (hown.lt g rfl).1
      have hzr := hB.size
      obtain ⟨⟨t1, t2⟩, t3, t4, t5⟩ := esB_parts hv
      have hdl := itoa_len x0 (by omega) (by omega)
      obtain ⟨m1, m2⟩ := magB_iff.1 t5
      have HDC : ∀ W, Calls Tryd.prog 32 #[.int .i64 x0] W fun e w' => e = .returned (.string ⟨(Lib.itoa x0).toArray⟩) ∧ Below W.heap.size W w' := fun W => l01Dec_any x0 W (by omega) (by omega)
      have hds : (⟨(Lib.itoa x0).toArray⟩ : ByteArray).size ≤ 20 := hdl
      have HFR := Lib.hid (esFront_is x0 x1 x2)
      have HLF := Lib.hid (esLine_front x0 x1 x2 x3 x4)
      have hfl : (esFront x0 x1 x2).length ≤ 60 ∧ 0 < (esFront x0 x1 x2).length := by
        have e3 : x1.data.toList.length ≤ 12 := by simpa using t3
        have e4 : x2.data.toList.length ≤ 12 := by simpa using t4
        simp only [esFront, List.length_append, List.length_cons, List.length_nil]; omega
      have HTX : ∀ W, Calls Tryd.prog 33 #[.int .i64 x3] W fun e w' => e = .returned (.string ⟨(magL x3).toArray⟩) ∧ Below W.heap.size W w' := fun W => l02Text_any x3 W (by omega) (by omega)
      have hml : (magL x3).length ≤ 82 := by rw [← magP_is]; exact magP_len t5
      have HNL := Lib.hid (ba_cat (magL x3) [10])
      generalize magL x3 = ML at HTX hml HNL HLF
      generalize (⟨(Lib.itoa x0).toArray⟩ : ByteArray) = dd at hds HDC HFR
      generalize esFront x0 x1 x2 = FR at HFR HLF hfl
      generalize esTx xs k = T at hown hlk HS ⊢
      clear hx hc hv hdl
      have hkk : (k : Int) < (n : Int) := by omega
      have s1 : ¬ 9223372036854775807 < dd.size + 1 := by omega
      have s2 : ¬ 9223372036854775807 < dd.size + 1 + x1.size := by omega
      have s3 : ¬ 9223372036854775807 < dd.size + 1 + x1.size + 1 := by omega
      have s4 : ¬ 9223372036854775807 < dd.size + 1 + x1.size + 1 + x2.size := by omega
      have s5 : ¬ 9223372036854775807 < dd.size + 1 + x1.size + 1 + x2.size + 1 := by omega
      go_wp2_with fail
      go_region_held3 (fun W' => W'.cell? ⟨b1, o1 + k * 5, none⟩ = some (.int .i64 x0) ∧ W'.cell? ⟨b1, o1 + k * 5 + 1, none⟩ = some (.string x1) ∧ W'.cell? ⟨b1, o1 + k * 5 + 2, none⟩ = some (.string x2)) (refine ⟨?_, ?_, ?_⟩ <;> first | assumption | exact ((show Below wr.heap.size wr _ by (repeat (first | assumption | exact Below.refl _ _ | refine belowDN ?_ _ | refine Below.drew ?_ | refine Below.setCell ?_ (by first | omega | (simp <;> omega)) _ | refine Below.alloc ?_ (by first | omega | (simp <;> omega)) _ | refine belowCall ?_ (by assumption)))).cell (p := ⟨b1, o1 + k * 5, none⟩) hb1).trans p0 | exact ((show Below wr.heap.size wr _ by (repeat (first | assumption | exact Below.refl _ _ | refine belowDN ?_ _ | refine Below.drew ?_ | refine Below.setCell ?_ (by first | omega | (simp <;> omega)) _ | refine Below.alloc ?_ (by first | omega | (simp <;> omega)) _ | refine belowCall ?_ (by assumption)))).cell (p := ⟨b1, o1 + k * 5 + 1, none⟩) hb1).trans p1 | exact ((show Below wr.heap.size wr _ by (repeat (first | assumption | exact Below.refl _ _ | refine belowDN ?_ _ | refine Below.drew ?_ | refine Below.setCell ?_ (by first | omega | (simp <;> omega)) _ | refine Below.alloc ?_ (by first | omega | (simp <;> omega)) _ | refine belowCall ?_ (by assumption)))).cell (p := ⟨b1, o1 + k * 5 + 2, none⟩) hb1).trans p2) (first | (go_at_call 32; refine (HDC _).mono ?_; rintro e wA ⟨rfl, bA⟩; have zA : wr.heap.size ≤ wA.heap.size := bA.size) | (refine step_append_str rfl _ _ 40 9 rfl w.heap.size 5 i0 Tryd.underlying40 Tryd.underlying9 hi hz0 hz1 hz2 _ T.length (bytesV T) rfl (ownKeepT hown (by (repeat (first | assumption | exact Below.refl _ _ | refine belowDN ?_ _ | refine Below.drew ?_ | refine Below.setCell ?_ (by first | omega | (simp <;> omega)) _ | refine Below.alloc ?_ (by first | omega | (simp <;> omega)) _ | refine belowCall ?_ (by assumption))))) _ rfl (by rw [HFR.out]; show T.length + FR.length ≤ maxLen; unfold maxLen; omega) (by rw [HFR.out]; show T.length + FR.length ≤ 140737488355328; omega) (by first | omega | (simp; omega)) ?_; intro v6 w6 hown6 hg6 _; rw [HFR.out, strCells_is, bytesV_app] at hown6; have hown6 : w6.ownsRow w.heap.size 5 1 v6 (T.length + FR.length) (bytesV (T ++ FR)) := hown6; have hb6 : Below w.heap.size w w6 := (hB.trans ((show Below wr.heap.size wr _ by (repeat (first | assumption | exact Below.refl _ _ | refine belowDN ?_ _ | refine Below.drew ?_ | refine Below.setCell ?_ (by first | omega | (simp <;> omega)) _ | refine Below.alloc ?_ (by first | omega | (simp <;> omega)) _ | refine belowCall ?_ (by assumption)))).mono hzr)).grown hg6 (by first | omega | (simp; omega)) (fun j e => by cases e; exact hgw); have c0 := hg6.cell (a := ⟨b1, o1 + k * 5, none⟩) (v := .int .i64 x0) (by first | assumption | exact ((show Below wr.heap.size wr _ by (repeat (first | assumption | exact Below.refl _ _ | refine belowDN ?_ _ | refine Below.drew ?_ | refine Below.setCell ?_ (by first | omega | (simp <;> omega)) _ | refine Below.alloc ?_ (by first | omega | (simp <;> omega)) _ | refine belowCall ?_ (by assumption)))).cell (p := ⟨b1, o1 + k * 5, none⟩) hb1).trans p0) (fun e => by cases e; omega); have c1 := hg6.cell (a := ⟨b1, o1 + k * 5 + 1, none⟩) (v := .string x1) (by first | assumption | exact ((show Below wr.heap.size wr _ by (repeat (first | assumption | exact Below.refl _ _ | refine belowDN ?_ _ | refine Below.drew ?_ | refine Below.setCell ?_ (by first | omega | (simp <;> omega)) _ | refine Below.alloc ?_ (by first | omega | (simp <;> omega)) _ | refine belowCall ?_ (by assumption)))).cell (p := ⟨b1, o1 + k * 5 + 1, none⟩) hb1).trans p1) (fun e => by cases e; omega); have c2 := hg6.cell (a := ⟨b1, o1 + k * 5 + 2, none⟩) (v := .string x2) (by first | assumption | exact ((show Below wr.heap.size wr _ by (repeat (first | assumption | exact Below.refl _ _ | refine belowDN ?_ _ | refine Below.drew ?_ | refine Below.setCell ?_ (by first | omega | (simp <;> omega)) _ | refine Below.alloc ?_ (by first | omega | (simp <;> omega)) _ | refine belowCall ?_ (by assumption)))).cell (p := ⟨b1, o1 + k * 5 + 2, none⟩) hb1).trans p2) (fun e => by cases e; omega); have c3 := hg6.cell (a := ⟨b1, o1 + k * 5 + 3, none⟩) (v := .int .i64 x3) (by first | assumption | exact ((show Below wr.heap.size wr _ by (repeat (first | assumption | exact Below.refl _ _ | refine belowDN ?_ _ | refine Below.drew ?_ | refine Below.setCell ?_ (by first | omega | (simp <;> omega)) _ | refine Below.alloc ?_ (by first | omega | (simp <;> omega)) _ | refine belowCall ?_ (by assumption)))).cell (p := ⟨b1, o1 + k * 5 + 3, none⟩) hb1).trans p3) (fun e => by cases e; omega); have c4 := hg6.cell (a := ⟨b1, o1 + k * 5 + 4, none⟩) (v := .bool x4) (by first | assumption | exact ((show Below wr.heap.size wr _ by (repeat (first | assumption | exact Below.refl _ _ | refine belowDN ?_ _ | refine Below.drew ?_ | refine Below.setCell ?_ (by first | omega | (simp <;> omega)) _ | refine Below.alloc ?_ (by first | omega | (simp <;> omega)) _ | refine belowCall ?_ (by assumption)))).cell (p := ⟨b1, o1 + k * 5 + 4, none⟩) hb1).trans p4) (fun e => by cases e; omega); obtain ⟨g6, c6, rfl⟩ := own_shape hown6 (.inl (by omega)); have hz6 := hb6.size; have zz6 : b1 < w6.heap.size := Nat.lt_of_lt_of_le hbw hz6; clear hg6))
      all_goals
        have HO6 := Lib.hid hown6
        have HB6 := Lib.hid hb6
        clear hown6 hown
        cases x4
        · have hNEW : esTx xs (k + 1) = T ++ FR ++ (ML ++ [10]) := by rw [HS.out, HLF.out]; simp
          have HLN : Hid ((esTx xs (k + 1)).length = T.length + FR.length + (ML ++ [10]).length) := Lib.hid (by rw [hNEW]; simp only [List.length_append])
          have HNW := Lib.hid hNEW
          have q1 : ¬ 9223372036854775807 < ML.length + 1 := by omega
          clear hNEW
          go_wp2_with (first | (go_at_call 33; refine (HTX _).mono ?_; rintro e wC ⟨rfl, bC⟩; have zC := bC.size; have HO7 := Lib.hid (ownKeepT HO6.out bC); have HB7 := Lib.hid (belowCall HB6.out bC)) | (at_builtin; refine Lib.wpList_append_own_string _ rfl _ _ 40 9 rfl w.heap.size 5 i0 Tryd.underlying40 Tryd.underlying9 hi hz0 hz1 hz2 _ (T.length + FR.length) (bytesV (T ++ FR)) rfl HO7.out _ rfl (by rw [HNL.out]; show T.length + FR.length + (ML ++ [10]).length ≤ maxLen; simp only [List.length_append, List.length_cons, List.length_nil]; unfold maxLen; omega) (by rw [HNL.out]; show T.length + FR.length + (ML ++ [10]).length ≤ 140737488355328; simp only [List.length_append, List.length_cons, List.length_nil]; omega) HB7.out.size ?_; intro v7 w7 hown7 hg7 _; rw [HNL.out, strCells_is, bytesV_app] at hown7; have hown7 : w7.ownsRow w.heap.size 5 1 v7 (T.length + FR.length + (ML ++ [10]).length) (bytesV (T ++ FR ++ (ML ++ [10]))) := hown7; rw [← HNW.out, ← HLN.out] at hown7; have hB9 : Below w.heap.size w w7 := HB7.out.grown hg7 HB7.out.size (fun j e => (HO7.out.lt j e).1); clear hg7))
          (obtain ⟨g7, c7, rfl⟩ := own_shape hown7 (.inl (by rw [HLN.out]; omega)); have HO9 := Lib.hid hown7; have HB9 := Lib.hid hB9; have HLZ := HLN; clear hown7; go_wp2; go_roundw; (case rel => exact ⟨k + 1, g7, c7, by omega, by go_num, rfl, HO9.out, HB9.out⟩); (case measure => simp [Go.RowKit.intOf]; omega))
        · have hNEW : esTx xs (k + 1) = T ++ FR ++ [60] ++ (ML ++ [10]) := by rw [HS.out, HLF.out]; simp
          have HLN : Hid ((esTx xs (k + 1)).length = T.length + FR.length + 1 + (ML ++ [10]).length) := Lib.hid (by rw [hNEW]; simp only [List.length_append, List.length_cons, List.length_nil] <;> omega)
          have HNW := Lib.hid hNEW
          have q1 : ¬ 9223372036854775807 < ML.length + 1 := by omega
          clear hNEW
          go_wp2_with (at_builtin; refine wpList_append_own _ rfl _ _ 40 rfl w.heap.size 5 i0 (.int .u8 0) 1 1 Tryd.underlying40 hi hz0 hz1 hz2 rfl (by decide) _ (T.length + FR.length) (bytesV (T ++ FR)) rfl (HO6.out.alloc _) ⟨w6.heap.size, 0, none⟩ 1 1 [.int .u8 60] rfl rfl (one_new9 _ _ _) (by intro u hu; simp at hu; subst hu; rfl) (by unfold maxLen; omega) (by omega) (by simp; omega) ?_; intro v8 w8 hown8 hg8 _; have hown8 : w8.ownsRow w.heap.size 5 1 v8 (T.length + FR.length + 1) (bytesV (T ++ FR ++ [60])) := (by rw [← bytesV_app]; exact hown8); have hB8 : Below w.heap.size w w8 := (HB6.out.alloc hz6 _).grown hg8 (by simp; omega) (fun j e => (HO6.out.lt j e).1); have d3 := hg8.cell (a := ⟨b1, o1 + k * 5 + 3, none⟩) (v := .int .i64 x3) ((World.cell?_alloc_past (w := w6) _ b1 (o1 + k * 5 + 3) zz6).trans c3) (fun e => by have h9 := (HO6.out.lt b1 e.symm).1; omega); obtain ⟨g8, c8, rfl⟩ := own_shape hown8 (.inl (by omega)); have HO8 := Lib.hid hown8; have HB8 := Lib.hid hB8; clear hown8 hg8 c0 c1 c2 c3 c4)
          go_wp2_with (first | (go_at_call 33; refine (HTX _).mono ?_; rintro e wC ⟨rfl, bC⟩; have zC := bC.size; have HO7 := Lib.hid (ownKeepT HO8.out bC); have HB7 := Lib.hid (belowCall HB8.out bC)) | (at_builtin; refine Lib.wpList_append_own_string _ rfl _ _ 40 9 rfl w.heap.size 5 i0 Tryd.underlying40 Tryd.underlying9 hi hz0 hz1 hz2 _ (T.length + FR.length + 1) (bytesV (T ++ FR ++ [60])) rfl HO7.out _ rfl (by rw [HNL.out]; show T.length + FR.length + 1 + (ML ++ [10]).length ≤ maxLen; simp only [List.length_append, List.length_cons, List.length_nil]; unfold maxLen; omega) (by rw [HNL.out]; show T.length + FR.length + 1 + (ML ++ [10]).length ≤ 140737488355328; simp only [List.length_append, List.length_cons, List.length_nil]; omega) HB7.out.size ?_; intro v7 w7 hown7 hg7 _; rw [HNL.out, strCells_is, bytesV_app] at hown7; have hown7 : w7.ownsRow w.heap.size 5 1 v7 (T.length + FR.length + 1 + (ML ++ [10]).length) (bytesV (T ++ FR ++ [60] ++ (ML ++ [10]))) := hown7; rw [← HNW.out, ← HLN.out] at hown7; have hB9 : Below w.heap.size w w7 := HB7.out.grown hg7 HB7.out.size (fun j e => (HO7.out.lt j e).1); clear hg7))
          (obtain ⟨g7, c7, rfl⟩ := own_shape hown7 (.inl (by rw [HLN.out]; omega)); have HO9 := Lib.hid hown7; have HB9 := Lib.hid hB9; have HLZ := HLN; clear hown7; go_wp2; go_roundw; (case rel => exact ⟨k + 1, g7, c7, by omega, by go_num, rfl, HO9.out, HB9.out⟩); (case measure => simp [Go.RowKit.intOf]; omega))
    · obtain rfl : k = n := by omega
      have hcv := run_convert_bytes_back (P := Tryd.prog) wr 40 9 5 ⟨g, 0, none⟩ cg (esTx xs k) Tryd.underlying40 Tryd.underlying5 Tryd.underlying9 (own_bytes hown)
      obtain ⟨T, hT⟩ : ∃ T, esTx xs k = T := ⟨_, rfl⟩
      have HT := Lib.hid hT
      rw [hT] at hcv ⊢
      clear hT hown hlk
      go_wp2
      go_ret
      exact ⟨by rw [HT.out]; rfl, hB⟩
theorem sEsTxt_any (a : Option Addr) (n c : Nat) (xs : List Es) (w : World) (h : EsL w a n xs) (hn : n ≤ 1048576) :
    Calls Tryd.prog 6 #[.slice a n c] w fun e w' => e = .returned (strV (esTxt xs)) ∧ Below w.heap.size w w' := by
  cases hok : okE xs
  · have HD := Lib.hid (esTxt_no hok)
    go_enter Tryd.func6, Tryd.ntmps6
    go_wp2_with fail
    refine (l06Ok_below a n c xs w h hn).mono ?_
    rintro e w2 ⟨rfl, b2⟩
    rw [hok]
    go_wp2
    go_ret
    exact ⟨by rw [HD.out]; rfl, b2⟩
  have HD := Lib.hid (esTxt_yes h.1 hok)
  obtain ⟨h100, hall⟩ := okE_at h.1 hok
  have HT := Lib.hid (fun (W : World) (hW : EsL W a n xs) => l06Text_any a n c xs W hW h100 hall)
  generalize esTx xs n = T at HT HD
  go_enter Tryd.func6, Tryd.ntmps6
  go_wp2_with fail
  refine (l06Ok_below a n c xs w h hn).mono ?_
  rintro e w2 ⟨rfl, b2⟩
  rw [hok]
  go_wp2_with fail
  refine (HT.out w2 (h.mono b2)).mono ?_
  rintro e w3 ⟨rfl, b3⟩
  go_wp2
  go_ret
  exact ⟨by rw [HD.out]; rfl, belowCall b2 b3⟩
/-- the text as the law sees it -/
def esTb (xs : List Es) : ByteArray := ⟨(esTxt xs).toArray⟩
theorem sEsTb_any (a : Option Addr) (n c : Nat) (xs : List Es) (w : World) (h : EsL w a n xs) (hn : n ≤ 1048576) :
    Calls Tryd.prog 6 #[.slice a n c] w fun e w' => e = .returned (.string (esTb xs)) ∧ Below w.heap.size w w' := sEsTxt_any a n c xs w h hn
theorem iEsTb_any (a : Option Addr) (n c : Nat) (xs : List Es) (w : World) (h : EsL w a n xs) (hn : n ≤ 1048576) (hp : Pow w) :
    Calls Tryd.prog 8 #[.slice a n c] w fun e w' => e = .returned (.string (esTb xs)) ∧ Below w.heap.size w w' := iEsTxt_any a n c xs w h hn hp
theorem powX_laid {W : World} (h : laidMetH Tryd.prog [("internal/strconv.uint64pow10", Lib.tabData .u64 Lib.pow10Tab)] W) : Pow W :=
  Lib.tabIs_of_head (rest := []) pow_global pow_type Tryd.underlying104 Tryd.underlying97 (by kernel_rfl) (by kernel_rfl) h
end Go.Proofs.YtfnjndbnogeddaaDoor
