/- LinkedTo, ShiftsFrom, the model's. -/
import Derived.Test.YtfnjndbnogeddaaL3
namespace Go.Proofs.Ytfnjndbnogeddaa
open Go.ChangeShapes Go.WideShapes Go.ChangeAt Go.RowKit Go.Deep

open Classical in
/-- the table where the rounds end -/
noncomputable def finK (xs : List Cm) (c first : Nat) : Kn := if h : ∃ i, newQ xs c (itK xs c (kn0 first) i) = [] then itK xs c (kn0 first) (Classical.choose h) else kn0 first
theorem finK_of {xs : List Cm} {c first i : Nat} (h : newQ xs c (itK xs c (kn0 first) i) = []) : itK xs c (kn0 first) i = finK xs c first := by
  have hex : ∃ i, newQ xs c (itK xs c (kn0 first) i) = [] := ⟨i, h⟩
  unfold finK
  rw [dif_pos hex]
  exact itK_one h (Classical.choose_spec hex)
def lnkN (c : Nat) (kn : Kn) : List Nat := (List.range c).filter fun b => (kn b).isSome
/-- who is linked -/
noncomputable def lnkL (c f : Int) (xs : List Cm) : List Int := (lnkN c.toNat (finK xs c.toNat f.toNat)).map fun b : Nat => (b : Int)
/-- the shifts of all -/
noncomputable def shfL (c f : Int) (xs : List Cm) : List Int := (List.range c.toNat).map fun b => (finK xs c.toNat f.toNat b).getD 0
def NumsE (B : Nat) (code : Int) (zs : List Int) (w' : World) (e : Ending) : Prop :=
  (code = 0 ∧ ∃ v, e = .returned (.tuple #[v, .int .i64 0]) ∧ w'.ownsRow B 2 1 v zs.length (zs.map (Value.int .i64))) ∨ (code ≠ 0 ∧ e = .returned (.tuple #[.slice none 0 0, .int .i64 code]))
theorem lnkN_step (kn : Kn) (k : Nat) : lnkN (k + 1) kn = lnkN k kn ++ (if (kn k).isSome then [k] else []) := by
  unfold lnkN
  rw [List.range_succ, List.filter_append]
  cases h : (kn k).isSome <;> simp [h]
theorem lnkN_len (kn : Kn) (k : Nat) : (lnkN k kn).length ≤ k := by
  have := List.length_filter_le (fun b => (kn b).isSome) (List.range k)
  simpa [lnkN] using this
theorem sCode_any (c first : Int) (a : Option Addr) (n cap : Nat) (xs : List Cm) (w : World) (h : CmL w a n xs) (hn : n ≤ 1048576) :
    Calls Try.prog 38 #[.int .i64 c, .slice a n cap, .int .i64 first] w fun e w' => e = .returned (.int .i64 (ckC c first xs)) ∧ Below w.heap.size w w' := by
  cases hv : cmsB c xs
  · go_enter Try.func38, Try.ntmps38
    go_wp2_with fail
    refine (l05Commons_below c a n cap xs w h hn).mono ?_
    rintro e w2 ⟨rfl, b2⟩
    rw [hv]
    go_wp2
    go_ret
    exact ⟨by simp [ckC, hv], b2⟩
  obtain ⟨c1, c2, c60, call⟩ := cms_parts hv
  have hw1 : IntKind.i64.wrap (c - 1) = c - 1 := IntWalk.i64_in _ (by omega)
  cases g1 : inB first 0 (c - 1)
  all_goals
    go_enter Try.func38, Try.ntmps38
    go_wp2_with fail
    refine (l05Commons_below c a n cap xs w h hn).mono ?_
    rintro e w2 ⟨rfl, b2⟩
    rw [hv]
    go_wp2_with (go_at_call 60; refine (l00In_any _ _ _ _).mono ?_; rintro e w' ⟨rfl, rfl⟩)
    go_ret
    exact ⟨by simp [ckC, hv, g1], b2⟩
theorem ckC_cases (c first : Int) (xs : List Cm) : ckC c first xs = 1 ∨ ckC c first xs = 2 ∨ (ckC c first xs = 0 ∧ cmsB c xs = true ∧ inB first 0 (c - 1) = true) := by
  unfold ckC
  cases h1 : cmsB c xs <;> cases h2 : inB first 0 (c - 1) <;> simp
set_option maxHeartbeats 1000000 in
theorem sShiftsFrom_any (c first : Int) (a : Option Addr) (n cap : Nat) (xs : List Cm) (w : World) (h : CmL w a n xs) (hn : n ≤ 1048576) :
    Calls Try.prog 24 #[.int .i64 c, .slice a n cap, .int .i64 first] w fun e w' => NumsE w.heap.size (ckC c first xs) (shfL c first xs) w' e ∧ Below w.heap.size w w' := by
  rcases ckC_cases c first xs with hk | hk | ⟨hk, hv, g1⟩
  iterate 2
    · go_enter Try.func24, Try.ntmps24
      go_wp2_with fail
      refine (sCode_any c first a n cap xs w h hn).mono ?_
      rintro e w2 ⟨rfl, b2⟩
      rw [hk]
      go_wp2
      go_ret2
      exact ⟨.inr ⟨by rw [hk]; decide, by rw [hk]; rfl⟩, b2⟩
  obtain ⟨c1, c2, c60, call⟩ := cms_parts hv
  obtain ⟨f1, f2⟩ := inB_iff.1 g1
  obtain ⟨c, rfl⟩ := Int.eq_ofNat_of_zero_le (show 0 ≤ c by omega)
  obtain ⟨first, rfl⟩ := Int.eq_ofNat_of_zero_le f1
  have HA := Lib.hid call
  clear call hv g1
  go_enter Try.func24, Try.ntmps24
  go_wp2_with fail
  refine (sCode_any c first a n cap xs w h hn).mono ?_
  rintro e w2 ⟨rfl, b2⟩
  rw [hk]
  have hn60 : n ≤ 60 := by rw [← h.1]; exact c60
  go_wp2_with fail
  refine (l05From_any c first a n cap xs w2 (h.mono b2) hn60 (by omega) (by omega) HA.out).mono ?_
  rintro e w3 ⟨gS, gK, i, rfl, hq, hS, hK, b3⟩
  have hS2 := hS.congr (f' := shV (finK xs c first)) (fun b _ => by rw [finK_of hq])
  have hbb := b2.size
  have hrow : w3.ownsRow w.heap.size 2 1 (.slice (some ⟨gS, 0, none⟩) c c) (shfL c first xs).length ((shfL c first xs).map (Value.int .i64)) := by
    have e1 : (shfL (c : Int) (first : Int) xs).length = c := by simp [shfL]
    have e2 : (shfL (c : Int) (first : Int) xs).map (Value.int .i64) = rowF c (shV (finK xs c first)) := by simp [shfL, rowF, shV]
    rw [e1, e2]
    exact Go.Joins.ownsRow_le hS2 hbb
  have HR := Lib.hid hrow
  clear hrow hS hS2 hK hq
  go_wp2
  go_ret2
  exact ⟨.inl ⟨hk, _, rfl, HR.out⟩, belowCall b2 b3⟩
set_option maxRecDepth 100000 in
set_option maxHeartbeats 1000000 in
theorem sLinkedTo_any (c first : Int) (a : Option Addr) (n cap : Nat) (xs : List Cm) (w : World) (h : CmL w a n xs) (hn : n ≤ 1048576) :
    Calls Try.prog 16 #[.int .i64 c, .slice a n cap, .int .i64 first] w fun e w' => NumsE w.heap.size (ckC c first xs) (lnkL c first xs) w' e ∧ Below w.heap.size w w' := by
  rcases ckC_cases c first xs with hk | hk | ⟨hk, hv, g1⟩
  iterate 2
    · go_enter Try.func16, Try.ntmps16
      go_wp2_with fail
      refine (sCode_any c first a n cap xs w h hn).mono ?_
      rintro e w2 ⟨rfl, b2⟩
      rw [hk]
      go_wp2
      go_ret2
      exact ⟨.inr ⟨by rw [hk]; decide, by rw [hk]; rfl⟩, b2⟩
  obtain ⟨i0, hi, hz0, hz1, hz2⟩ := info_parts A_info
  obtain ⟨c1, c2, c60, call⟩ := cms_parts hv
  obtain ⟨f1, f2⟩ := inB_iff.1 g1
  obtain ⟨c, rfl⟩ := Int.eq_ofNat_of_zero_le (show 0 ≤ c by omega)
  obtain ⟨first, rfl⟩ := Int.eq_ofNat_of_zero_le f1
  have HA := Lib.hid call
  clear call hv g1
  go_enter Try.func16, Try.ntmps16
  go_wp2_with fail
  refine (sCode_any c first a n cap xs w h hn).mono ?_
  rintro e w2 ⟨rfl, b2⟩
  rw [hk]
  have hn60 : n ≤ 60 := by rw [← h.1]; exact c60
  go_wp2_with fail
  refine (l05From_any c first a n cap xs w2 (h.mono b2) hn60 (by omega) (by omega) HA.out).mono ?_
  rintro e w3 ⟨gS, gK, i, rfl, hq, hS, hK, b3⟩
  have hK2 := hK.congr (f' := soV (finK xs c first)) (fun b _ => by rw [finK_of hq])
  have hLL : lnkL (c : Int) (first : Int) xs = (lnkN c (finK xs c first)).map fun b : Nat => (b : Int) := rfl
  have B3 := belowCall b2 b3
  have hz3 := B3.size
  generalize finK xs c first = kn at hK2 hLL
  have HLL := Lib.hid hLL
  clear hLL hS hK hq
  go_wp2
  go_loopw [11, 12] (fun o v wr => ∃ (k g c' : Nat), k ≤ c ∧ v = .int .i64 k ∧ o = .slice (some ⟨g, 0, none⟩) (lnkN k kn).length c' ∧ wr.ownsRow w3.heap.size 2 1 (.slice (some ⟨g, 0, none⟩) (lnkN k kn).length c') (lnkN k kn).length (((lnkN k kn).map fun b : Nat => (b : Int)).map (Value.int .i64)) ∧ Below w3.heap.size w3 wr) (fun _ v _ => c - (Go.RowKit.intOf v).toNat)
  case atStart => exact ⟨0, w3.heap.size, 0, Nat.zero_le _, rfl, rfl, World.ownsRow_lit w3 #[] 0 (Nat.le_refl _) (by unfold maxLen; omega) rfl, by (repeat (first | assumption | exact Below.refl _ _ | refine belowDN ?_ _ | refine Below.drew ?_ | refine Below.setCell ?_ (by first | omega | (simp <;> omega)) _ | refine Below.alloc ?_ (by first | omega | (simp <;> omega)) _ | refine belowCall ?_ (by assumption)))⟩
  case round =>
    obtain ⟨k, g, c', hkc, rfl, rfl, hown, hB⟩ := hrel
    have hsz := hB.size
    have hle := lnkN_len kn k
    by_cases hlt : k < c
    · have hkk : (k : Int) < (c : Int) := by omega
      have ck := (hB.cell (p := ⟨gK, k, none⟩) hK2.lt.2).trans (hK2.cell hlt)
      have HS := Lib.hid (lnkN_step kn k)
      generalize lnkN k kn = L at hown hle HS ⊢
      cases hkn : (kn k).isSome
      · simp only [soV, hkn] at ck
        have HE : Hid (lnkN (k + 1) kn = L) := Lib.hid (by rw [HS.out, hkn]; simp)
        go_wp2
        go_roundw
        case rel => exact ⟨k + 1, g, c', by omega, by go_num, by rw [HE.out], by rw [HE.out]; exact hown, hB⟩
        case measure => simp [Go.RowKit.intOf]; omega
      · simp only [soV, hkn] at ck
        have HE : Hid (lnkN (k + 1) kn = L ++ [k]) := Lib.hid (by rw [HS.out, hkn]; simp)
        go_wp2_with (at_builtin; refine wpList_append_lies _ rfl _ _ 38 rfl w3.heap.size 2 i0 (.int .i64 0) 1 8 Try.underlying38 hi hz0 hz1 hz2 rfl (by decide) _ _ _ rfl (hown.alloc _) ⟨wr.heap.size, 0, none⟩ 1 1 [.int .i64 k] rfl rfl (cell_one_new _ _ _) (by simp [Value.oneCell']) (by decide) (by unfold maxLen; omega) (by omega) (by simp; omega) _ rfl ?_; intro g2 cc2 wb hownb hgb hlies hglt; have hBb : Below w3.heap.size w3 wb := (show Below w3.heap.size w3 (wr.alloc (.cells _ 2)) by (repeat (first | assumption | exact Below.refl _ _ | refine belowDN ?_ _ | refine Below.drew ?_ | refine Below.setCell ?_ (by first | omega | (simp <;> omega)) _ | refine Below.alloc ?_ (by first | omega | (simp <;> omega)) _ | refine belowCall ?_ (by assumption)))).grown hgb (by simp; omega) (fun j hj => (hown.lt j hj).1))
        go_roundw
        case rel => exact ⟨k + 1, g2, cc2, by omega, by go_num, by rw [HE.out, List.length_append]; rfl, by rw [HE.out]; simpa using hownb, hBb⟩
        case measure => simp [Go.RowKit.intOf]; omega
    · obtain rfl : k = c := by omega
      have hrow : wr.ownsRow w.heap.size 2 1 (.slice (some ⟨g, 0, none⟩) (lnkN k kn).length c') (lnkL (k : Int) (first : Int) xs).length ((lnkL (k : Int) (first : Int) xs).map (Value.int .i64)) := by rw [HLL.out, List.length_map]; exact Go.Joins.ownsRow_le hown hz3
      have HR := Lib.hid hrow
      clear hrow hown
      go_wp2
      go_ret2
      exact ⟨.inl ⟨hk, _, rfl, HR.out⟩, belowCall B3 hB⟩
end Go.Proofs.Ytfnjndbnogeddaa
