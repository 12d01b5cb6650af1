/- All extrema: the program's extremaOf (a labelled continue). -/
import Derived.Test.YtcjipmpccmppiabEY
import Derived.Test.YtcjipmpccmppiabJ3
import Derived.Test.YtcjipmpccmppiabGI
import Derived.Test.YtcjipmpccmppiabFK
import Derived.Test.YtcjipmpccmppiabGEx3
import Derived.Deep.AppendLies
import Derived.Deep.LoopGhost
import Derived.Deep.Cut
namespace Go.Proofs.Ytcjipmpccmppiab
open Go.ChangeShapes Go.WideShapes Go.ChangeAt Go.RowKit Go.Deep

theorem kbs_any (x0 x1 y0 y1 : Int) (w : World) :
    Calls Try.prog 108 #[.agg #[.int .i64 x0, .int .i64 x1], .agg #[.int .i64 y0, .int .i64 y1]] w fun e w' => e = .returned (.int .i64 (kb x1 y1)) ∧ Below w.heap.size w w' := by
  by_cases h1 : x1 < y1
  · have HK := Lib.hid (kb_1 h1)
    go_enter Try.func108, Try.ntmps108
    go_wp2
    go_ret
    exact ⟨by rw [HK.out]; rfl, by (repeat (first | assumption | exact Below.refl _ _ | refine belowDN ?_ _ | refine Below.drew ?_ | refine Below.setCell ?_ (by first | omega | (simp <;> omega)) _ | refine Below.alloc ?_ (by first | omega | (simp <;> omega)) _ | refine belowCall ?_ (by assumption)))⟩
  by_cases h2 : y1 < x1
  · have HK := Lib.hid (kb_2 h2)
    have h1' : ¬ x1 < y1 := h1
    go_enter Try.func108, Try.ntmps108
    go_wp2
    go_ret
    exact ⟨by rw [HK.out]; rfl, by (repeat (first | assumption | exact Below.refl _ _ | refine belowDN ?_ _ | refine Below.drew ?_ | refine Below.setCell ?_ (by first | omega | (simp <;> omega)) _ | refine Below.alloc ?_ (by first | omega | (simp <;> omega)) _ | refine belowCall ?_ (by assumption)))⟩
  · have HK := Lib.hid (kb_0 h1 h2)
    go_enter Try.func108, Try.ntmps108
    go_wp2
    go_ret
    exact ⟨by rw [HK.out]; rfl, by (repeat (first | assumption | exact Below.refl _ _ | refine belowDN ?_ _ | refine Below.drew ?_ | refine Below.setCell ?_ (by first | omega | (simp <;> omega)) _ | refine Below.alloc ?_ (by first | omega | (simp <;> omega)) _ | refine belowCall ?_ (by assumption)))⟩
theorem exL_end {m : Nat → Int} {n s : Nat} : exL m n s (s + (n - 2 * s)) = exL m n s n := by
  by_cases h : 2 * s ≤ n
  · have := exL_high m n s (s + (n - 2 * s)) (by omega) s
    rw [← this]
    congr 1
    omega
  · rw [show s + (n - 2 * s) = s by omega, exL_low m n s s (Nat.le_refl _)]
    by_cases h2 : n ≤ s
    · rw [exL_low m n s n h2]
    · have := exL_high m n s s (by omega) (n - s)
      rw [show s + (n - s) = n by omega, exL_low m n s s (Nat.le_refl _)] at this
      exact this.symm
theorem exK_bad1 {m : Nat → Int} {n s i t : Nat} {z k : Int} (h1 : s ≤ i) (h2 : i + s < n) (hs : 1 ≤ s) (hk : kb (m i) (m (i - 1)) = k) (ht : t < s) (hz : kb (m i) (m (i - s + t)) = z) (h : z ≠ k) : exK m n s i = 0 := by
  refine exK_no h1 h2 hs hk (.inr ?_)
  cases hh : exH m i s k with
  | false => rfl
  | true => exact absurd ((exH_iff.1 hh).1 t ht) (by rw [hz]; exact h)
theorem exK_bad2 {m : Nat → Int} {n s i t : Nat} {z k : Int} (h1 : s ≤ i) (h2 : i + s < n) (hs : 1 ≤ s) (hk : kb (m i) (m (i - 1)) = k) (ht : t < s) (hz : kb (m i) (m (i + 1 + t)) = z) (h : z ≠ k) (h0 : z ≠ 0) : exK m n s i = 0 := by
  refine exK_no h1 h2 hs hk (.inr ?_)
  cases hh : exH m i s k with
  | false => rfl
  | true =>
    rcases (exH_iff.1 hh).2 t ht with e | e
    · rw [hz] at e; exact absurd e h
    · rw [hz] at e; exact absurd e h0
set_option maxRecDepth 100000 in
set_option maxHeartbeats 8000000 in
theorem exOf_any (a : Option Addr) (n c : Nat) (xs : List Pt) (s : Nat) (w : World) (h : PtL w a n xs) (hn : n ≤ 100) (hc : n ≤ c) (hs1 : 1 ≤ s) (hs2 : s ≤ 10) :
    Calls Try.prog 75 #[.slice a n c, .int .i64 (s : Int)] w fun x w' => ∃ v, x = .returned v ∧ w'.ownsRow w.heap.size 102 2 v (exL (mgX xs) n s n).length (flatEx (exL (mgX xs) n s n)) ∧ Below w.heap.size w w' := by
  obtain ⟨i0, hi, hz0, hz1, hz2⟩ := info_parts Ex_info
  have hl : (n : Int) ≤ 100 := by omega
  have hsz1 : (1 : Int) ≤ (s : Int) := by omega
  have hsz2 : (s : Int) ≤ 10 := by omega
  have HX : Hid (∀ j x, xs[j]?.getD pt0 = x → mgX xs j = x.2) := Lib.hid (fun j x hx => by rw [mgX, hx])
  have HEND : Hid (exL (mgX xs) n s (s + (n - 2 * s)) = exL (mgX xs) n s n) := Lib.hid exL_end
  generalize mgX xs = m at *
  obtain ⟨N, hN⟩ : ∃ N, n - 2 * s = N := ⟨_, rfl⟩
  rw [hN] at HEND
  have hE0 := World.ownsRow_nil w w.heap.size 102 2
  go_enter Try.func75, Try.ntmps75
  go_wp2
  go_step3
  go_wp2
  go_step3
  go_wp2
  go_loopg [5, 6] N (fun g o i wr => ∃ j : Nat, j + g = N ∧ i = .int .i64 ((s + j : Nat) : Int) ∧ wr.ownsRow w.heap.size 102 2 o (exL m n s (s + j)).length (flatEx (exL m n s (s + j))) ∧ Below w.heap.size w wr)
  case atStart => exact ⟨0, by omega, rfl, by rw [Nat.add_zero, exL_low m n s s (Nat.le_refl _)]; exact World.ownsRow_nil _ _ _ _, Below.refl _ _⟩
  case round =>
    obtain ⟨j, hj, rfl, hown, hB⟩ := hrel
    obtain ⟨i, hij⟩ : ∃ i, s + j = i := ⟨_, rfl⟩
    rw [hij] at hown ⊢
    have hsz := hB.size
    have hll := exL_len m n s i
    cases gk with
    | zero =>
      have hge : (n : Int) - (s : Int) ≤ (i : Int) := by omega
      have hw : IntKind.i64.wrap ((n : Int) - (s : Int)) = (n : Int) - (s : Int) := IntWalk.i64_in _ (by omega)
      have HE : Hid (exL m n s i = exL m n s n) := Lib.hid (by rw [← HEND.out, ← hij, show j = N by omega])
      have HO := Lib.hid hown
      clear hown
      go_wp2
      (try rw [Exit.noGoto_ret])
      go_ret
      exact ⟨_, rfl, by rw [← HE.out]; exact HO.out, hB⟩
    | succ g =>
      have hlt : (i : Int) < (n : Int) - (s : Int) := by omega
      have hw : IntKind.i64.wrap ((n : Int) - (s : Int)) = (n : Int) - (s : Int) := IntWalk.i64_in _ (by omega)
      have hin : i < n := by omega
      have his : i + s < n := by omega
      have hsi : s ≤ i := by omega
      obtain ⟨p, hp⟩ : ∃ p, i = p + 1 := ⟨i - 1, by omega⟩
      obtain ⟨b1, o1, rfl, hI⟩ := h.2 i hin
      obtain ⟨b1', o1', he, hP⟩ := h.2 p (by omega)
      cases he
      obtain ⟨⟨x0, x1⟩, hx⟩ : ∃ x, xs[i]?.getD pt0 = x := ⟨_, rfl⟩
      obtain ⟨⟨y0, y1⟩, hy⟩ : ∃ x, xs[p]?.getD pt0 = x := ⟨_, rfl⟩
      have hmi := HX.out i _ hx
      have hmp := HX.out p _ hy
      simp only at hmi hmp
      rw [hx] at hI
      rw [hy] at hP
      have hb1 := hI.1
      obtain ⟨-, p0, p1⟩ := (hI.mono hB).parts
      obtain ⟨-, v0, v1⟩ := (hP.mono hB).parts
      obtain ⟨Z, hZ⟩ : ∃ Z, kb x1 y1 = Z := ⟨_, rfl⟩
      have hkp : kb (m i) (m (i - 1)) = Z := by rw [hmi, show i - 1 = p by omega, hmp, hZ]
      have HZN : Hid (Z = 0 → exK m n s i = 0) := Lib.hid fun e => exK_no hsi his hs1 hkp (.inl e)
      have HB1 : Hid (∀ t z, t < s → kb x1 (m (i - s + t)) = z → z ≠ Z → exK m n s i = 0) := Lib.hid fun t z ht hz hne => exK_bad1 hsi his hs1 hkp ht (by rw [hmi]; exact hz) hne
      have HB2 : Hid (∀ t z, t < s → kb x1 (m (i + 1 + t)) = z → z ≠ Z → z ≠ 0 → exK m n s i = 0) := Lib.hid fun t z ht hz hne h0 => exK_bad2 hsi his hs1 hkp ht (by rw [hmi]; exact hz) hne h0
      have HOK : Hid (Z ≠ 0 → (∀ t, t < s → kb x1 (m (i - s + t)) = Z) → (∀ t, t < s → kb x1 (m (i + 1 + t)) = Z ∨ kb x1 (m (i + 1 + t)) = 0) → exK m n s i = Z) := Lib.hid fun h0 h1 h2 => exK_yes hsi his hs1 hkp h0 (exH_iff.2 ⟨fun t ht => by rw [hmi]; exact h1 t ht, fun t ht => by rw [hmi]; exact h2 t ht⟩)
      have HY := Lib.hid (fun z => exL_yes (m := m) (n := n) (s := s) (k := i) (z := z))
      have HN := Lib.hid (exL_no (m := m) (n := n) (s := s) (k := i))
      have HIJ : Hid (s + (j + 1) = i + 1) := Lib.hid (by omega)
      have hjg : j + 1 + g = N := by omega
      have HKB : ∀ W, Calls Try.prog 108 #[.agg #[.int .i64 x0, .int .i64 x1], .agg #[.int .i64 y0, .int .i64 y1]] W fun e w' => e = .returned (.int .i64 Z) ∧ Below W.heap.size W w' := fun W => by rw [← hZ]; exact kbs_any x0 x1 y0 y1 W
      have hiz : (i : Int) < (n : Int) := by omega
      have hpz : (p : Int) < (n : Int) := by omega
      have hip : (i : Int) - 1 = (p : Int) := by omega
      have hp0 : (0 : Int) ≤ (p : Int) := by omega
      have hwp2 : IntKind.i64.wrap (p : Int) = (p : Int) := IntWalk.i64_in _ (by omega)
      have hwp : IntKind.i64.wrap ((i : Int) - 1) = (p : Int) := by rw [hip]; exact IntWalk.i64_in _ (by omega)
      clear hx hy hmp hZ hkp hP hp
      have bA : Below wr.heap.size wr (wr.alloc (.cells #[.int .i64 x0, .int .i64 x1] 40)) := (Below.refl _ _).alloc (Nat.le_refl _) _
      have hHA := PtC.fresh wr 40 x0 x1
      go_upto_region 6 with fail
      generalize wr.alloc (.cells #[.int .i64 x0, .int .i64 x1] 40) = wA at bA hHA ⊢
      obtain ⟨hA0, g0, g1⟩ := hHA.parts
      rw [Nat.zero_add] at g1
      have hzA := bA.size
      have hA1 : b1 < wA.heap.size := by omega
      have r0 := (bA.cell (p := ⟨b1, o1 + p * 2, none⟩) (by show b1 < wr.heap.size; omega)).trans v0
      have r1 := (bA.cell (p := ⟨b1, o1 + p * 2 + 1, none⟩) (by show b1 < wr.heap.size; omega)).trans v1
      go_region_held3 (fun W' => W'.cell? ⟨wr.heap.size, 0, none⟩ = some (.int .i64 x0) ∧ W'.cell? ⟨wr.heap.size, 1, none⟩ = some (.int .i64 x1) ∧ W'.cell? ⟨b1, o1 + p * 2, none⟩ = some (.int .i64 y0) ∧ W'.cell? ⟨b1, o1 + p * 2 + 1, none⟩ = some (.int .i64 y1)) (refine ⟨?_, ?_, ?_, ?_⟩ <;> first | assumption | exact ((show Below wA.heap.size wA _ by (repeat (first | assumption | exact Below.refl _ _ | refine belowDN ?_ _ | refine Below.drew ?_ | refine Below.setCell ?_ (by first | omega | (simp <;> omega)) _ | refine Below.alloc ?_ (by first | omega | (simp <;> omega)) _ | refine belowCall ?_ (by assumption)))).cell (p := ⟨wr.heap.size, 0, none⟩) hA0).trans g0 | exact ((show Below wA.heap.size wA _ by (repeat (first | assumption | exact Below.refl _ _ | refine belowDN ?_ _ | refine Below.drew ?_ | refine Below.setCell ?_ (by first | omega | (simp <;> omega)) _ | refine Below.alloc ?_ (by first | omega | (simp <;> omega)) _ | refine belowCall ?_ (by assumption)))).cell (p := ⟨wr.heap.size, 1, none⟩) hA0).trans g1 | exact ((show Below wA.heap.size wA _ by (repeat (first | assumption | exact Below.refl _ _ | refine belowDN ?_ _ | refine Below.drew ?_ | refine Below.setCell ?_ (by first | omega | (simp <;> omega)) _ | refine Below.alloc ?_ (by first | omega | (simp <;> omega)) _ | refine belowCall ?_ (by assumption)))).cell (p := ⟨b1, o1 + p * 2, none⟩) hA1).trans r0 | exact ((show Below wA.heap.size wA _ by (repeat (first | assumption | exact Below.refl _ _ | refine belowDN ?_ _ | refine Below.drew ?_ | refine Below.setCell ?_ (by first | omega | (simp <;> omega)) _ | refine Below.alloc ?_ (by first | omega | (simp <;> omega)) _ | refine belowCall ?_ (by assumption)))).cell (p := ⟨b1, o1 + p * 2 + 1, none⟩) hA1).trans r1) (first | (go_at_call 108; refine (HKB _).mono ?_; rintro e wB ⟨rfl, bB⟩; have DB : Below wA.heap.size wA wB := belowCall (by (repeat (first | assumption | exact Below.refl _ _ | refine belowDN ?_ _ | refine Below.drew ?_ | refine Below.setCell ?_ (by first | omega | (simp <;> omega)) _ | refine Below.alloc ?_ (by first | omega | (simp <;> omega)) _ | refine belowCall ?_ (by assumption)))) bB; have zB := DB.size; clear bB))
      have BW : Below w.heap.size w wB := hB.trans ((bA.trans (DB.mono (by omega))).mono hsz)
      have hownB := ownKeepF hown (bA.trans (DB.mono (by omega)))
      have hHB := hHA.mono DB
      obtain ⟨hB0, k0, k1⟩ := hHB.parts
      rw [Nat.zero_add] at k1
      clear g0 g1 r0 r1 p0 p1 v0 v1 hown hB hA0 hA1 DB
      generalize wr.heap.size = GH at *
      by_cases hz : Z = 0
      · have hzd : (Z == 0) = true := by simp [hz]
        have HS := Lib.hid (HN.out (HZN.out hz))
        have HO := Lib.hid hownB
        clear hownB hz
        go_wp2
        go_roundg g
        case measure => omega
        case rel => exact ⟨j + 1, hjg, by rw [HIJ.out]; go_num, by rw [HIJ.out, HS.out]; exact HO.out, BW⟩
      have hzd : (Z == 0) = false := by simpa using hz
      obtain ⟨e, he⟩ : ∃ e, i - s = e := ⟨_, rfl⟩
      have hie : (i : Int) - (s : Int) = (e : Int) := by omega
      have hwe : IntKind.i64.wrap (e : Int) = (e : Int) := IntWalk.i64_in _ (by omega)
      have he0 : (0 : Int) ≤ (e : Int) := by omega
      have hei : (e : Int) ≤ (i : Int) := by omega
      have hei2 : e ≤ i := by omega
      have hic : (i : Int) ≤ (c : Int) := by omega
      have hic2 : i ≤ c := by omega
      have hls : i - e = s := by omega
      have HEE := Lib.hid he
      rw [he] at HB1 HOK
      clear he
      go_wp2
      go_loopg [43] s (fun g2 s43 wy => ∃ t : Nat, t + g2 = s ∧ s43 = .int .i64 t ∧ (∀ u, u < t → kb x1 (m (e + u)) = Z) ∧ Below wB.heap.size wB wy)
      case atStart => exact ⟨0, by omega, rfl, fun u hu => absurd hu (by omega), Below.refl _ _⟩
      case round =>
        obtain ⟨t, htg, rfl, hall, hBy⟩ := hrel
        have HALL := Lib.hid hall
        clear hall
        have hzy := hBy.size
        have BWy : Below w.heap.size w wr := belowCall BW hBy
        have q0 := (hBy.cell (p := ⟨GH, 0, none⟩) hB0).trans k0
        have q1 := (hBy.cell (p := ⟨GH, 1, none⟩) hB0).trans k1
        cases gk with
        | zero =>
          obtain rfl : t = s := by omega
          clear htg
          obtain ⟨wo, rfl⟩ : ∃ wo, wo = wr := ⟨_, rfl⟩
          have hGo : GH < wo.heap.size := by omega
          have hownO := ownKeepF hownB hBy
          have hi1 : IntKind.i64.wrap ((i : Int) + 1) = (i : Int) + 1 := IntWalk.i64_in _ (by omega)
          have hi2 : IntKind.i64.wrap ((i : Int) + (t : Int)) = (i : Int) + (t : Int) := IntWalk.i64_in _ (by omega)
          have hi3 : IntKind.i64.wrap ((i : Int) + (t : Int) + 1) = (i : Int) + (t : Int) + 1 := IntWalk.i64_in _ (by omega)
          have hi4 : (i : Int) + 1 ≤ (i : Int) + (t : Int) + 1 := by omega
          have hi5 : (i : Int) + (t : Int) + 1 ≤ (c : Int) := by omega
          have hi6 : (0 : Int) ≤ (i : Int) + 1 := by omega
          have hn1 : ((i : Int) + (t : Int) + 1).toNat = i + t + 1 := by omega
          have hn2 : ((i : Int) + 1).toNat = i + 1 := by omega
          have hn3 : i + t + 1 - (i + 1) = t := by omega
          have hn4 : i + 1 ≤ i + t + 1 := by omega
          have hn5 : i + t + 1 ≤ c := by omega
          clear k0 k1 hownB
          go_wp2
          go_loopg [62] t (fun g3 s62 wy => ∃ v : Nat, v + g3 = t ∧ s62 = .int .i64 v ∧ (∀ u, u < v → kb x1 (m (i + 1 + u)) = Z ∨ kb x1 (m (i + 1 + u)) = 0) ∧ Below wo.heap.size wo wy)
          case atStart => exact ⟨0, by omega, rfl, fun u hu => absurd hu (by omega), Below.refl _ _⟩
          case round =>
            obtain ⟨v, hvg, rfl, hall3, hBz⟩ := hrel
            have HALL3 := Lib.hid hall3
            clear hall3
            have hzz := hBz.size
            have BWz : Below w.heap.size w wr := belowCall BWy hBz
            have l0 := (hBz.cell (p := ⟨GH, 0, none⟩) hGo).trans q0
            have l1 := (hBz.cell (p := ⟨GH, 1, none⟩) hGo).trans q1
            cases gk with
            | zero =>
              obtain rfl : v = t := by omega
              have HS := Lib.hid (HY.out Z (HOK.out (by simpa using hzd) HALL.out HALL3.out) (by simpa using hzd))
              have hown5 := ownKeepF hownO hBz
              have hB5 := BWz
              obtain ⟨w5, hw5⟩ : ∃ W, W = wr := ⟨_, rfl⟩
              subst hw5
              have hs5 := hB5.size
              go_wp2_with (at_builtin; refine wpList_append_own _ rfl _ _ 45 rfl w.heap.size 102 i0 _ 2 16 Try.underlying45 hi hz0 hz1 hz2 rfl (by decide) _ _ _ rfl (hown5.alloc _) ⟨w5.heap.size, 0, none⟩ 1 1 [.int .i64 Z, .int .i64 i] rfl rfl (cellsEx w5 _ _ _) (by intro u hu; simp at hu; rcases hu with rfl | rfl <;> rfl) (by unfold maxLen; omega) (by omega) (by simp; omega) ?_; intro v7 w7 hown7 hg7 hnil7; have hB7 : Below w.heap.size w w7 := (show Below w.heap.size w (w5.alloc (.cells #[.int .i64 Z, .int .i64 i] 102)) from hB5.alloc (by omega) _).grown hg7 (by simp; omega) (fun j e => (hown5.lt j e).1); clear hg7 hnil7)
              have HO := Lib.hid hown7
              clear hown7 hown5 hownO
              go_roundg g
              case measure => omega
              case rel => exact ⟨j + 1, hjg, by rw [HIJ.out]; go_num, by rw [HIJ.out, HS.out, List.length_append, flatEx_snoc]; exact HO.out, hB7⟩
            | succ g3 =>
              have hvz : (v : Int) < (t : Int) := by omega
              have hvt : v < t := by omega
              obtain ⟨b1', o1', heq, hS⟩ := h.2 (i + 1 + v) (by omega)
              cases heq
              obtain ⟨⟨z0, z1⟩, hx⟩ : ∃ x, xs[i + 1 + v]?.getD pt0 = x := ⟨_, rfl⟩
              have hmz := HX.out (i + 1 + v) _ hx
              simp only at hmz
              rw [hx, show o1 + (i + 1 + v) * 2 = o1 + (i + 1) * 2 + v * 2 by omega] at hS
              obtain ⟨hbw, c0, c1⟩ := (hS.mono BWz).parts
              obtain ⟨Y, hY⟩ : ∃ Y, kb x1 z1 = Y := ⟨_, rfl⟩
              have HYT : Hid (kb x1 (m (i + 1 + v)) = Y) := Lib.hid (by rw [hmz]; exact hY)
              have HKY : ∀ W, Calls Try.prog 108 #[.agg #[.int .i64 x0, .int .i64 x1], .agg #[.int .i64 z0, .int .i64 z1]] W fun e w' => e = .returned (.int .i64 Y) ∧ Below W.heap.size W w' := fun W => by rw [← hY]; exact kbs_any x0 x1 z0 z1 W
              clear hx hmz hS hY
              have hGy : GH < wr.heap.size := by omega
              by_cases hyz : Y = Z ∨ Y = 0
              · have HN1 : Hid (∀ u, u < v + 1 → kb x1 (m (i + 1 + u)) = Z ∨ kb x1 (m (i + 1 + u)) = 0) := Lib.hid fun u hu => by
                  by_cases eu : u = v
                  · subst eu; rw [HYT.out]; exact hyz
                  · exact HALL3.out u (by omega)
                by_cases hya : Y = Z
                · have hyd : (Y != Z) = false := by simp [hya]
                  clear hyz hya
                  go_wp2_with (go_at_call 108; refine (HKY _).mono ?_; rintro e' wC ⟨rfl, bC⟩; have DC : Below wr.heap.size wr wC := belowCall ((Below.refl _ _).alloc (Nat.le_refl _) _) bC; clear bC)
                  have HB2y := Lib.hid (belowCall hBz DC)
                  go_roundg g3
                  case measure => omega
                  case rel => exact ⟨v + 1, by omega, by go_num, HN1.out, HB2y.out⟩
                · have hyd : (Y != Z) = true := by simpa using hya
                  have hye : (Y != 0) = false := by rcases hyz with e | e; exact absurd e hya; simp [e]
                  clear hyz hya
                  go_wp2_with (go_at_call 108; refine (HKY _).mono ?_; rintro e' wC ⟨rfl, bC⟩; have DC : Below wr.heap.size wr wC := belowCall ((Below.refl _ _).alloc (Nat.le_refl _) _) bC; clear bC)
                  have HB2y := Lib.hid (belowCall hBz DC)
                  go_roundg g3
                  case measure => omega
                  case rel => exact ⟨v + 1, by omega, by go_num, HN1.out, HB2y.out⟩
              · have hyd : (Y != Z) = true := by simp; exact fun e => hyz (.inl e)
                have hye : (Y != 0) = true := by simp; exact fun e => hyz (.inr e)
                have HS := Lib.hid (HN.out (HB2.out v Y hvt HYT.out (fun e => hyz (.inl e)) (fun e => hyz (.inr e))))
                clear hyz
                go_wp2_with (go_at_call 108; refine (HKY _).mono ?_; rintro e' wC ⟨rfl, bC⟩; have DC : Below wr.heap.size wr wC := belowCall ((Below.refl _ _).alloc (Nat.le_refl _) _) bC; clear bC)
                have HO := Lib.hid (ownKeepF hownO (belowCall hBz DC))
                have BWC := Lib.hid (belowCall BWz DC)
                clear hownO
                go_roundg g
                case measure => omega
                case rel => exact ⟨j + 1, hjg, by rw [HIJ.out]; go_num, by rw [HIJ.out, HS.out]; exact HO.out, BWC.out⟩
        | succ g2 =>
          have htz : (t : Int) < (s : Int) := by omega
          have hts : t < s := by omega
          obtain ⟨b1', o1', heq, hS⟩ := h.2 (e + t) (by have := HEE.out; omega)
          cases heq
          obtain ⟨⟨z0, z1⟩, hx⟩ : ∃ x, xs[e + t]?.getD pt0 = x := ⟨_, rfl⟩
          have hmz := HX.out (e + t) _ hx
          simp only at hmz
          rw [hx, show o1 + (e + t) * 2 = o1 + e * 2 + t * 2 by omega] at hS
          obtain ⟨hbw, c0, c1⟩ := (hS.mono BWy).parts
          obtain ⟨Y, hY⟩ : ∃ Y, kb x1 z1 = Y := ⟨_, rfl⟩
          have HYT : Hid (kb x1 (m (e + t)) = Y) := Lib.hid (by rw [hmz]; exact hY)
          have HKY : ∀ W, Calls Try.prog 108 #[.agg #[.int .i64 x0, .int .i64 x1], .agg #[.int .i64 z0, .int .i64 z1]] W fun e w' => e = .returned (.int .i64 Y) ∧ Below W.heap.size W w' := fun W => by rw [← hY]; exact kbs_any x0 x1 z0 z1 W
          clear hx hmz hS hY
          have hGy : GH < wr.heap.size := by omega
          by_cases hyz : Y = Z
          · have hyd : (Y != Z) = false := by simp [hyz]
            have HN1 : Hid (∀ u, u < t + 1 → kb x1 (m (e + u)) = Z) := Lib.hid fun u hu => by
              by_cases eu : u = t
              · subst eu; rw [HYT.out, hyz]
              · exact HALL.out u (by omega)
            clear hyz
            go_wp2_with (go_at_call 108; refine (HKY _).mono ?_; rintro e' wC ⟨rfl, bC⟩; have DC : Below wr.heap.size wr wC := belowCall ((Below.refl _ _).alloc (Nat.le_refl _) _) bC; clear bC)
            have HB2y := Lib.hid (belowCall hBy DC)
            go_roundg g2
            case measure => omega
            case rel => exact ⟨t + 1, by omega, by go_num, HN1.out, HB2y.out⟩
          · have hyd : (Y != Z) = true := by simpa using hyz
            have HS := Lib.hid (HN.out (HB1.out t Y hts HYT.out hyz))
            clear hyz
            go_wp2_with (go_at_call 108; refine (HKY _).mono ?_; rintro e' wC ⟨rfl, bC⟩; have DC : Below wr.heap.size wr wC := belowCall ((Below.refl _ _).alloc (Nat.le_refl _) _) bC; clear bC)
            have HO := Lib.hid (ownKeepF hownB (belowCall hBy DC))
            have BWC := Lib.hid (belowCall BWy DC)
            clear hownB
            go_roundg g
            case measure => omega
            case rel => exact ⟨j + 1, hjg, by rw [HIJ.out]; go_num, by rw [HIJ.out, HS.out]; exact HO.out, BWC.out⟩
end Go.Proofs.Ytcjipmpccmppiab
