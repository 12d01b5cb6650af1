/- AliasOf, both sides. -/
import Derived.Test.YtejkflacpbjkjaaF1
import Derived.Test.YtejkflacpbjkjaaH7R
import Derived.Test.YtejkflacpbjkjaaFK
import Derived.Test.YtejkflacpbjkjaaJ3
import Derived.Deep.AppendLies
namespace Go.Proofs.Ytejkflacpbjkjaa
open Go.ChangeShapes Go.WideShapes Go.ChangeAt Go.RowKit Go.Deep

theorem ali_no {p g : Int} (h : (perB p && perB g) = false) : aliC p g = 2 ∧ aliL p g = [] := by simp only [aliC, aliL, h]; simp
theorem ali_yes {p g : Int} (h : (perB p && perB g) = true) : aliC p g = 0 ∧ aliL p g = aliP p g 2 := by simp only [aliC, aliL, h]; simp
set_option maxRecDepth 100000 in
set_option maxHeartbeats 4000000 in
theorem iAli_any (p g : Int) (w : World) :
    Calls Try.prog 45 #[.int .i64 p, .int .i64 g] w fun x w' => IntRes w.heap.size (aliL p g) (.int .i64 (aliC p g)) w' x ∧ Below w.heap.size w w' := by
  cases hp : perB p
  · have HD := Lib.hid (ali_no (p := p) (g := g) (by rw [hp]; rfl))
    go_enter Try.func45, Try.ntmps45
    go_wp2_with (go_at_call 62; refine (isPer_any _ _).mono ?_; rintro x w' ⟨rfl, rfl⟩; rw [hp])
    go_ret2
    exact ⟨by rw [HD.out.1, HD.out.2]; exact IntRes.nil _ _ _, Below.refl _ _⟩
  cases hg : perB g
  · have HD := Lib.hid (ali_no (p := p) (g := g) (by rw [hp, hg]; rfl))
    go_enter Try.func45, Try.ntmps45
    go_wp2_with (go_at_call 62; refine (isPer_any _ _).mono ?_; rintro x w' ⟨rfl, rfl⟩; (first | rw [hp] | rw [hg]))
    go_ret2
    exact ⟨by rw [HD.out.1, HD.out.2]; exact IntRes.nil _ _ _, Below.refl _ _⟩
  have HD := Lib.hid (ali_yes (p := p) (g := g) (by rw [hp, hg]; rfl))
  obtain ⟨p1, p2⟩ := perB_iff.1 hp
  obtain ⟨g1, g2⟩ := perB_iff.1 hg
  obtain ⟨q1, q2⟩ := mul_pg p1 p2 g1 g2
  have HP0 := Lib.hid (aliP_0 p g)
  have HP1 := Lib.hid (aliP_1 p g)
  have HL1 := aliP_len p g 1
  have HPS : Hid (g = p → aliP p g 2 = aliP p g 1) := Lib.hid aliP_same
  have HPN : Hid (g ≠ p → aliP p g 2 = aliP p g 1 ++ (if perB (rnd (p * g) ((g - p).natAbs : Nat)) then [rnd (p * g) ((g - p).natAbs : Nat)] else [])) := Lib.hid aliP_2
  obtain ⟨i0, hi, hz0, hz1, hz2⟩ := info_parts A_info
  obtain ⟨d1, hd1⟩ : ∃ d : Nat, (g - p).natAbs = d := ⟨_, rfl⟩
  have hd1z : d1 = 0 ↔ g = p := by omega
  have hd1b : d1 ≤ 1000000 := by omega
  have HZ := Lib.hid hd1z
  rw [hd1] at HPN
  have HDI : ∀ W, Calls Try.prog 79 #[.int .i64 g, .int .i64 p] W fun e w' => e = .returned (.int .i64 (d1 : Nat)) ∧ W = w' := fun W => by rw [← hd1]; exact dist_any g p W (by omega) (by omega) (by omega) (by omega)
  have hsum : 0 < g + p := by omega
  have hsum1 : ((g + p) == 0) = false := by simp; omega
  clear hd1 hd1z hg hp
  have hx0 : ∀ w, (Instr.index 86 (.agg #[.int .i64 (g + p), .int .i64 (d1 : Nat)]) (.int .i64 0)).run Try.prog w = .ok (.int .i64 (g + p)) w := fun _ => by kernel_rfl
  have hx1 : ∀ w, (Instr.index 86 (.agg #[.int .i64 (g + p), .int .i64 (d1 : Nat)]) (.int .i64 1)).run Try.prog w = .ok (.int .i64 (d1 : Nat)) w := fun _ => by kernel_rfl
  generalize hpg : p * g = PG at q1 q2 HP1 HPN
  go_enter Try.func45, Try.ntmps45
  go_wp2_with (first | (go_at_call 62; refine (isPer_any _ _).mono ?_; rintro x w' ⟨rfl, rfl⟩; (first | rw [perB_iff.2 ⟨p1, p2⟩] | rw [perB_iff.2 ⟨g1, g2⟩])) | (go_at_call 79; refine (HDI _).mono ?_; rintro x w' ⟨rfl, rfl⟩))
  go_loopw [6, 25] (fun o i wr => ∃ k : Nat, k ≤ 2 ∧ i = .int .i64 k ∧ wr.ownsRow w.heap.size 2 1 o (aliP p g k).length ((aliP p g k).map (Value.int .i64)) ∧ Below w.heap.size w wr) (fun _ i _ => 2 - (Go.RowKit.intOf i).toNat)
  case atStart => exact ⟨0, by omega, rfl, by rw [HP0.out]; exact World.ownsRow_nil _ _ _ _, Below.refl _ _⟩
  case round =>
    obtain ⟨k, hk, rfl, hown, hB⟩ := hrel
    have hsz := hB.size
    by_cases hk2 : k = 2
    · subst hk2
      have HO := Lib.hid hown
      clear hown
      go_wp2
      go_ret2
      exact ⟨by rw [HD.out.1, HD.out.2]; exact IntRes.own HO.out rfl, hB⟩
    by_cases hk0 : k = 0
    · subst hk0
      obtain ⟨X, hX⟩ : ∃ X, rnd PG (g + p) = X := ⟨_, rfl⟩
      rw [hX] at HP1
      have HX := Lib.hid hX
      have h00 : ((0 : Nat) : Int) = 0 := rfl
      clear hX hk2
      rw [HP0.out] at hown
      replace hown : wr.ownsRow w.heap.size 2 1 u6 0 [] := hown
      go_wp2_with fail
      refine (nearest_any PG (g + p) _ (by omega) (by omega) (by omega) (by omega)).mono ?_
      rintro x w5 ⟨rfl, b5⟩
      rw [HX.out]
      have hown5 := ownKeepF hown b5
      have hB5 := hB.trans (b5.mono hsz)
      have hs5 := hB5.size
      clear hown
      cases hv : perB X
      · have HE : Hid (aliP p g 1 = []) := Lib.hid (by rw [HP1.out, hv]; rfl)
        go_wp2_with (go_at_call 62; refine (isPer_any _ _).mono ?_; rintro x w' ⟨rfl, rfl⟩; rw [hv])
        go_roundw
        case rel => exact ⟨1, by omega, by go_num, by rw [HE.out]; exact hown5, hB5⟩
        case measure => simp [Go.RowKit.intOf]
      · have HE : Hid (aliP p g 1 = [X]) := Lib.hid (by rw [HP1.out, hv]; rfl)
        go_wp2_with (first | (go_at_call 62; refine (isPer_any _ _).mono ?_; rintro x w' ⟨rfl, rfl⟩; rw [hv]) | (at_builtin; refine wpList_append_own _ rfl _ _ 29 rfl w.heap.size 2 i0 (.int .i64 0) 1 8 Try.underlying29 hi hz0 hz1 hz2 rfl (by decide) _ _ _ rfl (hown5.alloc _) ⟨w5.heap.size, 0, none⟩ 1 1 [.int .i64 X] rfl rfl (cell_one_new _ _ _) (by intro u hu; simp at hu; subst hu; rfl) (by unfold maxLen; omega) (by omega) (by simp; omega) ?_; intro v7 w7 hown7 hg7 hnil7; have hB7 : Below w.heap.size w w7 := (show Below w.heap.size w (w5.alloc (.cells #[.int .i64 X] 2)) from hB5.alloc (by omega) _).grown hg7 (by simp; omega) (fun j e => (hown5.lt j e).1); clear hg7 hnil7))
        have HO := Lib.hid hown7
        clear hown7 hown5
        go_roundw
        case rel => exact ⟨1, by omega, by go_num, by rw [HE.out]; exact HO.out, hB7⟩
        case measure => simp [Go.RowKit.intOf]
    · obtain rfl : k = 1 := by omega
      have h11 : ((1 : Nat) : Int) = 1 := rfl
      clear hk2 hk0
      by_cases hdz : d1 = 0
      · have HE := Lib.hid (HPS.out (HZ.out.1 hdz))
        have hdz' : ((d1 : Int) == 0) = true := by simp; omega
        have HO := Lib.hid hown
        clear hown hdz
        go_wp2
        go_roundw
        case rel => exact ⟨2, by omega, by go_num, by rw [HE.out]; exact HO.out, hB⟩
        case measure => simp [Go.RowKit.intOf]
      have HE2 := Lib.hid (HPN.out (fun e => hdz (HZ.out.2 e)))
      have hdz' : ((d1 : Int) == 0) = false := by simp; omega
      obtain ⟨X, hX⟩ : ∃ X, rnd PG (d1 : Nat) = X := ⟨_, rfl⟩
      rw [hX] at HE2
      have HX := Lib.hid hX
      have hd1p : 1 ≤ (d1 : Int) := by omega
      clear hX
      generalize hLk : aliP p g 1 = L at hown HE2 HL1
      clear hLk
      go_wp2_with fail
      refine (nearest_any PG (d1 : Nat) _ (by omega) (by omega) (by omega) (by omega)).mono ?_
      rintro x w5 ⟨rfl, b5⟩
      rw [HX.out]
      have hown5 := ownKeepF hown b5
      have hB5 := hB.trans (b5.mono hsz)
      have hs5 := hB5.size
      clear hown
      cases hv : perB X
      · have HE : Hid (aliP p g 2 = L) := Lib.hid (by rw [HE2.out, hv]; simp)
        have HO := Lib.hid hown5
        clear hown5
        go_wp2_with (go_at_call 62; refine (isPer_any _ _).mono ?_; rintro x w' ⟨rfl, rfl⟩; rw [hv])
        go_roundw
        case rel => exact ⟨2, by omega, by go_num, by rw [HE.out]; exact HO.out, hB5⟩
        case measure => simp [Go.RowKit.intOf]
      · have HE : Hid (aliP p g 2 = L ++ [X]) := Lib.hid (by rw [HE2.out, hv]; rfl)
        go_wp2_with (first | (go_at_call 62; refine (isPer_any _ _).mono ?_; rintro x w' ⟨rfl, rfl⟩; rw [hv]) | (at_builtin; refine wpList_append_own _ rfl _ _ 29 rfl w.heap.size 2 i0 (.int .i64 0) 1 8 Try.underlying29 hi hz0 hz1 hz2 rfl (by decide) _ _ _ rfl (hown5.alloc _) ⟨w5.heap.size, 0, none⟩ 1 1 [.int .i64 X] rfl rfl (cell_one_new _ _ _) (by intro u hu; simp at hu; subst hu; rfl) (by unfold maxLen; omega) (by omega) (by simp; omega) ?_; intro v7 w7 hown7 hg7 hnil7; have hB7 : Below w.heap.size w w7 := (show Below w.heap.size w (w5.alloc (.cells #[.int .i64 X] 2)) from hB5.alloc (by omega) _).grown hg7 (by simp; omega) (fun j e => (hown5.lt j e).1); clear hg7 hnil7))
        have HO := Lib.hid hown7
        clear hown7 hown5
        go_roundw
        case rel => exact ⟨2, by omega, by go_num, by rw [HE.out, List.length_append, List.map_append]; exact HO.out, hB7⟩
        case measure => simp [Go.RowKit.intOf]
theorem filt_more {P : Int → Bool} (xs : List Int) (k : Nat) (hk : k < xs.length) : (xs.take (k + 1)).filter P = (xs.take k).filter P ++ (if P (xs[k]?.getD 0) then [xs[k]?.getD 0] else []) := by
  rw [List.take_succ_eq_append_getElem hk, List.filter_append, List.getElem?_eq_getElem hk, Option.getD_some, List.filter_cons]; rfl
theorem cell1_at (w : World) (v : Value) (T : TypeId) {b : Nat} (hb : b = w.heap.size) : ∀ j u, [v][j]? = some u → (w.alloc (.cells #[v] T)).cell? ((⟨b, 0, none⟩ : Addr).add j) = some u := by
  subst hb
  exact cell_one_new w v T
set_option maxRecDepth 100000 in
set_option maxHeartbeats 1000000 in
theorem sAli_any (p g : Int) (w : World) :
    Calls Try.prog 44 #[.int .i64 p, .int .i64 g] w fun x w' => IntRes w.heap.size (aliL p g) (.int .i64 (aliC p g)) w' x ∧ Below w.heap.size w w' := by
  cases hp : perB p
  · have HD := Lib.hid (ali_no (p := p) (g := g) (by rw [hp]; rfl))
    go_enter Try.func44, Try.ntmps44
    go_wp2_with (go_at_call 77; refine (l09Per_any _ _).mono ?_; rintro x w' ⟨rfl, rfl⟩; rw [hp])
    go_ret2
    exact ⟨by rw [HD.out.1, HD.out.2]; exact IntRes.nil _ _ _, Below.refl _ _⟩
  cases hg : perB g
  · have HD := Lib.hid (ali_no (p := p) (g := g) (by rw [hp, hg]; rfl))
    go_enter Try.func44, Try.ntmps44
    go_wp2_with (go_at_call 77; refine (l09Per_any _ _).mono ?_; rintro x w' ⟨rfl, rfl⟩; (first | rw [hp] | rw [hg]))
    go_ret2
    exact ⟨by rw [HD.out.1, HD.out.2]; exact IntRes.nil _ _ _, Below.refl _ _⟩
  have HD := Lib.hid (ali_yes (p := p) (g := g) (by rw [hp, hg]; rfl))
  obtain ⟨p1, p2⟩ := perB_iff.1 hp
  obtain ⟨g1, g2⟩ := perB_iff.1 hg
  obtain ⟨q1, q2⟩ := mul_pg p1 p2 g1 g2
  obtain ⟨i0, hi, hz0, hz1, hz2⟩ := info_parts A_info
  have HAP : Hid (aliP p g 2 = (aliR p g 2).filter perB) := Lib.hid rfl
  have HR1 : Hid (g = p → aliR p g 2 = [rnd (p * g) (g + p)]) := Lib.hid (fun h => by simp [aliR, h])
  have HR2 : Hid (g ≠ p → aliR p g 2 = [rnd (p * g) (g + p), rnd (p * g) ((g - p).natAbs : Nat)]) := Lib.hid (fun h => by simp [aliR, h])
  have HS : ∀ W, Calls Try.prog 78 #[.int .i64 (g - p)] W fun e w' => e = .returned (.int .i64 ((g - p).natAbs : Nat)) ∧ W = w' := fun W => l02Size_any (g - p) W (by omega) (by omega)
  have hna : (g - p).natAbs ≤ 1000000 := by omega
  have hnz : g ≠ p → 1 ≤ (g - p).natAbs := by omega
  have HNZ := Lib.hid hnz
  generalize (g - p).natAbs = d1 at HS hna HR2 HNZ
  generalize hpg : p * g = PG at q1 q2 HR1 HR2
  clear hnz
  -- the second loop, over a list that stands below
  have HF := Lib.hid (filt_more (P := perB))
  by_cases hgp : g = p
  · have HL := Lib.hid (HR1.out hgp)
    have hne : (g != p) = false := by simpa using hgp
    obtain ⟨X, hX⟩ : ∃ X, rnd PG (g + p) = X := ⟨_, rfl⟩
    rw [hX] at HL
    have HX := Lib.hid hX
    have hsum : 1 ≤ g + p := by omega
    clear hX hgp HR1 HR2
    go_enter Try.func44, Try.ntmps44
    go_wp2_with (first | (go_at_call 77; refine (l09Per_any _ _).mono ?_; rintro x w' ⟨rfl, rfl⟩; (first | rw [perB_iff.2 ⟨p1, p2⟩] | rw [perB_iff.2 ⟨g1, g2⟩])) | (go_at_call 76; refine (l02Round_any PG (g + p) _ (by omega) (by omega) (by omega) (by omega)).mono ?_; rintro x w' ⟨rfl, rfl⟩; rw [HX.out]))
    obtain ⟨wE, hwE⟩ : ∃ W, W = w.alloc (.cells #[.int .i64 X] 2) := ⟨_, rfl⟩
    have BE : Below w.heap.size w wE := by rw [hwE]; (repeat (first | assumption | exact Below.refl _ _ | refine belowDN ?_ _ | refine Below.drew ?_ | refine Below.setCell ?_ (by first | omega | (simp <;> omega)) _ | refine Below.alloc ?_ (by first | omega | (simp <;> omega)) _ | refine belowCall ?_ (by assumption)))
    have hLs : Lst wE (some ⟨w.heap.size, 0, none⟩) 1 [X] := by rw [hwE]; exact Lst.one w X _
    obtain ⟨gl, hgl⟩ : ∃ g, g = w.heap.size := ⟨_, rfl⟩
    obtain ⟨ls, hls⟩ : ∃ l, l = [X] := ⟨_, rfl⟩
    have HLS := Lib.hid hls
    rw [← hgl, ← hls] at hLs
    rw [← hwE, ← hgl]
    have HZZ : Hid (wE.heap.size = gl + 1) := Lib.hid (by rw [hwE, hgl]; simp)
    clear hwE hgl hls
    have hzE := BE.size
    have hLs' : Lst wE (some ⟨gl, 0, none⟩) 1 ls := hLs
    clear hLs
    have HLL := Lib.hid hLs'.1
    go_wp2
    go_loopw [7, 8] (fun o i wr => ∃ k : Nat, k ≤ 1 ∧ i = .int .i64 k ∧ wr.ownsRow wE.heap.size 2 1 o ((ls.take k).filter perB).length (((ls.take k).filter perB).map (Value.int .i64)) ∧ Below wE.heap.size wE wr) (fun _ i _ => 1 - (Go.RowKit.intOf i).toNat)
    case atStart => exact ⟨0, by omega, rfl, by rw [← HZZ.out]; exact World.ownsRow_lit wE #[] 0 (Nat.le_refl _) (by unfold maxLen; omega) rfl, by (repeat (first | assumption | exact Below.refl _ _ | refine belowDN ?_ _ | refine Below.drew ?_ | refine Below.setCell ?_ (by first | omega | (simp <;> omega)) _ | refine Below.alloc ?_ (by first | omega | (simp <;> omega)) _ | refine belowCall ?_ (by assumption)))⟩
    case round =>
      obtain ⟨k, hk, rfl, hown5, hB5⟩ := hrel
      have hs5 := hB5.size
      by_cases hkn : k < 1
      · obtain ⟨b1, o1, he, hb1, hc⟩ := hLs'.2 k hkn
        cases he
        have hkz : (k : Int) < (1 : Int) := by omega
        obtain ⟨x, hx⟩ : ∃ x, ls[k]?.getD 0 = x := ⟨_, rfl⟩
        have hst := HF.out ls k (by have := HLL.out; omega)
        rw [hx] at hst hc
        have hcl : ((ls.take k).filter perB).length ≤ 2 := Nat.le_trans (List.length_filter_le _ _) (by rw [List.length_take]; omega)
        have hc5 : wr.cell? ⟨gl, 0 + k, none⟩ = some (.int .i64 x) := (hB5.cell (p := ⟨gl, 0 + k, none⟩) hb1).trans hc
        rw [Nat.zero_add] at hc5
        have HST := Lib.hid hst
        clear hx hst hc
        generalize hLk : (ls.take k).filter perB = L at hown5 hcl HST
        clear hLk
        cases hv : perB x
        · have HE : Hid ((ls.take (k + 1)).filter perB = L) := Lib.hid (by rw [HST.out, hv]; simp)
          have HO := Lib.hid hown5
          clear hown5
          go_wp2_with (go_at_call 77; refine (l09Per_any _ _).mono ?_; rintro x w' ⟨rfl, rfl⟩; rw [hv])
          go_roundw
          case rel => exact ⟨k + 1, by omega, by go_num, by rw [HE.out]; exact HO.out, hB5⟩
          case measure => simp [Go.RowKit.intOf]; omega
        · have HE : Hid ((ls.take (k + 1)).filter perB = L ++ [x]) := Lib.hid (by rw [HST.out, hv]; rfl)
          go_wp2_with (first | (go_at_call 77; refine (l09Per_any _ _).mono ?_; rintro x w' ⟨rfl, rfl⟩; rw [hv]) | (at_builtin; refine wpList_append_own _ rfl _ _ 29 rfl wE.heap.size 2 i0 (.int .i64 0) 1 8 Try.underlying29 hi hz0 hz1 hz2 rfl (by decide) _ _ _ rfl (hown5.alloc _) ⟨wr.heap.size, 0, none⟩ 1 1 [.int .i64 x] rfl rfl (cell_one_new _ _ _) (by intro u hu; simp at hu; subst hu; rfl) (by unfold maxLen; omega) (by omega) (by simp; omega) ?_; intro v7 w7 hown7 hg7 hnil7; have hB7 : Below wE.heap.size wE w7 := (show Below wE.heap.size wE (wr.alloc (.cells #[.int .i64 x] 2)) from hB5.alloc (by omega) _).grown hg7 (by simp; omega) (fun j e => (hown5.lt j e).1); clear hg7 hnil7))
          have HO := Lib.hid hown7
          clear hown7 hown5
          go_roundw
          case rel => exact ⟨k + 1, by omega, by go_num, by rw [HE.out, List.length_append, List.map_append]; exact HO.out, hB7⟩
          case measure => simp [Go.RowKit.intOf]; omega
      · obtain rfl : k = 1 := by omega
        have HE : Hid (ls.take 1 = ls) := Lib.hid (List.take_of_length_le (by have := HLL.out; omega))
        have HO := Lib.hid hown5
        clear hown5
        go_wp2
        go_ret2
        exact ⟨by rw [HD.out.1, HD.out.2, HAP.out, HL.out, ← HLS.out]; exact IntRes.own (ownLow (by have h9 := HO.out; rw [HE.out] at h9; exact h9) hzE) rfl, BE.trans (hB5.mono hzE)⟩
  · have HL := Lib.hid (HR2.out hgp)
    have hne : (g != p) = true := by simpa using hgp
    have hdp := HNZ.out hgp
    obtain ⟨X, hX⟩ : ∃ X, rnd PG (g + p) = X := ⟨_, rfl⟩
    obtain ⟨Y, hY⟩ : ∃ X, rnd PG (d1 : Nat) = X := ⟨_, rfl⟩
    rw [hX, hY] at HL
    have HX := Lib.hid hX
    have HY := Lib.hid hY
    have hsum : 1 ≤ g + p := by omega
    have hdp' : 1 ≤ (d1 : Int) := by omega
    clear hX hY hgp HR1 HR2
    have hown5 : (w.alloc (.cells #[.int .i64 X] 2)).ownsRow w.heap.size 2 1 (.slice (some ⟨w.heap.size, 0, none⟩) 1 1) 1 [.int .i64 X] := World.ownsRow_lit w #[.int .i64 X] 1 (Nat.le_refl _) (by unfold maxLen; omega) rfl
    have B5 : Below w.heap.size w (w.alloc (.cells #[.int .i64 X] 2)) := by (repeat (first | assumption | exact Below.refl _ _ | refine belowDN ?_ _ | refine Below.drew ?_ | refine Below.setCell ?_ (by first | omega | (simp <;> omega)) _ | refine Below.alloc ?_ (by first | omega | (simp <;> omega)) _ | refine belowCall ?_ (by assumption)))
    go_enter Try.func44, Try.ntmps44
    go_wp2_with (first | (go_at_call 77; refine (l09Per_any _ _).mono ?_; rintro x w' ⟨rfl, rfl⟩; (first | rw [perB_iff.2 ⟨p1, p2⟩] | rw [perB_iff.2 ⟨g1, g2⟩])) | (go_at_call 78; refine (HS _).mono ?_; rintro x w' ⟨rfl, rfl⟩) | (go_at_call 76; refine (l02Round_any _ _ _ (by omega) (by omega) (by omega) (by omega)).mono ?_; rintro x w' ⟨rfl, rfl⟩; (first | rw [HX.out] | rw [HY.out])) | (at_builtin; refine wpList_append_lies _ rfl _ _ 29 rfl w.heap.size 2 i0 (.int .i64 0) 1 8 Try.underlying29 hi hz0 hz1 hz2 rfl (by decide) _ _ _ rfl (hown5.alloc _) ⟨w.heap.size + 1, 0, none⟩ 1 1 [.int .i64 Y] rfl rfl (cell1_at (w.alloc (.cells #[.int .i64 X] 2)) (.int .i64 Y) _ (by simp)) (by intro u hu; simp at hu; subst hu; rfl) (by decide) (by unfold maxLen; omega) (by omega) (by simp; omega) _ rfl ?_; intro g7 c7 w7 hown7 hg7 hat7 hlt7; have hB7 : Below w.heap.size w w7 := (show Below w.heap.size w ((w.alloc (.cells #[.int .i64 X] 2)).alloc (.cells #[.int .i64 Y] 2)) from B5.alloc (by simp) _).grown hg7 (by simp; omega) (fun j e => (hown5.lt j e).1); clear hg7 hat7))
    obtain ⟨wE, hwE⟩ : ∃ W, W = w7 := ⟨_, rfl⟩
    have BE : Below w.heap.size w wE := by rw [hwE]; exact hB7
    have hLs : Lst wE (some ⟨g7, 0, none⟩) 2 [X, Y] := by rw [hwE]; exact Lst.of_own hown7
    obtain ⟨gl, hgl⟩ : ∃ g, g = g7 := ⟨_, rfl⟩
    obtain ⟨ls, hls⟩ : ∃ l, l = [X, Y] := ⟨_, rfl⟩
    have HLS := Lib.hid hls
    rw [← hgl, ← hls] at hLs
    rw [← hwE, ← hgl]
    clear hwE hgl hls hown7 hlt7 hB7
    have hzE := BE.size
    have hLs' : Lst wE (some ⟨gl, 0, none⟩) 2 ls := hLs
    clear hLs
    have HLL := Lib.hid hLs'.1
    go_wp2
    go_loopw [7, 8] (fun o i wr => ∃ k : Nat, k ≤ 2 ∧ i = .int .i64 k ∧ wr.ownsRow wE.heap.size 2 1 o ((ls.take k).filter perB).length (((ls.take k).filter perB).map (Value.int .i64)) ∧ Below wE.heap.size wE wr) (fun _ i _ => 2 - (Go.RowKit.intOf i).toNat)
    case atStart => exact ⟨0, by omega, rfl, World.ownsRow_lit wE #[] 0 (Nat.le_refl _) (by unfold maxLen; omega) rfl, by (repeat (first | assumption | exact Below.refl _ _ | refine belowDN ?_ _ | refine Below.drew ?_ | refine Below.setCell ?_ (by first | omega | (simp <;> omega)) _ | refine Below.alloc ?_ (by first | omega | (simp <;> omega)) _ | refine belowCall ?_ (by assumption)))⟩
    case round =>
      obtain ⟨k, hk, rfl, hown5, hB5⟩ := hrel
      have hs5 := hB5.size
      by_cases hkn : k < 2
      · obtain ⟨b1, o1, he, hb1, hc⟩ := hLs'.2 k hkn
        cases he
        have hkz : (k : Int) < (2 : Int) := by omega
        obtain ⟨x, hx⟩ : ∃ x, ls[k]?.getD 0 = x := ⟨_, rfl⟩
        have hst := HF.out ls k (by have := HLL.out; omega)
        rw [hx] at hst hc
        have hcl : ((ls.take k).filter perB).length ≤ 2 := Nat.le_trans (List.length_filter_le _ _) (by rw [List.length_take]; omega)
        have hc5 : wr.cell? ⟨gl, 0 + k, none⟩ = some (.int .i64 x) := (hB5.cell (p := ⟨gl, 0 + k, none⟩) hb1).trans hc
        rw [Nat.zero_add] at hc5
        have HST := Lib.hid hst
        clear hx hst hc
        generalize hLk : (ls.take k).filter perB = L at hown5 hcl HST
        clear hLk
        cases hv : perB x
        · have HE : Hid ((ls.take (k + 1)).filter perB = L) := Lib.hid (by rw [HST.out, hv]; simp)
          have HO := Lib.hid hown5
          clear hown5
          go_wp2_with (go_at_call 77; refine (l09Per_any _ _).mono ?_; rintro x w' ⟨rfl, rfl⟩; rw [hv])
          go_roundw
          case rel => exact ⟨k + 1, by omega, by go_num, by rw [HE.out]; exact HO.out, hB5⟩
          case measure => simp [Go.RowKit.intOf]; omega
        · have HE : Hid ((ls.take (k + 1)).filter perB = L ++ [x]) := Lib.hid (by rw [HST.out, hv]; rfl)
          go_wp2_with (first | (go_at_call 77; refine (l09Per_any _ _).mono ?_; rintro x w' ⟨rfl, rfl⟩; rw [hv]) | (at_builtin; refine wpList_append_own _ rfl _ _ 29 rfl wE.heap.size 2 i0 (.int .i64 0) 1 8 Try.underlying29 hi hz0 hz1 hz2 rfl (by decide) _ _ _ rfl (hown5.alloc _) ⟨wr.heap.size, 0, none⟩ 1 1 [.int .i64 x] rfl rfl (cell_one_new _ _ _) (by intro u hu; simp at hu; subst hu; rfl) (by unfold maxLen; omega) (by omega) (by simp; omega) ?_; intro v7 w7 hown7 hg7 hnil7; have hB7 : Below wE.heap.size wE w7 := (show Below wE.heap.size wE (wr.alloc (.cells #[.int .i64 x] 2)) from hB5.alloc (by omega) _).grown hg7 (by simp; omega) (fun j e => (hown5.lt j e).1); clear hg7 hnil7))
          have HO := Lib.hid hown7
          clear hown7 hown5
          go_roundw
          case rel => exact ⟨k + 1, by omega, by go_num, by rw [HE.out, List.length_append, List.map_append]; exact HO.out, hB7⟩
          case measure => simp [Go.RowKit.intOf]; omega
      · obtain rfl : k = 2 := by omega
        have HE : Hid (ls.take 2 = ls) := Lib.hid (List.take_of_length_le (by have := HLL.out; omega))
        have HO := Lib.hid hown5
        clear hown5
        go_wp2
        go_ret2
        exact ⟨by rw [HD.out.1, HD.out.2, HAP.out, HL.out, ← HLS.out]; exact IntRes.own (ownLow (by have h9 := HO.out; rw [HE.out] at h9; exact h9) hzE) rfl, BE.trans (hB5.mono hzE)⟩
end Go.Proofs.Ytejkflacpbjkjaa
