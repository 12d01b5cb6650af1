/- Contradictions of drawn estimates: plain lists; the laws' a2Rises. -/
import Derived.Test.YtfabpcdeppfmdabK6
import Derived.Test.YtfabpcdeppfmdabQ2
namespace Go.Proofs.Ytfabpcdeppfmdab
open Go.ChangeShapes Go.WideShapes Go.ChangeAt Go.RowKit Go.Deep

theorem agn_mono {b b' : Int} (h : b' ≤ b) {x y : Es} (hh : agnB b x y = true) : agnB b' x y = true := by
  obtain ⟨x0, x1, x2, x3, x4⟩ := x
  obtain ⟨y0, y1, y2, y3, y4⟩ := y
  cases x4 <;> cases y4 <;> simp [agnB] at hh ⊢ <;> omega
theorem con_mono {ap ap' b b' : Int} (h1 : ap ≤ ap') (h2 : b' ≤ b) {x y : Es} (h : conB ap b x y = true) : conB ap' b' x y = true := by
  simp only [conB, Bool.and_eq_true, decide_eq_true_eq] at h ⊢
  exact ⟨h.1, by omega, agn_mono h2 h.2.2⟩
theorem cnR_mono {xs : List Es} {ap ap' b b' : Int} (h1 : ap ≤ ap') (h2 : b' ≤ b) (i k : Nat) : (cnR xs ap b i k).length ≤ (cnR xs ap' b' i k).length := by
  simp only [cnR, List.length_map, ← List.countP_eq_length_filter]
  refine List.countP_mono_left fun j _ hj => ?_
  simp only [Bool.and_eq_true] at hj ⊢
  exact ⟨hj.1, con_mono h1 h2 hj.2⟩
theorem cnP_mono {xs : List Es} {ap ap' b b' : Int} (h1 : ap ≤ ap') (h2 : b' ≤ b) (n : Nat) : ∀ i, (cnP xs ap b n i).length ≤ (cnP xs ap' b' n i).length
  | 0 => by simp [cnP]
  | i + 1 => by
    have h := cnP_mono (xs := xs) h1 h2 n i
    have := cnR_mono (xs := xs) h1 h2 i n
    rw [cnP_step, cnP_step, List.length_append, List.length_append]
    omega
theorem cnP_mem {xs : List Es} {ap b : Int} {n i : Nat} {p : Int × Int} (h : p ∈ cnP xs ap b n i) : ∃ k j : Nat, p = ((k : Int), (j : Int)) ∧ k < j ∧ j < n ∧ conB ap b (xs[k]?.getD es0) (xs[j]?.getD es0) = true := by
  simp only [cnP, cnR, List.mem_flatMap, List.mem_range, List.mem_map, List.mem_filter, Bool.and_eq_true, decide_eq_true_eq] at h
  obtain ⟨k, _, j, ⟨h1, h2, h3⟩, rfl⟩ := h
  exact ⟨k, j, rfl, h2, h1, h3⟩
theorem con_parts {ap b : Int} {x0 : Int} {x1 x2 : ByteArray} {x3 : Int} {x4 : Bool} {y0 : Int} {y1 y2 : ByteArray} {y3 : Int} {y4 : Bool} (h : conB ap b (x0, x1, x2, x3, x4) (y0, y1, y2, y3, y4) = true) : x1 = y1 ∧ y0 - x0 ≤ ap ∧ (x4 = true → y4 = true → False) := by
  simp only [conB, Bool.and_eq_true, decide_eq_true_eq, beq_iff_eq] at h
  refine ⟨ByteArray.ext (by rw [← Array.toList_inj, ← ByteArray.toList_eq, ← ByteArray.toList_eq]; exact h.1), h.2.1, fun h1 h2 => ?_⟩
  subst h1 h2
  have := h.2.2
  simp [agnB] at this
theorem lst_two {w : World} {r : Nat} {x y : Int} (hr : r < w.heap.size) (h0 : w.cell? ⟨r, 0, none⟩ = some (.int .i64 x)) (h1 : w.cell? ⟨r, 1, none⟩ = some (.int .i64 y)) : Lst w (some ⟨r, 0, none⟩) 2 [x, y] :=
  ⟨rfl, fun i hi => by
    match i, hi with
    | 0, _ => exact ⟨r, 0, rfl, hr, h0⟩
    | 1, _ => exact ⟨r, 0, rfl, hr, h1⟩⟩
theorem A2Es_any (a : Option Addr) (len cap : Nat) (w : World) (hb : LstB w w.heap.size a len) (hlen : len ≤ 1048576) :
    Calls Try.prog 19 #[.slice a len cap] w fun e w' => ∃ a n c xs, e = .returned (.slice a n c) ∧ EsL w' a n xs ∧ okE xs = true ∧ n ≤ 12 ∧ Below w.heap.size w w' :=
  (A2Estimates_any a len cap w hb hlen).mono fun _ _ ⟨_, n, c, xs, h1, h2, h3, h4, h5⟩ => ⟨_, n, c, xs, h1, h2, h3, h4, h5⟩
theorem a2RisesE_any (a : Option Addr) (n c : Nat) (zs : List Int) (m : Nat) (w : World) (h : Lst w a n zs) (hn : n ≤ 1048576) (_hm : m ≤ 1048576) (hr : ∀ j, j < n → 0 ≤ zs[j]?.getD 0 ∧ zs[j]?.getD 0 < m) (hp : ∀ j, j + 1 < n → zs[j]?.getD 0 < zs[j + 1]?.getD 0) :
    Calls Try.prog 21 #[.slice a n c, .int .i64 m] w fun e w' => e = .returned (.bool true) ∧ ∃ q, w' = w.drewN q := by
  have hl : (n : Int) ≤ 1048576 := by omega
  go_enter Try.func21, Try.ntmps21
  go_wp2
  go_loopw [5] (fun i wr => ∃ k q : Nat, k ≤ n ∧ i = .int .i64 k ∧ wr = w.drewN q) (fun i _ => n - (Go.RowKit.intOf i).toNat)
  case atStart => exact ⟨0, 0, Nat.zero_le _, rfl, rfl⟩
  case round =>
    obtain ⟨k, q, hk, rfl, rfl⟩ := hrel
    by_cases hlt : k < n
    · obtain ⟨r0, r1⟩ := hr k hlt
      obtain ⟨b1, o1, rfl, hb1, hc1⟩ := h.2 k hlt
      obtain ⟨v, hv⟩ : ∃ v, zs[k]?.getD 0 = v := ⟨_, rfl⟩
      rw [hv] at hc1 r0 r1
      have hkk : (k : Int) < (n : Int) := by omega
      have d0 : decide (v < 0) = false := by simp; omega
      have d1 : decide ((m : Int) ≤ v) = false := by simp; omega
      by_cases hk0 : 0 < k
      · obtain ⟨k', rfl⟩ : ∃ k', k = k' + 1 := ⟨k - 1, by omega⟩
        obtain ⟨b2, o2, he, hb2, hc2⟩ := h.2 k' (by omega)
        cases he
        obtain ⟨u, hu⟩ : ∃ u, zs[k']?.getD 0 = u := ⟨_, rfl⟩
        have hvu := hp k' hlt
        rw [hu] at hc2 hvu
        rw [hv] at hvu
        clear hu hv
        have d2 : decide (v ≤ u) = false := by simp; omega
        go_wp2
        go_big_quiet (fail)
        go_wp2
        go_roundw
        case rel => exact ⟨k' + 1 + 1, _, by omega, by go_num, rfl⟩
        case measure => simp [Go.RowKit.intOf]; omega
      · obtain rfl : k = 0 := by omega
        clear hv
        simp only [Nat.add_zero] at hc1
        go_wp2
        go_big_quiet (fail)
        go_wp2
        go_roundw
        case rel => exact ⟨0 + 1, _, by omega, by go_num, rfl⟩
        case measure => simp [Go.RowKit.intOf]; omega
    · obtain rfl : k = n := by omega
      go_wp2
      go_ret
      exact ⟨rfl, q, rfl⟩
end Go.Proofs.Ytfabpcdeppfmdab
