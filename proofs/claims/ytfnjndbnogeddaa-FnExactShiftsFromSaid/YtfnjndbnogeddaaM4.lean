/- MedianMag, the model's. -/
import Derived.Test.YtfnjndbnogeddaaM3
import Derived.Test.YtfnjndbnogeddaaB4
namespace Go.Proofs.Ytfnjndbnogeddaa
open Go.ChangeShapes Go.WideShapes Go.ChangeAt Go.RowKit

/-- the median of rising numbers -/
def medP (ys : List Int) : Int := if ys.length % 2 = 1 then ys[ys.length / 2]?.getD 0 else rnd (ys[ys.length / 2 - 1]?.getD 0 + ys[ys.length / 2]?.getD 0) 2
theorem medP_odd {ys : List Int} {n : Nat} (hn : ys.length = n) (h : n % 2 = 1) : medP ys = ys[n / 2]?.getD 0 := by rw [medP, hn, if_pos h]
theorem medP_even {ys : List Int} {n : Nat} (hn : ys.length = n) (h : n % 2 = 0) : medP ys = rnd (ys[n / 2 - 1]?.getD 0 + ys[n / 2]?.getD 0) 2 := by rw [medP, hn, if_neg (by omega)]
theorem perm_bd {ys xs : List Int} {B : Int} (h : ys.Perm xs) (hx : ∀ x ∈ xs, -B ≤ x ∧ x ≤ B) (j : Nat) (hj : j < ys.length) : -B ≤ ys[j]?.getD 0 ∧ ys[j]?.getD 0 ≤ B := by
  have := hx ys[j] (h.mem_iff.1 (List.getElem_mem hj))
  simpa [hj] using this
theorem flipM {P : Program} {f : FuncId} {args : Array Value} {w : World} {v : Value} (h : Calls P f args w fun e w' => e = .returned v ∧ w = w') : Calls P f args w fun e w' => e = .returned v ∧ w' = w :=
  h.mono fun _ _ hh => ⟨hh.1, hh.2.symm⟩
set_option maxHeartbeats 2000000 in
theorem l02Median_any (a : Option Addr) (n c : Nat) (xs : List Int) (w : World) (h : Lst w a n xs) (hn : n ≤ 1048576) (h0 : 0 < n) (hx : ∀ x ∈ xs, -1000000000000 ≤ x ∧ x ≤ 1000000000000) :
    Calls Try.prog 62 #[.slice a n c] w fun e w' => ∃ ys, Rising ys ∧ ys.Perm xs ∧ e = .returned (.int .i64 (medP ys)) ∧ Below w.heap.size w w' := by
  have hl : (n : Int) ≤ 1048576 := by omega
  have htm : (n : Int).tmod 2 = (n : Int) % 2 := Int.tmod_eq_emod_of_nonneg (by omega)
  have htd : (n : Int).tdiv 2 = ((n / 2 : Nat) : Int) := by rw [Int.tdiv_eq_ediv_of_nonneg (by omega)]; omega
  have hlt : ((n / 2 : Nat) : Int) < (n : Int) := by omega
  go_enter Try.func62, Try.ntmps62
  go_wp2_with fail
  refine (l02Sort_any a n c xs w h hn).mono ?_
  rintro e w2 ⟨g, c', ys, rfl, hR, hP, hown, hB⟩
  have hyl : ys.length = n := by rw [hP.length_eq, h.1]
  have hcell : ∀ j, j < n → w2.cell? ⟨g, j, none⟩ = some (.int .i64 (ys[j]?.getD 0)) := fun j hj => by
    rw [hown.cellAt j (by omega)]; simp [show j < ys.length by omega]
  have hc1 := hcell (n / 2) (by omega)
  have HR := Lib.hid hR
  have HP := Lib.hid hP
  by_cases hodd : n % 2 = 1
  · have hb : ((n : Int) % 2 == 1) = true := by simp; omega
    have HV := Lib.hid (medP_odd hyl hodd)
    obtain ⟨y, hy⟩ : ∃ y, ys[n / 2]?.getD 0 = y := ⟨_, rfl⟩
    rw [hy] at hc1 HV
    clear hy hR hP
    go_wp2
    go_ret
    exact ⟨ys, HR.out, HP.out, by rw [HV.out]; rfl, hB⟩
  · have hb : ((n : Int) % 2 == 1) = false := by simp; omega
    have HV := Lib.hid (medP_even hyl (by omega))
    have hc0 := hcell (n / 2 - 1) (by omega)
    obtain ⟨b1, b2⟩ := perm_bd hP hx (n / 2) (by omega)
    obtain ⟨b3, b4⟩ := perm_bd hP hx (n / 2 - 1) (by omega)
    obtain ⟨y, hy⟩ : ∃ y, ys[n / 2]?.getD 0 = y := ⟨_, rfl⟩
    obtain ⟨z, hz⟩ : ∃ z, ys[n / 2 - 1]?.getD 0 = z := ⟨_, rfl⟩
    rw [hy] at hc1 b1 b2 HV
    rw [hz] at hc0 b3 b4 HV
    have hm1 : ((n / 2 : Nat) : Int) - 1 = ((n / 2 - 1 : Nat) : Int) := by omega
    have hlt1 : ((n / 2 - 1 : Nat) : Int) < (n : Int) := by omega
    clear hy hz hR hP
    go_wp2
    go_big_quiet (first | (go_at_call 80; refine Calls.quiet_of_same (flipM (l02Round_any (z + y) 2 _ (by omega) (by omega) (by omega) (by omega)))))
    go_wp2
    go_ret
    exact ⟨ys, HR.out, HP.out, by rw [HV.out]; rfl, belowDN hB _⟩
def medS (xs : List Int) (v : Value) : Prop := (okMags xs = true ∧ 0 < xs.length ∧ ∃ ys, Rising ys ∧ ys.Perm xs ∧ v = .tuple #[.int .i64 (medP ys), .int .i64 0]) ∨ (¬ (okMags xs = true ∧ 0 < xs.length) ∧ v = .tuple #[.int .i64 0, .int .i64 (someCode xs)])
theorem medS_one {xs : List Int} {v u : Value} (h : medS xs v) (h' : medS xs u) : v = u := by
  rcases h with ⟨h1, h2, ys, h3, h4, rfl⟩ | ⟨h1, rfl⟩ <;> rcases h' with ⟨k1, k2, zs, k3, k4, rfl⟩ | ⟨k1, rfl⟩
  · rw [rising_one h3 k3 (h4.trans k4.symm)]
  · exact absurd ⟨h1, h2⟩ k1
  · exact absurd ⟨k1, k2⟩ h1
  · rfl
theorem medS_form {xs : List Int} {v : Value} (h : medS xs v) : ∃ m c, v = .tuple #[.int .i64 m, .int .i64 c] := by
  rcases h with ⟨_, _, ys, _, _, rfl⟩ | ⟨_, rfl⟩ <;> exact ⟨_, _, rfl⟩
theorem some_ok {xs : List Int} (h : okMags xs = true) (h0 : 0 < xs.length) : someCode xs = 0 := by rw [someCode, if_pos h, if_neg (by omega)]
theorem some_bad {xs : List Int} (h : ¬ (okMags xs = true ∧ 0 < xs.length)) : someCode xs = 2 ∨ someCode xs = 3 := by
  unfold someCode
  split
  · rename_i h1
    right
    rw [if_pos]
    rcases Nat.eq_zero_or_pos xs.length with h2 | h2
    · exact h2
    · exact absurd ⟨h1, h2⟩ h
  · exact .inl rfl
theorem mags_bd {xs : List Int} (h : okMags xs = true) : ∀ x ∈ xs, -1000000000000 ≤ x ∧ x ≤ 1000000000000 := fun x hx => by
  simp only [okMags, Bool.and_eq_true, List.all_eq_true] at h
  have := h.2 x hx
  rw [magB_iff] at this
  omega
end Go.Proofs.Ytfnjndbnogeddaa
