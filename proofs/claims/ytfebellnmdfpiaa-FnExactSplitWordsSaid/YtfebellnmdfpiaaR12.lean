/- SplitWords: the model's loop, the program's (strings.FieldsFunc), the law's comparing of slices of strings. -/
import Derived.Test.YtfebellnmdfpiaaR11
import Derived.Shelf.Strings.FieldsFuncAny
namespace Go.Proofs.Ytfebellnmdfpiaa
open Go.ChangeShapes Go.WideShapes Go.ChangeAt Go.RowKit

theorem byteEq {u t : ByteArray} (h : u.data.toList = t.data.toList) : u = t := by
  cases u; cases t; simp at h; rw [h]
theorem strNe {u t : ByteArray} (h : ¬ u = t) : (!u.toList == t.toList) = true := by
  have : ¬ u.toList = t.toList := fun e => h (by
    rw [ByteArray.toList_eq, ByteArray.toList_eq] at e
    cases u; cases t; simp at e; rw [e])
  simp [this]
/-- block g reads as the strings ps -/
def SAt (w : World) (g : Nat) (ps : List ByteArray) : Prop := ∀ k, k < ps.length → g < w.heap.size ∧ w.cell? ⟨g, k, none⟩ = some (.string (ps[k]?.getD ⟨#[]⟩))
theorem SAt.mono {w w' : World} {g : Nat} {ps : List ByteArray} (h : SAt w g ps) (hb : Below w.heap.size w w') : SAt w' g ps := fun k hk =>
  ⟨Nat.lt_of_lt_of_le (h k hk).1 hb.size, by rw [hb.cell (p := ⟨g, k, none⟩) (h k hk).1]; exact (h k hk).2⟩
theorem SAt.of_own {w : World} {base e g cap n : Nat} {ps : List ByteArray} (h : w.ownsRow base e 1 (.slice (some ⟨g, 0, none⟩) n cap) n (strs ps)) : SAt w g ps := by
  have hl : ps.length = n := by have := h.1; simpa [strs] using this
  intro k hk
  refine ⟨(h.lt g rfl).2, ?_⟩
  rw [h.cellAt k (by omega)]
  simp [strs, hk]
theorem strs_eq {ps qs : List ByteArray} (h1 : ps.length = qs.length) (h : ∀ j, j < ps.length → ps[j]?.getD ⟨#[]⟩ = qs[j]?.getD ⟨#[]⟩) : ps = qs := by
  apply List.ext_getElem h1
  intro j hj hj'
  have := h j hj
  simpa [hj, hj'] using this
set_option maxHeartbeats 1000000 in
theorem eqStringS_any (g g' cap cap' n n' : Nat) (ps qs : List ByteArray) (w : World) (h : SAt w g ps) (h' : SAt w g' qs) (hn : n = ps.length) (hn' : n' = qs.length) (hlen : n ≤ 2097152) (hlen' : n' ≤ 2097152) :
    Calls Try.prog 26 #[.slice (some ⟨g, 0, none⟩) n cap, .slice (some ⟨g', 0, none⟩) n' cap'] w fun e w' => e = .returned (.bool (decide (ps = qs))) ∧ Below w.heap.size w w' := by
  by_cases hll : n = n'
  · subst hll
    go_enter Try.func26, Try.ntmps26
    go_wp2
    go_loopw [5] (fun i wr => ∃ k q : Nat, k ≤ n ∧ i = .int .i64 k ∧ (∀ j, j < k → ps[j]?.getD ⟨#[]⟩ = qs[j]?.getD ⟨#[]⟩) ∧ wr = w.drewN q) (fun i _ => n - (intOf i).toNat)
    case atStart => exact ⟨0, 0, Nat.zero_le _, rfl, fun j hj => by omega, rfl⟩
    case round =>
      obtain ⟨k, q, hk, rfl, hall, rfl⟩ := hrel
      have HALL := Lib.hid hall
      clear hall
      by_cases hlt : k < n
      · obtain ⟨x, hx⟩ : ∃ x, ps[k]?.getD ⟨#[]⟩ = x := ⟨_, rfl⟩
        obtain ⟨y, hy⟩ : ∃ y, qs[k]?.getD ⟨#[]⟩ = y := ⟨_, rfl⟩
        have HX := Lib.hid hx
        have HY := Lib.hid hy
        have hc1 := (h k (by omega)).2
        have hc2 := (h' k (by omega)).2
        rw [hx] at hc1
        rw [hy] at hc2
        clear hx hy
        have hkk : (k : Int) < (n : Int) := by omega
        by_cases hxy : x = y
        · subst hxy
          go_wp2
          go_quiet (fail)
          go_wp2
          go_roundw
          case rel =>
            refine ⟨k + 1, _, by omega, by go_num, fun j hj => ?_, rfl⟩
            by_cases hjk : j = k
            · subst hjk; rw [HX.out, HY.out]
            · exact HALL.out j (by omega)
          case measure => simp [intOf]; omega
        · have hne := strNe hxy
          go_wp2
          go_quiet (fail)
          go_wp2
          go_ret
          refine ⟨?_, by (repeat (first | assumption | exact Below.refl _ _ | refine belowDN ?_ _ | refine Below.drew ?_ | refine Below.setCell ?_ (by first | omega | (simp <;> omega)) _ | refine Below.alloc ?_ (by first | omega | (simp <;> omega)) _ | refine belowCall ?_ (by assumption)))⟩
          have : ps ≠ qs := fun e => hxy (by rw [← HX.out, ← HY.out, e])
          simp [this]
      · obtain rfl : k = n := by omega
        have HE := Lib.hid (strs_eq (hn.symm.trans hn') (fun j hj => HALL.out j (by omega)))
        go_wp2
        go_ret
        refine ⟨?_, by (repeat (first | assumption | exact Below.refl _ _ | refine belowDN ?_ _ | refine Below.drew ?_ | refine Below.setCell ?_ (by first | omega | (simp <;> omega)) _ | refine Below.alloc ?_ (by first | omega | (simp <;> omega)) _ | refine belowCall ?_ (by assumption)))⟩
        simp [HE.out]
  · have hnn : ((n : Int) != (n' : Int)) = true := by simp; omega
    have hx : ps ≠ qs := fun e => hll (by rw [hn, hn', e])
    have hd : decide (ps = qs) = false := by simp [hx]
    have HD := Lib.hid hd
    clear hd hx
    go_enter Try.func26, Try.ntmps26
    go_wp2
    go_ret
    exact ⟨by rw [HD.out]; rfl, by (repeat (first | assumption | exact Below.refl _ _ | refine belowDN ?_ _ | refine Below.drew ?_ | refine Below.setCell ?_ (by first | omega | (simp <;> omega)) _ | refine Below.alloc ?_ (by first | omega | (simp <;> omega)) _ | refine belowCall ?_ (by assumption)))⟩
end Go.Proofs.Ytfebellnmdfpiaa
