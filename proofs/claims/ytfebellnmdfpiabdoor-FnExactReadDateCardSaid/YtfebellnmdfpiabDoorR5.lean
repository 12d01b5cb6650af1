/- ReadTime: the model's walk. -/
import Derived.Test.YtfebellnmdfpiabDoorR4
namespace Go.Proofs.YtfebellnmdfpiabDoor
open Go.ChangeShapes Go.WideShapes Go.ChangeAt Go.RowKit

def dgV (l : List UInt8) : Value := if l.all isDg then .tuple #[.int .i64 (dval l), .bool true] else noV
theorem l03Digits_any (t : ByteArray) (w : World) (h18 : t.size ≤ 18) :
    Calls Tryd.prog 32 #[.string t] w fun e w' => e = .returned (dgV t.data.toList) ∧ w = w' := by
  go_enter Tryd.func32, Tryd.ntmps32
  go_wp2
  go_loop [4, 5] (fun n i => ∃ k : Nat, k ≤ t.size ∧ i = .int .i64 k ∧ n = .int .i64 (dval (t.data.toList.take k)) ∧ (t.data.toList.take k).all isDg = true) (fun _ i => t.size - (intOf i).toNat)
  case atStart => exact ⟨0, by omega, rfl, by simp [dval], by simp⟩
  case round =>
    obtain ⟨k, hk, rfl, rfl, hall⟩ := hrel
    by_cases hlt : k < t.size
    · cases hd : digitB ((t[k]'hlt).toNat : Int)
      · have HN := Lib.hid (show dgV t.data.toList = noV by
          unfold dgV
          rw [if_neg]
          intro hh
          have := List.all_eq_true.1 hh (t[k]'hlt) (List.mem_of_getElem? (byte_at t k hlt))
          rw [← dgB, hd] at this
          cases this)
        clear hall
        go_wp2_with (go_at_call 48; refine (l01Digit_any _ _).mono ?_; rintro e w' ⟨rfl, rfl⟩)
        exact bodyPost_ret (v := noV) (by simp [results, Tryd.results32, go_sem, noV]) rfl ⟨by rw [HN.out], rfl⟩
      · obtain ⟨c1, c2⟩ := inB_iff.1 hd
        have HV := Lib.hid (show 10 * (dval (t.data.toList.take k) : Int) + (((t[k]'hlt).toNat : Int) - 48) = (dval (t.data.toList.take (k + 1)) : Int) by
          rw [take_snoc t k hlt, dval_snoc]; omega)
        have hb17 : dval (t.data.toList.take k) < 100000000000000000 := by
          have h1 := dval_lt _ _ rfl hall
          have h2 : 10 ^ (t.data.toList.take k).length ≤ 10 ^ 17 := Nat.pow_le_pow_right (by omega) (by rw [List.length_take, sizeL]; omega)
          have h3 : (10 : Nat) ^ 17 = 100000000000000000 := by decide
          omega
        have hall' : (t.data.toList.take (k + 1)).all isDg = true := by
          rw [take_snoc t k hlt, List.all_append, hall]; simp [← dgB, hd]
        clear hall
        go_wp2_with (go_at_call 48; refine (l01Digit_any _ _).mono ?_; rintro e w' ⟨rfl, rfl⟩)
        go_round
        case rel => exact ⟨k + 1, by omega, by go_num, by rw [← HV.out], hall'⟩
        case measure => simp [intOf]; omega
    · obtain rfl : k = t.size := by omega
      rw [take_size] at hall ⊢
      have HN := Lib.hid (show dgV t.data.toList = .tuple #[.int .i64 (dval t.data.toList), .bool true] by unfold dgV; rw [if_pos hall])
      clear hall
      go_wp2
      exact bodyPost_ret (v := .tuple #[.int .i64 (dval t.data.toList), .bool true]) (by simp [results, Tryd.results32, go_sem]) rfl ⟨by rw [HN.out], rfl⟩
theorem map_list (ps : List ByteArray) {l : List (List UInt8)} (h : ps.map (fun p => p.data.toList) = l) : l.length = ps.length := by rw [← h, List.length_map]
set_option maxHeartbeats 1000000 in
theorem sReadTime_any (s : ByteArray) (w : World) (hs : s.size ≤ 1048576) :
    Calls Tryd.prog 18 #[.string s] w fun e w' => ∃ v, e = .returned v ∧ TimPost s.data.toList v ∧ Below w.heap.size w w' := by
  go_enter Tryd.func18, Tryd.ntmps18
  go_wp2_with fail
  refine (l01Split_any s 46 w hs).mono ?_
  rintro e w1 ⟨g, cap, ps, rfl, hps, hown, b1⟩
  by_cases hl2 : ps.length = 2
  · match ps, hl2 with
    | [p0, p1], _ =>
      have k0 : w1.cell? ⟨g, 0, none⟩ = some (.string p0) := by have := hown.cellAt 0 (by simp); simpa [strs] using this
      have k1 : w1.cell? ⟨g, 1, none⟩ = some (.string p1) := by have := hown.cellAt 1 (by simp); simpa [strs] using this
      have hg := hown.lt g rfl
      simp only [List.map_cons, List.map_nil] at hps
      have HPS := Lib.hid hps
      clear hps hown
      simp only [List.length_cons, List.length_nil]
      by_cases h4 : p1.size = 4
      · have h4' : ((p1.size : Int) != 4) = false := by simp [h4]
        go_wp2_with fail
        refine (l01Number_any p0 w1).mono ?_
        rintro e w2 ⟨v, rfl, hp, b2⟩
        obtain ⟨n, b, rfl⟩ := hp.form
        have k1' : w2.cell? ⟨g, 1, none⟩ = some (.string p1) := by rw [b2.cell (p := ⟨g, 1, none⟩) hg.2]; exact k1
        go_wp2_with fail
        refine (l03Digits_any p1 w2 (by omega)).mono ?_
        rintro e w3 ⟨rfl, rfl⟩
        have hpl := sizeL p1
        rw [h4] at hpl
        have hdv := fun hd => dval_lt 4 p1.data.toList hpl hd
        have e4 : (10 : Nat) ^ 4 = 10000 := by decide
        cases b with
        | false =>
          have HN : TimPost s.data.toList noV := tim_no HPS.out (fun t ht he => by
            simp only [List.cons.injEq, and_true] at he
            obtain ⟨q1, q2, q3, q4, q5⟩ := tim_parts ht
            rcases hp with ⟨m, _, _, _, hv⟩ | ⟨hno, _⟩
            · simp at hv
            · exact hno (t / 10000) (by omega) (by omega) he.1.symm)
          clear hp hdv
          cases hd : p1.data.toList.all isDg
          · rw [show dgV p1.data.toList = noV from by unfold dgV; rw [hd]; rfl]
            unfold noV
            go_wp2
            exact bodyPost_ret (v := noV) (by simp [results, Tryd.results18, go_sem, noV]) rfl ⟨_, rfl, HN, by (repeat (first | assumption | exact Below.refl _ _ | refine belowDN ?_ _ | refine Below.drew ?_ | refine Below.setCell ?_ (by first | omega | (simp <;> omega)) _ | refine Below.alloc ?_ (by first | omega | (simp <;> omega)) _ | refine belowCall ?_ (by assumption)))⟩
          · rw [show dgV p1.data.toList = .tuple #[.int .i64 (dval p1.data.toList), .bool true] from by unfold dgV; rw [hd]; rfl]
            go_wp2
            exact bodyPost_ret (v := noV) (by simp [results, Tryd.results18, go_sem, noV]) rfl ⟨_, rfl, HN, by (repeat (first | assumption | exact Below.refl _ _ | refine belowDN ?_ _ | refine Below.drew ?_ | refine Below.setCell ?_ (by first | omega | (simp <;> omega)) _ | refine Below.alloc ?_ (by first | omega | (simp <;> omega)) _ | refine belowCall ?_ (by assumption)))⟩
        | true =>
          obtain ⟨n1, n2, n3⟩ : -1000000000000000000 < n ∧ n < 1000000000000000000 ∧ Lib.itoa n = p0.data.toList := by
            rcases hp with ⟨m, m1, m2, m3, hv⟩ | ⟨_, hv⟩
            · simp at hv; subst hv; exact ⟨m1, m2, m3⟩
            · simp at hv
          clear hp
          cases hd : p1.data.toList.all isDg
          · have HN : TimPost s.data.toList noV := tim_no HPS.out (fun t ht he => by
              simp only [List.cons.injEq, and_true] at he
              obtain ⟨q1, q2, q3, q4, q5⟩ := tim_parts ht
              rw [← he.2, hd] at q4; cases q4)
            rw [show dgV p1.data.toList = noV from by unfold dgV; rw [hd]; rfl]
            unfold noV
            clear hdv n3
            go_wp2
            exact bodyPost_ret (v := noV) (by simp [results, Tryd.results18, go_sem, noV]) rfl ⟨_, rfl, HN, by (repeat (first | assumption | exact Below.refl _ _ | refine belowDN ?_ _ | refine Below.drew ?_ | refine Below.setCell ?_ (by first | omega | (simp <;> omega)) _ | refine Below.alloc ?_ (by first | omega | (simp <;> omega)) _ | refine belowCall ?_ (by assumption)))⟩
          · have hdb := hdv hd
            rw [show dgV p1.data.toList = .tuple #[.int .i64 (dval p1.data.toList), .bool true] from by unfold dgV; rw [hd]; rfl]
            cases hr : inB n 0 1000
            · have HN : TimPost s.data.toList noV := tim_no HPS.out (fun t ht he => by
                simp only [List.cons.injEq, and_true] at he
                obtain ⟨q1, q2, q3, q4, q5⟩ := tim_parts ht
                have hn := itoa_inj (n3.trans he.1)
                have : inB n 0 1000 = true := inB_iff.2 (by omega)
                rw [hr] at this; cases this)
              clear hdv n3 hd
              generalize dval p1.data.toList = D at hdb ⊢
              go_wp2_with (go_at_call 43; refine (l00In_any _ _ _ _).mono ?_; rintro e w' ⟨rfl, rfl⟩)
              exact bodyPost_ret (v := noV) (by simp [results, Tryd.results18, go_sem, noV]) rfl ⟨_, rfl, HN, by (repeat (first | assumption | exact Below.refl _ _ | refine belowDN ?_ _ | refine Below.drew ?_ | refine Below.setCell ?_ (by first | omega | (simp <;> omega)) _ | refine Below.alloc ?_ (by first | omega | (simp <;> omega)) _ | refine belowCall ?_ (by assumption)))⟩
            · obtain ⟨r1, r2⟩ := inB_iff.1 hr
              cases ht : timB (n * 10000 + (dval p1.data.toList : Int))
              · have HN : TimPost s.data.toList noV := tim_no HPS.out (fun t ht' he => by
                  simp only [List.cons.injEq, and_true] at he
                  obtain ⟨q1, q2, q3, q4, q5⟩ := tim_parts ht'
                  have hn := itoa_inj (n3.trans he.1)
                  rw [he.2, hn, q5, ht'] at ht; cases ht)
                clear hdv n3 hd
                generalize dval p1.data.toList = D at hdb ht ⊢
                go_wp2_with (first | (go_at_call 43; refine (l00In_any _ _ _ _).mono ?_; rintro e w' ⟨rfl, rfl⟩) | (go_at_call 35; refine (l03Time_any _ _).mono ?_; rintro e w' ⟨rfl, rfl⟩))
                exact bodyPost_ret (v := noV) (by simp [results, Tryd.results18, go_sem, noV]) rfl ⟨_, rfl, HN, by (repeat (first | assumption | exact Below.refl _ _ | refine belowDN ?_ _ | refine Below.drew ?_ | refine Below.setCell ?_ (by first | omega | (simp <;> omega)) _ | refine Below.alloc ?_ (by first | omega | (simp <;> omega)) _ | refine belowCall ?_ (by assumption)))⟩
              · have HN := tim_yes HPS.out n3 hpl hd ht
                clear hdv n3 hd
                generalize dval p1.data.toList = D at hdb ht HN ⊢
                go_wp2_with (first | (go_at_call 43; refine (l00In_any _ _ _ _).mono ?_; rintro e w' ⟨rfl, rfl⟩) | (go_at_call 35; refine (l03Time_any _ _).mono ?_; rintro e w' ⟨rfl, rfl⟩))
                exact bodyPost_ret (v := .tuple #[.int .i64 (n * 10000 + (D : Int)), .bool true]) (by simp [results, Tryd.results18, go_sem]) rfl ⟨_, rfl, HN, by (repeat (first | assumption | exact Below.refl _ _ | refine belowDN ?_ _ | refine Below.drew ?_ | refine Below.setCell ?_ (by first | omega | (simp <;> omega)) _ | refine Below.alloc ?_ (by first | omega | (simp <;> omega)) _ | refine belowCall ?_ (by assumption)))⟩
      · have h4' : ((p1.size : Int) != 4) = true := by simp; omega
        have HN : TimPost s.data.toList noV := tim_no HPS.out (fun t ht he => by
          simp only [List.cons.injEq, and_true] at he
          have := (tim_parts ht).2.2.1
          rw [← he.2, sizeL] at this
          exact h4 this)
        go_wp2
        exact bodyPost_ret (v := noV) (by simp [results, Tryd.results18, go_sem, noV]) rfl ⟨_, rfl, HN, by (repeat (first | assumption | exact Below.refl _ _ | refine belowDN ?_ _ | refine Below.drew ?_ | refine Below.setCell ?_ (by first | omega | (simp <;> omega)) _ | refine Below.alloc ?_ (by first | omega | (simp <;> omega)) _ | refine belowCall ?_ (by assumption)))⟩
  · have hl2' : ((ps.length : Int) != 2) = true := by simp; omega
    have HN : TimPost s.data.toList noV := tim_no hps (fun t ht he => hl2 (by have := congrArg List.length he; simpa using this))
    clear hps hown
    go_wp2
    exact bodyPost_ret (v := noV) (by simp [results, Tryd.results18, go_sem, noV]) rfl ⟨_, rfl, HN, by (repeat (first | assumption | exact Below.refl _ _ | refine belowDN ?_ _ | refine Below.drew ?_ | refine Below.setCell ?_ (by first | omega | (simp <;> omega)) _ | refine Below.alloc ?_ (by first | omega | (simp <;> omega)) _ | refine belowCall ?_ (by assumption)))⟩
end Go.Proofs.YtfebellnmdfpiabDoor
