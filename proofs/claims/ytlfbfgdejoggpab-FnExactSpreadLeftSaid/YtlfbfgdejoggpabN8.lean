/- SpreadLeft, the program's. -/
import Derived.Test.YtlfbfgdejoggpabN6
import Derived.Test.YtlfbfgdejoggpabN7
import Derived.Test.YtlfbfgdejoggpabRR
namespace Go.Proofs.Ytlfbfgdejoggpab
open Go.ChangeShapes Go.WideShapes Go.ChangeAt Go.RowKit Go.Shelf
attribute [local go_sem] Oper.semAt_some

theorem KpC.drew {n₀ : Nat} {T : TypeId} {W W' : World} (h : KpC n₀ T W W') : KpC n₀ T W W'.drew := ⟨h.1.drew, h.2⟩
set_option maxRecDepth 100000 in
set_option maxHeartbeats 4000000 in
theorem iSpread_any (cn : Int) (s b : Option Addr) (n c m c' : Nat) (xs : List Cm) (zs : List Int) (w : World) (h : CmL w s n xs) (h' : Lst w b m zs) (hn : n ≤ 1048576) (hm : m ≤ 1048576) :
    Calls Try.prog 30 #[.int .i64 cn, .slice s n c, .slice b m c'] w fun e w' => e = .returned (.tuple #[.int .i64 (slV cn xs zs), .int .i64 (slC cn xs zs)]) ∧ Below w.heap.size w w' := by
  have hl : (n : Int) ≤ 1048576 := by omega
  have hl2 : (m : Int) ≤ 1048576 := by omega
  have HL := Lib.hid h.1
  have HM := Lib.hid h'.1
  have B1 : Below w.heap.size w (w.alloc (.cells #[.slice b m c'] 30)) := by (repeat (first | assumption | exact Below.refl _ _ | refine belowDN ?_ _ | refine Below.drew ?_ | refine Below.setCell ?_ (by first | omega | (simp <;> omega)) _ | refine Below.alloc ?_ (by first | omega | (simp <;> omega)) _ | refine belowCall ?_ (by assumption)))
  have h1 := h.mono B1
  have hck : ∀ W (hW : CmL W s n xs), Calls Try.prog 57 #[.int .i64 cn, .slice s n c] W fun e w' => e = .returned (.bool (cmsB cn xs)) ∧ Below W.heap.size W w' := fun W hW => iCommons_any cn s n c xs W hW hn
  have HCK := Lib.hid hck
  clear hck
  have ks : (w.alloc (.cells #[.slice b m c'] 30)).cell? ⟨w.heap.size, 0, none⟩ = some (.slice b m c') := by go_keep
  cases hv : cmsB cn xs
  · obtain ⟨e1, e2⟩ := slC_1 (zs := zs) hv
    rw [e1, e2]
    rw [hv] at HCK
    go_enter Try.func30, Try.ntmps30
    go_wp2_with fail
    refine (HCK.out _ h1).mono ?_
    rintro e w2 ⟨rfl, b2⟩
    go_wp2
    go_ret2
    exact ⟨rfl, belowCall B1 b2⟩
  obtain ⟨c1, c2, c60, call⟩ := cms_parts hv
  rw [hv] at HCK
  cases hd : ((m : Int) != cn)
  rotate_left
  · obtain ⟨e1, e2⟩ := slC_2 (zs := zs) hv (by rw [HM.out]; exact hd)
    rw [e1, e2]
    go_enter Try.func30, Try.ntmps30
    go_wp2_with fail
    refine (HCK.out _ h1).mono ?_
    rintro e w2 ⟨rfl, b2⟩
    have ks2 := (b2.cell (p := ⟨w.heap.size, 0, none⟩) (by simp)).trans ks
    go_wp2
    go_ret2
    exact ⟨rfl, belowCall B1 b2⟩
  have hmc : (m : Int) = cn := by simpa using hd
  subst hmc
  clear hd
  have hmm : ((m : Int) != (m : Int)) = false := by simp
  cases hsh : shfB 100000 zs
  · obtain ⟨e1, e2⟩ := slC_3 hv (by rw [HM.out]; exact hmm) hsh
    rw [e1, e2]
    have HSH := Lib.hid hsh
    clear hsh e1 e2
    go_enter Try.func30, Try.ntmps30
    go_wp2_with fail
    refine (HCK.out _ h1).mono ?_
    rintro e w2 ⟨rfl, b2⟩
    have ks2 := (b2.cell (p := ⟨w.heap.size, 0, none⟩) (by simp)).trans ks
    have B2 := belowCall B1 b2
    clear ks B1 h1 b2
    go_wp2
    go_loopw [22] (fun i wr => ∃ k : Nat, k ≤ m ∧ i = .int .i64 k ∧ (∀ j, j < k → inB (zs[j]?.getD 0) (-100000) 100000 = true) ∧ wr = w2) (fun i _ => m - (intOf i).toNat)
    case atStart => exact ⟨0, Nat.zero_le _, rfl, fun j hj => absurd hj (by omega), rfl⟩
    case round =>
      obtain ⟨k, hk, rfl, hall, rfl⟩ := hrel
      have HALL := Lib.hid hall
      clear hall
      by_cases hlt : k < m
      · obtain ⟨b1, o1, rfl, hbs, hc⟩ := h'.2 k hlt
        obtain ⟨z, hz⟩ : ∃ z, zs[k]?.getD 0 = z := ⟨_, rfl⟩
        rw [hz] at hc
        have hcr := (B2.cell (p := ⟨b1, o1 + k, none⟩) hbs).trans hc
        have hkk : (k : Int) < (m : Int) := by omega
        have HZ := Lib.hid hz
        clear hz
        cases hvz : inB z (-100000) 100000
        · go_wp2_with (go_at_call 58; refine (inRange_any _ _ _ _).mono ?_; rintro e w' ⟨rfl, rfl⟩)
          go_ret2
          exact ⟨rfl, B2⟩
        · go_wp2_with (go_at_call 58; refine (inRange_any _ _ _ _).mono ?_; rintro e w' ⟨rfl, rfl⟩)
          go_roundw
          case rel => exact ⟨k + 1, by omega, by go_num, inB_next HALL.out HZ.out hvz, by first | rfl | trivial⟩
          case measure => simp [intOf]; omega
      · obtain rfl : k = m := by omega
        have := (shfB_yes (m := 100000) HM.out HALL.out).symm.trans HSH.out
        exact absurd this (by decide)
  obtain ⟨e1, e2⟩ := slC_0 hv (by rw [HM.out]; exact hmm) hsh
  rw [e1, e2]
  have HSH := Lib.hid hsh
  clear hsh e1 e2
  refine (callsIn_wide (n := 5)).1 ?_
  refine callsIn_of_wp_marks Try.func30 rfl trivial ?_ rfl
  simp only [Try.ntmps30, List.size_toArray, List.length_cons, List.length_nil, Nat.reduceAdd, Nat.reduceSub, Array.replicate_succ, Array.replicate_zero, List.push_toArray, List.append_toArray, List.nil_append, List.cons_append]
  gi_wp2_with ((try refine ⟨trivial, ?_⟩); gi_at_call 57; refine (callsIn_wide.2 (HCK.out _ h1)).mono ?_; rintro e w2 ⟨rfl, b2⟩; have ks2 := (b2.cell (p := ⟨w.heap.size, 0, none⟩) (by simp)).trans ks)
  have B2 := belowCall B1 b2
  have hA2 : Boxed w2 w.heap.size 30 (.slice b m c') := (b2.block w.heap.size (by simp)).trans (Boxed.new w 30 (.slice b m c'))
  have hs2 := b2.size
  simp only [World.size_alloc] at hs2
  have HCALL := Lib.hid call
  have HH1 := Lib.hid h'
  have HH := Lib.hid h
  have HHCK := Lib.hid HCK
  clear ks ks2 B1 h1 b2 call HCK h h'
  gi_loopw [22] (fun i wr => ∃ k : Nat, k ≤ m ∧ i = .int .i64 k ∧ wr = w2) (fun i _ => m - (intOf i).toNat)
  case atStart => exact ⟨0, Nat.zero_le _, rfl, rfl⟩
  case round =>
    obtain ⟨k, hk, rfl, rfl⟩ := hrel
    by_cases hlt : k < m
    · obtain ⟨b1, o1, rfl, hbs, hc⟩ := HH1.out.2 k hlt
      have hvz := shfB_at HM.out hlt HSH.out
      obtain ⟨z, hz⟩ : ∃ z, zs[k]?.getD 0 = z := ⟨_, rfl⟩
      rw [hz] at hc hvz
      have hcr := (B2.cell (p := ⟨b1, o1 + k, none⟩) hbs).trans hc
      have hkk : (k : Int) < (m : Int) := by omega
      clear hz
      gi_wp2_with ((try refine ⟨trivial, ?_⟩); gi_at_call 58; refine (callsIn_wide.2 (inRange_any _ _ _ _)).mono ?_; rintro e w' ⟨rfl, rfl⟩)
      go_roundw
      case rel => exact ⟨k + 1, by omega, by go_num, by first | rfl | trivial⟩
      case measure => simp [intOf]; omega
    · obtain rfl : k = m := by omega
      gi_wp2_with ((try refine ⟨trivial, ?_⟩); gi_at_call 38; refine (callsIn_wide.2 (bothWays_any _ _ _ _)).mono ?_; rintro e W0 ⟨rfl, b4, c4⟩)
      have hs0 := b4.size
      simp only [World.size_alloc] at hs0 c4
      have hA0 : Boxed W0 w.heap.size 30 (.slice b k c') := (b4.block _ (by simp; omega)).trans (hA2.alloc _)
      have hS0 : Boxed W0 wr.heap.size 2 (.int .i64 0) := (b4.block _ (by simp)).trans (Boxed.new wr 2 (.int .i64 0))
      have hbel : Below w.heap.size w W0 := belowCall (Below.alloc B2 (by omega) _) b4
      clear hA2
      refine wpIn_rangeFunc_ownH rfl (by omega) (gf := 61) (lb := #[.pointer (some ⟨wr.heap.size + 1, 0, none⟩)]) rfl trivial (enters_of Try.func61 (by kernel_rfl) rfl)
        (both1S_any (wr.heap.size + 1) s n c xs (k : Int) w W0 HH.out hbel hn HCALL.out c4) KpC.trans (kpc_b (by omega)) (Below.refl _ _) (fun _ => rfl)
        (fun pre W => (Boxed W wr.heap.size 2 (.int .i64 (sprI zs (pre.map Subtype.val))) ∧ Boxed W w.heap.size 30 (.slice b k c')) ∧ Below w.heap.size w W)
        (fun _ _ _ => False)
        (OwnFrom.and (OwnFrom.and (Own.from (boxed_own _ _ _) _) (Own.from (boxed_own _ _ _) _)) (ownFrom_below (Nat.le_refl _) (by omega)))
        (fun _ _ _ _ _ hs _ _ => hs)
        ⟨⟨hS0, hA0⟩, hbel⟩
        (fun x a' W => ∃ Bx, wr.heap.size < Bx ∧ CmBox 54 W Bx x.1 ∧ a' = { tmps := #[Value.int .i64 k, .slice s n c, .slice b k c', undef, undef, .pointer (some ⟨w.heap.size, 0, none⟩), u6, u7, undef, u9, .pointer (some ⟨wr.heap.size, 0, none⟩), .pointer (some ⟨Bx, 0, none⟩), .int .i64 k, .slice s n c, .bool true, .bool false, .slice b k c', .int .i64 k, .int .i64 k, .bool false, .slice b k c', .int .i64 k, .int .i64 k, .bool false, u24, u25, u26, u27, u28, u29, .slice s n c, .func (.func 61) #[] #[.pointer (some ⟨wr.heap.size + 1, 0, none⟩)], .agg #[.int .i64 x.1.1, .int .i64 x.1.2.1, .int .i64 x.1.2.2], undef, undef, undef, undef, undef, undef, undef, undef, undef, undef, undef, undef, undef, undef, undef, undef, undef], defers := [] })
        (fun x a' _ X Y row hs hg hr => by obtain ⟨Bx, h1, h2, h3⟩ := hs; exact ⟨Bx, h1, cmBox_own _ _ Bx x.1 () X Y row h2 hg hr, h3⟩)
        ?assign ?body ?done ?stop
      case assign =>
        rintro l pre ⟨⟨x0, x1, x2⟩, hcm⟩ W K ⟨⟨bS, bA⟩, hB⟩ hK
        gi_wp2
        exact hK _ _ ((KeepsOthers.alloc _ _).from _) (KpC.alloc hB.size _) ⟨⟨bS.alloc _, bA.alloc _⟩, hB.alloc hB.size _⟩ ⟨W.heap.size, bS.lt, World.alloc_heap_new W _, rfl⟩
      case body =>
        rintro l pre ⟨⟨x0, x1, x2⟩, hcm⟩ a' W hl ⟨r, hr⟩ ⟨⟨bS, bA⟩, hB⟩ ⟨Bx, hBx, bX, rfl⟩ -
        obtain ⟨p0, p1, p2⟩ := bX.cells
        have kS := bS.cell
        have fS := bS.frozen
        have kA := bA.cell
        have hBS := bS.lt
        obtain ⟨i1, i2, i3, i4, -, d1, d2⟩ := cm_bd hcm
        obtain ⟨ia, rfl⟩ := Int.eq_ofNat_of_zero_le i1
        obtain ⟨ib, rfl⟩ := Int.eq_ofNat_of_zero_le i3
        obtain ⟨b3, o3, rfl, hb3, ca⟩ := HH1.out.2 ia (by omega)
        obtain ⟨b4', o4, e4, hb4, cb⟩ := HH1.out.2 ib (by omega)
        cases e4
        have ca' := (hB.cell (p := ⟨b3, o3 + ia, none⟩) hb3).trans ca
        have cb' := (hB.cell (p := ⟨b3, o3 + ib, none⟩) hb3).trans cb
        have sa := shfB_at HM.out (k := ia) (by omega) HSH.out
        have sb := shfB_at HM.out (k := ib) (by omega) HSH.out
        obtain ⟨sa1, sa2⟩ := inB_iff.1 sa
        obtain ⟨sb1, sb2⟩ := inB_iff.1 sb
        have hlf : lfO zs ((ia : Int), (ib : Int), x2) = x2 + zs[ib]?.getD 0 - zs[ia]?.getD 0 := by simp [lfO]
        have HS : Hid (sprI zs ((pre ++ [(⟨((ia : Int), (ib : Int), x2), hcm⟩ : Cs (k : Int))]).map Subtype.val) = mx2 (sprI zs (pre.map Subtype.val)) (x2 + zs[ib]?.getD 0 - zs[ia]?.getD 0)) := Lib.hid (by rw [List.map_append, List.map_cons, List.map_nil, sprI_snoc, hlf])
        have hia : (ia : Int) < (k : Int) := by omega
        have hib : (ib : Int) < (k : Int) := by omega
        clear hlf sa sb ca cb
        generalize zs[ia]?.getD 0 = za at *
        generalize zs[ib]?.getD 0 = zb at *
        generalize sprI zs (pre.map Subtype.val) = acc at bS kS HS
        have hmx : Try.prog.follows .mixedOrders = true := by kernel_rfl
        gi_wp2
        refine tail_in_round 15 hmx (by kernel_rfl) (by kernel_rfl) ?_
        simp only [List.take_succ_cons, List.take_zero, List.drop_succ_cons, List.drop_zero]
        repeat still_step
        try refine wpStill_nil ?_
        change wpList _ _ _ _ _ W.drew
        have kS2 : W.drew.cell? ⟨wr.heap.size, 0, none⟩ = some (.int .i64 acc) := kS
        have fS2 : W.drew.frozen? ⟨wr.heap.size, 0, none⟩ = false := fS
        have hE1 : x2 + zb - za ≤ acc → mx2 acc (x2 + zb - za) = acc := fun h => by simp only [mx2]; split <;> omega
        have hE2 : acc < x2 + zb - za → mx2 acc (x2 + zb - za) = x2 + zb - za := fun h => by simp only [mx2]; split <;> omega
        have HE1 := Lib.hid hE1
        have HE2 := Lib.hid hE2
        clear hE1 hE2
        go_wp2
        all_goals
          refine ⟨rfl, ?_⟩
          simp only [Exit.inBlock]
          go_at_K
          refine ⟨((KeepsOthers.setCell _ _ _).trans (KeepsOthers.drew _)).from _, (KpC.set hB.size (by omega) bS (by decide) _).drew, ⟨?_, bA.other (by omega) _⟩, (hB.setCell (p := ⟨wr.heap.size, 0, none⟩) (by simp; omega) _).drew⟩
          rw [HS.out]
          first
          | (rw [HE1.out (by omega)]; exact bS.set _)
          | (rw [HE2.out (by omega)]; exact bS.set _)
      case done =>
        rintro D ys W hD hys ⟨⟨bS, bA⟩, hB⟩ hK
        rw [hys, sprI_both] at bS
        have kS := bS.cell
        gi_wp2
        refine ⟨by simp, .inl ⟨_, _, rfl, run_takeDeferred hK, ?_⟩⟩
        refine ⟨_, results_tmp2 rfl _ _ _, ?_⟩
        exact ⟨rfl, hB.trans (belowK_b (w := w) (Nat.le_refl _) W D _ _ (by omega) hK rfl rfl)⟩
      case stop =>
        rintro D c pre W _ _ h _
        exact h.elim
end Go.Proofs.Ytlfbfgdejoggpab
