/- SpreadLeft: plain lists; the model's; bothWays' contract over what the estimates are. -/
import Derived.Test.YtfnjndbnogeddaaN5
import Derived.Test.YtfnjndbnogeddaaU1
import Derived.WalkLawsBesides
import Derived.Test.YtfnjndbnogeddaaQR
namespace Go.Proofs.Ytfnjndbnogeddaa
open Go.ChangeShapes Go.WideShapes Go.ChangeAt Go.RowKit

def mx2 (a b : Int) : Int := if a > b then a else b
/-- what an estimate leaves behind the shifts -/
def lfO (zs : List Int) (x : Cm) : Int := x.2.2 + zs[x.2.1.toNat]?.getD 0 - zs[x.1.toNat]?.getD 0
def spr (zs : List Int) (xs : List Cm) : Int := xs.foldl (fun m x => mx2 m ((lfO zs x).natAbs : Nat)) 0
def sprI (zs : List Int) (ys : List Cm) : Int := ys.foldl (fun m x => mx2 m (lfO zs x)) 0
theorem sprI_snoc (zs : List Int) (ys : List Cm) (x : Cm) : sprI zs (ys ++ [x]) = mx2 (sprI zs ys) (lfO zs x) := by simp [sprI]
theorem lfO_turn (zs : List Int) (x : Cm) : lfO zs (turnC x) = - lfO zs x := by simp only [lfO, turnC]; omega
theorem sprI_both (zs : List Int) (xs : List Cm) : sprI zs (bothL xs) = spr zs xs := by
  have h : ∀ (xs : List Cm) (m : Int), (bothL xs).foldl (fun m x => mx2 m (lfO zs x)) m = xs.foldl (fun m x => mx2 m ((lfO zs x).natAbs : Nat)) m := by
    intro xs
    induction xs with
    | nil => intro m; rfl
    | cons x xs ih =>
      intro m
      have e : bothL (x :: xs) = x :: turnC x :: bothL xs := rfl
      rw [e, List.foldl_cons, List.foldl_cons, List.foldl_cons, ih]
      congr 1
      rw [lfO_turn]
      simp only [mx2]
      split <;> split <;> split <;> omega
  exact h xs 0
theorem spr_step {zs : List Int} {xs : List Cm} {k : Nat} {x : Cm} (hk : k < xs.length) (hx : xs[k]?.getD cm0 = x) : spr zs (xs.take (k + 1)) = mx2 (spr zs (xs.take k)) ((lfO zs x).natAbs : Nat) := by
  rw [List.take_succ_eq_append_getElem hk]
  have e : xs[k] = x := by simpa [hk] using hx
  rw [e, spr, List.foldl_append]; rfl
def slC (c : Int) (xs : List Cm) (zs : List Int) : Int := if cmsB c xs = false then 1 else if ((zs.length : Int) != c) = true then 2 else if shfB 100000 zs = false then 2 else 0
def slV (c : Int) (xs : List Cm) (zs : List Int) : Int := if slC c xs zs = 0 then spr zs xs else 0
theorem slC_1 {c : Int} {xs : List Cm} {zs : List Int} (h : cmsB c xs = false) : slC c xs zs = 1 ∧ slV c xs zs = 0 := by
  have e : slC c xs zs = 1 := if_pos h
  exact ⟨e, by rw [slV, e]; rfl⟩
theorem slC_2 {c : Int} {xs : List Cm} {zs : List Int} (h : cmsB c xs = true) (h2 : ((zs.length : Int) != c) = true) : slC c xs zs = 2 ∧ slV c xs zs = 0 := by
  have e : slC c xs zs = 2 := by unfold slC; rw [if_neg (by simp [h]), if_pos h2]
  exact ⟨e, by rw [slV, e]; rfl⟩
theorem slC_3 {c : Int} {xs : List Cm} {zs : List Int} (h : cmsB c xs = true) (h2 : ((zs.length : Int) != c) = false) (h3 : shfB 100000 zs = false) : slC c xs zs = 2 ∧ slV c xs zs = 0 := by
  have e : slC c xs zs = 2 := by unfold slC; rw [if_neg (by simp [h]), if_neg (by simp [h2]), if_pos h3]
  exact ⟨e, by rw [slV, e]; rfl⟩
theorem slC_0 {c : Int} {xs : List Cm} {zs : List Int} (h : cmsB c xs = true) (h2 : ((zs.length : Int) != c) = false) (h3 : shfB 100000 zs = true) : slC c xs zs = 0 ∧ slV c xs zs = spr zs xs := by
  have e : slC c xs zs = 0 := by unfold slC; rw [if_neg (by simp [h]), if_neg (by simp [h2]), if_neg (by simp [h3])]
  exact ⟨e, by rw [slV, e]; rfl⟩
/-! ### bothWays over valid estimates -/
abbrev Cs (c : Int) := { x : Cm // cmB c x = true }
theorem cmB_turn {c : Int} {x : Cm} (h : cmB c x = true) : cmB c (turnC x) = true := by
  obtain ⟨p, q, d⟩ := x
  obtain ⟨h1, h2, h3, h4, h5, h6, h7⟩ := cm_bd h
  show cmB c (q, p, -d) = true
  simp only [cmB, Bool.and_eq_true, inB, decide_eq_true_eq, bne_iff_ne]
  exact ⟨⟨⟨⟨h3, h4⟩, h1, h2⟩, fun e => h5 e.symm⟩, by omega, by omega⟩
set_option maxRecDepth 100000 in
set_option maxHeartbeats 4000000 in
theorem both1S_any (Bl : Nat) (a : Option Addr) (n c : Nat) (xs : List Cm) (cc : Int) (wb w0 : World) (hL : CmL wb a n xs) (hwb : Below wb.heap.size wb w0) (hn : n ≤ 1048576) (hall : xs.all (cmB cc) = true)
    (c1 : w0.cell? ⟨Bl, 0, none⟩ = some (.slice a n c)) :
    SeqStopsK Fence.wide 4 Try.prog 87 #[.pointer (some ⟨Bl, 0, none⟩)] (fun x : Cs cc => #[.agg #[.int .i64 x.1.1, .int .i64 x.1.2.1, .int .i64 x.1.2.2]]) (KpC wb.heap.size 67) (fun ys => ys.map Subtype.val = bothL xs) (fun _ => True) (2 * n) w0 := fun l J Jx W hW hJ hJx hY h0 => by
  have hlt1 := World.block_lt_of_cell? w0 _ c1
  dsimp only at hlt1
  have d1 := (hW.cell (p := ⟨Bl, 0, none⟩) hlt1).trans c1
  have HL := Lib.hid hL.1
  have HB := Lib.hid hall
  clear hall
  refine callsIn_of_wp Try.func87 rfl trivial ?_ rfl
  simp only [Try.ntmps87, List.size_toArray, List.length_cons, List.length_nil, Nat.reduceAdd, Nat.reduceSub, Array.replicate_succ, Array.replicate_zero, List.push_toArray, List.append_toArray, List.nil_append, List.cons_append]
  gi_wp2
  gi_loopw [7] (fun i wr => ∃ (k : Nat) (L : List (Cs cc)), k ≤ n ∧ i = .int .i64 k ∧ L.map Subtype.val = bothL (xs.take k) ∧ J L wr ∧ Below wb.heap.size wb wr) (fun i _ => n - (intOf i).toNat)
  case atStart => exact ⟨0, [], Nat.zero_le _, rfl, rfl, h0, belowCall hwb hW⟩
  case round =>
    obtain ⟨k, L, hk, rfl, hL', hJs, hB⟩ := hrel
    have hle := bothL_upto HL.out hk
    have hsz := hB.size
    by_cases hlt : k < n
    · obtain ⟨b1, o1, rfl, hc⟩ := hL.2 k hlt
      obtain ⟨⟨x0, x1, x2⟩, hx⟩ : ∃ x, xs[k]?.getD cm0 = x := ⟨_, rfl⟩
      rw [hx] at hc
      obtain ⟨p, p0, p1, p2⟩ := (hc.mono hB).parts
      have hcm := cm_all HB.out HL.out hlt
      rw [hx] at hcm
      obtain ⟨-, -, -, -, -, hd1, hd2⟩ := cm_bd hcm
      have HS := Lib.hid (bothL_step (by rw [HL.out]; exact hlt) hx)
      have HL' := Lib.hid hL'
      have hkk : (k : Int) < (n : Int) := by omega
      have hlen1 : L.length < 2 * n := by have := congrArg List.length hL'; rw [List.length_map] at this; omega
      have hlen2 : (L ++ [(⟨(x0, x1, x2), hcm⟩ : Cs cc)]).length < 2 * n := by have := congrArg List.length hL'; rw [List.length_map] at this; simp; omega
      clear hx hc hL'
      have B1 : Below wr.heap.size wr (wr.alloc (.cells #[.int .i64 x0, .int .i64 x1, .int .i64 x2] 67)) := (Below.refl _ wr).alloc (Nat.le_refl _) _
      have hJ1 := abides_below5 hJ hJs B1
      obtain ⟨fn, tmps, assign, body, hy, hR⟩ := hY _ ⟨(x0, x1, x2), hcm⟩ _ hJ1 hlen1
      dsimp only at hy
      have hq := World.alloc_heap_new wr (.cells #[.int .i64 x0, .int .i64 x1, .int .i64 x2] 67)
      have hcq := CmC.fresh wr 67 x0 x1 x2
      gi_wp2
      refine hR.mono ?_
      rintro e W4 (⟨rfl, hJ4, hk4⟩ | ⟨rfl, hJx4⟩)
      · obtain ⟨q, q0, q1, q2⟩ := (hk4.cm hq hcq).parts
        clear hy hR
        gi_wp2_with ((try refine ⟨trivial, ?_⟩); gi_at_call 88; refine (callsIn_wide.2 (turned_any _ _ _ _ hd1 hd2)).mono ?_; rintro e w5 ⟨rfl, hb5⟩; have hJ5 := abides_below5 hJ hJ4 hb5; obtain ⟨fn2, tmps2, assign2, body2, hy2, hR2⟩ := hY _ ⟨turnC (x0, x1, x2), cmB_turn hcm⟩ w5 hJ5 hlen2; dsimp only [turnC] at hy2)
        refine hR2.mono ?_
        rintro e W6 (⟨rfl, hJ6, hk6⟩ | ⟨rfl, hJx6⟩)
        · gi_wp2
          go_roundw
          case rel => exact ⟨k + 1, _, by omega, by go_num, by rw [HS.out, ← HL'.out]; simp, hJ6, (((belowCall hB B1).trans hk4.1).trans (hb5.mono (by have := hk4.1.size; have := B1.size; omega))).trans hk6.1⟩
          case measure => simp [intOf]; omega
        · gi_wp2
          refine bodyPost_ret (results_none rfl _ _ _) rfl ?_
          exact ⟨⟨_, rfl⟩, .inr ⟨_, trivial, hJx6⟩⟩
      · gi_wp2_with (first | refine ⟨trivial, ?_⟩ | refine ⟨(by intro f h; simp only [reduceCtorEq] at h), ?_⟩)
        refine bodyPost_ret (results_none rfl _ _ _) rfl ?_
        exact ⟨⟨_, rfl⟩, .inr ⟨_, trivial, hJx4⟩⟩
    · obtain rfl : k = n := by omega
      have htk : xs.take k = xs := List.take_of_length_le (by rw [HL.out]; exact Nat.le_refl _)
      rw [htk] at hL'
      have HL' := Lib.hid hL'
      clear htk hL'
      gi_wp2
      go_end0
      exact ⟨⟨_, rfl⟩, .inl ⟨_, HL'.out, hJs⟩⟩
end Go.Proofs.Ytfnjndbnogeddaa
