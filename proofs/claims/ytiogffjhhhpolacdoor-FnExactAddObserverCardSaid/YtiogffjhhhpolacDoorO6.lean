/- placeOf at observers: the map by names, the sentinel. -/
import Derived.Test.YtiogffjhhhpolacDoorO5
import Derived.Test.YtiogffjhhhpolacDoorIS
namespace Go.Proofs.YtiogffjhhhpolacDoor
open Go.ChangeShapes Go.WideShapes Go.ChangeAt Go.RowKit Go.Deep Go.Maps Go.WideMaps

/-- the sentinel errNoName stands -/
def Errn (w : World) (a : Addr) : Prop := 0 < w.heap.size ∧ w.cell? ⟨0, 0, none⟩ = some (.iface 108 (.pointer (some a)))
theorem Errn.mono {w w' : World} {a : Addr} (h : Errn w a) (hb : Below w.heap.size w w') : Errn w' a := ⟨Nat.lt_of_lt_of_le h.1 hb.size, (hb.cell (p := ⟨0, 0, none⟩) h.1).trans h.2⟩
def plV (xs : List Ob) (nm : ByteArray) (a : Addr) : Value := if findO xs nm < xs.length then .tuple #[.int .i64 (findO xs nm : Nat), .nilIface] else .tuple #[.int .i64 0, .iface 108 (.pointer (some a))]
theorem plV_at {xs : List Ob} {nm : ByteArray} {a : Addr} (h : findO xs nm < xs.length) : plV xs nm a = .tuple #[.int .i64 (findO xs nm : Nat), .nilIface] := by rw [plV, if_pos h]
theorem plV_none {xs : List Ob} {nm : ByteArray} {a : Addr} (h : ¬ findO xs nm < xs.length) : plV xs nm a = .tuple #[.int .i64 0, .iface 108 (.pointer (some a))] := by rw [plV, if_neg h]
set_option maxRecDepth 100000 in
set_option maxHeartbeats 2000000 in
theorem placeO_any (a : Option Addr) (n c : Nat) (xs : List Ob) (nm : ByteArray) (ea : Addr) (w : World) (h : ObL w a n xs) (hok : ∀ k, k < n → okAtO xs k = true) (hn : n ≤ 40) (hnm : nm.size ≤ maxLen) (hE : Errn w ea) :
    Calls Tryd.prog 29 #[.slice a n c, .string nm] w fun e w' => e = .returned (plV xs nm ea) ∧ Below w.heap.size w w' := by
  have hl : (n : Int) ≤ 1048576 := by omega
  have HL := Lib.hid h.1
  have hmm := mkMapO n (by omega)
  have hkey := keySO hnm
  obtain ⟨hhas, hat⟩ := dMO_look HL.out hok nm n (Nat.le_refl _)
  have HHAS := Lib.hid hhas
  have HAT := Lib.hid hat
  have HOK := Lib.hid hok
  clear hhas hat hok
  go_enter Tryd.func29, Tryd.ntmps29
  go_wp2
  go_loopw [16] (fun i wr => ∃ k : Nat, k ≤ n ∧ i = .int .i64 k ∧ wr.ownsMap Tryd.prog 9 (plainElem Tryd.prog 2) w.heap.size k (dMO xs k) ∧ Below w.heap.size w wr) (fun i _ => n - (Go.RowKit.intOf i).toNat)
  case atStart => exact ⟨0, Nat.zero_le _, rfl, World.ownsMap_made _ _ _ _, (Below.refl _ _).alloc (Nat.le_refl _) _⟩
  case round =>
    obtain ⟨k, hk, rfl, hown, hB⟩ := hrel
    by_cases hlt : k < n
    · obtain ⟨b1, o1, rfl, hc⟩ := h.2 k hlt
      have hsz := nmO_size (HOK.out k hlt)
      obtain ⟨⟨nx, x1⟩, hx⟩ : ∃ x, xs[k]?.getD ob0 = x := ⟨_, rfl⟩
      rw [hx] at hc hsz
      have hS : Hid (dMO xs (k + 1) = (dMO xs k).put (kSO nx) (.lit (.int .i64 k))) := Lib.hid (by rw [dMO, hx])
      have hkeyx := keySO hsz
      obtain ⟨p, p0, p1⟩ := (hc.mono hB).parts
      clear hx hc
      have hkk : (k : Int) < (n : Int) := by omega
      have hsw := hB.size
      have hlt2 := hown.lt
      go_wp2_with fail
      refine (obName_any _ _ _).mono ?_
      rintro e w2 ⟨rfl, b2⟩
      have B2 : Below wr.heap.size wr w2 := belowCall ((Below.refl _ wr).alloc (Nat.le_refl _) _) b2
      have hown2 := hown.kept (gBut B2 none) (by simp)
      go_wp2_with (at_mapUpdate; refine wpList_mapUpdate_own _ rfl _ _ _ 64 rfl 9 2 lawSO Tryd.underlying64 _ w.heap.size k _ rfl hown2 (by unfold maxLen; omega) _ _ _ rfl rfl hkeyx _ [] (plainElem_int Tryd.underlying2 (WalkArith.wf_i64 (by omega))) ?_)
      intro w1 hown1 hgrow1
      have R2 : Below w.heap.size w w1 := (belowCall hB B2).grown hgrow1 (by have := b2.size; simp at this; omega) (fun j hj => by cases hj; exact Nat.le_refl _)
      go_wp2
      go_roundw
      case rel => exact ⟨k + 1, by omega, by go_num, by rw [hS.out]; exact hown1, R2⟩
      case measure => simp [Go.RowKit.intOf]; omega
    · obtain rfl : k = n := by omega
      have hE' := hE.mono hB
      obtain ⟨hEl, hEc⟩ := hE'
      go_wp2_with (at_lookup; refine wpList_lookup_own_ok_int _ rfl _ _ 64 rfl 9 2 .i64 lawSO Tryd.underlying64 Tryd.underlying2 (zeroIO _) w.heap.size _ _ rfl hown _ _ rfl hkey ?_)
      intro c0 hc0 hwc
      by_cases hf : findO xs nm < xs.length
      · have HV := Lib.hid (plV_at (a := ea) hf)
        have hh : Maps.has (dMO xs k) (kSO nm) = true := by rw [HHAS.out]; simp; have := HL.out; omega
        have hc : c0 = (findO xs nm : Nat) := by
          rw [HAT.out (by have := HL.out; omega)] at hc0
          simp only [DataW.lit.injEq, Lit.int.injEq, true_and] at hc0
          exact hc0.symm
        subst hc
        rw [hh]
        clear hc0 hh
        go_wp2
        go_ret2
        exact ⟨by rw [HV.out]; rfl, hB⟩
      · have HV := Lib.hid (plV_none (a := ea) hf)
        have hh : Maps.has (dMO xs k) (kSO nm) = false := by rw [HHAS.out]; simp; have := HL.out; omega
        rw [hh]
        clear hc0 hh
        go_wp2
        go_quiet (fail)
        go_wp2
        go_ret2
        exact ⟨by rw [HV.out]; rfl, belowDN hB _⟩
end Go.Proofs.YtiogffjhhhpolacDoor
