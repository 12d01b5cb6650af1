/- StarNamed, the program's: placeOf at stars (the map by names, the sentinel), entryNamed. -/
import Derived.Test.YtfnjndbnogeddaaGreatDoorSC
import Derived.Test.YtfnjndbnogeddaaGreatDoorIS
import Derived.Test.YtfnjndbnogeddaaGreatDoorG0
import Derived.Maps.OwnSet
import Derived.Maps.Views
namespace Go.Proofs.YtfnjndbnogeddaaGreatDoor
open Go.ChangeShapes Go.WideShapes Go.ChangeAt Go.RowKit Go.Deep Go.Maps Go.WideMaps

/-- the sentinel errNoName stands -/
def Errn (w : World) (a : Addr) : Prop := 0 < w.heap.size ∧ w.cell? ⟨0, 0, none⟩ = some (.iface 199 (.pointer (some a)))
theorem Errn.mono {w w' : World} {a : Addr} (h : Errn w a) (hb : Below w.heap.size w w') : Errn w' a := ⟨Nat.lt_of_lt_of_le h.1 hb.size, (hb.cell (p := ⟨0, 0, none⟩) h.1).trans h.2⟩
def plV (xs : List St) (nm : ByteArray) (a : Addr) : Value := if findS xs nm < xs.length then .tuple #[.int .i64 (findS xs nm : Nat), .nilIface] else .tuple #[.int .i64 0, .iface 199 (.pointer (some a))]
theorem plV_at {xs : List St} {nm : ByteArray} {a : Addr} (h : findS xs nm < xs.length) : plV xs nm a = .tuple #[.int .i64 (findS xs nm : Nat), .nilIface] := by rw [plV, if_pos h]
theorem plV_none {xs : List St} {nm : ByteArray} {a : Addr} (h : ¬ findS xs nm < xs.length) : plV xs nm a = .tuple #[.int .i64 0, .iface 199 (.pointer (some a))] := by rw [plV, if_neg h]
set_option maxRecDepth 100000 in
set_option maxHeartbeats 2000000 in
theorem placeS_any (a : Option Addr) (n c : Nat) (xs : List St) (nm : ByteArray) (ea : Addr) (w : World) (h : StL w a n xs) (hok : ∀ k, k < n → okAt xs k = true) (hn : n ≤ 60) (hnm : nm.size ≤ maxLen) (hE : Errn w ea) :
    Calls Tryz.prog 60 #[.slice a n c, .string nm] w fun e w' => e = .returned (plV xs nm ea) ∧ Below w.heap.size w w' := by
  have hl : (n : Int) ≤ 1048576 := by omega
  have HL := Lib.hid h.1
  have hmm := mkMap n (by omega)
  have hkey := keyS hnm
  obtain ⟨hhas, hat⟩ := dM_look HL.out hok nm n (Nat.le_refl _)
  have HHAS := Lib.hid hhas
  have HAT := Lib.hid hat
  have HOK := Lib.hid hok
  clear hhas hat hok
  go_enter Tryz.func60, Tryz.ntmps60
  go_wp2
  go_loopw [16] (fun i wr => ∃ k : Nat, k ≤ n ∧ i = .int .i64 k ∧ wr.ownsMap Tryz.prog 9 (plainElem Tryz.prog 2) w.heap.size k (dM xs k) ∧ Below w.heap.size w wr) (fun i _ => n - (Go.RowKit.intOf i).toNat)
  case atStart => exact ⟨0, Nat.zero_le _, rfl, World.ownsMap_made _ _ _ _, (Below.refl _ _).alloc (Nat.le_refl _) _⟩
  case round =>
    obtain ⟨k, hk, rfl, hown, hB⟩ := hrel
    by_cases hlt : k < n
    · obtain ⟨b1, o1, rfl, hc⟩ := h.2 k hlt
      have hsz := nm_size (HOK.out k hlt)
      obtain ⟨⟨nx, x1, x2, x3, x4⟩, hx⟩ : ∃ x, xs[k]?.getD st0 = x := ⟨_, rfl⟩
      rw [hx] at hc hsz
      have hS : Hid (dM xs (k + 1) = (dM xs k).put (kS nx) (.lit (.int .i64 k))) := Lib.hid (by rw [dM, hx])
      have hkeyx := keyS hsz
      obtain ⟨p, p0, p1, p2, p3, p4⟩ := (hc.mono hB).parts
      clear hx hc
      have hkk : (k : Int) < (n : Int) := by omega
      have hsw := hB.size
      have hlt2 := hown.lt
      go_wp2_with fail
      refine (stName_any _ _ _ _ _ _).mono ?_
      rintro e w2 ⟨rfl, b2⟩
      have B2 : Below wr.heap.size wr w2 := belowCall ((Below.refl _ wr).alloc (Nat.le_refl _) _) b2
      have hown2 := hown.kept (gBut B2 none) (by simp)
      go_wp2_with (at_mapUpdate; refine wpList_mapUpdate_own _ rfl _ _ _ 115 rfl 9 2 lawS Tryz.underlying115 _ w.heap.size k _ rfl hown2 (by unfold maxLen; omega) _ _ _ rfl rfl hkeyx _ [] (plainElem_int Tryz.underlying2 (WalkArith.wf_i64 (by omega))) ?_)
      intro w1 hown1 hgrow1
      have R2 : Below w.heap.size w w1 := (belowCall hB B2).grown hgrow1 (by have := b2.size; simp at this; omega) (fun j hj => by cases hj; exact Nat.le_refl _)
      go_wp2
      go_roundw
      case rel => exact ⟨k + 1, by omega, by go_num, by rw [hS.out]; exact hown1, R2⟩
      case measure => simp [Go.RowKit.intOf]; omega
    · obtain rfl : k = n := by omega
      have hE' := hE.mono hB
      obtain ⟨hEl, hEc⟩ := hE'
      go_wp2_with (at_lookup; refine wpList_lookup_own_ok_int _ rfl _ _ 115 rfl 9 2 .i64 lawS Tryz.underlying115 Tryz.underlying2 (zeroI _) w.heap.size _ _ rfl hown _ _ rfl hkey ?_)
      intro c0 hc0 hwc
      by_cases hf : findS xs nm < xs.length
      · have HV := Lib.hid (plV_at (a := ea) hf)
        have hh : Maps.has (dM xs k) (kS nm) = true := by rw [HHAS.out]; simp; have := HL.out; omega
        have hc : c0 = (findS xs nm : Nat) := by
          rw [HAT.out (by have := HL.out; omega)] at hc0
          simp only [DataW.lit.injEq, Lit.int.injEq, true_and] at hc0
          exact hc0.symm
        subst hc
        rw [hh]
        clear hc0 hh
        go_wp2
        go_ret2
        exact ⟨by rw [HV.out]; rfl, hB⟩
      · have HV := Lib.hid (plV_none (a := ea) hf)
        have hh : Maps.has (dM xs k) (kS nm) = false := by rw [HHAS.out]; simp; have := HL.out; omega
        rw [hh]
        clear hc0 hh
        go_wp2
        go_quiet (fail)
        go_wp2
        go_ret2
        exact ⟨by rw [HV.out]; rfl, belowDN hB _⟩
set_option maxHeartbeats 1000000 in
theorem entryS_any (a : Option Addr) (n c : Nat) (xs : List St) (nm : ByteArray) (ea : Addr) (w : World) (h : StL w a n xs) (hn : n ≤ 1048576) (hnm : nm.size ≤ maxLen) (hE : Errn w ea) :
    Calls Tryz.prog 31 #[.slice a n c, .string nm, .int .i64 60] w fun e w' => e = .returned (snV xs nm) ∧ Below w.heap.size w w' := by
  have HL := Lib.hid h.1
  cases hok : okS xs
  · have HV := Lib.hid (snV_bad (nm := nm) hok)
    go_enter Tryz.func31, Tryz.ntmps31
    go_wp2_with fail
    refine (areES_any a n c xs w h hn).mono ?_
    rintro e w2 ⟨rfl, b2⟩
    rw [hok]
    go_wp2
    go_ret2
    exact ⟨by rw [HV.out]; rfl, b2⟩
  obtain ⟨h60, hall⟩ := okS_parts HL.out hok
  go_enter Tryz.func31, Tryz.ntmps31
  go_wp2_with fail
  refine (areES_any a n c xs w h hn).mono ?_
  rintro e w2 ⟨rfl, b2⟩
  rw [hok]
  go_wp2_with fail
  refine (placeS_any a n c xs nm ea w2 (h.mono b2) hall h60 hnm (hE.mono b2)).mono ?_
  rintro e w3 ⟨rfl, b3⟩
  have hE3 := (hE.mono b2).mono b3
  obtain ⟨hEl, hEc⟩ := hE3
  clear hall
  by_cases hf : findS xs nm < xs.length
  · have HV := Lib.hid (snV_at hok hf)
    have HP := Lib.hid (plV_at (a := ea) hf)
    rw [HP.out]
    go_wp2_with fail
    refine (is_nil ea _).mono ?_
    rintro e w4 ⟨rfl, rfl⟩
    go_wp2
    go_ret2
    exact ⟨by rw [HV.out]; rfl, belowCall b2 b3⟩
  · have HV := Lib.hid (snV_none hok hf)
    have HP := Lib.hid (plV_none (a := ea) hf)
    rw [HP.out]
    go_wp2_with fail
    refine (is_same ea _).mono ?_
    rintro e w4 ⟨rfl, rfl⟩
    go_wp2
    go_ret2
    exact ⟨by rw [HV.out]; rfl, belowCall b2 b3⟩
theorem iStarNamed_any (a : Option Addr) (n c : Nat) (xs : List St) (nm : ByteArray) (ea : Addr) (w : World) (h : StL w a n xs) (hn : n ≤ 1048576) (hnm : nm.size ≤ maxLen) (hE : Errn w ea) :
    Calls Tryz.prog 9 #[.slice a n c, .string nm] w fun e w' => e = .returned (snV xs nm) ∧ Below w.heap.size w w' := by
  obtain ⟨m, k, hv⟩ := snV_form xs nm
  have HV := Lib.hid hv
  clear hv
  go_enter Tryz.func9, Tryz.ntmps9
  go_wp2_with fail
  refine (entryS_any a n c xs nm ea w h hn hnm hE).mono ?_
  rintro e w2 ⟨rfl, b2⟩
  rw [HV.out]
  go_wp2
  go_ret2
  exact ⟨by rw [HV.out]; rfl, b2⟩
end Go.Proofs.YtfnjndbnogeddaaGreatDoor
