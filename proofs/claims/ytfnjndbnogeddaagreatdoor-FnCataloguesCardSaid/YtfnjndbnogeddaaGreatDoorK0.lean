/- The model's source of choices: one of some numbers, one of some texts. -/
import Derived.Test.YtfnjndbnogeddaaGreatDoorB9
namespace Go.Proofs.YtfnjndbnogeddaaGreatDoor
open Go.ChangeShapes Go.WideShapes Go.ChangeAt Go.RowKit

theorem among_any (R : Int → Prop) (b off n c : Nat) (g : Nat) (a : Option Addr) (len cap M : Nat) (w : World) (h : Src w 92 g a len cap M) (hb : LstB w g a len) (hM : M ≤ 100000000000) (hlen : len ≤ 1048576) (hn : 1 ≤ n) (hn2 : n ≤ 200) (hbg : b ≠ g) (hc : ∀ i, i < n → ∃ v, w.cell? ⟨b, off + i, none⟩ = some (.int .i64 v) ∧ R v) :
    Calls Tryz.prog 58 #[.pointer (some ⟨g, 0, none⟩), .slice (some ⟨b, off, none⟩) n c] w fun e w' => ∃ v : Int, e = .returned (.int .i64 v) ∧ R v ∧ Src w' 92 g a len cap (M + 2) ∧ w.grownBy w' (some g) := by
  go_enter Tryz.func58, Tryz.ntmps58
  go_wp2_with fail
  refine (pick_any n (n - 1) g a len cap M w h hb hM hlen (by omega) (by omega) (by omega)).mono ?_
  rintro e w1 ⟨v, rfl, v0, v1, hs, hgr⟩
  obtain ⟨i, rfl⟩ := Int.eq_ofNat_of_zero_le v0
  obtain ⟨u, hu, hR⟩ := hc i (by omega)
  have hu1 := hgr.cell hu (fun e => by simp at e; omega)
  have hin : (i : Int) < (n : Int) := by omega
  have HS := Lib.hid hs
  have HR := Lib.hid hR
  clear hs hR hc
  go_wp2
  go_ret
  exact ⟨u, rfl, HR.out, HS.out, hgr⟩
theorem text_any (R : ByteArray → Prop) (b off n c : Nat) (g : Nat) (a : Option Addr) (len cap M : Nat) (w : World) (h : Src w 92 g a len cap M) (hb : LstB w g a len) (hM : M ≤ 100000000000) (hlen : len ≤ 1048576) (hn : 1 ≤ n) (hn2 : n ≤ 200) (hbg : b ≠ g) (hc : ∀ i, i < n → ∃ v, w.cell? ⟨b, off + i, none⟩ = some (.string v) ∧ R v) :
    Calls Tryz.prog 28 #[.pointer (some ⟨g, 0, none⟩), .slice (some ⟨b, off, none⟩) n c] w fun e w' => ∃ v : ByteArray, e = .returned (.string v) ∧ R v ∧ Src w' 92 g a len cap (M + 2) ∧ w.grownBy w' (some g) := by
  go_enter Tryz.func28, Tryz.ntmps28
  go_wp2_with fail
  refine (pick_any n (n - 1) g a len cap M w h hb hM hlen (by omega) (by omega) (by omega)).mono ?_
  rintro e w1 ⟨v, rfl, v0, v1, hs, hgr⟩
  obtain ⟨i, rfl⟩ := Int.eq_ofNat_of_zero_le v0
  obtain ⟨u, hu, hR⟩ := hc i (by omega)
  have hu1 := hgr.cell hu (fun e => by simp at e; omega)
  have hin : (i : Int) < (n : Int) := by omega
  have HS := Lib.hid hs
  have HR := Lib.hid hR
  clear hs hR hc
  go_wp2
  go_ret
  exact ⟨u, rfl, HR.out, HS.out, hgr⟩
end Go.Proofs.YtfnjndbnogeddaaGreatDoor
