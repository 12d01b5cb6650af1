/- slices.SortStableFunc at indices: exchanges of ranges, rotations. -/
import Derived.Test.YtidiiladlmaigaaZ1
import Derived.Test.YtidiiladlmaigaaB1
import Derived.Shelf.SlSortCmp.Insertion1
import Derived.Shelf.SlGeneric
import Derived.Shelf.Lay
import Derived.Ground.SlsfProg
namespace Go.Proofs.Ytidiiladlmaigaa
open Go.ChangeShapes Go.WideShapes Go.ChangeAt Go.RowKit Go.Shelf
open Go.Sort (swp PermIn SortedIn SWO grow)

/-- a cell with an index -/
def encF {N : Nat} (x : Fin N) : Value := .int .i64 (x.val : Int)
theorem encF_one {N : Nat} : OneCell (encF (N := N)) := fun _ => rfl
variable {N : Nat} {w0 : World} {blk off cap : Nat} {d0 : Array (Fin (N + 1))}
set_option maxRecDepth 100000 in
set_option maxHeartbeats 4000000 in
theorem swr_any (R : Row1 encF w0 blk off d0) (fv : Value) (a b n : Nat) (za zb zn : Int) (ha : za = a) (hb : zb = b) (hn : zn = n) (d : Array (Fin (N + 1))) (w : World) (hs : d0.size = d.size) (hsz : d.size ≤ 1048576) (S : SW encF w0 blk off d w) (h1 : a + n ≤ b) (h2 : b + n ≤ d.size) :
    Calls Try.prog 91 #[.slice (some ⟨blk, off, none⟩) d.size cap, .int .i64 za, .int .i64 zb, .int .i64 zn, fv] w fun e w' => e = .returned (.tuple #[]) ∧ ∃ d', SwrOf a b n d d' ∧ SW encF w0 blk off d' w' := by
  subst ha hb hn
  obtain ⟨sz, hszz⟩ : ∃ s, d.size = s := ⟨_, rfl⟩
  have HSZ := Lib.hid hszz
  rw [hszz] at h2 hsz hs
  rw [hszz]
  clear hszz
  have S0 : Aside (SW encF w0 blk off d w) := S
  clear S
  have mixed : Try.prog.follows .mixedOrders = true := by kernel_rfl
  go_enter Try.func91, Try.ntmps91
  go_wp2
  go_loopg [10] n (fun g1 vi wr => ∃ (i : Nat) (dk : Array (Fin (N + 1))), vi = .int .i64 i ∧ i ≤ n ∧ n - i ≤ g1 ∧ SwrOf a b i d dk ∧ Aside (SW encF w0 blk off dk wr))
  case atStart => exact ⟨0, d, by go_num, by omega, by omega, SwrOf.zero _ _ _, S0⟩
  case round =>
    clear S0
    obtain ⟨i, dk, rfl, hin, hg1, hW, S1⟩ := hrel
    have HW := Lib.hid hW
    have hsk : dk.size = sz := hW.sz.trans HSZ.out
    have HSK := Lib.hid hsk
    clear hW
    by_cases hlt : i < n
    · have hltz : (i : Int) < (n : Int) := by omega
      obtain ⟨iN, hiN⟩ : ∃ q, q = a + i := ⟨_, rfl⟩
      obtain ⟨jN, hjN⟩ : ∃ q, q = b + i := ⟨_, rfl⟩
      have ea : (a : Int) + (i : Int) = (iN : Int) := by omega
      have eb : (b : Int) + (i : Int) = (jN : Int) := by omega
      have ba : (iN : Int) < (sz : Int) := by omega
      have bb : (jN : Int) < (sz : Int) := by omega
      obtain ⟨x, hx⟩ : ∃ x, x = dk[a + i]! := ⟨_, rfl⟩
      obtain ⟨y, hy⟩ : ∃ x, x = dk[b + i]! := ⟨_, rfl⟩
      have S3 : Aside (SW encF w0 blk off (swp dk (a + i) (b + i)) ((wr.setCell ⟨blk, off + iN, none⟩ (.int .i64 (y.val : Int))).setCell ⟨blk, off + jN, none⟩ (.int .i64 (x.val : Int))).drew) := by rw [hiN, hjN, hx, hy]; exact S1.out.swapped R (a + i) (b + i) (by omega) (by omega)
      have c1 := S1.out.c1 R (by omega) (a + i) (by omega)
      have c2 := S1.out.c1 R (by omega) (b + i) (by omega)
      have f1 := S1.out.f1 R (by omega) (a + i) (by omega)
      have f2 := S1.out.f1 R (by omega) (b + i) (by omega)
      obtain ⟨u, c3⟩ := S1.out.c2 R (by omega) (a + i) (b + i) (by omega) (by omega) (encF y)
      rw [← hjN, ← hiN] at c3
      rw [← hx, ← hiN] at c1
      rw [← hy, ← hjN] at c2
      rw [← hiN] at f1
      rw [← hjN] at f2
      have HN : Hid (SwrOf a b (i + 1) d (swp dk (a + i) (b + i))) := Lib.hid (HW.out.step (by omega) (by have := HSZ.out; omega))
      clear S1 hx hy hiN hjN HW
      change wr.cell? ⟨blk, off + iN, none⟩ = some (.int .i64 (x.val : Int)) at c1
      change wr.cell? ⟨blk, off + jN, none⟩ = some (.int .i64 (y.val : Int)) at c2
      change (wr.setCell ⟨blk, off + iN, none⟩ (.int .i64 (y.val : Int))).cell? ⟨blk, off + jN, none⟩ = some u at c3
      go_wp2_with fail
      go_big_region_o
      generalize ((wr.setCell ⟨blk, off + iN, none⟩ (.int .i64 (y.val : Int))).setCell ⟨blk, off + jN, none⟩ (.int .i64 (x.val : Int))).drew = w3 at S3 ⊢
      go_wp2
      go_roundg (n - (i + 1))
      case measure => omega
      case rel => exact ⟨i + 1, _, by go_num, by omega, by omega, HN.out, S3⟩
    · obtain rfl : i = n := by omega
      go_wp2
      go_end0
      exact ⟨rfl, dk, HW.out, S1.out⟩
set_option maxRecDepth 100000 in
set_option maxHeartbeats 4000000 in
theorem rot_any (R : Row1 encF w0 blk off d0) (fv : Value) (a m b : Nat) (za zm zb : Int) (ha : za = a) (hm : zm = m) (hb : zb = b) (d : Array (Fin (N + 1))) (w : World) (hs : d0.size = d.size) (hsz : d.size ≤ 1048576) (S : SW encF w0 blk off d w) (h1 : a < m) (h2 : m < b) (h3 : b ≤ d.size) :
    Calls Try.prog 90 #[.slice (some ⟨blk, off, none⟩) d.size cap, .int .i64 za, .int .i64 zm, .int .i64 zb, fv] w fun e w' => e = .returned (.tuple #[]) ∧ ∃ d', RotOf a m b d d' ∧ SW encF w0 blk off d' w' := by
  subst ha hm hb
  obtain ⟨sz, hszz⟩ : ∃ s, d.size = s := ⟨_, rfl⟩
  have HSZ := Lib.hid hszz
  rw [hszz] at h3 hsz hs
  rw [hszz]
  clear hszz
  have S0 : Aside (SW encF w0 blk off d w) := S
  clear S
  go_enter Try.func90, Try.ntmps90
  go_wp2
  go_loopg [10, 11] (b - a) (fun g1 vi vj wr => ∃ (i j : Nat) (dk : Array (Fin (N + 1))), vi = .int .i64 i ∧ vj = .int .i64 j ∧ 0 < i ∧ 0 < j ∧ a + i ≤ m ∧ m + j ≤ b ∧ i + j ≤ g1 ∧ dk.size = sz ∧ Hid (∀ d', RotOf (m - i) m (m + j) dk d' → RotOf a m b d d') ∧ Aside (SW encF w0 blk off dk wr))
  case atStart => exact ⟨m - a, b - m, d, by (congr 1; omega), by (congr 1; omega), by omega, by omega, by omega, by omega, by omega, HSZ.out, Lib.hid (fun d' h => by rw [show m - (m - a) = a by omega, show m + (b - m) = b by omega] at h; exact h), S0⟩
  case round =>
    clear S0
    obtain ⟨i, j, dk, rfl, rfl, hi0, hj0, hai, hjb, hg1, hsk, HR, S1⟩ := hrel
    by_cases hij : i = j
    · subst hij
      have hne : ((i : Int) != (i : Int)) = false := by simp
      go_wp2_with fail
      subst hsk
      refine (swr_any R fv (m - i) m i _ _ _ (by omega) rfl rfl dk wr (by omega) (by omega) S1.out (by omega) (by omega)).mono ?_
      rintro e w2 ⟨rfl, d2, hW, S2⟩
      have HW := Lib.hid (HR.out d2 (RotOf.last (by omega) hW))
      have S2' : Aside _ := S2
      clear S2 hW S1
      go_wp2
      go_end0
      exact ⟨rfl, d2, HW.out, S2'.out⟩
    have hne : ((i : Int) != (j : Int)) = true := by simp; omega
    by_cases hgt : j < i
    · have hgz : (j : Int) < (i : Int) := by omega
      go_wp2_with fail
      subst hsk
      refine (swr_any R fv (m - i) m j _ _ _ (by omega) rfl rfl dk wr (by omega) (by omega) S1.out (by omega) (by omega)).mono ?_
      rintro e w2 ⟨rfl, d2, hW, S2⟩
      have HN : Hid (∀ d', RotOf (m - (i - j)) m (m + j) d2 d' → RotOf a m b d d') := Lib.hid (fun d' h => HR.out d' (RotOf.more (A := m - i) (j := j) (by omega) hW (by rw [show m - i + j = m - (i - j) by omega]; exact h)))
      have HS2 := Lib.hid hW.sz
      have S2' : Aside _ := S2
      clear S2 hW S1
      go_wp2
      go_roundg (gk - 1)
      case measure => omega
      case rel => exact ⟨i - j, j, d2, by (congr 1; omega), rfl, by omega, hj0, by omega, by omega, by omega, HS2.out, HN, S2'⟩
    · have hgz : ¬ (j : Int) < (i : Int) := by omega
      go_wp2_with fail
      subst hsk
      refine (swr_any R fv (m - i) (m + j - i) i _ _ _ (by omega) (by omega) rfl dk wr (by omega) (by omega) S1.out (by omega) (by omega)).mono ?_
      rintro e w2 ⟨rfl, d2, hW, S2⟩
      have HN : Hid (∀ d', RotOf (m - i) m (m + (j - i)) d2 d' → RotOf a m b d d') := Lib.hid (fun d' h => HR.out d' (RotOf.less (A := m - i) (i := i) (j := j) (by omega) (by omega) hW h))
      have HS2 := Lib.hid hW.sz
      have S2' : Aside _ := S2
      clear S2 hW S1
      go_wp2
      go_roundg (gk - 1)
      case measure => omega
      case rel => exact ⟨i, j - i, d2, rfl, by (congr 1; omega), hi0, by omega, by omega, by omega, by omega, HS2.out, HN, S2'⟩
end Go.Proofs.Ytidiiladlmaigaa
