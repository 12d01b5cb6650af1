/- slices.SortStableFunc at indices: the merge in place. -/
import Derived.Test.YtidiiladlmaigaaZ2
namespace Go.Proofs.Ytidiiladlmaigaa
open Go.ChangeShapes Go.WideShapes Go.ChangeAt Go.RowKit Go.Shelf
open Go.Sort (swp PermIn SortedIn SWO grow)

variable {N : Nat} {w0 : World} {blk off cap : Nat} {d0 : Array (Fin (N + 1))} {key : Fin (N + 1) → Int} {ix : Fin (N + 1) → Nat} {cf : Fin (N + 1) → Fin (N + 1) → Int} {g : Nat} {cb : Array Value}
set_option maxRecDepth 100000 in
set_option maxHeartbeats 8000000 in
theorem sym_left (hl : ∀ x y, ltOf cf x y = decide (key x < key y)) (eg : ∀ args w, (callFunc g args).run Try.prog w = .ok (.enter g args) w) (hcmp : CmpLays1 Try.prog g cb encF cf blk off d0.size w0) (R : Row1 encF w0 blk off d0) (a b : Nat) (za zm zb : Int) (ha : za = a) (m : Nat) (hma : m = a + 1) (hm : zm = m) (hb : zb = b) (d : Array (Fin (N + 1))) (w : World) (hs : d0.size = d.size) (hsz : d.size ≤ 1048576) (S : SW encF w0 blk off d w) (h2 : a + 1 < b) (h3 : b ≤ d.size)
    (g2 : SortedIn (ltX key ix) (a + 1) b d) (g3 : LRx ix a (a + 1) b d) :
    Calls Try.prog 89 #[.slice (some ⟨blk, off, none⟩) d.size cap, .int .i64 za, .int .i64 zm, .int .i64 zb, .func (.func g) #[] cb] w fun e w' => e = .returned (.tuple #[]) ∧ ∃ d', Mrg key ix a b d d' ∧ SW encF w0 blk off d' w' := by
  subst ha hm hb
  have HMA := Lib.hid hma
  obtain ⟨sz, hszz⟩ : ∃ s, d.size = s := ⟨_, rfl⟩
  have HSZ := Lib.hid hszz
  have HG2 := Lib.hid g2
  have HG3 := Lib.hid g3
  rw [hszz] at h3 hsz hs
  rw [hszz]
  clear hszz g2 g3
  have S0 : Aside (SW encF w0 blk off d w) := S
  have HC : Aside _ := hcmp
  clear S hcmp
  have hone : (((m : Int) - (a : Int)) == 1) = true := by simp; omega
  have hmb : a < m ∧ m < b := by omega
  clear hma
  have mixed : Try.prog.follows .mixedOrders = true := by kernel_rfl
  go_enter Try.func89, Try.ntmps89
  go_wp2
  go_loopg [10, 11] (b - a) (fun g1 vi vj wr => ∃ i j : Nat, vi = .int .i64 i ∧ vj = .int .i64 j ∧ a + 1 ≤ i ∧ i ≤ j ∧ j ≤ b ∧ j - i ≤ g1 ∧ Hid (i = a + 1 ∨ ltOf cf d[i - 1]! d[a]! = true) ∧ Hid (j = b ∨ ltOf cf d[j]! d[a]! = false) ∧ Aside (SW encF w0 blk off d wr))
  case atStart =>
    have e1 := HMA.out
    exact ⟨m, b, rfl, rfl, by omega, by omega, by omega, by omega, Lib.hid (.inl e1), Lib.hid (.inl rfl), S0⟩
  case round =>
    clear S0
    obtain ⟨i, j, rfl, rfl, hai, hij, hjb, hg1, H1, H2, S1⟩ := hrel
    by_cases hlt : i < j
    · have hll : (i : Int) < (j : Int) := by omega
      obtain ⟨h, hh⟩ : ∃ h : Nat, (i + j) / 2 = h := ⟨_, rfl⟩
      have hmi : ((i : Int) + (j : Int)) / 2 = (h : Int) := by omega
      have hhb : i ≤ h ∧ h < j := by omega
      have hh1 : (h : Int) < (sz : Int) := by omega
      have ha1 : (a : Int) < (sz : Int) := by omega
      obtain ⟨x, hx⟩ : ∃ x, x = d[h]! := ⟨_, rfl⟩
      obtain ⟨y, hy⟩ : ∃ x, x = d[a]! := ⟨_, rfl⟩
      have hds := HSZ.out
      have l1 : ∀ (n : Nat) (os : Array Obj), (grow (wr.drewN n) os).cell? ⟨blk, off + h, none⟩ = some (.int .i64 (x.val : Int)) := fun n os => by rw [hx]; exact S1.out.cl R (by omega) h (by omega) n os
      have l2 : ∀ (n : Nat) (os : Array Obj), (grow (wr.drewN n) os).cell? ⟨blk, off + a, none⟩ = some (.int .i64 (y.val : Int)) := fun n os => by rw [hy]; exact S1.out.cl R (by omega) a (by omega) n os
      have hcm : ∀ (n : Nat) (os : Array Obj), Calls Try.prog g (#[.int .i64 (x.val : Int), .int .i64 (y.val : Int)] ++ cb) (grow (wr.drewN n) os) fun e w' => e = .returned (.int .i64 (cf x y)) ∧ ∃ q os', w' = grow ((grow (wr.drewN n) os).drewN q) os' := S1.out.cmp HC.out (by omega) x y
      have HX : Hid (x = d[h]!) := hx
      have HY : Hid (y = d[a]!) := hy
      clear hx hy hds hh
      by_cases hv : cf x y < 0
      · have hd : decide (cf x y < 0) = true := decide_eq_true hv
        have H1' : Hid (h + 1 = a + 1 ∨ ltOf cf d[h + 1 - 1]! d[a]! = true) := Lib.hid (.inr (by rw [Nat.add_sub_cancel, ← HX.out, ← HY.out]; exact hd))
        go_wp2_with fail
        (go_quiet_grown (first | (go_at_fn g; refine Calls.grown_of (hcm _ _))))
        have S2 : Aside (SW encF w0 blk off d (grow (wr.drewN nq) osq)) := S1.out.grown nq osq
        clear l1 l2 hcm S1
        generalize grow (wr.drewN nq) osq = w2 at S2 ⊢
        go_wp2
        go_roundg (j - (h + 1))
        case measure => omega
        case rel => exact ⟨h + 1, j, by go_num, rfl, by omega, by omega, hjb, by omega, H1', H2, S2⟩
      · have hd : decide (cf x y < 0) = false := decide_eq_false hv
        have H2' : Hid (h = b ∨ ltOf cf d[h]! d[a]! = false) := Lib.hid (.inr (by rw [← HX.out, ← HY.out]; exact hd))
        go_wp2_with fail
        (go_quiet_grown (first | (go_at_fn g; refine Calls.grown_of (hcm _ _))))
        have S2 : Aside (SW encF w0 blk off d (grow (wr.drewN nq) osq)) := S1.out.grown nq osq
        clear l1 l2 hcm S1
        generalize grow (wr.drewN nq) osq = w2 at S2 ⊢
        go_wp2
        go_roundg (h - i)
        case measure => omega
        case rel => exact ⟨i, h, rfl, rfl, hai, by omega, by omega, by omega, H1, H2', S2⟩
    · obtain rfl : i = j := by omega
      go_wp2
      go_loopg [13] b (fun g1 vk wr => ∃ (k : Nat) (dk : Array (Fin (N + 1))), vk = .int .i64 k ∧ a ≤ k ∧ k ≤ i - 1 ∧ i - k ≤ g1 ∧ dk.size = sz ∧ Hid (UpOf a k d dk) ∧ Aside (SW encF w0 blk off dk wr))
      case atStart => exact ⟨a, d, rfl, by omega, by omega, by omega, HSZ.out, Lib.hid (UpOf.zero _ _), S1⟩
      case round =>
        clear S1
        obtain ⟨k, dk, rfl, hak, hki, hg2, hsk, HU, S1⟩ := hrel
        by_cases hlt2 : k < i - 1
        · have hltz : (k : Int) < (i : Int) - 1 := by omega
          have ba : (k : Int) + 1 < (sz : Int) := by omega
          have bb : (k : Int) < (sz : Int) := by omega
          obtain ⟨x, hx⟩ : ∃ x, x = dk[k]! := ⟨_, rfl⟩
          obtain ⟨y, hy⟩ : ∃ x, x = dk[k + 1]! := ⟨_, rfl⟩
          obtain ⟨jN, hjN⟩ : ∃ q, q = k + 1 := ⟨_, rfl⟩
          have eb : (k : Int) + 1 = (jN : Int) := by omega
          have S3 : Aside (SW encF w0 blk off (swp dk k (k + 1)) ((wr.setCell ⟨blk, off + k, none⟩ (.int .i64 (y.val : Int))).setCell ⟨blk, off + jN, none⟩ (.int .i64 (x.val : Int))).drew) := by rw [hjN, hx, hy]; exact S1.out.swapped R k (k + 1) (by omega) (by omega)
          have c1 := S1.out.c1 R (by omega) k (by omega)
          have c2 := S1.out.c1 R (by omega) (k + 1) (by omega)
          have f1 := S1.out.f1 R (by omega) k (by omega)
          have f2 := S1.out.f1 R (by omega) (k + 1) (by omega)
          obtain ⟨u, c3⟩ := S1.out.c2 R (by omega) k (k + 1) (by omega) (by omega) (encF y)
          rw [← hjN] at c3 f2
          rw [← hx] at c1
          rw [← hy, ← hjN] at c2
          have HN : Hid (UpOf a (k + 1) d (swp dk k (k + 1))) := Lib.hid (HU.out.step hak (by have := HSZ.out; omega))
          have HSK : Hid ((swp dk k (k + 1)).size = sz) := Lib.hid (by rw [Go.Sort.size_swp]; exact hsk)
          clear S1 hx hy hjN HU
          change wr.cell? ⟨blk, off + k, none⟩ = some (.int .i64 (x.val : Int)) at c1
          change wr.cell? ⟨blk, off + jN, none⟩ = some (.int .i64 (y.val : Int)) at c2
          change (wr.setCell ⟨blk, off + k, none⟩ (.int .i64 (y.val : Int))).cell? ⟨blk, off + jN, none⟩ = some u at c3
          go_wp2_with fail
          go_big_region_o
          generalize ((wr.setCell ⟨blk, off + k, none⟩ (.int .i64 (y.val : Int))).setCell ⟨blk, off + jN, none⟩ (.int .i64 (x.val : Int))).drew = w3 at S3 ⊢
          go_wp2
          go_roundg (i - (k + 1))
          case measure => omega
          case rel => exact ⟨k + 1, _, by go_num, by omega, by omega, by omega, HSK.out, HN, S3⟩
        · obtain rfl : k = i - 1 := by omega
          have hltz : ¬ ((i - 1 : Nat) : Int) < (i : Int) - 1 := by omega
          have HM := Lib.hid (mrg_left hl HG2.out HG3.out hai hjb (by have := HSZ.out; omega) H1.out H2.out HU.out)
          go_wp2
          (try simp only [Exit.inBlock, Exit.then])
          refine bodyPost_ret (results_none rfl _ _ _) rfl ?_
          exact ⟨rfl, dk, HM.out, S1.out⟩
set_option maxRecDepth 100000 in
set_option maxHeartbeats 8000000 in
theorem sym_right (hl : ∀ x y, ltOf cf x y = decide (key x < key y)) (eg : ∀ args w, (callFunc g args).run Try.prog w = .ok (.enter g args) w) (hcmp : CmpLays1 Try.prog g cb encF cf blk off d0.size w0) (R : Row1 encF w0 blk off d0) (a m : Nat) (za zm zb : Int) (ha : za = a) (hm : zm = m) (b : Nat) (hbm : b = m + 1) (hb : zb = b) (d : Array (Fin (N + 1))) (w : World) (hs : d0.size = d.size) (hsz : d.size ≤ 1048576) (S : SW encF w0 blk off d w) (h2 : a + 1 < m) (h3 : m + 1 ≤ d.size)
    (g1 : SortedIn (ltX key ix) a m d) (g3 : LRx ix a m (m + 1) d) :
    Calls Try.prog 89 #[.slice (some ⟨blk, off, none⟩) d.size cap, .int .i64 za, .int .i64 zm, .int .i64 zb, .func (.func g) #[] cb] w fun e w' => e = .returned (.tuple #[]) ∧ ∃ d', Mrg key ix a (m + 1) d d' ∧ SW encF w0 blk off d' w' := by
  subst ha hm hb
  have HMA := Lib.hid hbm
  obtain ⟨sz, hszz⟩ : ∃ s, d.size = s := ⟨_, rfl⟩
  have HSZ := Lib.hid hszz
  have HG1 := Lib.hid g1
  have HG3 := Lib.hid g3
  rw [hszz] at h3 hsz hs
  rw [hszz]
  clear hszz g1 g3
  have S0 : Aside (SW encF w0 blk off d w) := S
  have HC : Aside _ := hcmp
  clear S hcmp
  have hone0 : ((m : Int) - (a : Int) == 1) = false := by simp; omega
  have hone : (((b : Int) - (m : Int)) == 1) = true := by simp; omega
  have hmb : m < b ∧ b ≤ sz := by omega
  clear hbm
  have mixed : Try.prog.follows .mixedOrders = true := by kernel_rfl
  go_enter Try.func89, Try.ntmps89
  go_wp2
  go_loopg [14, 15] (m - a) (fun g1 vi vj wr => ∃ i j : Nat, vi = .int .i64 i ∧ vj = .int .i64 j ∧ a ≤ i ∧ i ≤ j ∧ j ≤ m ∧ j - i ≤ g1 ∧ Hid (i = a ∨ ltOf cf d[m]! d[i - 1]! = false) ∧ Hid (j = m ∨ ltOf cf d[m]! d[j]! = true) ∧ Aside (SW encF w0 blk off d wr))
  case atStart => exact ⟨a, m, rfl, rfl, by omega, by omega, by omega, by omega, Lib.hid (.inl rfl), Lib.hid (.inl rfl), S0⟩
  case round =>
    clear S0
    obtain ⟨i, j, rfl, rfl, hai, hij, hjb, hg1, H1, H2, S1⟩ := hrel
    by_cases hlt : i < j
    · have hll : (i : Int) < (j : Int) := by omega
      obtain ⟨h, hh⟩ : ∃ h : Nat, (i + j) / 2 = h := ⟨_, rfl⟩
      have hmi : ((i : Int) + (j : Int)) / 2 = (h : Int) := by omega
      have hhb : i ≤ h ∧ h < j := by omega
      have hh1 : (h : Int) < (sz : Int) := by omega
      have ha1 : (m : Int) < (sz : Int) := by omega
      obtain ⟨x, hx⟩ : ∃ x, x = d[m]! := ⟨_, rfl⟩
      obtain ⟨y, hy⟩ : ∃ x, x = d[h]! := ⟨_, rfl⟩
      have hds := HSZ.out
      have l1 : ∀ (n : Nat) (os : Array Obj), (grow (wr.drewN n) os).cell? ⟨blk, off + m, none⟩ = some (.int .i64 (x.val : Int)) := fun n os => by rw [hx]; exact S1.out.cl R (by omega) m (by omega) n os
      have l2 : ∀ (n : Nat) (os : Array Obj), (grow (wr.drewN n) os).cell? ⟨blk, off + h, none⟩ = some (.int .i64 (y.val : Int)) := fun n os => by rw [hy]; exact S1.out.cl R (by omega) h (by omega) n os
      have hcm : ∀ (n : Nat) (os : Array Obj), Calls Try.prog g (#[.int .i64 (x.val : Int), .int .i64 (y.val : Int)] ++ cb) (grow (wr.drewN n) os) fun e w' => e = .returned (.int .i64 (cf x y)) ∧ ∃ q os', w' = grow ((grow (wr.drewN n) os).drewN q) os' := S1.out.cmp HC.out (by omega) x y
      have HX : Hid (x = d[m]!) := hx
      have HY : Hid (y = d[h]!) := hy
      clear hx hy hds hh
      by_cases hv : cf x y < 0
      · have hd : decide (cf x y < 0) = true := decide_eq_true hv
        have H2' : Hid (h = m ∨ ltOf cf d[m]! d[h]! = true) := Lib.hid (.inr (by rw [← HX.out, ← HY.out]; exact hd))
        go_wp2_with fail
        (go_quiet_grown (first | (go_at_fn g; refine Calls.grown_of (hcm _ _))))
        have S2 : Aside (SW encF w0 blk off d (grow (wr.drewN nq) osq)) := S1.out.grown nq osq
        clear l1 l2 hcm S1
        generalize grow (wr.drewN nq) osq = w2 at S2 ⊢
        go_wp2
        go_roundg (h - i)
        case measure => omega
        case rel => exact ⟨i, h, rfl, rfl, hai, by omega, by omega, by omega, H1, H2', S2⟩
      · have hd : decide (cf x y < 0) = false := decide_eq_false hv
        have H1' : Hid (h + 1 = a ∨ ltOf cf d[m]! d[h + 1 - 1]! = false) := Lib.hid (.inr (by rw [Nat.add_sub_cancel, ← HX.out, ← HY.out]; exact hd))
        go_wp2_with fail
        (go_quiet_grown (first | (go_at_fn g; refine Calls.grown_of (hcm _ _))))
        have S2 : Aside (SW encF w0 blk off d (grow (wr.drewN nq) osq)) := S1.out.grown nq osq
        clear l1 l2 hcm S1
        generalize grow (wr.drewN nq) osq = w2 at S2 ⊢
        go_wp2
        go_roundg (j - (h + 1))
        case measure => omega
        case rel => exact ⟨h + 1, j, by go_num, rfl, by omega, by omega, hjb, by omega, H1', H2, S2⟩
    · obtain rfl : i = j := by omega
      go_wp2
      go_loopg [17] (m + 1) (fun g1 vk wr => ∃ (k : Nat) (dk : Array (Fin (N + 1))), vk = .int .i64 k ∧ i ≤ k ∧ k ≤ m ∧ k ≤ g1 ∧ dk.size = sz ∧ Hid (DownOf k m d dk) ∧ Aside (SW encF w0 blk off dk wr))
      case atStart => exact ⟨m, d, rfl, by omega, by omega, by omega, HSZ.out, Lib.hid (DownOf.zero _ _), S1⟩
      case round =>
        clear S1
        obtain ⟨k, dk, rfl, hak, hki, hg2, hsk, HU, S1⟩ := hrel
        by_cases hlt2 : i < k
        · obtain ⟨e, he⟩ : ∃ e, k = e + 1 := ⟨k - 1, by omega⟩
          have hltz : (i : Int) < (k : Int) := by omega
          have ba : (k : Int) < (sz : Int) := by omega
          have eb : (k : Int) - 1 = (e : Int) := by omega
          have bb : (e : Int) < (sz : Int) := by omega
          obtain ⟨x, hx⟩ : ∃ x, x = dk[k]! := ⟨_, rfl⟩
          obtain ⟨y, hy⟩ : ∃ x, x = dk[e]! := ⟨_, rfl⟩
          have S3 : Aside (SW encF w0 blk off (swp dk k e) ((wr.setCell ⟨blk, off + k, none⟩ (.int .i64 (y.val : Int))).setCell ⟨blk, off + e, none⟩ (.int .i64 (x.val : Int))).drew) := by rw [hx, hy]; exact S1.out.swapped R k e (by omega) (by omega)
          have c1 := S1.out.c1 R (by omega) k (by omega)
          have c2 := S1.out.c1 R (by omega) e (by omega)
          have f1 := S1.out.f1 R (by omega) k (by omega)
          have f2 := S1.out.f1 R (by omega) e (by omega)
          obtain ⟨u, c3⟩ := S1.out.c2 R (by omega) k e (by omega) (by omega) (encF y)
          rw [← hx] at c1
          rw [← hy] at c2
          have HN : Hid (DownOf e m d (swp dk k e)) := Lib.hid (by subst he; exact HU.out.step (by omega) (by have := HSZ.out; omega))
          have HSK : Hid ((swp dk k e).size = sz) := Lib.hid (by rw [Go.Sort.size_swp]; exact hsk)
          have HE := Lib.hid he
          clear S1 hx hy HU he
          change wr.cell? ⟨blk, off + k, none⟩ = some (.int .i64 (x.val : Int)) at c1
          change wr.cell? ⟨blk, off + e, none⟩ = some (.int .i64 (y.val : Int)) at c2
          change (wr.setCell ⟨blk, off + k, none⟩ (.int .i64 (y.val : Int))).cell? ⟨blk, off + e, none⟩ = some u at c3
          go_wp2_with fail
          go_big_region_o
          generalize ((wr.setCell ⟨blk, off + k, none⟩ (.int .i64 (y.val : Int))).setCell ⟨blk, off + e, none⟩ (.int .i64 (x.val : Int))).drew = w3 at S3 ⊢
          go_wp2
          go_roundg e
          case measure => have := HE.out; omega
          case rel => exact ⟨e, _, by first | rfl | (congr 1; omega), by have := HE.out; omega, by have := HE.out; omega, by omega, HSK.out, HN, S3⟩
        · obtain rfl : k = i := by omega
          have hltz : ¬ (k : Int) < (k : Int) := by omega
          have HM := Lib.hid (mrg_right hl HG1.out HG3.out hai hjb (by have := HSZ.out; omega) H1.out H2.out HU.out)
          go_wp2
          (try simp only [Exit.inBlock, Exit.then])
          refine bodyPost_ret (results_none rfl _ _ _) rfl ?_
          exact ⟨rfl, dk, HM.out, S1.out⟩
end Go.Proofs.Ytidiiladlmaigaa
