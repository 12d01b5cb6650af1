/- slices.SortStableFunc at indices: the merge in place, whole; the sort. -/
import Derived.Test.YtidiiladlmaigaaZ3
namespace Go.Proofs.Ytidiiladlmaigaa
open Go.ChangeShapes Go.WideShapes Go.ChangeAt Go.RowKit Go.Shelf
open Go.Sort (swp PermIn SortedIn SWO grow)

variable {N : Nat} {w0 : World} {blk off cap : Nat} {d0 : Array (Fin (N + 1))} {key : Fin (N + 1) → Int} {ix : Fin (N + 1) → Nat} {cf : Fin (N + 1) → Fin (N + 1) → Int} {g : Nat} {cb : Array Value}
/-- what a call of the merge must give (for the induction) -/
def SymAt (w0 : World) (blk off cap : Nat) (key : Fin (N + 1) → Int) (ix : Fin (N + 1) → Nat) (g : Nat) (cb : Array Value) (n K : Nat) : Prop :=
  ∀ (a m b : Nat) (za zm zb : Int) (d : Array (Fin (N + 1))) (w : World), za = a → zm = m → zb = b → b - a ≤ K → d.size = n → SW encF w0 blk off d w → a < m → m < b → b ≤ d.size → SortedIn (ltX key ix) a m d → SortedIn (ltX key ix) m b d → LRx ix a m b d →
    Calls Try.prog 89 #[.slice (some ⟨blk, off, none⟩) d.size cap, .int .i64 za, .int .i64 zm, .int .i64 zb, .func (.func g) #[] cb] w fun e w' => e = .returned (.tuple #[]) ∧ ∃ d', Mrg key ix a b d d' ∧ SW encF w0 blk off d' w'
set_option maxRecDepth 100000 in
set_option maxHeartbeats 8000000 in
theorem sym_gt (hl : ∀ x y, ltOf cf x y = decide (key x < key y)) (eg : ∀ args w, (callFunc g args).run Try.prog w = .ok (.enter g args) w) (hcmp : CmpLays1 Try.prog g cb encF cf blk off d0.size w0) (R : Row1 encF w0 blk off d0) (hsz : d0.size ≤ 1048576) (K : Nat) (IH : SymAt w0 blk off cap key ix g cb d0.size K)
    (a m b mid : Nat) (d : Array (Fin (N + 1))) (w : World) (hK : b - a ≤ K + 1) (hs : d.size = d0.size) (S : SW encF w0 blk off d w) (h1 : a + 1 < m) (h2 : m + 1 < b) (h3 : b ≤ d.size) (g1 : SortedIn (ltX key ix) a m d) (g2 : SortedIn (ltX key ix) m b d) (g3 : LRx ix a m b d) (hmi : ((a : Int) + (b : Int)) / 2 = (mid : Int)) (hgt : mid < m) :
    Calls Try.prog 89 #[.slice (some ⟨blk, off, none⟩) d.size cap, .int .i64 a, .int .i64 m, .int .i64 b, .func (.func g) #[] cb] w fun e w' => e = .returned (.tuple #[]) ∧ ∃ d', Mrg key ix a b d d' ∧ SW encF w0 blk off d' w' := by
  obtain ⟨sz, hszz⟩ : ∃ s, d0.size = s := ⟨_, rfl⟩
  have hmb : a < mid ∧ mid < b ∧ 2 * mid ≤ a + b ∧ a + b ≤ 2 * mid + 1 := by omega
  have hgz : (mid : Int) < (m : Int) := by omega
  obtain ⟨s0, hs0⟩ : ∃ s0 : Nat, s0 + b = mid + m := ⟨mid + m - b, by omega⟩
  obtain ⟨r0, hr0⟩ : ∃ r0 : Nat, r0 = mid := ⟨_, rfl⟩
  have hbnd : a ≤ s0 ∧ s0 ≤ r0 ∧ r0 ≤ m ∧ r0 ≤ mid ∧ mid + m ≤ b + s0 := by omega
  rw [hszz] at hs IH hsz
  have HSZ := Lib.hid hs
  have HS0 := Lib.hid hszz
  have HB := Lib.hid h3
  have HG1 := Lib.hid g1
  have HG2 := Lib.hid g2
  have HG3 := Lib.hid g3
  have HIH : Aside _ := IH
  have HR0 := Lib.hid hr0
  have HE0 := Lib.hid hs0
  rw [hs] at h3
  rw [hs]
  clear hs hszz g1 g2 g3 IH hr0 hs0
  have S0 : Aside (SW encF w0 blk off d w) := S
  have HC : Aside _ := hcmp
  clear S hcmp
  have hone1 : ((m : Int) - (a : Int) == 1) = false := by simp; omega
  have hone2 : ((b : Int) - (m : Int) == 1) = false := by simp; omega
  have mixed : Try.prog.follows .mixedOrders = true := by kernel_rfl
  go_enter Try.func89, Try.ntmps89
  go_wp2
  go_loopg [20, 21] (b - a) (fun g1 vi vj wr => ∃ i j : Nat, vi = .int .i64 i ∧ vj = .int .i64 j ∧ s0 ≤ i ∧ i ≤ j ∧ j ≤ r0 ∧ j - i ≤ g1 ∧ Hid (i = s0 ∨ ltOf cf d[mid + m - i]! d[i - 1]! = false) ∧ Hid (j = r0 ∨ ltOf cf d[mid + m - 1 - j]! d[j]! = true) ∧ Aside (SW encF w0 blk off d wr))
  case atStart =>
    have e1 := HR0.out
    have e2 := HE0.out
    exact ⟨s0, r0, by (congr 1; omega), by (congr 1; omega), by omega, by omega, by omega, by omega, Lib.hid (.inl rfl), Lib.hid (.inl rfl), S0⟩
  case round =>
    clear S0
    obtain ⟨i, j, rfl, rfl, hai, hij, hjb, hg1, H1, H2, S1⟩ := hrel
    by_cases hlt : i < j
    · have hll : (i : Int) < (j : Int) := by omega
      obtain ⟨h, hh⟩ : ∃ h : Nat, (i + j) / 2 = h := ⟨_, rfl⟩
      have hmj : ((i : Int) + (j : Int)) / 2 = (h : Int) := by omega
      have hhb : i ≤ h ∧ h < j := by omega
      obtain ⟨q, hq⟩ : ∃ q : Nat, mid + m - 1 - h = q := ⟨_, rfl⟩
      have eq1 : (mid : Int) + (m : Int) - 1 - (h : Int) = (q : Int) := by omega
      have hqb : m ≤ q ∧ q < b := by omega
      have eqw : IntKind.i64.wrap (q : Int) = (q : Int) := IntWalk.i64_in _ (by omega)
      have hh1 : (h : Int) < (sz : Int) := by omega
      have hq1 : (q : Int) < (sz : Int) := by omega
      obtain ⟨x, hx⟩ : ∃ x, x = d[q]! := ⟨_, rfl⟩
      obtain ⟨y, hy⟩ : ∃ x, x = d[h]! := ⟨_, rfl⟩
      have hds := HSZ.out
      have hd0 := HS0.out
      have l1 : ∀ (n : Nat) (os : Array Obj), (grow (wr.drewN n) os).cell? ⟨blk, off + q, none⟩ = some (.int .i64 (x.val : Int)) := fun n os => by rw [hx]; exact S1.out.cl R (by omega) q (by omega) n os
      have l2 : ∀ (n : Nat) (os : Array Obj), (grow (wr.drewN n) os).cell? ⟨blk, off + h, none⟩ = some (.int .i64 (y.val : Int)) := fun n os => by rw [hy]; exact S1.out.cl R (by omega) h (by omega) n os
      have hcm : ∀ (n : Nat) (os : Array Obj), Calls Try.prog g (#[.int .i64 (x.val : Int), .int .i64 (y.val : Int)] ++ cb) (grow (wr.drewN n) os) fun e w' => e = .returned (.int .i64 (cf x y)) ∧ ∃ q os', w' = grow ((grow (wr.drewN n) os).drewN q) os' := S1.out.cmp HC.out (by omega) x y
      have HX : Hid (x = d[q]!) := hx
      have HY : Hid (y = d[h]!) := hy
      have HQ := Lib.hid hq
      clear hx hy hds hd0 hh hq
      by_cases hv : cf x y < 0
      · have hd : decide (cf x y < 0) = true := decide_eq_true hv
        have H2' : Hid (h = r0 ∨ ltOf cf d[mid + m - 1 - h]! d[h]! = true) := Lib.hid (.inr (by rw [HQ.out, ← HX.out, ← HY.out]; exact hd))
        go_wp2_with fail
        (go_quiet_grown (first | (go_at_fn g; refine Calls.grown_of (hcm _ _))))
        have S2 : Aside (SW encF w0 blk off d (grow (wr.drewN nq) osq)) := S1.out.grown nq osq
        clear l1 l2 hcm S1
        generalize grow (wr.drewN nq) osq = w2 at S2 ⊢
        go_wp2
        go_roundg (h - i)
        case measure => omega
        case rel => exact ⟨i, h, rfl, rfl, hai, by omega, by omega, by omega, H1, H2', S2⟩
      · have hd : decide (cf x y < 0) = false := decide_eq_false hv
        have H1' : Hid (h + 1 = s0 ∨ ltOf cf d[mid + m - (h + 1)]! d[h + 1 - 1]! = false) := Lib.hid (.inr (by rw [Nat.add_sub_cancel, show mid + m - (h + 1) = q by have := HQ.out; omega, ← HX.out, ← HY.out]; exact hd))
        go_wp2_with fail
        (go_quiet_grown (first | (go_at_fn g; refine Calls.grown_of (hcm _ _))))
        have S2 : Aside (SW encF w0 blk off d (grow (wr.drewN nq) osq)) := S1.out.grown nq osq
        clear l1 l2 hcm S1
        generalize grow (wr.drewN nq) osq = w2 at S2 ⊢
        go_wp2
        go_roundg (j - (h + 1))
        case measure => omega
        case rel => exact ⟨h + 1, j, by go_num, rfl, by omega, by omega, hjb, by omega, H1', H2, S2⟩
    · obtain rfl : i = j := by omega
      obtain ⟨e, he⟩ : ∃ e : Nat, mid + m - i = e := ⟨_, rfl⟩
      have ee : (mid : Int) + (m : Int) - (i : Int) = (e : Int) := by omega
      have hie : i + (e - m) = mid := by omega
      have hbs : a ≤ i ∧ i ≤ m ∧ m ≤ e ∧ e ≤ b := by omega
      have Q1 : Hid (i = a ∨ e = b ∨ ltOf cf d[e]! d[i - 1]! = false) := Lib.hid (by
        have e1 := HE0.out
        rcases H1.out with q | q
        · first | exact .inl (by omega) | exact .inr (.inl (by omega))
        · rw [he] at q; exact .inr (.inr q))
      have Q2 : Hid (i = m ∨ e = m ∨ ltOf cf d[e - 1]! d[i]! = true) := Lib.hid (by
        have e1 := HR0.out
        rcases H2.out with q | q
        · first | exact .inl (by omega) | exact .inr (.inl (by omega))
        · rw [show mid + m - 1 - i = e - 1 by omega] at q; exact .inr (.inr q))
      have HM := Lib.hid (fun (d1 : Array (Fin (N + 1))) (RR : RotOf i m e d d1) => mrg_mid hl HG1.out HG2.out HG3.out hbs.1 hbs.2.1 hbs.2.2.1 hbs.2.2.2 HB.out Q1.out Q2.out RR)
      have HIE := Lib.hid hie
      clear he H1 H2
      -- what is left to do once the parts are in place
      have HJ : Hid (∀ d1 d2 d3 : Array (Fin (N + 1)), RotOf i m e d d1 → Mrg key ix a mid d1 d2 → Mrg key ix mid b d2 d3 → Mrg key ix a b d d3) := Lib.hid (fun d1 d2 d3 RR M2 M3 => by
        have hm := HM.out d1 RR
        rw [HIE.out] at hm
        exact mrg_join (RR.perm a b hbs.1 hbs.2.2.2 HB.out) HB.out (by omega) (by omega) M2 M3 hm.2.2.2.2.2.2)
      have HN1 : Hid (∀ d1 : Array (Fin (N + 1)), RotOf i m e d d1 → (i = a ∨ i = mid) → Mrg key ix a mid d1 d1) := Lib.hid (fun d1 RR hc => by
        have hm := HM.out d1 RR
        rw [HIE.out] at hm
        refine ⟨Go.Sort.permIn_refl _ _ _, ?_⟩
        rcases hc with hc | hc
        · rw [← hc]; exact hm.2.1
        · rw [← hc]; exact hm.1)
      have HN2 : Hid (∀ d1 d2 : Array (Fin (N + 1)), RotOf i m e d d1 → Mrg key ix a mid d1 d2 → (e = b ∨ e = mid) → Mrg key ix mid b d2 d2) := Lib.hid (fun d1 d2 RR M2 hc => by
        have hm := HM.out d1 RR
        rw [HIE.out] at hm
        refine ⟨Go.Sort.permIn_refl _ _ _, ?_⟩
        rcases hc with hc | hc
        · rw [← hc]; exact SortedIn.same (lt' := ltX key ix) (a := mid) (b := e) (d := d1) hm.2.2.2.1 (fun t t1 t2 => M2.1.2.1 t (.inr t1))
        · rw [← hc]; exact SortedIn.same (lt' := ltX key ix) (a := e) (b := b) (d := d1) hm.2.2.2.2.1 (fun t t1 t2 => M2.1.2.1 t (.inr (by omega))))
      have HC1 : Aside (∀ (d1 : Array (Fin (N + 1))) (W : World) (zs zm : Int), RotOf i m e d d1 → SW encF w0 blk off d1 W → a < i → i < mid → zs = i → zm = mid →
          Calls Try.prog 89 #[.slice (some ⟨blk, off, none⟩) sz cap, .int .i64 a, .int .i64 zs, .int .i64 zm, .func (.func g) #[] cb] W fun e w' => e = .returned (.tuple #[]) ∧ ∃ d', Mrg key ix a mid d1 d' ∧ SW encF w0 blk off d' w') := fun d1 W zs zm RR SS t1 t2 e1 e2 => by
        have hm := HM.out d1 RR
        rw [HIE.out] at hm
        have hz : d1.size = sz := RR.sz.trans HSZ.out
        have h9 := HIH.out a i mid _ zs zm d1 W rfl e1 e2 (by omega) hz SS t1 t2 (by omega) hm.1 hm.2.1 hm.2.2.1
        rw [hz] at h9
        exact h9
      have HC2 : Aside (∀ (d1 d2 : Array (Fin (N + 1))) (W : World) (zs zm : Int), RotOf i m e d d1 → Mrg key ix a mid d1 d2 → SW encF w0 blk off d2 W → mid < e → e < b → zs = mid → zm = e →
          Calls Try.prog 89 #[.slice (some ⟨blk, off, none⟩) sz cap, .int .i64 zs, .int .i64 zm, .int .i64 b, .func (.func g) #[] cb] W fun e w' => e = .returned (.tuple #[]) ∧ ∃ d', Mrg key ix mid b d2 d' ∧ SW encF w0 blk off d' w') := fun d1 d2 W zs zm RR M2 SS t1 t2 e1 e2 => by
        have hm := HM.out d1 RR
        rw [HIE.out] at hm
        have hz : d2.size = sz := M2.1.1.trans (RR.sz.trans HSZ.out)
        have same : ∀ t, mid ≤ t → d2[t]! = d1[t]! := fun t t1 => M2.1.2.1 t (.inr t1)
        have h9 := HIH.out mid e b zs zm _ d2 W e1 e2 rfl (by omega) hz SS t1 t2 (by omega) (SortedIn.same (lt' := ltX key ix) (a := mid) (b := e) (d := d1) hm.2.2.2.1 fun t u1 _ => same t u1) (SortedIn.same (lt' := ltX key ix) (a := e) (b := b) (d := d1) hm.2.2.2.2.1 fun t u1 _ => same t (by omega)) (LRx.same (ix := ix) (a := mid) (m := e) (b := b) (d := d1) hm.2.2.2.2.2.1 (fun t u1 _ => same t u1) (by omega) (by omega))
        rw [hz] at h9
        exact h9
      by_cases him : i < m
      · have him' : (i : Int) < (m : Int) := by omega
        by_cases hme : m < e
        · have hme' : (m : Int) < (e : Int) := by omega
          have hmd : (i : Int) < (mid : Int) := by omega
          have hde : (mid : Int) < (e : Int) := by omega
          go_wp2_with fail
          obtain ⟨rfl⟩ : sz = d.size := HSZ.out.symm
          refine (rot_any R _ i m e _ _ _ rfl rfl (by omega) d wr (by have := HS0.out; omega) (by omega) S1.out him hme (by omega)).mono ?_
          rintro ee2 w2 ⟨rfl, d1, hRR, S2⟩
          have HRR := Lib.hid hRR
          have S2' : Aside _ := S2
          clear hRR S2 S1
          by_cases hai2 : a < i
          · have hai' : (a : Int) < (i : Int) := by omega
            go_wp2_with fail
            refine (HC1.out d1 w2 _ _ HRR.out S2'.out hai2 (by omega) rfl rfl).mono ?_
            rintro ee3 w3 ⟨rfl, d2, hM2, S3⟩
            have HM2 := Lib.hid hM2
            have S3' : Aside _ := S3
            clear hM2 S3 S2'
            by_cases heb : e < b
            · have heb' : (e : Int) < (b : Int) := by omega
              go_wp2_with fail
              refine (HC2.out d1 d2 w3 _ _ HRR.out HM2.out S3'.out (by omega) heb rfl (by omega)).mono ?_
              rintro ee4 w4 ⟨rfl, d3, hM3, S4⟩
              have HM3 := Lib.hid (HJ.out d1 d2 d3 HRR.out HM2.out hM3)
              have S4' : Aside _ := S4
              clear hM3 S4
              go_wp2
              go_end0
              exact ⟨rfl, d3, HM3.out, S4'.out⟩
            · have heb' : ¬ (e : Int) < (b : Int) := by omega
              have HM3 := Lib.hid (HJ.out d1 d2 d2 HRR.out HM2.out (HN2.out d1 d2 HRR.out HM2.out (.inl (by omega))))
              go_wp2
              go_end0
              exact ⟨rfl, d2, HM3.out, S3'.out⟩
          · have hai' : ¬ (a : Int) < (i : Int) := by omega
            have HM2 := Lib.hid (HN1.out d1 HRR.out (.inl (by omega)))
            by_cases heb : e < b
            · have heb' : (e : Int) < (b : Int) := by omega
              go_wp2_with fail
              refine (HC2.out d1 d1 w2 _ _ HRR.out HM2.out S2'.out (by omega) heb rfl (by omega)).mono ?_
              rintro ee4 w4 ⟨rfl, d3, hM3, S4⟩
              have HM3 := Lib.hid (HJ.out d1 d1 d3 HRR.out HM2.out hM3)
              have S4' : Aside _ := S4
              clear hM3 S4
              go_wp2
              go_end0
              exact ⟨rfl, d3, HM3.out, S4'.out⟩
            · have heb' : ¬ (e : Int) < (b : Int) := by omega
              have HM3 := Lib.hid (HJ.out d1 d1 d1 HRR.out HM2.out (HN2.out d1 d1 HRR.out HM2.out (.inl (by omega))))
              go_wp2
              go_end0
              exact ⟨rfl, d1, HM3.out, S2'.out⟩
        · have hme' : ¬ (m : Int) < (e : Int) := by omega
          have hem : e = m := by omega
          have HRR := Lib.hid (RotOf.triv (a := i) (m := m) (b := e) d (by omega) (by omega) (.inr (by omega)))
          have HM2 := Lib.hid (HN1.out d HRR.out (.inr (by omega)))
          have hai' : (a : Int) < (i : Int) := by omega
          have hmd : ¬ (i : Int) < (mid : Int) := by omega
          have hde : (mid : Int) < (e : Int) := by omega
          have heb' : (e : Int) < (b : Int) := by omega
          have HEM := Lib.hid hem
          clear hem
          go_wp2_with fail
          refine (HC2.out d d wr _ _ HRR.out HM2.out S1.out (by omega) (by omega) rfl (by omega)).mono ?_
          rintro ee4 w4 ⟨rfl, d3, hM3, S4⟩
          have HM3 := Lib.hid (HJ.out d d d3 HRR.out HM2.out hM3)
          have S4' : Aside _ := S4
          clear hM3 S4
          go_wp2
          go_end0
          exact ⟨rfl, d3, HM3.out, S4'.out⟩
      · exfalso
        omega
set_option maxRecDepth 100000 in
set_option maxHeartbeats 8000000 in
theorem sym_le (hl : ∀ x y, ltOf cf x y = decide (key x < key y)) (eg : ∀ args w, (callFunc g args).run Try.prog w = .ok (.enter g args) w) (hcmp : CmpLays1 Try.prog g cb encF cf blk off d0.size w0) (R : Row1 encF w0 blk off d0) (hsz : d0.size ≤ 1048576) (K : Nat) (IH : SymAt w0 blk off cap key ix g cb d0.size K)
    (a m b mid : Nat) (d : Array (Fin (N + 1))) (w : World) (hK : b - a ≤ K + 1) (hs : d.size = d0.size) (S : SW encF w0 blk off d w) (h1 : a + 1 < m) (h2 : m + 1 < b) (h3 : b ≤ d.size) (g1 : SortedIn (ltX key ix) a m d) (g2 : SortedIn (ltX key ix) m b d) (g3 : LRx ix a m b d) (hmi : ((a : Int) + (b : Int)) / 2 = (mid : Int)) (hgt : ¬ mid < m) :
    Calls Try.prog 89 #[.slice (some ⟨blk, off, none⟩) d.size cap, .int .i64 a, .int .i64 m, .int .i64 b, .func (.func g) #[] cb] w fun e w' => e = .returned (.tuple #[]) ∧ ∃ d', Mrg key ix a b d d' ∧ SW encF w0 blk off d' w' := by
  obtain ⟨sz, hszz⟩ : ∃ s, d0.size = s := ⟨_, rfl⟩
  have hmb : a < mid ∧ mid < b ∧ 2 * mid ≤ a + b ∧ a + b ≤ 2 * mid + 1 := by omega
  have hgz : ¬ (mid : Int) < (m : Int) := by omega
  obtain ⟨s0, hs0⟩ : ∃ s0 : Nat, s0 = a := ⟨_, rfl⟩
  obtain ⟨r0, hr0⟩ : ∃ r0 : Nat, r0 = m := ⟨_, rfl⟩
  have hbnd : a ≤ s0 ∧ s0 ≤ r0 ∧ r0 ≤ m ∧ r0 ≤ mid ∧ mid + m ≤ b + s0 := by omega
  rw [hszz] at hs IH hsz
  have HSZ := Lib.hid hs
  have HS0 := Lib.hid hszz
  have HB := Lib.hid h3
  have HG1 := Lib.hid g1
  have HG2 := Lib.hid g2
  have HG3 := Lib.hid g3
  have HIH : Aside _ := IH
  have HR0 := Lib.hid hr0
  have HE0 := Lib.hid hs0
  rw [hs] at h3
  rw [hs]
  clear hs hszz g1 g2 g3 IH hr0 hs0
  have S0 : Aside (SW encF w0 blk off d w) := S
  have HC : Aside _ := hcmp
  clear S hcmp
  have hone1 : ((m : Int) - (a : Int) == 1) = false := by simp; omega
  have hone2 : ((b : Int) - (m : Int) == 1) = false := by simp; omega
  have mixed : Try.prog.follows .mixedOrders = true := by kernel_rfl
  go_enter Try.func89, Try.ntmps89
  go_wp2
  go_loopg [20, 21] (b - a) (fun g1 vi vj wr => ∃ i j : Nat, vi = .int .i64 i ∧ vj = .int .i64 j ∧ s0 ≤ i ∧ i ≤ j ∧ j ≤ r0 ∧ j - i ≤ g1 ∧ Hid (i = s0 ∨ ltOf cf d[mid + m - i]! d[i - 1]! = false) ∧ Hid (j = r0 ∨ ltOf cf d[mid + m - 1 - j]! d[j]! = true) ∧ Aside (SW encF w0 blk off d wr))
  case atStart =>
    have e1 := HR0.out
    have e2 := HE0.out
    exact ⟨s0, r0, by (congr 1; omega), by (congr 1; omega), by omega, by omega, by omega, by omega, Lib.hid (.inl rfl), Lib.hid (.inl rfl), S0⟩
  case round =>
    clear S0
    obtain ⟨i, j, rfl, rfl, hai, hij, hjb, hg1, H1, H2, S1⟩ := hrel
    by_cases hlt : i < j
    · have hll : (i : Int) < (j : Int) := by omega
      obtain ⟨h, hh⟩ : ∃ h : Nat, (i + j) / 2 = h := ⟨_, rfl⟩
      have hmj : ((i : Int) + (j : Int)) / 2 = (h : Int) := by omega
      have hhb : i ≤ h ∧ h < j := by omega
      obtain ⟨q, hq⟩ : ∃ q : Nat, mid + m - 1 - h = q := ⟨_, rfl⟩
      have eq1 : (mid : Int) + (m : Int) - 1 - (h : Int) = (q : Int) := by omega
      have hqb : m ≤ q ∧ q < b := by omega
      have eqw : IntKind.i64.wrap (q : Int) = (q : Int) := IntWalk.i64_in _ (by omega)
      have hh1 : (h : Int) < (sz : Int) := by omega
      have hq1 : (q : Int) < (sz : Int) := by omega
      obtain ⟨x, hx⟩ : ∃ x, x = d[q]! := ⟨_, rfl⟩
      obtain ⟨y, hy⟩ : ∃ x, x = d[h]! := ⟨_, rfl⟩
      have hds := HSZ.out
      have hd0 := HS0.out
      have l1 : ∀ (n : Nat) (os : Array Obj), (grow (wr.drewN n) os).cell? ⟨blk, off + q, none⟩ = some (.int .i64 (x.val : Int)) := fun n os => by rw [hx]; exact S1.out.cl R (by omega) q (by omega) n os
      have l2 : ∀ (n : Nat) (os : Array Obj), (grow (wr.drewN n) os).cell? ⟨blk, off + h, none⟩ = some (.int .i64 (y.val : Int)) := fun n os => by rw [hy]; exact S1.out.cl R (by omega) h (by omega) n os
      have hcm : ∀ (n : Nat) (os : Array Obj), Calls Try.prog g (#[.int .i64 (x.val : Int), .int .i64 (y.val : Int)] ++ cb) (grow (wr.drewN n) os) fun e w' => e = .returned (.int .i64 (cf x y)) ∧ ∃ q os', w' = grow ((grow (wr.drewN n) os).drewN q) os' := S1.out.cmp HC.out (by omega) x y
      have HX : Hid (x = d[q]!) := hx
      have HY : Hid (y = d[h]!) := hy
      have HQ := Lib.hid hq
      clear hx hy hds hd0 hh hq
      by_cases hv : cf x y < 0
      · have hd : decide (cf x y < 0) = true := decide_eq_true hv
        have H2' : Hid (h = r0 ∨ ltOf cf d[mid + m - 1 - h]! d[h]! = true) := Lib.hid (.inr (by rw [HQ.out, ← HX.out, ← HY.out]; exact hd))
        go_wp2_with fail
        (go_quiet_grown (first | (go_at_fn g; refine Calls.grown_of (hcm _ _))))
        have S2 : Aside (SW encF w0 blk off d (grow (wr.drewN nq) osq)) := S1.out.grown nq osq
        clear l1 l2 hcm S1
        generalize grow (wr.drewN nq) osq = w2 at S2 ⊢
        go_wp2
        go_roundg (h - i)
        case measure => omega
        case rel => exact ⟨i, h, rfl, rfl, hai, by omega, by omega, by omega, H1, H2', S2⟩
      · have hd : decide (cf x y < 0) = false := decide_eq_false hv
        have H1' : Hid (h + 1 = s0 ∨ ltOf cf d[mid + m - (h + 1)]! d[h + 1 - 1]! = false) := Lib.hid (.inr (by rw [Nat.add_sub_cancel, show mid + m - (h + 1) = q by have := HQ.out; omega, ← HX.out, ← HY.out]; exact hd))
        go_wp2_with fail
        (go_quiet_grown (first | (go_at_fn g; refine Calls.grown_of (hcm _ _))))
        have S2 : Aside (SW encF w0 blk off d (grow (wr.drewN nq) osq)) := S1.out.grown nq osq
        clear l1 l2 hcm S1
        generalize grow (wr.drewN nq) osq = w2 at S2 ⊢
        go_wp2
        go_roundg (j - (h + 1))
        case measure => omega
        case rel => exact ⟨h + 1, j, by go_num, rfl, by omega, by omega, hjb, by omega, H1', H2, S2⟩
    · obtain rfl : i = j := by omega
      obtain ⟨e, he⟩ : ∃ e : Nat, mid + m - i = e := ⟨_, rfl⟩
      have ee : (mid : Int) + (m : Int) - (i : Int) = (e : Int) := by omega
      have hie : i + (e - m) = mid := by omega
      have hbs : a ≤ i ∧ i ≤ m ∧ m ≤ e ∧ e ≤ b := by omega
      have Q1 : Hid (i = a ∨ e = b ∨ ltOf cf d[e]! d[i - 1]! = false) := Lib.hid (by
        have e1 := HE0.out
        rcases H1.out with q | q
        · first | exact .inl (by omega) | exact .inr (.inl (by omega))
        · rw [he] at q; exact .inr (.inr q))
      have Q2 : Hid (i = m ∨ e = m ∨ ltOf cf d[e - 1]! d[i]! = true) := Lib.hid (by
        have e1 := HR0.out
        rcases H2.out with q | q
        · first | exact .inl (by omega) | exact .inr (.inl (by omega))
        · rw [show mid + m - 1 - i = e - 1 by omega] at q; exact .inr (.inr q))
      have HM := Lib.hid (fun (d1 : Array (Fin (N + 1))) (RR : RotOf i m e d d1) => mrg_mid hl HG1.out HG2.out HG3.out hbs.1 hbs.2.1 hbs.2.2.1 hbs.2.2.2 HB.out Q1.out Q2.out RR)
      have HIE := Lib.hid hie
      clear he H1 H2
      -- what is left to do once the parts are in place
      have HJ : Hid (∀ d1 d2 d3 : Array (Fin (N + 1)), RotOf i m e d d1 → Mrg key ix a mid d1 d2 → Mrg key ix mid b d2 d3 → Mrg key ix a b d d3) := Lib.hid (fun d1 d2 d3 RR M2 M3 => by
        have hm := HM.out d1 RR
        rw [HIE.out] at hm
        exact mrg_join (RR.perm a b hbs.1 hbs.2.2.2 HB.out) HB.out (by omega) (by omega) M2 M3 hm.2.2.2.2.2.2)
      have HN1 : Hid (∀ d1 : Array (Fin (N + 1)), RotOf i m e d d1 → (i = a ∨ i = mid) → Mrg key ix a mid d1 d1) := Lib.hid (fun d1 RR hc => by
        have hm := HM.out d1 RR
        rw [HIE.out] at hm
        refine ⟨Go.Sort.permIn_refl _ _ _, ?_⟩
        rcases hc with hc | hc
        · rw [← hc]; exact hm.2.1
        · rw [← hc]; exact hm.1)
      have HN2 : Hid (∀ d1 d2 : Array (Fin (N + 1)), RotOf i m e d d1 → Mrg key ix a mid d1 d2 → (e = b ∨ e = mid) → Mrg key ix mid b d2 d2) := Lib.hid (fun d1 d2 RR M2 hc => by
        have hm := HM.out d1 RR
        rw [HIE.out] at hm
        refine ⟨Go.Sort.permIn_refl _ _ _, ?_⟩
        rcases hc with hc | hc
        · rw [← hc]; exact SortedIn.same (lt' := ltX key ix) (a := mid) (b := e) (d := d1) hm.2.2.2.1 (fun t t1 t2 => M2.1.2.1 t (.inr t1))
        · rw [← hc]; exact SortedIn.same (lt' := ltX key ix) (a := e) (b := b) (d := d1) hm.2.2.2.2.1 (fun t t1 t2 => M2.1.2.1 t (.inr (by omega))))
      have HC1 : Aside (∀ (d1 : Array (Fin (N + 1))) (W : World) (zs zm : Int), RotOf i m e d d1 → SW encF w0 blk off d1 W → a < i → i < mid → zs = i → zm = mid →
          Calls Try.prog 89 #[.slice (some ⟨blk, off, none⟩) sz cap, .int .i64 a, .int .i64 zs, .int .i64 zm, .func (.func g) #[] cb] W fun e w' => e = .returned (.tuple #[]) ∧ ∃ d', Mrg key ix a mid d1 d' ∧ SW encF w0 blk off d' w') := fun d1 W zs zm RR SS t1 t2 e1 e2 => by
        have hm := HM.out d1 RR
        rw [HIE.out] at hm
        have hz : d1.size = sz := RR.sz.trans HSZ.out
        have h9 := HIH.out a i mid _ zs zm d1 W rfl e1 e2 (by omega) hz SS t1 t2 (by omega) hm.1 hm.2.1 hm.2.2.1
        rw [hz] at h9
        exact h9
      have HC2 : Aside (∀ (d1 d2 : Array (Fin (N + 1))) (W : World) (zs zm : Int), RotOf i m e d d1 → Mrg key ix a mid d1 d2 → SW encF w0 blk off d2 W → mid < e → e < b → zs = mid → zm = e →
          Calls Try.prog 89 #[.slice (some ⟨blk, off, none⟩) sz cap, .int .i64 zs, .int .i64 zm, .int .i64 b, .func (.func g) #[] cb] W fun e w' => e = .returned (.tuple #[]) ∧ ∃ d', Mrg key ix mid b d2 d' ∧ SW encF w0 blk off d' w') := fun d1 d2 W zs zm RR M2 SS t1 t2 e1 e2 => by
        have hm := HM.out d1 RR
        rw [HIE.out] at hm
        have hz : d2.size = sz := M2.1.1.trans (RR.sz.trans HSZ.out)
        have same : ∀ t, mid ≤ t → d2[t]! = d1[t]! := fun t t1 => M2.1.2.1 t (.inr t1)
        have h9 := HIH.out mid e b zs zm _ d2 W e1 e2 rfl (by omega) hz SS t1 t2 (by omega) (SortedIn.same (lt' := ltX key ix) (a := mid) (b := e) (d := d1) hm.2.2.2.1 fun t u1 _ => same t u1) (SortedIn.same (lt' := ltX key ix) (a := e) (b := b) (d := d1) hm.2.2.2.2.1 fun t u1 _ => same t (by omega)) (LRx.same (ix := ix) (a := mid) (m := e) (b := b) (d := d1) hm.2.2.2.2.2.1 (fun t u1 _ => same t u1) (by omega) (by omega))
        rw [hz] at h9
        exact h9
      by_cases him : i < m
      · have him' : (i : Int) < (m : Int) := by omega
        by_cases hme : m < e
        · have hme' : (m : Int) < (e : Int) := by omega
          have hmd : (i : Int) < (mid : Int) := by omega
          have hde : (mid : Int) < (e : Int) := by omega
          go_wp2_with fail
          obtain ⟨rfl⟩ : sz = d.size := HSZ.out.symm
          refine (rot_any R _ i m e _ _ _ rfl rfl (by omega) d wr (by have := HS0.out; omega) (by omega) S1.out him hme (by omega)).mono ?_
          rintro ee2 w2 ⟨rfl, d1, hRR, S2⟩
          have HRR := Lib.hid hRR
          have S2' : Aside _ := S2
          clear hRR S2 S1
          by_cases hai2 : a < i
          · have hai' : (a : Int) < (i : Int) := by omega
            go_wp2_with fail
            refine (HC1.out d1 w2 _ _ HRR.out S2'.out hai2 (by omega) rfl rfl).mono ?_
            rintro ee3 w3 ⟨rfl, d2, hM2, S3⟩
            have HM2 := Lib.hid hM2
            have S3' : Aside _ := S3
            clear hM2 S3 S2'
            by_cases heb : e < b
            · have heb' : (e : Int) < (b : Int) := by omega
              go_wp2_with fail
              refine (HC2.out d1 d2 w3 _ _ HRR.out HM2.out S3'.out (by omega) heb rfl (by omega)).mono ?_
              rintro ee4 w4 ⟨rfl, d3, hM3, S4⟩
              have HM3 := Lib.hid (HJ.out d1 d2 d3 HRR.out HM2.out hM3)
              have S4' : Aside _ := S4
              clear hM3 S4
              go_wp2
              go_end0
              exact ⟨rfl, d3, HM3.out, S4'.out⟩
            · have heb' : ¬ (e : Int) < (b : Int) := by omega
              have HM3 := Lib.hid (HJ.out d1 d2 d2 HRR.out HM2.out (HN2.out d1 d2 HRR.out HM2.out (.inl (by omega))))
              go_wp2
              go_end0
              exact ⟨rfl, d2, HM3.out, S3'.out⟩
          · have hai' : ¬ (a : Int) < (i : Int) := by omega
            have HM2 := Lib.hid (HN1.out d1 HRR.out (.inl (by omega)))
            by_cases heb : e < b
            · have heb' : (e : Int) < (b : Int) := by omega
              go_wp2_with fail
              refine (HC2.out d1 d1 w2 _ _ HRR.out HM2.out S2'.out (by omega) heb rfl (by omega)).mono ?_
              rintro ee4 w4 ⟨rfl, d3, hM3, S4⟩
              have HM3 := Lib.hid (HJ.out d1 d1 d3 HRR.out HM2.out hM3)
              have S4' : Aside _ := S4
              clear hM3 S4
              go_wp2
              go_end0
              exact ⟨rfl, d3, HM3.out, S4'.out⟩
            · have heb' : ¬ (e : Int) < (b : Int) := by omega
              have HM3 := Lib.hid (HJ.out d1 d1 d1 HRR.out HM2.out (HN2.out d1 d1 HRR.out HM2.out (.inl (by omega))))
              go_wp2
              go_end0
              exact ⟨rfl, d1, HM3.out, S2'.out⟩
        · have hme' : ¬ (m : Int) < (e : Int) := by omega
          have hem : e = m := by omega
          have HRR := Lib.hid (RotOf.triv (a := i) (m := m) (b := e) d (by omega) (by omega) (.inr (by omega)))
          have HM2 := Lib.hid (HN1.out d HRR.out (.inr (by omega)))
          have hai' : (a : Int) < (i : Int) := by omega
          have hmd : ¬ (i : Int) < (mid : Int) := by omega
          have hde : (mid : Int) < (e : Int) := by omega
          have heb' : (e : Int) < (b : Int) := by omega
          have HEM := Lib.hid hem
          clear hem
          go_wp2_with fail
          refine (HC2.out d d wr _ _ HRR.out HM2.out S1.out (by omega) (by omega) rfl (by omega)).mono ?_
          rintro ee4 w4 ⟨rfl, d3, hM3, S4⟩
          have HM3 := Lib.hid (HJ.out d d d3 HRR.out HM2.out hM3)
          have S4' : Aside _ := S4
          clear hM3 S4
          go_wp2
          go_end0
          exact ⟨rfl, d3, HM3.out, S4'.out⟩
      · have him' : ¬ (i : Int) < (m : Int) := by omega
        have HRR := Lib.hid (RotOf.triv (a := i) (m := m) (b := e) d (by omega) (by omega) (.inl (by omega)))
        have hai' : (a : Int) < (i : Int) := by omega
        have hde : ¬ (mid : Int) < (e : Int) := by omega
        by_cases hmd : i < mid
        · have hmd' : (i : Int) < (mid : Int) := by omega
          go_wp2_with fail
          refine (HC1.out d wr _ _ HRR.out S1.out (by omega) hmd rfl rfl).mono ?_
          rintro ee3 w3 ⟨rfl, d2, hM2, S3⟩
          have HM3 := Lib.hid (HJ.out d d2 d2 HRR.out hM2 (HN2.out d d2 HRR.out hM2 (.inr (by omega))))
          have S3' : Aside _ := S3
          clear hM2 S3
          go_wp2
          go_end0
          exact ⟨rfl, d2, HM3.out, S3'.out⟩
        · have hmd' : ¬ (i : Int) < (mid : Int) := by omega
          have HM2 := Lib.hid (HN1.out d HRR.out (.inr (by omega)))
          have HM3 := Lib.hid (HJ.out d d d HRR.out HM2.out (HN2.out d d HRR.out HM2.out (.inr (by omega))))
          go_wp2
          go_end0
          exact ⟨rfl, d, HM3.out, S1.out⟩
theorem sym_step (hl : ∀ x y, ltOf cf x y = decide (key x < key y)) (eg : ∀ args w, (callFunc g args).run Try.prog w = .ok (.enter g args) w) (hcmp : CmpLays1 Try.prog g cb encF cf blk off d0.size w0) (R : Row1 encF w0 blk off d0) (hsz : d0.size ≤ 1048576) (K : Nat) (IH : SymAt w0 blk off cap key ix g cb d0.size K) : SymAt w0 blk off cap key ix g cb d0.size (K + 1) := by
  intro a m b za zm zb d w ha hm hb hK hs S h1 h2 h3 g1 g2 g3
  by_cases c1 : m = a + 1
  · exact sym_left hl eg hcmp R a b za zm zb ha m c1 hm hb d w hs.symm (by omega) S (by omega) h3 (by rw [← c1]; exact g2) (by rw [← c1]; exact g3)
  by_cases c2 : b = m + 1
  · have h := sym_right (cap := cap) hl eg hcmp R a m za zm zb ha hm b c2 hb d w hs.symm (by omega) S (by omega) (by omega) g1 (by rw [← c2]; exact g3)
    rw [← c2] at h
    exact h
  subst ha hm hb
  by_cases hgt : (a + b) / 2 < m
  · exact sym_gt hl eg hcmp R hsz K IH a m b _ d w hK hs S (by omega) (by omega) h3 g1 g2 g3 (by omega) hgt
  · exact sym_le hl eg hcmp R hsz K IH a m b _ d w hK hs S (by omega) (by omega) h3 g1 g2 g3 (by omega) hgt
theorem sym_any (hl : ∀ x y, ltOf cf x y = decide (key x < key y)) (eg : ∀ args w, (callFunc g args).run Try.prog w = .ok (.enter g args) w) (hcmp : CmpLays1 Try.prog g cb encF cf blk off d0.size w0) (R : Row1 encF w0 blk off d0) (hsz : d0.size ≤ 1048576) : ∀ K, SymAt w0 blk off cap key ix g cb d0.size K
  | 0 => fun a m b _ _ _ _ _ _ _ _ hK _ _ h1 h2 _ _ _ _ => by omega
  | K + 1 => sym_step hl eg hcmp R hsz K (sym_any hl eg hcmp R hsz K)
end Go.Proofs.Ytidiiladlmaigaa
