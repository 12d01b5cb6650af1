/- slices.SortStableFunc at indices: the sort, whole. -/
import Derived.Test.YtidiiladlmaigaaZ4
namespace Go.Proofs.Ytidiiladlmaigaa
open Go.ChangeShapes Go.WideShapes Go.ChangeAt Go.RowKit Go.Shelf
open Go.Sort (swp PermIn SortedIn SWO grow permIn_trans permIn_mono permIn_all permIn_refl)

section
variable {α : Type} [Inhabited α] {key : α → Int} {ix : α → Nat}
/-- behind the blocks of one size: each block is sorted, and blocks stand in the order of the places -/
structure St (key : α → Int) (ix : α → Nat) (bs n : Nat) (d0 d : Array α) : Prop where
  perm : PermIn 0 n d0 d
  sb : ∀ s t, s < t → t < n → s / bs = t / bs → ltX key ix d[t]! d[s]! = false
  ob : ∀ s t, t < n → s / bs < t / bs → ix d[s]! < ix d[t]!
/-- in between: up to a the blocks are twice as long -/
structure Jn (key : α → Int) (ix : α → Nat) (bs b2 a n : Nat) (d0 d : Array α) : Prop where
  perm : PermIn 0 n d0 d
  ob2 : ∀ s t, t < n → s / b2 < t / b2 → ix d[s]! < ix d[t]!
  sb2 : ∀ s t, s < t → t < a → s / b2 = t / b2 → ltX key ix d[t]! d[s]! = false
  rs : ∀ s t, a ≤ s → s < t → t < n → s / bs = t / bs → ltX key ix d[t]! d[s]! = false
  ro : ∀ s t, a ≤ s → t < n → s / bs < t / bs → ix d[s]! < ix d[t]!
def BB (bs b2 : Nat) : Prop := (bs = 20 ∧ b2 = 40) ∨ (bs = 40 ∧ b2 = 80) ∨ (bs = 80 ∧ b2 = 160)
theorem st_init {bs b2 n : Nat} {d0 d : Array α} (hb : BB bs b2) (h : St key ix bs n d0 d) : Jn key ix bs b2 0 n d0 d := by
  refine ⟨h.perm, fun s t ht hst => h.ob s t ht ?_, fun s t _ ht _ => absurd ht (by omega), fun s t _ => h.sb s t, fun s t _ => h.ob s t⟩
  rcases hb with ⟨rfl, rfl⟩ | ⟨rfl, rfl⟩ | ⟨rfl, rfl⟩ <;> omega
theorem st_pre {bs b2 a b n : Nat} {d0 d : Array α} (hb : BB bs b2) (h : Jn key ix bs b2 a n d0 d) (ha : a % b2 = 0) (h1 : a + bs ≤ b) (h2 : b ≤ a + b2) (hn : b ≤ n) : SortedIn (ltX key ix) a (a + bs) d ∧ SortedIn (ltX key ix) (a + bs) b d ∧ LRx ix a (a + bs) b d := by
  rcases hb with ⟨rfl, rfl⟩ | ⟨rfl, rfl⟩ | ⟨rfl, rfl⟩
  all_goals exact ⟨fun i j q1 q2 q3 => h.rs i j q1 q2 (by omega) (by omega), fun i j q1 q2 q3 => h.rs i j (by omega) q2 (by omega) (by omega), fun i j q1 q2 q3 q4 => h.ro i j q1 (by omega) (by omega)⟩
theorem ob_perm {b2 a b n : Nat} {d d' : Array α} (hbl : ∀ u v, a ≤ u → u < b → a ≤ v → v < b → u / b2 = v / b2) (hn : b ≤ n) (hs : n ≤ d.size) (h : ∀ s t, t < n → s / b2 < t / b2 → ix d[s]! < ix d[t]!) (P : PermIn a b d d') : ∀ s t, t < n → s / b2 < t / b2 → ix d'[s]! < ix d'[t]! := fun s t ht hst => by
  by_cases c1 : a ≤ s ∧ s < b
  · have ct : t < a ∨ b ≤ t := by
      by_cases c : a ≤ t ∧ t < b
      · have := hbl s t c1.1 c1.2 c.1 c.2; omega
      · omega
    rw [P.2.1 t ct]
    exact permIn_all d d' a b (fun x => ix x < ix d[t]!) (by omega) P (fun u u1 u2 => h u t ht (by rw [hbl u s u1 u2 c1.1 c1.2]; exact hst)) s c1.1 c1.2
  · rw [P.2.1 s (by omega)]
    by_cases c : a ≤ t ∧ t < b
    · exact permIn_all d d' a b (fun x => ix d[s]! < ix x) (by omega) P (fun u u1 u2 => h s u (by omega) (by rw [hbl u t u1 u2 c.1 c.2]; exact hst)) t c.1 c.2
    · rw [P.2.1 t (by omega)]; exact h s t ht hst
theorem st_merge {bs b2 a b n : Nat} {d0 d d' : Array α} (hb : BB bs b2) (h : Jn key ix bs b2 a n d0 d) (ha : a % b2 = 0) (h1 : a ≤ b) (h2 : b ≤ a + b2) (hn : b ≤ n) (hs : d.size = n) (_hs0 : d0.size = n) (M : Mrg key ix a b d d') : Jn key ix bs b2 b n d0 d' := by
  have bl : ∀ u v, a ≤ u → u < b → a ≤ v → v < b → u / b2 = v / b2 := by
    rcases hb with ⟨rfl, rfl⟩ | ⟨rfl, rfl⟩ | ⟨rfl, rfl⟩ <;> (intro u v _ _ _ _; omega)
  have bl2 : ∀ s t, s < t → t < b → a ≤ t → s / b2 = t / b2 → a ≤ s := by
    rcases hb with ⟨rfl, rfl⟩ | ⟨rfl, rfl⟩ | ⟨rfl, rfl⟩ <;> (intro s t _ _ _ _; omega)
  have lt2 : ∀ s t, s / bs < t / bs → s < t := fun s t hst => by
    rcases hb with ⟨rfl, rfl⟩ | ⟨rfl, rfl⟩ | ⟨rfl, rfl⟩ <;> omega
  refine ⟨permIn_trans _ _ _ _ _ h.perm (permIn_mono _ _ _ _ _ _ (Nat.zero_le _) hn (by omega) M.1), ob_perm bl hn (by omega) h.ob2 M.1, fun s t q1 q2 q3 => ?_, fun s t q1 q2 q3 q4 => ?_, fun s t q1 q2 q3 => ?_⟩
  · by_cases c : a ≤ t
    · exact M.2 s t (bl2 s t q1 q2 c q3) q1 q2
    · rw [M.1.2.1 s (.inl (by omega)), M.1.2.1 t (.inl (by omega))]; exact h.sb2 s t q1 (by omega) q3
  · rw [M.1.2.1 s (.inr q1), M.1.2.1 t (.inr (by omega))]; exact h.rs s t (by omega) q2 q3 q4
  · have := lt2 s t q3
    rw [M.1.2.1 s (.inr q1), M.1.2.1 t (.inr (by omega))]; exact h.ro s t (by omega) q2 q3
theorem st_end {bs b2 a n : Nat} {d0 d : Array α} (hb : BB bs b2) (h : Jn key ix bs b2 a n d0 d) (ha : n ≤ a ∨ a % b2 = 0 ∧ n ≤ a + bs) : St key ix b2 n d0 d := by
  refine ⟨h.perm, fun s t q1 q2 q3 => ?_, h.ob2⟩
  by_cases c : t < a
  · exact h.sb2 s t q1 c q3
  · rcases hb with ⟨rfl, rfl⟩ | ⟨rfl, rfl⟩ | ⟨rfl, rfl⟩ <;> exact h.rs s t (by omega) q1 q2 (by omega)
theorem st_whole {bs n : Nat} {d0 d : Array α} (h : St key ix bs n d0 d) (hb : n ≤ bs) : Mrg key ix 0 n d0 d :=
  ⟨h.perm, fun i j _ q2 q3 => h.sb i j q2 q3 (by rw [Nat.div_eq_of_lt (by omega), Nat.div_eq_of_lt (by omega)])⟩
/-- the first blocks, up to a -/
structure In1 (key : α → Int) (ix : α → Nat) (a n : Nat) (d0 d : Array α) : Prop where
  perm : PermIn 0 n d0 d
  same : ∀ t, a ≤ t → d[t]! = d0[t]!
  sb : ∀ s t, s < t → t < a → s / 20 = t / 20 → ltX key ix d[t]! d[s]! = false
  ob : ∀ s t, t < n → s / 20 < t / 20 → ix d[s]! < ix d[t]!
theorem in1_start {n : Nat} {d0 : Array α} (asc : ∀ s t, s < t → t < n → ix d0[s]! < ix d0[t]!) : In1 key ix 0 n d0 d0 :=
  ⟨permIn_refl _ _ _, fun _ _ => rfl, fun s t _ ht _ => absurd ht (by omega), fun s t ht hst => asc s t (by omega) ht⟩
theorem in1_step {a b n : Nat} {d0 d d' : Array α} (h : In1 key ix a n d0 d) (ha : a % 20 = 0) (h1 : a ≤ b) (h2 : b ≤ a + 20) (hn : b ≤ n) (hs : d.size = n) (_hs0 : d0.size = n) (M : Mrg key ix a b d d') : In1 key ix b n d0 d' := by
  refine ⟨permIn_trans _ _ _ _ _ h.perm (permIn_mono _ _ _ _ _ _ (Nat.zero_le _) hn (by omega) M.1), fun t ht => ?_, fun s t q1 q2 q3 => ?_, ob_perm (fun u v _ _ _ _ => by omega) hn (by omega) h.ob M.1⟩
  · rw [M.1.2.1 t (.inr ht)]; exact h.same t (by omega)
  · by_cases c : a ≤ t
    · exact M.2 s t (by omega) q1 q2
    · rw [M.1.2.1 s (.inl (by omega)), M.1.2.1 t (.inl (by omega))]; exact h.sb s t q1 (by omega) q3
theorem in1_end {n : Nat} {d0 d : Array α} (h : In1 key ix n n d0 d) : St key ix 20 n d0 d := ⟨h.perm, h.sb, h.ob⟩
theorem in1_asc {a b n : Nat} {d0 d : Array α} (asc : ∀ s t, s < t → t < n → ix d0[s]! < ix d0[t]!) (h : In1 key ix a n d0 d) (hn : b ≤ n) : ∀ s t, a ≤ s → s < t → t < b → ix d[s]! < ix d[t]! := fun s t q1 q2 q3 => by
  rw [h.same s q1, h.same t (by omega)]; exact asc s t q2 (by omega)
end
variable {N : Nat} {w0 : World} {blk off cap : Nat} {d0 : Array (Fin (N + 1))} {key : Fin (N + 1) → Int} {ix : Fin (N + 1) → Nat} {cf : Fin (N + 1) → Fin (N + 1) → Int} {g : Nat} {cb : Array Value}
shelf_lay_g SlLaysF.n20 Slsf 20 at Try 88 as Try.insS
theorem insS_any (hl : ∀ x y, ltOf cf x y = decide (key x < key y)) (eg : ∀ args w, (callFunc g args).run Try.prog w = .ok (.enter g args) w) (hcmp : CmpLays1 Try.prog g cb encF cf blk off d0.size w0) (R : Row1 encF w0 blk off d0) (a b n : Nat) (d : Array (Fin (N + 1))) (w : World) (hs0 : d0.size = n) (hs : d.size = n) (hn : n ≤ 100) (S : SW encF w0 blk off d w) (hab : a ≤ b) (hb : b ≤ n) (asc : ∀ s t, a ≤ s → s < t → t < b → ix d[s]! < ix d[t]!) :
    Calls Try.prog 88 #[.slice (some ⟨blk, off, none⟩) n cap, .int .i64 a, .int .i64 b, .func (.func g) #[] cb] w fun e w' => e = .returned (.tuple #[]) ∧ ∃ d', Mrg key ix a b d d' ∧ SW encF w0 blk off d' w' := by
  have hcon := Any.insertionSortCmpFunc_s Try.insS encF cf g cb blk off cap a b d0 d w0 w eg hcmp R (by omega) S hab (by omega) (by omega)
  rw [hs] at hcon
  change Calls Try.prog 88 _ _ _ at hcon
  refine hcon.mono ?_
  rintro e w' ⟨rfl, S'⟩
  exact ⟨rfl, _, ins_stable hl hab (by omega) asc, S'⟩
set_option maxRecDepth 100000 in
set_option maxHeartbeats 8000000 in
theorem stab_any (hl : ∀ x y, ltOf cf x y = decide (key x < key y)) (eg : ∀ args w, (callFunc g args).run Try.prog w = .ok (.enter g args) w) (hcmp : CmpLays1 Try.prog g cb encF cf blk off d0.size w0) (R : Row1 encF w0 blk off d0) (n : Nat) (w : World) (hs0 : d0.size = n) (hn : n ≤ 100) (S : SW encF w0 blk off d0 w) (asc : ∀ s t, s < t → t < n → ix d0[s]! < ix d0[t]!) :
    Calls Try.prog 84 #[.slice (some ⟨blk, off, none⟩) n cap, .int .i64 n, .func (.func g) #[] cb] w fun e w' => e = .returned (.tuple #[]) ∧ ∃ d', Mrg key ix 0 n d0 d' ∧ SW encF w0 blk off d' w' := by
  have HINS : Aside (∀ (a b : Nat) (d : Array (Fin (N + 1))) (W : World), d.size = n → SW encF w0 blk off d W → a ≤ b → b ≤ n → (∀ s t, a ≤ s → s < t → t < b → ix d[s]! < ix d[t]!) →
      Calls Try.prog 88 #[.slice (some ⟨blk, off, none⟩) n cap, .int .i64 a, .int .i64 b, .func (.func g) #[] cb] W fun e w' => e = .returned (.tuple #[]) ∧ ∃ d', Mrg key ix a b d d' ∧ SW encF w0 blk off d' w') :=
    fun a b d W h1 h2 h3 h4 h5 => insS_any hl eg hcmp R a b n d W hs0 h1 hn h2 h3 h4 h5
  have HSYM : Aside (∀ (a m b : Nat) (za zm zb : Int) (d : Array (Fin (N + 1))) (W : World), za = a → zm = m → zb = b → d.size = n → SW encF w0 blk off d W → a < m → m < b → b ≤ n → (SortedIn (ltX key ix) a m d ∧ SortedIn (ltX key ix) m b d ∧ LRx ix a m b d) →
      Calls Try.prog 89 #[.slice (some ⟨blk, off, none⟩) n cap, .int .i64 za, .int .i64 zm, .int .i64 zb, .func (.func g) #[] cb] W fun e w' => e = .returned (.tuple #[]) ∧ ∃ d', Mrg key ix a b d d' ∧ SW encF w0 blk off d' w') :=
    fun a m b za zm zb d W e1 e2 e3 h1 h2 h3 h4 h5 h6 => by
      have h := sym_any (cap := cap) hl eg hcmp R (by omega) b a m b za zm zb d W e1 e2 e3 (by omega) (by omega) h2 h3 h4 (by omega) h6.1 h6.2.1 h6.2.2
      rw [h1] at h
      exact h
  have S0 : Aside (SW encF w0 blk off d0 w) := S
  have HS0 := Lib.hid hs0
  have ASC := Lib.hid asc
  have HI0 : Hid (In1 key ix 0 n d0 d0) := Lib.hid (in1_start asc)
  have hl100 : (n : Int) ≤ 100 := by omega
  clear S hcmp hl eg asc hs0
  go_enter Try.func84, Try.ntmps84
  go_wp2
  go_loopg [7, 8] (n + 1) (fun g1 va vb wr => ∃ (a : Nat) (d : Array (Fin (N + 1))), va = .int .i64 a ∧ vb = .int .i64 (a + 20 : Nat) ∧ a ≤ n ∧ n - a ≤ g1 ∧ Hid (a % 20 = 0) ∧ Hid (d.size = n) ∧ Hid (In1 key ix a n d0 d) ∧ Aside (SW encF w0 blk off d wr))
  case atStart => exact ⟨0, d0, by go_num, by go_num, by omega, by omega, Lib.hid rfl, Lib.hid HS0.out, HI0, S0⟩
  case round =>
    clear S0
    obtain ⟨a, d, rfl, rfl, han, hg1, HA, HD, HI, S1⟩ := hrel
    by_cases hlt : a + 20 ≤ n
    · have hltz : ((a + 20 : Nat) : Int) ≤ (n : Int) := by omega
      go_wp2_with fail
      refine (HINS.out a (a + 20) d wr HD.out S1.out (by omega) hlt (in1_asc ASC.out HI.out hlt)).mono ?_
      rintro e w2 ⟨rfl, d2, hM, S2⟩
      have HI2 := Lib.hid (in1_step HI.out HA.out (by omega) (by omega) hlt HD.out HS0.out hM)
      have HD2 := Lib.hid (hM.1.1.trans HD.out)
      have HA2 : Hid ((a + 20) % 20 = 0) := Lib.hid (by have := HA.out; omega)
      have S2' : Aside _ := S2
      clear hM S2 S1
      go_wp2
      go_roundg (n - (a + 20))
      case measure => omega
      case rel => exact ⟨a + 20, d2, rfl, by first | rfl | (congr 1; omega), hlt, by omega, HA2, HD2, HI2, S2'⟩
    · have hltz : ¬ ((a + 20 : Nat) : Int) ≤ (n : Int) := by omega
      go_wp2_with fail
      refine (HINS.out a n d wr HD.out S1.out han (Nat.le_refl _) (in1_asc ASC.out HI.out (Nat.le_refl _))).mono ?_
      rintro e w2 ⟨rfl, d2, hM, S2⟩
      have HI2 : Hid (St key ix 20 n d0 d2) := Lib.hid (in1_end (in1_step HI.out HA.out han (by omega) (Nat.le_refl _) HD.out HS0.out hM))
      have HD2 := Lib.hid (hM.1.1.trans HD.out)
      have S2' : Aside _ := S2
      clear hM S2 S1 HI
      go_wp2
      go_loopg [6] n (fun g2 vb wr => ∃ (bs : Nat) (d : Array (Fin (N + 1))), vb = .int .i64 bs ∧ Hid (bs = 20 ∨ bs = 40 ∨ bs = 80 ∨ bs = 160) ∧ n - bs ≤ g2 ∧ Hid (d.size = n) ∧ Hid (St key ix bs n d0 d) ∧ Aside (SW encF w0 blk off d wr))
      case atStart => exact ⟨20, d2, by go_num, Lib.hid (.inl rfl), by omega, HD2, HI2, S2'⟩
      case round =>
        clear S2'
        obtain ⟨bs, e, rfl, HB, hg2, HE, HT, S3⟩ := hrel
        by_cases hbn : bs < n
        · have hbz : (bs : Int) < (n : Int) := by omega
          obtain ⟨b2, hb2, hBB⟩ : ∃ b2, bs + bs = b2 ∧ Hid (BB bs b2) := ⟨bs + bs, rfl, Lib.hid (by have := HB.out; unfold BB; omega)⟩
          have hb20 : 20 ≤ bs := by have := HB.out; omega
          have e2 : (2 : Int) * (bs : Int) = (b2 : Int) := by omega
          have e2' : (bs : Int) * 2 = (b2 : Int) := by omega
          have HJ0 := Lib.hid (st_init hBB.out HT.out)
          go_wp2
          go_loopg [7, 8] (n + 1) (fun g3 va vb wr => ∃ (a : Nat) (d : Array (Fin (N + 1))), va = .int .i64 a ∧ vb = .int .i64 (a + b2 : Nat) ∧ a ≤ n ∧ n - a ≤ g3 ∧ Hid (a % b2 = 0) ∧ Hid (d.size = n) ∧ Hid (Jn key ix bs b2 a n d0 d) ∧ Aside (SW encF w0 blk off d wr))
          case atStart => exact ⟨0, e, by go_num, by (congr 1; omega), by omega, by omega, Lib.hid (Nat.zero_mod _), HE, HJ0, S3⟩
          case round =>
            clear S3
            obtain ⟨a, d, rfl, rfl, han, hg3, HA, HD, HJ, S4⟩ := hrel
            by_cases hab : a + b2 ≤ n
            · have habz : ((a + b2 : Nat) : Int) ≤ (n : Int) := by omega
              go_wp2_with fail
              refine (HSYM.out a (a + bs) (a + b2) _ _ _ d wr rfl (by omega) rfl HD.out S4.out (by omega) (by omega) hab (st_pre hBB.out HJ.out HA.out (by omega) (Nat.le_refl _) hab)).mono ?_
              rintro ee w3 ⟨rfl, d3, hM, S5⟩
              have HJ2 := Lib.hid (st_merge hBB.out HJ.out HA.out (by omega) (Nat.le_refl _) hab HD.out HS0.out hM)
              have HD3 := Lib.hid (hM.1.1.trans HD.out)
              have HA2 : Hid ((a + b2) % b2 = 0) := Lib.hid (by rw [Nat.add_mod_right]; exact HA.out)
              have S5' : Aside _ := S5
              clear hM S5 S4
              go_wp2
              go_roundg (n - (a + b2))
              case measure => omega
              case rel => exact ⟨a + b2, d3, rfl, by first | rfl | (congr 1; omega), hab, by omega, HA2, HD3, HJ2, S5'⟩
            · have habz : ¬ ((a + b2 : Nat) : Int) ≤ (n : Int) := by omega
              by_cases hm : a + bs < n
              · have hmz : (a : Int) + (bs : Int) < (n : Int) := by omega
                go_wp2_with fail
                refine (HSYM.out a (a + bs) n _ _ _ d wr rfl (by omega) rfl HD.out S4.out (by omega) hm (Nat.le_refl _) (st_pre hBB.out HJ.out HA.out (by omega) (by omega) (Nat.le_refl _))).mono ?_
                rintro ee w3 ⟨rfl, d3, hM, S5⟩
                have HT2 := Lib.hid (st_end hBB.out (st_merge hBB.out HJ.out HA.out han (by omega) (Nat.le_refl _) HD.out HS0.out hM) (.inl (Nat.le_refl _)))
                have HD3 := Lib.hid (hM.1.1.trans HD.out)
                have HB2 : Hid (b2 = 20 ∨ b2 = 40 ∨ b2 = 80 ∨ b2 = 160) := Lib.hid (by have := HB.out; omega)
                have S5' : Aside _ := S5
                clear hM S5 S4
                go_wp2
                go_roundg (n - b2)
                case measure => omega
                case rel => exact ⟨b2, d3, rfl, HB2, by omega, HD3, HT2, S5'⟩
              · have hmz : ¬ (a : Int) + (bs : Int) < (n : Int) := by omega
                have HT2 := Lib.hid (st_end hBB.out HJ.out (.inr ⟨HA.out, by omega⟩))
                have HB2 : Hid (b2 = 20 ∨ b2 = 40 ∨ b2 = 80 ∨ b2 = 160) := Lib.hid (by have := HB.out; omega)
                go_wp2
                go_roundg (n - b2)
                case measure => omega
                case rel => exact ⟨b2, d, rfl, HB2, by omega, HD, HT2, S4⟩
        · have hbz : ¬ (bs : Int) < (n : Int) := by omega
          have HM := Lib.hid (st_whole HT.out (by omega))
          go_wp2
          go_end0
          exact ⟨rfl, e, HM.out, S3.out⟩
theorem sortStab_any (hl : ∀ x y, ltOf cf x y = decide (key x < key y)) (eg : ∀ args w, (callFunc g args).run Try.prog w = .ok (.enter g args) w) (hcmp : CmpLays1 Try.prog g cb encF cf blk off d0.size w0) (R : Row1 encF w0 blk off d0) (n : Nat) (w : World) (hs0 : d0.size = n) (hn : n ≤ 100) (S : SW encF w0 blk off d0 w) (asc : ∀ s t, s < t → t < n → ix d0[s]! < ix d0[t]!) :
    Calls Try.prog 75 #[.slice (some ⟨blk, off, none⟩) n cap, .func (.func g) #[] cb] w fun e w' => e = .returned (.tuple #[]) ∧ ∃ d', Mrg key ix 0 n d0 d' ∧ SW encF w0 blk off d' w' := by
  have hc := stab_any (cap := cap) hl eg hcmp R n w hs0 hn S asc
  clear hl eg hcmp R S asc
  go_enter Try.func75, Try.ntmps75
  go_wp2_with fail
  refine hc.mono ?_
  rintro e w' ⟨rfl, h⟩
  have H : Aside _ := h
  clear h hc
  go_wp2
  go_end0
  exact ⟨rfl, H.out⟩
end Go.Proofs.Ytidiiladlmaigaa
