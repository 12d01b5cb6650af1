/- StringLength, both sides. -/
import Derived.Test.YtkjdkjnhfdcafaaFE
import Derived.Test.YtkjdkjnhfdcafaaFO
import Derived.Test.YtkjdkjnhfdcafaaJ3
namespace Go.Proofs.Ytkjdkjnhfdcafaa
open Go.ChangeShapes Go.WideShapes Go.ChangeAt Go.RowKit Go.Deep

/-- the order of a light curve folded with a period -/
def ordP (p : Int) (xs : List Pt) : List Int := (idxL xs.length).mergeSort (leF 0 p xs)
theorem ordP_len (p : Int) (xs : List Pt) : (ordP p xs).length = xs.length := by rw [ordP, List.length_mergeSort, idxL_len]
theorem ordP_at {p : Int} {xs : List Pt} {n j : Nat} (hn : xs.length = n) (hj : j < n) : ∃ q : Nat, (ordP p xs)[j]?.getD 0 = (q : Int) ∧ q < n :=
  fold_nth (by rw [ordP_len, hn]) (by rw [← hn]; exact List.mergeSort_perm _ _) hj
/-- the string of the first k points in an order -/
def strN (xs : List Pt) (o : List Int) : Nat → Nat
  | 0 => 0
  | k + 1 => strN xs o k + ((xs[(o[k]?.getD 0).toNat]?.getD pt0).2 - (xs[(o[(k + 1) % o.length]?.getD 0).toNat]?.getD pt0).2).natAbs
theorem strN_step {xs : List Pt} {o : List Int} {n k q r : Nat} {x y : Pt} (ho : o.length = n) (h1 : o[k]?.getD 0 = (q : Int)) (h2 : o[(k + 1) % n]?.getD 0 = (r : Int)) (hx : xs[q]?.getD pt0 = x) (hy : xs[r]?.getD pt0 = y) : strN xs o (k + 1) = strN xs o k + (x.2 - y.2).natAbs := by
  rw [strN, ho, h1, h2, Int.toNat_natCast, Int.toNat_natCast, hx, hy]
theorem strN_le {xs : List Pt} {p : Int} {n : Nat} (hn : xs.length = n) (h : ∀ k, k < n → 0 ≤ (xs[k]?.getD pt0).1 ∧ (xs[k]?.getD pt0).1 ≤ 10000000 ∧ -2000 ≤ (xs[k]?.getD pt0).2 ∧ (xs[k]?.getD pt0).2 ≤ 20000) : ∀ k, k ≤ n → strN xs (ordP p xs) k ≤ 22000 * k
  | 0, _ => by simp [strN]
  | k + 1, hk => by
    have h1 := strN_le (p := p) hn h k (by omega)
    obtain ⟨q, hq, hq1⟩ := ordP_at (p := p) hn (j := k) (by omega)
    obtain ⟨r, hr, hr1⟩ := ordP_at (p := p) hn (j := (k + 1) % n) (Nat.mod_lt _ (by omega))
    have h2 := h q hq1
    have h3 := h r hr1
    rw [strN_step (by rw [ordP_len, hn]) hq hr rfl rfl]
    omega
/-- the length of the string with a period -/
def slN (xs : List Pt) (p : Int) : Nat := strN xs (ordP p xs) xs.length
theorem abs_comm2 (x y : Int) : (x - y).natAbs = (y - x).natAbs := by omega
theorem rem_nat (k n : Nat) : Int.tmod ((k : Int) + 1) (n : Int) = (((k + 1) % n : Nat) : Int) := by
  rw [Int.tmod_eq_emod_of_nonneg (by omega), Int.natCast_emod]; rfl
def slC (xs : List Pt) (p : Int) : Int := if okP xs then (if perB p then (if xs.length ≤ 40 then 0 else 5) else 2) else 1
def slA (xs : List Pt) (p : Int) : Int := if slC xs p = 0 then (slN xs p : Int) else 0
theorem sl_1 {xs : List Pt} {p : Int} (h : okP xs = false) : slC xs p = 1 ∧ slA xs p = 0 := by simp [slA, slC, h]
theorem sl_2 {xs : List Pt} {p : Int} (h : okP xs = true) (h2 : perB p = false) : slC xs p = 2 ∧ slA xs p = 0 := by simp [slA, slC, h, h2]
theorem sl_5 {xs : List Pt} {p : Int} {n : Nat} (hn : xs.length = n) (h : okP xs = true) (h2 : perB p = true) (h3 : ¬ n ≤ 40) : slC xs p = 5 ∧ slA xs p = 0 := by simp [slA, slC, h, h2, hn, h3]
theorem sl_0 {xs : List Pt} {p : Int} {n : Nat} (hn : xs.length = n) (h : okP xs = true) (h2 : perB p = true) (h3 : n ≤ 40) : slC xs p = 0 ∧ slA xs p = (slN xs p : Int) := by simp [slA, slC, h, h2, hn, h3]
set_option maxRecDepth 100000 in
set_option maxHeartbeats 2000000 in
theorem iStrL_any (p : Int) (a : Option Addr) (n c : Nat) (xs : List Pt) (w : World) (h : PtL w a n xs) (hok : okP xs = true) (h3 : 1 ≤ p) (h4 : p ≤ 1000000) :
    Calls Try.prog 63 #[.slice a n c, .int .i64 p] w fun x w' => x = .returned (.int .i64 (slN xs p : Nat)) ∧ Below w.heap.size w w' := by
  obtain ⟨h100, hbd, -⟩ := okP_num h.1 hok
  have hle := strN_le (p := p) h.1 hbd
  have hl : (n : Int) ≤ 100 := by omega
  have HL := Lib.hid h.1
  have HOL : Hid ((ordP p xs).length = n) := Lib.hid (by rw [ordP_len, h.1])
  have HV : Hid (slN xs p = strN xs (ordP p xs) n) := Lib.hid (by rw [slN, h.1])
  have HAT := Lib.hid (fun j (hj : j < n) => ordP_at (p := p) h.1 hj)
  have HF := Lib.hid (fun (W : World) (hW : PtL W a n xs) => iFoldM_any 0 p a n c xs W hW h100 (by omega) (by omega) h3 h4 (fun k (hk : k < n) => (⟨(hbd k hk).1, (hbd k hk).2.1⟩ : 0 ≤ (xs[k]?.getD pt0).1 ∧ (xs[k]?.getD pt0).1 ≤ 10000000)))
  clear hok
  go_enter Try.func63, Try.ntmps63
  go_wp2_with fail
  refine (HF.out w h).mono ?_
  rintro x w2 ⟨b, rfl, hown, b2⟩
  have hown : w2.ownsRow w.heap.size 2 1 (.slice (some ⟨b, 0, none⟩) n n) n ((ordP p xs).map (Value.int .i64)) := by rw [ordP, HL.out]; exact hown
  have HO := Lib.hid hown
  have hbw := (hown.lt b rfl).2
  clear hown
  have h2 := h.mono b2
  generalize ordP p xs = o at HO HOL HV HAT hle
  go_wp2
  go_loopw [6, 16] (fun s i wr => ∃ k : Nat, k ≤ n ∧ i = .int .i64 k ∧ s = .int .i64 ((strN xs o k : Nat) : Int) ∧ Below w2.heap.size w2 wr) (fun _ i _ => n - (Go.RowKit.intOf i).toNat)
  case atStart => exact ⟨0, Nat.zero_le _, rfl, rfl, Below.refl _ _⟩
  case round =>
    obtain ⟨k, hk, rfl, rfl, hB⟩ := hrel
    by_cases hlt : k < n
    · obtain ⟨q, hq, hqn⟩ := HAT.out k hlt
      obtain ⟨r, hr, hrn⟩ := HAT.out ((k + 1) % n) (Nat.mod_lt _ (by omega))
      have hown := ownKeepF HO.out hB
      have c1 : wr.cell? ⟨b, k, none⟩ = some (.int .i64 (q : Int)) := by rw [hown.cellAt k (by omega)]; simp; rw [← hq]; simp [List.getElem?_eq_getElem (show k < o.length by rw [HOL.out]; omega)]
      have hm : (k + 1) % n < n := Nat.mod_lt _ (by omega)
      obtain ⟨m, hm1⟩ : ∃ m, (k + 1) % n = m := ⟨_, rfl⟩
      have hre := rem_nat k n
      rw [hm1] at hr hm hre
      have c2 : wr.cell? ⟨b, m, none⟩ = some (.int .i64 (r : Int)) := by rw [hown.cellAt m (by omega)]; simp; rw [← hr]; simp [List.getElem?_eq_getElem (show m < o.length by rw [HOL.out]; omega)]
      obtain ⟨b1, o1, rfl, hS⟩ := h2.2 q hqn
      obtain ⟨b1', o1', he, hS'⟩ := h2.2 r hrn
      cases he
      obtain ⟨⟨x0, x1⟩, hx⟩ : ∃ x, xs[q]?.getD pt0 = x := ⟨_, rfl⟩
      obtain ⟨⟨y0, y1⟩, hy⟩ : ∃ x, xs[r]?.getD pt0 = x := ⟨_, rfl⟩
      have HS := Lib.hid (strN_step (xs := xs) HOL.out hq (by rw [hm1]; exact hr) hx hy)
      have hb1 := hbd q hqn
      have hb2 := hbd r hrn
      have hp := hle k (by omega)
      rw [hx] at hS hb1
      rw [hy] at hS' hb2
      obtain ⟨-, p0, p1⟩ := (hS.mono hB).parts
      obtain ⟨-, q0, q1⟩ := (hS'.mono hB).parts
      generalize strN xs o k = P at HS hp ⊢
      clear hx hy hS hS' hle hbd hown hq hr hm1
      have hkk : (k : Int) < (n : Int) := by omega
      have hmn : (m : Int) < (n : Int) := by omega
      have hqq : (q : Int) < (n : Int) := by omega
      have hrr : (r : Int) < (n : Int) := by omega
      have hn0 : ¬ (n : Int) = 0 := by omega
      have hw3 := path_bound (p := P) (q := (x1 - y1).natAbs) (k := k) hp (by omega) (by omega)
      have hw1 : IntKind.i64.wrap ((k : Int) + 1) = (k : Int) + 1 := IntWalk.i64_in _ (by omega)
      go_wp2
      go_big_quiet ((go_at_call 75; refine Calls.quiet_of_same (flipP (dist_any _ _ _ (by omega) (by omega) (by omega) (by omega)))))
      go_wp2
      go_roundw
      case rel => exact ⟨k + 1, by omega, by go_num, by rw [HS.out]; go_num, belowDN hB _⟩
      case measure => simp [Go.RowKit.intOf]; omega
    · obtain rfl : k = n := by omega
      go_wp2
      go_ret
      exact ⟨by rw [HV.out]; rfl, belowCall b2 hB⟩
theorem iStrLen_any (p : Int) (a : Option Addr) (n c : Nat) (xs : List Pt) (w : World) (h : PtL w a n xs) (hn : n ≤ 1048576) :
    Calls Try.prog 26 #[.slice a n c, .int .i64 p] w fun e w' => e = .returned (.tuple #[.int .i64 (slA xs p), .int .i64 (slC xs p)]) ∧ Below w.heap.size w w' := by
  cases hok : okP xs
  · have HD := Lib.hid (sl_1 (p := p) hok)
    go_enter Try.func26, Try.ntmps26
    go_wp2_with fail
    refine (iValidCv_any a n c xs w h hn).mono ?_
    rintro x w2 ⟨rfl, b2⟩
    rw [hok]
    go_wp2
    go_ret2
    exact ⟨by rw [HD.out.1, HD.out.2]; rfl, b2⟩
  cases hp : perB p
  · have HD := Lib.hid (sl_2 hok hp)
    go_enter Try.func26, Try.ntmps26
    go_wp2_with fail
    refine (iValidCv_any a n c xs w h hn).mono ?_
    rintro x w2 ⟨rfl, b2⟩
    rw [hok]
    go_wp2_with (go_at_call 54; refine (isPer_any _ _).mono ?_; rintro x w' ⟨rfl, rfl⟩; rw [hp])
    go_ret2
    exact ⟨by rw [HD.out.1, HD.out.2]; rfl, b2⟩
  by_cases h40 : n ≤ 40
  · have HD := Lib.hid (sl_0 h.1 hok hp h40)
    have hi : ¬ (40 : Int) < (n : Int) := by omega
    obtain ⟨p1, p2⟩ := perB_iff.1 hp
    have HA := Lib.hid (fun (W : World) (hW : PtL W a n xs) => iStrL_any p a n c xs W hW hok p1 p2)
    generalize slN xs p = m at HA HD
    go_enter Try.func26, Try.ntmps26
    go_wp2_with fail
    refine (iValidCv_any a n c xs w h hn).mono ?_
    rintro x w2 ⟨rfl, b2⟩
    rw [hok]
    go_wp2_with (first | (go_at_call 54; refine (isPer_any _ _).mono ?_; rintro x w' ⟨rfl, rfl⟩; rw [hp]) | (go_at_call 63; refine (HA.out _ (h.mono b2)).mono ?_; rintro x w3 ⟨rfl, b3⟩))
    go_ret2
    exact ⟨by rw [HD.out.1, HD.out.2]; rfl, belowCall b2 b3⟩
  · have HD := Lib.hid (sl_5 h.1 hok hp h40)
    have hi : (40 : Int) < (n : Int) := by omega
    go_enter Try.func26, Try.ntmps26
    go_wp2_with fail
    refine (iValidCv_any a n c xs w h hn).mono ?_
    rintro x w2 ⟨rfl, b2⟩
    rw [hok]
    go_wp2_with (go_at_call 54; refine (isPer_any _ _).mono ?_; rintro x w' ⟨rfl, rfl⟩; rw [hp])
    go_ret2
    exact ⟨by rw [HD.out.1, HD.out.2]; rfl, b2⟩
set_option maxRecDepth 100000 in
set_option maxHeartbeats 2000000 in
theorem sStrL_any (p : Int) (a : Option Addr) (n c : Nat) (xs : List Pt) (w : World) (h : PtL w a n xs) (hok : okP xs = true) (h3 : 1 ≤ p) (h4 : p ≤ 1000000) :
    Calls Try.prog 60 #[.slice a n c, .int .i64 p] w fun x w' => x = .returned (.int .i64 (slN xs p : Nat)) ∧ Below w.heap.size w w' := by
  obtain ⟨h100, hbd, -⟩ := okP_num h.1 hok
  have hle := strN_le (p := p) h.1 hbd
  have hl : (n : Int) ≤ 100 := by omega
  have HL := Lib.hid h.1
  have HOL : Hid ((ordP p xs).length = n) := Lib.hid (by rw [ordP_len, h.1])
  have HV : Hid (slN xs p = strN xs (ordP p xs) n) := Lib.hid (by rw [slN, h.1])
  have HAT := Lib.hid (fun j (hj : j < n) => ordP_at (p := p) h.1 hj)
  have HF := Lib.hid (fun (W : World) (hW : PtL W a n xs) => l09Fold_any 0 p a n c xs W hW h100 (by omega) (by omega) h3 h4 (fun k (hk : k < n) => (⟨(hbd k hk).1, (hbd k hk).2.1⟩ : 0 ≤ (xs[k]?.getD pt0).1 ∧ (xs[k]?.getD pt0).1 ≤ 10000000)))
  clear hok
  go_enter Try.func60, Try.ntmps60
  go_wp2_with fail
  refine (HF.out w h).mono ?_
  rintro x w2 ⟨b, cb, rfl, hown, b2⟩
  have hown : w2.ownsRow w.heap.size 2 1 (.slice (some ⟨b, 0, none⟩) n cb) n ((ordP p xs).map (Value.int .i64)) := by rw [ordP, HL.out]; exact hown
  have HO := Lib.hid hown
  have hbw := (hown.lt b rfl).2
  clear hown
  have h2 := h.mono b2
  generalize ordP p xs = o at HO HOL HV HAT hle
  go_wp2
  go_loopw [6, 7] (fun s i wr => ∃ k : Nat, k ≤ n ∧ i = .int .i64 k ∧ s = .int .i64 ((strN xs o k : Nat) : Int) ∧ Below w2.heap.size w2 wr) (fun _ i _ => n - (Go.RowKit.intOf i).toNat)
  case atStart => exact ⟨0, Nat.zero_le _, rfl, rfl, Below.refl _ _⟩
  case round =>
    obtain ⟨k, hk, rfl, rfl, hB⟩ := hrel
    by_cases hlt : k < n
    · obtain ⟨q, hq, hqn⟩ := HAT.out k hlt
      obtain ⟨r, hr, hrn⟩ := HAT.out ((k + 1) % n) (Nat.mod_lt _ (by omega))
      have hown := ownKeepF HO.out hB
      have c1 : wr.cell? ⟨b, k, none⟩ = some (.int .i64 (q : Int)) := by rw [hown.cellAt k (by omega)]; simp; rw [← hq]; simp [List.getElem?_eq_getElem (show k < o.length by rw [HOL.out]; omega)]
      have hm : (k + 1) % n < n := Nat.mod_lt _ (by omega)
      obtain ⟨m, hm1⟩ : ∃ m, (k + 1) % n = m := ⟨_, rfl⟩
      have hre := rem_nat k n
      rw [hm1] at hr hm hre
      have c2 : wr.cell? ⟨b, m, none⟩ = some (.int .i64 (r : Int)) := by rw [hown.cellAt m (by omega)]; simp; rw [← hr]; simp [List.getElem?_eq_getElem (show m < o.length by rw [HOL.out]; omega)]
      obtain ⟨b1, o1, rfl, hS⟩ := h2.2 q hqn
      obtain ⟨b1', o1', he, hS'⟩ := h2.2 r hrn
      cases he
      obtain ⟨⟨x0, x1⟩, hx⟩ : ∃ x, xs[q]?.getD pt0 = x := ⟨_, rfl⟩
      obtain ⟨⟨y0, y1⟩, hy⟩ : ∃ x, xs[r]?.getD pt0 = x := ⟨_, rfl⟩
      have HS := Lib.hid (show strN xs o (k + 1) = strN xs o k + (y1 - x1).natAbs by rw [strN_step (xs := xs) HOL.out hq (by rw [hm1]; exact hr) hx hy, abs_comm2])
      have hb1 := hbd q hqn
      have hb2 := hbd r hrn
      have hp := hle k (by omega)
      rw [hx] at hS hb1
      rw [hy] at hS' hb2
      obtain ⟨-, p0, p1⟩ := (hS.mono hB).parts
      obtain ⟨-, q0, q1⟩ := (hS'.mono hB).parts
      generalize strN xs o k = P at HS hp ⊢
      clear hx hy hS hS' hle hbd hown hq hr hm1
      have hkk : (k : Int) < (n : Int) := by omega
      have hmn : (m : Int) < (n : Int) := by omega
      have hqq : (q : Int) < (n : Int) := by omega
      have hrr : (r : Int) < (n : Int) := by omega
      have hn0 : ¬ (n : Int) = 0 := by omega
      have hw0 : IntKind.i64.wrap (y1 - x1) = y1 - x1 := IntWalk.i64_in _ (by omega)
      have hw3 := path_bound (p := P) (q := (y1 - x1).natAbs) (k := k) hp (by omega) (by omega)
      have hw1 : IntKind.i64.wrap ((k : Int) + 1) = (k : Int) + 1 := IntWalk.i64_in _ (by omega)
      go_wp2
      go_big_quiet ((go_at_call 84; refine Calls.quiet_of_same (flipP (l02Size_any _ _ (by omega) (by omega)))))
      go_wp2
      go_roundw
      case rel => exact ⟨k + 1, by omega, by go_num, by rw [HS.out]; go_num, belowDN hB _⟩
      case measure => simp [Go.RowKit.intOf]; omega
    · obtain rfl : k = n := by omega
      go_wp2
      go_ret
      exact ⟨by rw [HV.out]; rfl, belowCall b2 hB⟩
theorem sStrLen_any (p : Int) (a : Option Addr) (n c : Nat) (xs : List Pt) (w : World) (h : PtL w a n xs) (hn : n ≤ 1048576) :
    Calls Try.prog 24 #[.slice a n c, .int .i64 p] w fun e w' => e = .returned (.tuple #[.int .i64 (slA xs p), .int .i64 (slC xs p)]) ∧ Below w.heap.size w w' := by
  cases hok : okP xs
  · have HD := Lib.hid (sl_1 (p := p) hok)
    go_enter Try.func24, Try.ntmps24
    go_wp2_with fail
    refine (l08Ok_below a n c xs w h hn).mono ?_
    rintro x w2 ⟨rfl, b2⟩
    rw [hok]
    go_wp2
    go_ret2
    exact ⟨by rw [HD.out.1, HD.out.2]; rfl, b2⟩
  cases hp : perB p
  · have HD := Lib.hid (sl_2 hok hp)
    go_enter Try.func24, Try.ntmps24
    go_wp2_with fail
    refine (l08Ok_below a n c xs w h hn).mono ?_
    rintro x w2 ⟨rfl, b2⟩
    rw [hok]
    go_wp2_with (go_at_call 59; refine (l09Per_any _ _).mono ?_; rintro x w' ⟨rfl, rfl⟩; rw [hp])
    go_ret2
    exact ⟨by rw [HD.out.1, HD.out.2]; rfl, b2⟩
  by_cases h40 : n ≤ 40
  · have HD := Lib.hid (sl_0 h.1 hok hp h40)
    have hi : ¬ (40 : Int) < (n : Int) := by omega
    obtain ⟨p1, p2⟩ := perB_iff.1 hp
    have HA := Lib.hid (fun (W : World) (hW : PtL W a n xs) => sStrL_any p a n c xs W hW hok p1 p2)
    generalize slN xs p = m at HA HD
    go_enter Try.func24, Try.ntmps24
    go_wp2_with fail
    refine (l08Ok_below a n c xs w h hn).mono ?_
    rintro x w2 ⟨rfl, b2⟩
    rw [hok]
    go_wp2_with (first | (go_at_call 59; refine (l09Per_any _ _).mono ?_; rintro x w' ⟨rfl, rfl⟩; rw [hp]) | (go_at_call 60; refine (HA.out _ (h.mono b2)).mono ?_; rintro x w3 ⟨rfl, b3⟩))
    go_ret2
    exact ⟨by rw [HD.out.1, HD.out.2]; rfl, belowCall b2 b3⟩
  · have HD := Lib.hid (sl_5 h.1 hok hp h40)
    have hi : (40 : Int) < (n : Int) := by omega
    go_enter Try.func24, Try.ntmps24
    go_wp2_with fail
    refine (l08Ok_below a n c xs w h hn).mono ?_
    rintro x w2 ⟨rfl, b2⟩
    rw [hok]
    go_wp2_with (go_at_call 59; refine (l09Per_any _ _).mono ?_; rintro x w' ⟨rfl, rfl⟩; rw [hp])
    go_ret2
    exact ⟨by rw [HD.out.1, HD.out.2]; rfl, b2⟩
end Go.Proofs.Ytkjdkjnhfdcafaa
