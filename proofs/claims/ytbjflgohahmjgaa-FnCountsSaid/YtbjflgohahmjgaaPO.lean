/- Facts of FnCounts: a list's look-up, what counts between two times are. -/
import Derived.Test.YtbjflgohahmjgaaPC
import Derived.Test.YtbjflgohahmjgaaPM
import Derived.Test.YtbjflgohahmjgaaB9
namespace Go.Proofs.Ytbjflgohahmjgaa
open Go.ChangeShapes Go.WideShapes Go.ChangeAt Go.RowKit Go.Deep

def hasI (xs : List Int) (x : Int) : Bool := xs.any (fun y => y == x)
theorem hasI_yes {xs : List Int} {n k : Nat} {x : Int} (hn : xs.length = n) (hk : k < n) (h : (xs[k]?.getD 0 == x) = true) : hasI xs x = true := by
  rw [hasI, List.any_eq_true]
  rw [List.getElem?_eq_getElem (by omega), Option.getD_some] at h
  exact ⟨_, List.getElem_mem _, h⟩
theorem hasI_no {xs : List Int} {n : Nat} {x : Int} (hn : xs.length = n) (h : ∀ j, j < n → (xs[j]?.getD 0 == x) = false) : hasI xs x = false := by
  rw [hasI, List.any_eq_false]
  intro y hy
  obtain ⟨j, hj, rfl⟩ := List.getElem_of_mem hy
  have := h j (by omega)
  rw [List.getElem?_eq_getElem hj, Option.getD_some] at this
  simp [this]
theorem a2Has_any (a : Option Addr) (n c : Nat) (xs : List Int) (x : Int) (w : World) (h : Lst w a n xs) (hn : n ≤ 1048576) :
    Calls Try.prog 14 #[.slice a n c, .int .i64 x] w fun e w' => e = .returned (.bool (hasI xs x)) ∧ w = w' := by
  have hl : (n : Int) ≤ 1048576 := by omega
  have HL := Lib.hid h.1
  go_enter Try.func14, Try.ntmps14
  go_wp2
  go_loopw [5] (fun i wr => ∃ k : Nat, k ≤ n ∧ i = .int .i64 k ∧ (∀ j, j < k → (xs[j]?.getD 0 == x) = false) ∧ wr = w) (fun i _ => n - (Go.RowKit.intOf i).toNat)
  case atStart => exact ⟨0, Nat.zero_le _, rfl, fun j hj => absurd hj (by omega), rfl⟩
  case round =>
    obtain ⟨k, hk, rfl, hall, rfl⟩ := hrel
    have HALL := Lib.hid hall
    clear hall
    by_cases hlt : k < n
    · obtain ⟨b1, o1, rfl, -, hc⟩ := h.2 k hlt
      have hkk : (k : Int) < (n : Int) := by omega
      have HY := Lib.hid (hasI_yes (x := x) HL.out hlt)
      have HN : Hid ((xs[k]?.getD 0 == x) = false → ∀ j, j < k + 1 → (xs[j]?.getD 0 == x) = false) := Lib.hid fun hz j hj => by
        by_cases e : j = k
        · subst e; exact hz
        · exact HALL.out j (by omega)
      generalize xs[k]?.getD 0 = y at hc HY HN
      cases hv : (y == x)
      · have HK := Lib.hid (HN.out hv)
        go_wp2
        go_roundw
        case rel => exact ⟨k + 1, by omega, by go_num, HK.out, by first | rfl | trivial⟩
        case measure => simp [Go.RowKit.intOf]; omega
      · have HD := Lib.hid (HY.out hv)
        go_wp2
        go_ret
        exact ⟨by rw [HD.out]; rfl, rfl⟩
    · obtain rfl : k = n := by omega
      have HD := Lib.hid (hasI_no HL.out HALL.out)
      go_wp2
      go_ret
      exact ⟨by rw [HD.out]; rfl, rfl⟩
theorem cbT_get (f : Int) (n k : Nat) (hk : k < n) : (cbT f n)[k]?.getD 0 = f + (k : Nat) := by simp [cbT, hk]
theorem cbT_has (f : Int) (n : Nat) (x : Int) : hasI (cbT f n) x = (decide (f ≤ x) && decide (x < f + (n : Nat))) := by
  rw [Bool.eq_iff_iff, hasI, List.any_eq_true]
  simp only [cbT, List.mem_map, List.mem_range, Bool.and_eq_true, decide_eq_true_eq, beq_iff_eq]
  constructor
  · rintro ⟨y, ⟨j, hj, rfl⟩, rfl⟩; omega
  · rintro ⟨h1, h2⟩
    exact ⟨x, ⟨(x - f).toNat, by omega, by omega⟩, rfl⟩
/-- counts that lie between two times -/
theorem cnt_facts {a g lo hi : Int} (ha0 : 0 ≤ a) (ha1 : a ≤ 3000) (hg1 : 1 ≤ g) (hg2 : g ≤ 11000) (hl1 : 60 ≤ lo) (hl2 : lo ≤ 400) (hh1 : lo ≤ hi) (hh2 : hi ≤ 500) :
    cbC a (a + g) lo hi = 0 ∧ ∃ (F : Int) (K : Nat), cbL a (a + g) lo hi = cbT F K ∧ K ≤ 200 ∧ (1 ≤ F ∧ F ≤ 11000) ∧ ∀ n : Int, 1 ≤ n → hasI (cbT F K) n = (decide (lo * n ≤ g) && decide (g ≤ hi * n)) := by
  have e1 : a + g - a = g := by omega
  have hF : cbF a (a + g) hi = (g + hi - 1) / hi := by rw [cbF, e1, Int.tdiv_eq_ediv_of_nonneg (by omega)]
  have hE : cbE a (a + g) lo = g / lo := by rw [cbE, e1, Int.tdiv_eq_ediv_of_nonneg (by omega)]
  have f1 : ∀ n : Int, n ≤ g / lo ↔ n * lo ≤ g := fun n => Int.le_ediv_iff_mul_le (by omega)
  have f2 : ∀ n : Int, n + 1 ≤ (g + hi - 1) / hi ↔ (n + 1) * hi ≤ g + hi - 1 := fun n => Int.le_ediv_iff_mul_le (by omega)
  have hE1 : g / lo ≤ 184 := by
    by_cases h : g / lo ≤ 184
    · exact h
    · have h2 := (f1 185).1 (by omega)
      have h3 : (185 : Int) * 60 ≤ 185 * lo := by omega
      omega
  have hE0 : 0 ≤ g / lo := Int.ediv_nonneg (by omega) (by omega)
  have hF1 : 1 ≤ (g + hi - 1) / hi := by
    have := (f2 0).2 (by omega)
    omega
  have hF2 : (g + hi - 1) / hi ≤ 11000 := by
    by_cases h : (g + hi - 1) / hi ≤ 11000
    · exact h
    · have h2 := (f2 11000).1 (by omega)
      omega
  have hok : cbOk a (a + g) lo hi = true := by
    simp only [cbOk, Bool.and_eq_true, decide_eq_true_eq, tmB_iff, perB_iff]
    omega
  have hs : ¬ 200 ≤ cbE a (a + g) lo - cbF a (a + g) hi := by rw [hE, hF]; omega
  obtain ⟨hL, hC⟩ := cb_0 hok hs
  refine ⟨hC, _, _, hL, ?_, ?_, fun n hn => ?_⟩
  · rw [cbN, hE, hF]; omega
  · rw [hF]; exact ⟨hF1, hF2⟩
  · rw [cbT_has, cbN, hE, hF]
    have g1 := f1 n
    have g2 := f2 n
    rw [Int.add_mul, Int.one_mul] at g2
    rw [Int.mul_comm lo n, Int.mul_comm hi n, Bool.eq_iff_iff]
    simp only [Bool.and_eq_true, decide_eq_true_eq]
    omega
theorem per_facts {a g lo : Int} (ha0 : 0 ≤ a) (ha1 : a ≤ 3000) (hg1 : 1 ≤ g) (hg2 : g ≤ 11000) (hl1 : 60 ≤ lo) (hl2 : lo ≤ 400) :
    pbF (3, a) (3 + lo, a + g) = (lowN g lo, lowD g lo, 0) := by
  have h1 : (miB (3, a) && miB (3 + lo, a + g)) = true := by
    rw [Bool.and_eq_true, miB_iff, miB_iff]; omega
  rw [pb_0 h1 (by show ¬ (3 : Int) = 3 + lo; omega)]
  have e1 : (3 + lo, a + g).1 - ((3, a) : Int × Int).1 = lo := by show 3 + lo - 3 = lo; omega
  have e2 : (3 + lo, a + g).2 - ((3, a) : Int × Int).2 = g := by show a + g - a = g; omega
  rw [e1, e2]
  obtain ⟨q1, q2⟩ := qt_pos (a := g) (b := lo) (by omega)
  rw [q1, q2]
end Go.Proofs.Ytbjflgohahmjgaa
