/- The model's decimal form (l01Dec) over one seat's translation. -/
import Derived.Test.YtfnjndbnogeddaaDoorB3
import Derived.WalkLawsBesides
import Derived.Laws.Rows
import Derived.Laws.BytesString
import Derived.Laws.IdiomStrings
import Derived.Lib.ItoaNum
namespace Go.Proofs.YtfnjndbnogeddaaDoor
open Go.ChangeShapes Go.WideShapes Go.ChangeAt Go.RowKit

/-! ### Digits -/
def digs (u : Nat) : List UInt8 := if u = 0 then [] else Lib.decDigits u
theorem digs_step (u : Nat) (h : u ≠ 0) : digs u = digs (u / 10) ++ [UInt8.ofNat (48 + u % 10)] := by
  rw [digs, if_neg h]
  by_cases h10 : u < 10
  · rw [Lib.decDigits_one h10, digs, if_pos (by omega), show u % 10 = u from by omega]; rfl
  · rw [Lib.decDigits, dif_neg h10, digs, if_neg (by omega)]
def bytesV (l : List UInt8) : List Value := l.map fun b => Value.int .u8 (b.toNat : Int)
theorem dig_val (j : Nat) : ((UInt8.ofNat (48 + j % 10)).toNat : Int) = 48 + (j : Int) % 10 := by
  have h : (UInt8.ofNat (48 + j % 10)).toNat = 48 + j % 10 := by
    rw [UInt8.toNat_ofNat']; omega
  rw [h]; omega
theorem bytesV_cons (j : Nat) (l : List UInt8) : Value.int .u8 (48 + (j : Int) % 10) :: bytesV l = bytesV (UInt8.ofNat (48 + j % 10) :: l) := by
  simp only [bytesV, List.map_cons, dig_val]
theorem len_bound {j u len : Nat} (hj : j ≠ 0) (h : j * 10 ^ len ≤ u) (hu : u ≤ 9223372036854775808) : len ≤ 19 := by
  by_cases hl : len ≤ 19
  · exact hl
  · exfalso
    have h1 : 10 ^ 20 ≤ 10 ^ len := Nat.pow_le_pow_right (by omega) (by omega)
    have h2 : 1 * 10 ^ len ≤ j * 10 ^ len := Nat.mul_le_mul_right _ (by omega)
    omega
theorem own_bytes {w : World} {base e g c : Nat} {l : List UInt8} (h : w.ownsRow base e 1 (.slice (some ⟨g, 0, none⟩) l.length c) l.length (bytesV l)) :
    ∀ j (hj : j < l.length), w.cell? ((⟨g, 0, none⟩ : Addr).add j) = some (.int .u8 (l[j].toNat : Int)) := by
  intro j hj
  rw [Go.WideShapes.add_plain, Nat.zero_add, h.cellAt j (by omega)]
  simp [bytesV, hj]
theorem itoa_pos (u : Nat) : Lib.itoa (u : Int) = Lib.decDigits u := by
  unfold Lib.itoa; rw [if_neg (by omega)]; rfl
theorem itoa_neg' (u : Nat) (h : 1 ≤ u) : Lib.itoa (-(u : Int)) = 45 :: Lib.decDigits u := by
  unfold Lib.itoa; rw [if_pos (by omega)]; congr 1; congr 1; omega
theorem digs_zero {u : Nat} {l : List UInt8} (h : digs u = digs 0 ++ l) : (l = [] ∧ u = 0) ∨ (l.length ≠ 0 ∧ u ≠ 0 ∧ l = Lib.decDigits u) := by
  rw [show digs 0 = [] from rfl, List.nil_append] at h
  by_cases hu : u = 0
  · subst hu; exact .inl ⟨h.symm, rfl⟩
  · have h2 := digs_step u hu
    rw [digs, if_neg hu] at h
    refine .inr ⟨?_, hu, h.symm⟩
    rw [← h]
    rw [digs, if_neg hu] at h2
    rw [h2]; simp
theorem U_info : (Tryd.prog.info? 5).map (fun i => (i.zero, i.size, i.bytes)) = some (some (.int .u8 0), 1, 1) := by kernel_rfl

set_option maxRecDepth 100000 in
theorem l01Dec_any (n : Int) (w : World) (h1 : -9223372036854775808 ≤ n) (h2 : n ≤ 9223372036854775807) :
    Calls Tryd.prog 32 #[.int .i64 n] w fun e w' => e = .returned (.string ⟨(Lib.itoa n).toArray⟩) ∧ Below w.heap.size w w' := by
  obtain ⟨i0, hi, hz0, hz1, hz2⟩ := info_parts U_info
  go_enter Tryd.func32, Tryd.ntmps32
  go_wp2
  by_cases hneg : n < 0
  · obtain ⟨u, hu⟩ : ∃ u : Nat, n = -(u : Int) := ⟨n.natAbs, by omega⟩
    subst hu
    have hu1 : 1 ≤ u := by omega
    go_loopw [3, 4] (fun o k wr => ∃ (j : Nat) (l : List UInt8) (g c : Nat), j ≤ 9223372036854775808 ∧ k = .int .i64 (-(j : Int)) ∧ digs u = digs j ++ l ∧ j * 10 ^ l.length ≤ u ∧ l.length ≤ 20 ∧ o = .slice (some ⟨g, 0, none⟩) l.length c ∧ wr.ownsRow w.heap.size 5 1 o l.length (bytesV l) ∧ Below w.heap.size w wr) (fun _ k _ => (-(intOf k)).toNat)
    case atStart => exact ⟨u, [], w.heap.size, 0, by omega, rfl, by simp, by simp, by simp, rfl, by exact World.ownsRow_lit w #[] 0 (Nat.le_refl _) (by unfold maxLen; omega) rfl, (Below.refl _ _).alloc (Nat.le_refl _) _⟩
    case round =>
      obtain ⟨j, l, g, c, hj, rfl, hd, hp, hl20, rfl, hown, hB⟩ := hrel
      have HD := Lib.hid hd
      have HP := Lib.hid hp
      clear hd hp
      by_cases hz : j = 0
      · have hz' : ((-(j : Int)) != 0) = false := by simp [hz]
        have hcv := run_convert_bytes_back (P := Tryd.prog) wr 40 9 5 ⟨g, 0, none⟩ c l Tryd.underlying40 Tryd.underlying5 Tryd.underlying9 (own_bytes hown)
        have hd2 := HD.out
        rw [hz] at hd2
        rcases digs_zero hd2 with ⟨hl, hu⟩ | ⟨hl, hu, hl2⟩
        · omega
        · have HR : Hid (Lib.itoa (-(u : Int)) = 45 :: l) := by rw [itoa_neg' u hu1, ← hl2]; exact rfl
          have hl0 : ((l.length : Int) == 0) = false := by simpa using hl
          clear hl hu hl2 hd2 hz
          have hcat : ((⟨#[45]⟩ : ByteArray) ++ (⟨l.toArray⟩ : ByteArray)) = ⟨(45 :: l).toArray⟩ := by apply ByteArray.ext; simp
          have HC := Lib.hid hcat
          clear hcat
          have hsz : ¬ 9223372036854775807 < 1 + l.length := by omega
          go_wp2
          go_ret
          exact ⟨by rw [HR.out, ← HC.out]; rfl, hB⟩
      · have hz' : ((-(j : Int)) != 0) = true := by simp; omega
        have hll : l.length ≤ 19 := len_bound hz HP.out (by omega)
        have e0 : 0 ≤ (j : Int) % 10 := by omega
        have e1 : (j : Int) % 10 ≤ 9 := by omega
        have td : (-(j : Int)).tdiv 10 = -((j : Int) / 10) := by rw [Int.neg_tdiv, Int.tdiv_eq_ediv_of_nonneg (by omega)]
        by_cases hm : 0 < (j : Int) % 10
        · have tm : (-(j : Int)).tmod 10 = -((j : Int) % 10) := by rw [Int.neg_tmod, Int.tmod_eq_emod_of_nonneg (by omega)]
          go_wp2_with (at_builtin; refine wpList_append_own _ rfl _ _ 40 rfl w.heap.size 5 i0 (.int .u8 0) 1 1 Tryd.underlying40 hi hz0 hz1 hz2 rfl (by decide) _ 1 [.int .u8 (48 + (j : Int) % 10)] rfl ?c0 ⟨g, 0, none⟩ l.length c (bytesV l) rfl ?cl ?c1 ?c2 ?c3 ?c4 ?c5 ?_)
          case c0 => exact World.ownsRow_lit wr #[.int .u8 (48 + (j : Int) % 10)] 1 hB.size (by unfold maxLen; omega) rfl
          case cl => simp [bytesV]
          case c1 => intro j' u hj'; have hh := (hown.alloc (.cells #[.int .u8 (48 + (j : Int) % 10)] 5)).cells rfl j' u hj'; simpa [Go.WideShapes.add_plain] using hh
          case c2 => intro u hu; simp only [bytesV, List.mem_map] at hu; obtain ⟨b, _, rfl⟩ := hu; rfl
          case c3 => unfold maxLen; omega
          case c4 => omega
          case c5 => have := hB.size; first | omega | (simp; omega)
          intro v' wb hownb hgb hnil
          have hBb : Below w.heap.size w wb := (hB.alloc hB.size _).grown hgb (by have := hB.size; first | omega | (simp; omega)) (fun k hk => by simp [Value.ownBlock] at hk; have := hB.size; omega)
          rw [bytesV_cons, Nat.add_comm 1 l.length] at hownb
          rcases hownb.2 with ⟨_, h0⟩ | ⟨g', c', cur, hv', _⟩
          · omega
          · subst hv'
            have hd' : digs u = digs (j / 10) ++ (UInt8.ofNat (48 + j % 10) :: l) := by rw [HD.out, digs_step j hz]; simp
            have hp' : j / 10 * 10 ^ (UInt8.ofNat (48 + j % 10) :: l).length ≤ u := by
              have := HP.out
              rw [List.length_cons, Nat.pow_succ, Nat.mul_comm (10 ^ l.length) 10, ← Nat.mul_assoc]
              exact Nat.le_trans (Nat.mul_le_mul_right _ (by omega)) this
            have HD' := Lib.hid hd'
            have HP' := Lib.hid hp'
            clear hd' hp' hnil hgb hown hB
            go_wp2
            go_roundw
            case rel => exact ⟨j / 10, _, g', c', by omega, by congr 1, HD'.out, HP'.out, by rw [List.length_cons]; omega, rfl, hownb, hBb⟩
            case measure => simp [intOf]; omega
        · have tm : (-(j : Int)).tmod 10 = 0 := by rw [Int.neg_tmod, Int.tmod_eq_emod_of_nonneg (by omega)]; omega
          go_wp2_with (at_builtin; refine wpList_append_own _ rfl _ _ 40 rfl w.heap.size 5 i0 (.int .u8 0) 1 1 Tryd.underlying40 hi hz0 hz1 hz2 rfl (by decide) _ 1 [.int .u8 48] rfl ?c0 ⟨g, 0, none⟩ l.length c (bytesV l) rfl ?cl ?c1 ?c2 ?c3 ?c4 ?c5 ?_)
          case c0 => exact World.ownsRow_lit wr #[.int .u8 48] 1 hB.size (by unfold maxLen; omega) rfl
          case cl => simp [bytesV]
          case c1 => intro j' u hj'; have hh := (hown.alloc (.cells #[.int .u8 48] 5)).cells rfl j' u hj'; simpa [Go.WideShapes.add_plain] using hh
          case c2 => intro u hu; simp only [bytesV, List.mem_map] at hu; obtain ⟨b, _, rfl⟩ := hu; rfl
          case c3 => unfold maxLen; omega
          case c4 => omega
          case c5 => have := hB.size; first | omega | (simp; omega)
          intro v' wb hownb hgb hnil
          have hBb : Below w.heap.size w wb := (hB.alloc hB.size _).grown hgb (by have := hB.size; first | omega | (simp; omega)) (fun k hk => by simp [Value.ownBlock] at hk; have := hB.size; omega)
          rw [show (48 : Int) = 48 + (j : Int) % 10 from by omega] at hownb
          rw [bytesV_cons, Nat.add_comm 1 l.length] at hownb
          rcases hownb.2 with ⟨_, h0⟩ | ⟨g', c', cur, hv', _⟩
          · omega
          · subst hv'
            have hd' : digs u = digs (j / 10) ++ (UInt8.ofNat (48 + j % 10) :: l) := by rw [HD.out, digs_step j hz]; simp
            have hp' : j / 10 * 10 ^ (UInt8.ofNat (48 + j % 10) :: l).length ≤ u := by
              have := HP.out
              rw [List.length_cons, Nat.pow_succ, Nat.mul_comm (10 ^ l.length) 10, ← Nat.mul_assoc]
              exact Nat.le_trans (Nat.mul_le_mul_right _ (by omega)) this
            have HD' := Lib.hid hd'
            have HP' := Lib.hid hp'
            clear hd' hp' hnil hgb hown hB
            go_wp2
            go_roundw
            case rel => exact ⟨j / 10, _, g', c', by omega, by congr 1, HD'.out, HP'.out, by rw [List.length_cons]; omega, rfl, hownb, hBb⟩
            case measure => simp [intOf]; omega
  · obtain ⟨u, rfl⟩ := Int.eq_ofNat_of_zero_le (show 0 ≤ n by omega)
    go_loopw [3, 4] (fun o k wr => ∃ (j : Nat) (l : List UInt8) (g c : Nat), j ≤ 9223372036854775807 ∧ k = .int .i64 j ∧ digs u = digs j ++ l ∧ j * 10 ^ l.length ≤ u ∧ l.length ≤ 20 ∧ o = .slice (some ⟨g, 0, none⟩) l.length c ∧ wr.ownsRow w.heap.size 5 1 o l.length (bytesV l) ∧ Below w.heap.size w wr) (fun _ k _ => (intOf k).toNat)
    case atStart => exact ⟨u, [], w.heap.size, 0, by omega, rfl, by simp, by simp, by simp, rfl, by exact World.ownsRow_lit w #[] 0 (Nat.le_refl _) (by unfold maxLen; omega) rfl, (Below.refl _ _).alloc (Nat.le_refl _) _⟩
    case round =>
      obtain ⟨j, l, g, c, hj, rfl, hd, hp, hl20, rfl, hown, hB⟩ := hrel
      have HD := Lib.hid hd
      have HP := Lib.hid hp
      clear hd hp
      by_cases hz : j = 0
      · have hz' : ((j : Int) != 0) = false := by simp [hz]
        have hcv := run_convert_bytes_back (P := Tryd.prog) wr 40 9 5 ⟨g, 0, none⟩ c l Tryd.underlying40 Tryd.underlying5 Tryd.underlying9 (own_bytes hown)
        have hd2 := HD.out
        rw [hz] at hd2
        rcases digs_zero hd2 with ⟨hl, hu⟩ | ⟨hl, hu, hl2⟩
        · have HR : Hid (Lib.itoa (u : Int) = [48]) := by rw [itoa_pos, hu]; exact Lib.decDigits_one (by omega)
          have hl0 : ((l.length : Int) == 0) = true := by simp [hl]
          clear hl hu hd2 hz
          go_wp2
          go_ret
          exact ⟨by rw [HR.out]; rfl, hB⟩
        · have HR : Hid (Lib.itoa (u : Int) = l) := by rw [itoa_pos]; exact hl2.symm
          have hl0 : ((l.length : Int) == 0) = false := by simpa using hl
          clear hl hu hl2 hd2 hz
          go_wp2
          go_ret
          exact ⟨by rw [HR.out]; rfl, hB⟩
      · have hz' : ((j : Int) != 0) = true := by simp; omega
        have hj1 : 1 ≤ (j : Int) := by omega
        have hll : l.length ≤ 19 := len_bound hz HP.out (by omega)
        have e0 : 0 ≤ (j : Int) % 10 := by omega
        have e1 : (j : Int) % 10 ≤ 9 := by omega
        go_wp2_with (at_builtin; refine wpList_append_own _ rfl _ _ 40 rfl w.heap.size 5 i0 (.int .u8 0) 1 1 Tryd.underlying40 hi hz0 hz1 hz2 rfl (by decide) _ 1 [.int .u8 (48 + (j : Int) % 10)] rfl ?c0 ⟨g, 0, none⟩ l.length c (bytesV l) rfl ?cl ?c1 ?c2 ?c3 ?c4 ?c5 ?_)
        case c0 => exact World.ownsRow_lit wr #[.int .u8 (48 + (j : Int) % 10)] 1 hB.size (by unfold maxLen; omega) rfl
        case cl => simp [bytesV]
        case c1 => intro j' u hj'; have hh := (hown.alloc (.cells #[.int .u8 (48 + (j : Int) % 10)] 5)).cells rfl j' u hj'; simpa [Go.WideShapes.add_plain] using hh
        case c2 => intro u hu; simp only [bytesV, List.mem_map] at hu; obtain ⟨b, _, rfl⟩ := hu; rfl
        case c3 => unfold maxLen; omega
        case c4 => omega
        case c5 => have := hB.size; first | omega | (simp; omega)
        intro v' wb hownb hgb hnil
        have hBb : Below w.heap.size w wb := (hB.alloc hB.size _).grown hgb (by have := hB.size; first | omega | (simp; omega)) (fun k hk => by simp [Value.ownBlock] at hk; have := hB.size; omega)
        rw [bytesV_cons, Nat.add_comm 1 l.length] at hownb
        rcases hownb.2 with ⟨_, h0⟩ | ⟨g', c', cur, hv', _⟩
        · omega
        · subst hv'
          have hd' : digs u = digs (j / 10) ++ (UInt8.ofNat (48 + j % 10) :: l) := by rw [HD.out, digs_step j hz]; simp
          have hp' : j / 10 * 10 ^ (UInt8.ofNat (48 + j % 10) :: l).length ≤ u := by
            have := HP.out
            rw [List.length_cons, Nat.pow_succ, Nat.mul_comm (10 ^ l.length) 10, ← Nat.mul_assoc]
            exact Nat.le_trans (Nat.mul_le_mul_right _ (by omega)) this
          have HD' := Lib.hid hd'
          have HP' := Lib.hid hp'
          clear hd' hp' hnil hgb hown hB
          go_wp2
          go_roundw
          case rel => exact ⟨j / 10, _, g', c', by omega, by congr 1, HD'.out, HP'.out, by rw [List.length_cons]; omega, rfl, hownb, hBb⟩
          case measure => simp [intOf]; omega
end Go.Proofs.YtfnjndbnogeddaaDoor
