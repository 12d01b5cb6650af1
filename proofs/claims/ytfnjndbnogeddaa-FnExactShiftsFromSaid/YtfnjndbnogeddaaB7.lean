/- IsName: the program's (by runes) and the model's (by bytes). -/
import Derived.Test.YtfnjndbnogeddaaB1
import Derived.Laws.RangeString
import Derived.Laws.RangeAny
namespace Go.Proofs.Ytfnjndbnogeddaa
open Go.ChangeShapes Go.WideShapes Go.ChangeAt Go.RowKit

def smallB (c : Int) : Bool := inB c 97 122
def digitB (c : Int) : Bool := inB c 48 57
def restB (c : Int) : Bool := smallB c || digitB c || c == 45
/-- the k-th byte of a text as a number -/
def byt (s : ByteArray) (k : Nat) : Int := ((s.data.toList[k]?.getD 0).toNat : Int)
theorem byt_get (s : ByteArray) (k : Nat) (h : k < s.size) : ((s[k]'h).toNat : Int) = byt s k := by
  have h' : k < s.data.toList.length := by simpa using h
  rw [byt, List.getElem?_eq_getElem h']
  rfl
def nameB (s : ByteArray) : Bool := decide (1 ≤ s.size) && decide (s.size ≤ 12) && smallB (byt s 0) && (List.range s.size).all fun k => restB (byt s k)

theorem l01Small_any (c : Int) (w : World) :
    Calls Try.prog 71 #[.int .u8 c] w fun e w' => e = .returned (.bool (smallB c)) ∧ w = w' := by
  by_cases h1 : 97 ≤ c
  · by_cases h2 : c ≤ 122
    all_goals
      go_enter Try.func71, Try.ntmps71
      go_wp2
      go_ret
      exact ⟨by simp [smallB, inB, *], rfl⟩
  · go_enter Try.func71, Try.ntmps71
    go_wp2
    go_ret
    exact ⟨by simp [smallB, inB]; omega, rfl⟩
theorem l01Digit_any (c : Int) (w : World) :
    Calls Try.prog 72 #[.int .u8 c] w fun e w' => e = .returned (.bool (digitB c)) ∧ w = w' := by
  by_cases h1 : 48 ≤ c
  · by_cases h2 : c ≤ 57
    all_goals
      go_enter Try.func72, Try.ntmps72
      go_wp2
      go_ret
      exact ⟨by simp [digitB, inB, *], rfl⟩
  · go_enter Try.func72, Try.ntmps72
    go_wp2
    go_ret
    exact ⟨by simp [digitB, inB]; omega, rfl⟩
theorem isSmall_any (c : Int) (w : World) :
    Calls Try.prog 74 #[.int .i32 c] w fun e w' => e = .returned (.bool (smallB c)) ∧ w = w' := by
  by_cases h1 : 97 ≤ c
  · by_cases h2 : c ≤ 122
    all_goals
      go_enter Try.func74, Try.ntmps74
      go_wp2
      go_ret
      exact ⟨by simp [smallB, inB, *], rfl⟩
  · go_enter Try.func74, Try.ntmps74
    go_wp2
    go_ret
    exact ⟨by simp [smallB, inB]; omega, rfl⟩
theorem isDigit_any (c : Int) (w : World) :
    Calls Try.prog 75 #[.int .i32 c] w fun e w' => e = .returned (.bool (digitB c)) ∧ w = w' := by
  by_cases h1 : 48 ≤ c
  · by_cases h2 : c ≤ 57
    all_goals
      go_enter Try.func75, Try.ntmps75
      go_wp2
      go_ret
      exact ⟨by simp [digitB, inB, *], rfl⟩
  · go_enter Try.func75, Try.ntmps75
    go_wp2
    go_ret
    exact ⟨by simp [digitB, inB]; omega, rfl⟩
theorem all_range {n : Nat} {p : Nat → Bool} (h : ∀ k, k < n → p k = true) : (List.range n).all p = true := by
  rw [List.all_eq_true]
  intro k hk
  exact h k (List.mem_range.1 hk)
theorem not_all_range {n k : Nat} {p : Nat → Bool} (hk : k < n) (h : p k = false) : (List.range n).all p = false := by
  rw [List.all_eq_false]
  exact ⟨k, List.mem_range.2 hk, by simp [h]⟩
theorem name_short {s : ByteArray} (h : ¬ 1 ≤ s.size) : nameB s = false := by simp [nameB]; omega
theorem name_long {s : ByteArray} (h : ¬ s.size ≤ 12) : nameB s = false := by simp [nameB]; omega
theorem name_first {s : ByteArray} (h : smallB (byt s 0) = false) : nameB s = false := by simp [nameB, h]
theorem name_rest {s : ByteArray} {k : Nat} (hk : k < s.size) (h : restB (byt s k) = false) : nameB s = false := by
  rw [nameB, not_all_range hk h]; simp
theorem name_yes {s : ByteArray} (h1 : 1 ≤ s.size) (h2 : s.size ≤ 12) (h3 : smallB (byt s 0) = true) (h4 : ∀ k, k < s.size → restB (byt s k) = true) : nameB s = true := by
  rw [nameB, all_range h4, h3]; simp; omega
theorem empty_facts {s : ByteArray} (h : 1 ≤ s.size) : s.toList.isEmpty = false ∧ ¬ s.toList = [] := by
  have e : s.toList = s.data.toList := ByteArray.toList_eq s
  have : s.data.toList.length = s.size := by simp
  rw [e]
  cases hd : s.data.toList with
  | nil => rw [hd] at this; simp at this; omega
  | cons a l => simp
theorem sIsName_same (s : ByteArray) (w : World) :
    Calls Try.prog 48 #[.string s] w fun e w' => e = .returned (.bool (nameB s)) ∧ w = w' := by
  by_cases hz : 1 ≤ s.size
  · obtain ⟨he1, he2⟩ := empty_facts hz
    by_cases h12 : s.size ≤ 12
    · have hp : 0 < s.size := hz
      cases h0 : smallB (byt s 0)
      · have h0' : smallB ((s[0]'hp).toNat : Int) = false := by rw [byt_get]; exact h0
        have HD := Lib.hid (name_first h0)
        go_enter Try.func48, Try.ntmps48
        go_wp2_with (go_at_call 71; refine (l01Small_any _ _).mono ?_; rintro e w' ⟨rfl, rfl⟩)
        go_ret
        exact ⟨by rw [HD.out]; rfl, rfl⟩
      · have h0' : smallB ((s[0]'hp).toNat : Int) = true := by rw [byt_get]; exact h0
        go_enter Try.func48, Try.ntmps48
        go_wp2_with (go_at_call 71; refine (l01Small_any _ _).mono ?_; rintro e w' ⟨rfl, rfl⟩)
        go_loop [3] (fun i => ∃ k : Nat, k ≤ s.size ∧ i = .int .i64 k ∧ (∀ j, j < k → restB (byt s j) = true)) (fun i => s.size - (intOf i).toNat)
        case atStart => exact ⟨0, by omega, rfl, fun j hj => by omega⟩
        case round =>
          obtain ⟨k, hk, rfl, hall⟩ := hrel
          have HALL := Lib.hid hall
          clear hall
          by_cases hlt : k < s.size
          · cases h1 : smallB (byt s k)
            · have h1' : smallB ((s[k]'hlt).toNat : Int) = false := by rw [byt_get]; exact h1
              cases h2 : digitB (byt s k)
              · have h2' : digitB ((s[k]'hlt).toNat : Int) = false := by rw [byt_get]; exact h2
                cases h3 : (byt s k == 45)
                · have h3' : (((s[k]'hlt).toNat : Int) != 45) = true := by rw [byt_get, bne, h3]; rfl
                  have HD := Lib.hid (name_rest hlt (by simp [restB, h1, h2, h3]))
                  go_wp2_with (first | (go_at_call 71; refine (l01Small_any _ _).mono ?_; rintro e w' ⟨rfl, rfl⟩) | (go_at_call 72; refine (l01Digit_any _ _).mono ?_; rintro e w' ⟨rfl, rfl⟩))
                  go_ret
                  exact ⟨by rw [HD.out]; rfl, rfl⟩
                · have h3' : (((s[k]'hlt).toNat : Int) != 45) = false := by rw [byt_get, bne, h3]; rfl
                  go_wp2_with (first | (go_at_call 71; refine (l01Small_any _ _).mono ?_; rintro e w' ⟨rfl, rfl⟩) | (go_at_call 72; refine (l01Digit_any _ _).mono ?_; rintro e w' ⟨rfl, rfl⟩))
                  go_round
                  case rel =>
                    refine ⟨k + 1, by omega, by go_num, fun j hj => ?_⟩
                    by_cases hjk : j = k
                    · subst hjk; simp [restB, h3]
                    · exact HALL.out j (by omega)
                  case measure => simp [intOf]; omega
              · have h2' : digitB ((s[k]'hlt).toNat : Int) = true := by rw [byt_get]; exact h2
                go_wp2_with (first | (go_at_call 71; refine (l01Small_any _ _).mono ?_; rintro e w' ⟨rfl, rfl⟩) | (go_at_call 72; refine (l01Digit_any _ _).mono ?_; rintro e w' ⟨rfl, rfl⟩))
                go_round
                case rel =>
                  refine ⟨k + 1, by omega, by go_num, fun j hj => ?_⟩
                  by_cases hjk : j = k
                  · subst hjk; simp [restB, h2]
                  · exact HALL.out j (by omega)
                case measure => simp [intOf]; omega
            · have h1' : smallB ((s[k]'hlt).toNat : Int) = true := by rw [byt_get]; exact h1
              go_wp2_with (first | (go_at_call 71; refine (l01Small_any _ _).mono ?_; rintro e w' ⟨rfl, rfl⟩) | (go_at_call 72; refine (l01Digit_any _ _).mono ?_; rintro e w' ⟨rfl, rfl⟩))
              go_round
              case rel =>
                refine ⟨k + 1, by omega, by go_num, fun j hj => ?_⟩
                by_cases hjk : j = k
                · subst hjk; simp [restB, h1]
                · exact HALL.out j (by omega)
              case measure => simp [intOf]; omega
          · obtain rfl : k = s.size := by omega
            have HD := Lib.hid (name_yes hz h12 h0 HALL.out)
            go_wp2
            go_ret
            exact ⟨by rw [HD.out]; rfl, rfl⟩
    · have HD := Lib.hid (name_long h12)
      go_enter Try.func48, Try.ntmps48
      go_wp2
      go_ret
      exact ⟨by rw [HD.out]; rfl, rfl⟩
  · have hs : s.toList = [] := by
      have e : s.toList = s.data.toList := ByteArray.toList_eq s
      have hl : s.data.toList.length = s.size := by simp
      rw [e]; exact List.length_eq_zero_iff.1 (by omega)
    have hs2 : s.toList.isEmpty = true := by rw [hs]; rfl
    have HD := Lib.hid (name_short hz)
    go_enter Try.func48, Try.ntmps48
    go_wp2
    go_ret
    exact ⟨by rw [HD.out]; rfl, rfl⟩
theorem sIsName_any (s : ByteArray) (w : World) :
    Calls Try.prog 48 #[.string s] w fun e w' => e = .returned (.bool (nameB s)) ∧ Below w.heap.size w w' :=
  (sIsName_same s w).mono fun _ _ ⟨h1, h2⟩ => ⟨h1, h2 ▸ Below.refl _ _⟩
theorem iIsName_any (s : ByteArray) (w : World) :
    Calls Try.prog 52 #[.string s] w fun e w' => e = .returned (.bool (nameB s)) ∧ Below w.heap.size w w' := by
  by_cases hz : 1 ≤ s.size
  case neg =>
    have HD := Lib.hid (name_short hz)
    have h1 : decide ((s.size : Int) < 1) = true := by simp; omega
    go_enter Try.func52, Try.ntmps52
    go_wp2
    go_ret
    exact ⟨by rw [HD.out]; rfl, by (repeat (first | assumption | exact Below.refl _ _ | refine belowDN ?_ _ | refine Below.drew ?_ | refine Below.setCell ?_ (by first | omega | (simp <;> omega)) _ | refine Below.alloc ?_ (by first | omega | (simp <;> omega)) _ | refine belowCall ?_ (by assumption)))⟩
  have hz1 : decide ((s.size : Int) < 1) = false := by simp; omega
  by_cases h12 : s.size ≤ 12
  case neg =>
    have HD := Lib.hid (name_long h12)
    go_enter Try.func52, Try.ntmps52
    go_wp2
    go_ret
    exact ⟨by rw [HD.out]; rfl, by (repeat (first | assumption | exact Below.refl _ _ | refine belowDN ?_ _ | refine Below.drew ?_ | refine Below.setCell ?_ (by first | omega | (simp <;> omega)) _ | refine Below.alloc ?_ (by first | omega | (simp <;> omega)) _ | refine belowCall ?_ (by assumption)))⟩
  go_enter Try.func52, Try.ntmps52
  go_wp2
  go_loopw [3] (fun _ wr => ∃ pos : Nat, wr = w.iter s pos ∧ pos ≤ s.size ∧ (∀ j, j < pos → restB (byt s j) = true) ∧ (0 < pos → smallB (byt s 0) = true)) (fun _ wr => s.size - wr.iterPos w.heap.size)
  case atStart => exact ⟨0, rfl, by omega, fun j hj => by omega, fun h => by omega⟩
  case round =>
    obtain ⟨pos, rfl, hpos, hall, hfirst⟩ := hrel
    have HALL := Lib.hid hall
    have HF := Lib.hid hfirst
    clear hall hfirst
    by_cases hlt : pos < s.size
    · by_cases ha : (s[pos]'hlt).toNat < 128
      · have hnx := fun ty => run_next_ascii (P := Try.prog) w s pos ty hlt ha
        cases h1 : smallB (byt s pos)
        · have h1' : smallB ((s[pos]'hlt).toNat : Int) = false := by rw [byt_get]; exact h1
          by_cases hp0 : pos = 0
          · have HD := Lib.hid (name_first (by rw [← hp0]; exact h1))
            have hp0' : ((pos : Int) == 0) = true := by simp [hp0]
            clear hp0
            go_wp2_with (first | (go_at_call 74; refine (isSmall_any _ _).mono ?_; rintro e w' ⟨rfl, rfl⟩) | (go_at_call 75; refine (isDigit_any _ _).mono ?_; rintro e w' ⟨rfl, rfl⟩))
            go_ret
            exact ⟨by rw [HD.out]; rfl, (Below.refl _ _).alloc (Nat.le_refl _) _⟩
          · have hp0' : ((pos : Int) == 0) = false := by simp [hp0]
            cases h2 : digitB (byt s pos)
            · have h2' : digitB ((s[pos]'hlt).toNat : Int) = false := by rw [byt_get]; exact h2
              cases h3 : (byt s pos == 45)
              · have h3' : (((s[pos]'hlt).toNat : Int) != 45) = true := by rw [byt_get, bne, h3]; rfl
                have HD := Lib.hid (name_rest hlt (by simp [restB, h1, h2, h3]))
                go_wp2_with (first | (go_at_call 74; refine (isSmall_any _ _).mono ?_; rintro e w' ⟨rfl, rfl⟩) | (go_at_call 75; refine (isDigit_any _ _).mono ?_; rintro e w' ⟨rfl, rfl⟩))
                go_ret
                exact ⟨by rw [HD.out]; rfl, (Below.refl _ _).alloc (Nat.le_refl _) _⟩
              · have h3' : (((s[pos]'hlt).toNat : Int) != 45) = false := by rw [byt_get, bne, h3]; rfl
                go_wp2_with (first | (go_at_call 74; refine (isSmall_any _ _).mono ?_; rintro e w' ⟨rfl, rfl⟩) | (go_at_call 75; refine (isDigit_any _ _).mono ?_; rintro e w' ⟨rfl, rfl⟩))
                go_roundw
                case rel =>
                  refine ⟨pos + 1, rfl, by omega, fun j hj => ?_, fun _ => HF.out (by omega)⟩
                  by_cases hjk : j = pos
                  · subst hjk; simp [restB, h3]
                  · exact HALL.out j (by omega)
                case measure => simp; omega
            · have h2' : digitB ((s[pos]'hlt).toNat : Int) = true := by rw [byt_get]; exact h2
              go_wp2_with (first | (go_at_call 74; refine (isSmall_any _ _).mono ?_; rintro e w' ⟨rfl, rfl⟩) | (go_at_call 75; refine (isDigit_any _ _).mono ?_; rintro e w' ⟨rfl, rfl⟩))
              go_roundw
              case rel =>
                refine ⟨pos + 1, rfl, by omega, fun j hj => ?_, fun _ => HF.out (by omega)⟩
                by_cases hjk : j = pos
                · subst hjk; simp [restB, h2]
                · exact HALL.out j (by omega)
              case measure => simp; omega
        · have h1' : smallB ((s[pos]'hlt).toNat : Int) = true := by rw [byt_get]; exact h1
          go_wp2_with (first | (go_at_call 74; refine (isSmall_any _ _).mono ?_; rintro e w' ⟨rfl, rfl⟩) | (go_at_call 75; refine (isDigit_any _ _).mono ?_; rintro e w' ⟨rfl, rfl⟩))
          go_roundw
          case rel =>
            refine ⟨pos + 1, rfl, by omega, fun j hj => ?_, fun _ => ?_⟩
            · by_cases hjk : j = pos
              · subst hjk; simp [restB, h1]
              · exact HALL.out j (by omega)
            · by_cases hp0 : pos = 0
              · subst hp0; exact h1
              · exact HF.out (by omega)
          case measure => simp; omega
      · have hh := decode_high s pos hlt (by omega)
        obtain ⟨r, hr⟩ : ∃ r, r = (Utf8.decode s pos).1 := ⟨_, rfl⟩
        have hnx := fun ty => run_next_any (P := Try.prog) w s pos ty hlt
        rw [← hr] at hh hnx
        clear hr
        have h1 : smallB (r : Int) = false := by simp [smallB, inB]; omega
        have h2 : digitB (r : Int) = false := by simp [digitB, inB]; omega
        have h3 : ((r : Int) != 45) = true := by simp; omega
        have hb : 128 ≤ byt s pos := by rw [← byt_get s pos hlt]; omega
        have HD := Lib.hid (name_rest hlt (by simp [restB, smallB, digitB, inB]; omega))
        clear hb
        cases hp0 : ((pos : Int) == 0)
        all_goals
          go_wp2_with (first | (go_at_call 74; refine (isSmall_any _ _).mono ?_; rintro e w' ⟨rfl, rfl⟩) | (go_at_call 75; refine (isDigit_any _ _).mono ?_; rintro e w' ⟨rfl, rfl⟩))
          go_ret
          exact ⟨by rw [HD.out]; rfl, (Below.refl _ _).alloc (Nat.le_refl _) _⟩
    · obtain rfl : pos = s.size := by omega
      have hnx := fun ty => run_next_end (P := Try.prog) w s s.size ty hlt
      have HD := Lib.hid (name_yes hz h12 (HF.out hz) HALL.out)
      go_wp2
      go_ret
      exact ⟨by rw [HD.out]; rfl, (Below.refl _ _).alloc (Nat.le_refl _) _⟩
end Go.Proofs.Ytfnjndbnogeddaa
