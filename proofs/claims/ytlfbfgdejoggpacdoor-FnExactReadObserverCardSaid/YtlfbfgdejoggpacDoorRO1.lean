/- ReadObserver in plain lists of bytes: one observer for one text, what Cut and ParseInt find in it. -/
import Derived.Test.YtlfbfgdejoggpacDoorOT
import Derived.Test.YtlfbfgdejoggpacDoorR2
import Derived.Test.YtlfbfgdejoggpacDoorR3
import Derived.Lib.IndexMore
namespace Go.Proofs.YtlfbfgdejoggpacDoor
open Go.ChangeShapes Go.WideShapes Go.ChangeAt Go.RowKit Go.Deep

/-- the number behind the blank -/
def sgP (v : Int) : List UInt8 := if v < 0 then Lib.itoa v else 43 :: Lib.itoa v
theorem obP_eq (x : Ob) : obP x = x.1.data.toList ++ 32 :: sgP x.2 := by unfold obP sgP; split <;> rfl
theorem name_32 {s : ByteArray} (h : nameB s = true) : ∀ b ∈ s.data.toList, b ≠ 32 := by
  simp only [nameB, Bool.and_eq_true, List.all_eq_true, List.mem_range] at h
  intro b hb e
  obtain ⟨k, hk, rfl⟩ := List.getElem_of_mem hb
  have := h.2 k (by simpa using hk)
  simp only [byt, List.getElem?_eq_getElem hk, Option.getD_some, e] at this
  exact absurd this (by decide)
theorem sgP_inj {u v : Int} (h : sgP u = sgP v) : u = v := by
  unfold sgP at h
  split at h <;> split at h
  · exact itoa_inj h
  · rename_i h1 h2
    rcases itoa_cases u with ⟨a, b⟩ | ⟨a, b⟩
    · omega
    · rw [b] at h; simp at h
  · rename_i h1 h2
    rcases itoa_cases v with ⟨a, b⟩ | ⟨a, b⟩
    · omega
    · rw [b] at h; simp at h
  · exact itoa_inj (List.cons.inj h).2
theorem ba_ext {s t : ByteArray} (h : s.data.toList = t.data.toList) : s = t := by cases s; cases t; simp at h; rw [h]
theorem ob_name {x : Ob} (h : obB x = true) : nameB x.1 = true := by simp only [obB, Bool.and_eq_true] at h; exact h.1
theorem obP_inj {x y : Ob} (hx : obB x = true) (hy : obB y = true) (h : obP x = obP y) : x = y := by
  rw [obP_eq, obP_eq] at h
  have e1 := splitA_hit (c := 32) (b := sgP x.2) [] (name_32 (ob_name hx))
  have e2 := splitA_hit (c := 32) (b := sgP y.2) [] (name_32 (ob_name hy))
  rw [h, e2] at e1
  have e3 := (List.cons.inj e1).1
  simp only [List.nil_append] at e3
  rw [e3] at h
  have e4 := sgP_inj (List.cons.inj (List.append_cancel_left h)).2
  obtain ⟨a, u⟩ := x
  obtain ⟨b, v⟩ := y
  rw [show a = b from ba_ext e3.symm, show u = v from e4]
theorem parse_sg (v : Int) (h1 : -9223372036854775808 ≤ v) (h2 : v ≤ 9223372036854775807) : Lib.parseIntB 64 (sgP v) = .ok v := by
  unfold sgP
  split
  · exact parse_itoa v h1 h2
  · rename_i h
    have hp := parse_itoa v h1 h2
    rcases itoa_cases v with ⟨a, b⟩ | ⟨a, b⟩
    · obtain ⟨c, r, hc, hd⟩ := dec_head v.natAbs
      rw [b, hc] at hp ⊢
      rw [Lib.parseIntB_plus, ← Lib.parseIntB_plain 64 c r (dg_ne hd).2.2 (dg_ne hd).2.1]
      exact hp
    · omega
theorem index_hit1 : ∀ (a b : List UInt8), (∀ x ∈ a, x ≠ 32) → Lib.index (a ++ 32 :: b) [32] = (a.length : Int)
  | [], b, _ => by simp [Lib.index, List.isPrefixOf]
  | x :: a, b, h => by
    have hx : x ≠ 32 := h x (by simp)
    have ih := index_hit1 a b (fun y hy => h y (by simp [hy]))
    have h0 : ([32] : List UInt8).isPrefixOf (x :: (a ++ 32 :: b)) = false := by
      simp only [List.isPrefixOf, Bool.and_true]
      simpa using fun e => hx e.symm
    rw [List.cons_append, Lib.index, h0, ih]
    have : ((a.length : Int) == -1) = false := by rw [beq_eq_false_iff_ne]; omega
    simp [this]
theorem cut_hit {a b : List UInt8} (h : ∀ x ∈ a, x ≠ 32) : Lib.cut (a ++ 32 :: b) [32] = (a, b, true) := by
  rw [Lib.cut, index_hit1 a b h, if_pos (by omega)]
  simp only [Int.toNat_natCast, List.length_cons, List.length_nil, List.take_left', Prod.mk.injEq, and_true]
  refine ⟨by simp, ?_⟩
  rw [show a.length + (0 + 1) = a.length + 1 from rfl, ← List.drop_drop]
  simp
theorem cut_len (l : List UInt8) : (Lib.cut l [32]).2.1.length ≤ l.length ∧ (Lib.cut l [32]).1.length ≤ l.length := by
  unfold Lib.cut
  split <;> simp
  omega
def obtL (x : Ob) : List UInt8 := if obB x then obP x else []
theorem obtV_L (x : Ob) : obtV x = .string ⟨(obtL x).toArray⟩ := by unfold obtV obtL; split <;> rfl
def roNo : Value := .tuple #[.agg #[.string ⟨#[]⟩, .int .i64 0], .bool false]
def roOk (x : Ob) : Value := .tuple #[.agg #[.string x.1, .int .i64 x.2], .bool true]
/-- what ReadObserver answers for the text l -/
def RoPost (l : List UInt8) (v : Value) : Prop := (∃ x : Ob, obB x = true ∧ obP x = l ∧ v = roOk x) ∨ ((∀ x : Ob, obB x = true → obP x ≠ l) ∧ v = roNo)
theorem RoPost.same {l : List UInt8} {u v : Value} (h : RoPost l u) (h' : RoPost l v) : u = v := by
  rcases h with ⟨x, h1, h2, rfl⟩ | ⟨h1, rfl⟩ <;> rcases h' with ⟨y, g1, g2, rfl⟩ | ⟨g1, rfl⟩
  · rw [obP_inj h1 g1 (h2.trans g2.symm)]
  · exact absurd h2 (g1 x h1)
  · exact absurd g2 (h1 y g1)
  · rfl
theorem RoPost.form {l : List UInt8} {v : Value} (h : RoPost l v) : ∃ a n b, v = .tuple #[.agg #[.string a, .int .i64 n], .bool b] := by
  rcases h with ⟨x, _, _, rfl⟩ | ⟨_, rfl⟩ <;> exact ⟨_, _, _, rfl⟩
theorem ro_parts {x : Ob} {l a b : List UInt8} {f : Bool} (h : obB x = true) (hl : obP x = l) (hc : Lib.cut l [32] = (a, b, f)) : a = x.1.data.toList ∧ b = sgP x.2 ∧ Lib.parseIntB 64 b = .ok x.2 := by
  rw [← hl, obP_eq, cut_hit (name_32 (ob_name h))] at hc
  obtain ⟨h1, h2, -⟩ := Prod.mk.inj hc |>.imp id (fun h => Prod.mk.inj h)
  obtain ⟨-, h3⟩ := ob_sz h
  exact ⟨h1.symm, h2.symm, by rw [← h2]; exact parse_sg x.2 (by omega) (by omega)⟩
/-- no number is found behind the blank: there is no observer -/
theorem ro_err {l a b : List UInt8} {f : Bool} (hc : Lib.cut l [32] = (a, b, f)) (h : ∀ v, Lib.parseIntB 64 b ≠ .ok v) : RoPost l roNo :=
  .inr ⟨fun _ hx hl => h _ (ro_parts hx hl hc).2.2, rfl⟩
theorem ro_ne {l a b : List UInt8} {f : Bool} {v : Int} (hc : Lib.cut l [32] = (a, b, f)) (hp : Lib.parseIntB 64 b = .ok v) (h : obtL (⟨a.toArray⟩, v) ≠ l) : RoPost l roNo :=
  .inr ⟨fun x hx hl => by
    obtain ⟨h1, h2, h3⟩ := ro_parts hx hl hc
    rw [hp] at h3
    injection h3 with h3
    have e : ((⟨a.toArray⟩, v) : Ob) = x := by
      obtain ⟨y, u⟩ := x
      rw [show v = u from h3, show (⟨a.toArray⟩ : ByteArray) = y from ba_ext (by simpa using h1)]
    rw [e, obtL, if_pos hx] at h
    exact h hl, rfl⟩
theorem parse_none : ∀ v, Lib.parseIntB 64 [] ≠ .ok v := by intro v h; simp [Lib.parseIntB] at h
theorem ro_eq {l a b : List UInt8} {f : Bool} {v : Int} (hc : Lib.cut l [32] = (a, b, f)) (hp : Lib.parseIntB 64 b = .ok v) (h : obtL (⟨a.toArray⟩, v) = l) : RoPost l (roOk (⟨a.toArray⟩, v)) := by
  cases hx : obB (⟨a.toArray⟩, v)
  · rw [obtL, hx] at h
    simp only [Bool.false_eq_true, if_false] at h
    subst h
    have hb : b = [] := by
      have := (cut_len []).1
      rw [hc] at this
      exact List.length_eq_zero_iff.1 (by simpa using this)
    rw [hb] at hp
    exact absurd hp (parse_none v)
  · rw [obtL, if_pos hx] at h
    exact .inl ⟨_, hx, h, rfl⟩
end Go.Proofs.YtlfbfgdejoggpacDoor
