/- MergeEstimates, the program's. -/
import Derived.Test.YtfnjndbnogeddaaDoorQO
namespace Go.Proofs.YtfnjndbnogeddaaDoor
open Go.ChangeShapes Go.WideShapes Go.ChangeAt Go.RowKit Go.Deep

set_option maxRecDepth 100000 in
set_option maxHeartbeats 2000000 in
theorem iMg_any (ba oa n ca bb ob m cb : Nat) (A B : List Es) (ea : Addr) (w : World) (hA : EsL w (some ⟨ba, oa, none⟩) n A) (hB : EsL w (some ⟨bb, ob, none⟩) m B) (hn : n ≤ 1048576) (hm : m ≤ 1048576) (hna : n ≤ ca) (hmb : m ≤ cb) (hE : Errt w ea) :
    Calls Tryd.prog 11 #[.slice (some ⟨ba, oa, none⟩) n ca, .slice (some ⟨bb, ob, none⟩) m cb] w fun x w' => EsRes w.heap.size (mgLs A B) (.int .i64 (mgC A B)) w' x ∧ Below w.heap.size w w' := by
  have HAL := Lib.hid hA.1
  have HBL := Lib.hid hB.1
  cases ha : okE A
  · have HD := Lib.hid (mg_1 (A := A) (B := B) (by rw [ha]; rfl))
    go_enter Tryd.func11, Tryd.ntmps11
    go_wp2_with fail
    refine (iValidEs_any _ n ca A w hA hn).mono ?_
    rintro e w2 ⟨rfl, b2⟩
    rw [ha]
    go_wp2
    go_ret2
    exact ⟨by rw [HD.out.1, HD.out.2]; exact EsRes.nil _ _ _, b2⟩
  cases hb : okE B
  · have HD := Lib.hid (mg_1 (A := A) (B := B) (by rw [ha, hb]; rfl))
    go_enter Tryd.func11, Tryd.ntmps11
    go_wp2_with fail
    refine (iValidEs_any _ n ca A w hA hn).mono ?_
    rintro e w2 ⟨rfl, b2⟩
    rw [ha]
    go_wp2_with fail
    refine (iValidEs_any _ m cb B w2 (hB.mono b2) hm).mono ?_
    rintro e w3 ⟨rfl, b3⟩
    rw [hb]
    go_wp2
    go_ret2
    exact ⟨by rw [HD.out.1, HD.out.2]; exact EsRes.nil _ _ _, belowCall b2 b3⟩
  have hab : (okE A && okE B) = true := by rw [ha, hb]; rfl
  have h100 : n ≤ 100 := (okE_at HAL.out ha).1
  have m100 : m ≤ 100 := (okE_at HBL.out hb).1
  have H9 := Lib.hid (fun hc => mg_9 (A := A) (B := B) hab hc)
  have H5 := Lib.hid (fun (T : List Es) hT h3 => mg_5 (T := T) hab hT h3)
  have H0 := Lib.hid (fun (T : List Es) hT h3 => mg_0 (T := T) hab hT h3)
  clear hab
  go_enter Tryd.func11, Tryd.ntmps11
  go_wp2_with fail
  refine (iValidEs_any _ n ca A w hA hn).mono ?_
  rintro e w2 ⟨rfl, b2⟩
  rw [ha]
  go_wp2_with fail
  refine (iValidEs_any _ m cb B w2 (hB.mono b2) hm).mono ?_
  rintro e w3 ⟨rfl, b3⟩
  rw [hb]
  have B3 := belowCall b2 b3
  go_wp2_with fail
  refine (mergeE_any ba oa n ca bb ob m cb A B ea w3 (hA.mono B3) (hB.mono B3) h100 m100 hna hmb (hE.mono B3)).mono ?_
  rintro e w4 ⟨hP, b4⟩
  have B4 := belowCall B3 b4
  obtain ⟨hEl, hEc⟩ := hE.mono B4
  rcases hP with ⟨T, v, hT, rfl, ⟨g, c, rfl⟩, hown⟩ | ⟨hT, rfl⟩
  · have HO := Lib.hid (ownLow hown B3.size)
    clear hown
    by_cases hf : T.length ≤ 100
    · have HD := Lib.hid (H0.out T hT hf)
      have hf1 : ¬ (100 : Int) < (T.length : Int) := by omega
      clear hT ha hb
      go_wp2_with fail
      refine (is_nil ea _).mono ?_
      rintro e w6 ⟨rfl, rfl⟩
      go_wp2
      go_ret2
      exact ⟨by rw [HD.out.1, HD.out.2]; exact EsRes.own HO.out rfl, B4⟩
    · have HD := Lib.hid (H5.out T hT hf)
      have hf1 : (100 : Int) < (T.length : Int) := by omega
      clear hT ha hb
      go_wp2_with fail
      refine (is_nil ea _).mono ?_
      rintro e w6 ⟨rfl, rfl⟩
      go_wp2
      go_ret2
      exact ⟨by rw [HD.out.1, HD.out.2]; exact EsRes.nil _ _ _, B4⟩
  · have HD := Lib.hid (H9.out hT)
    clear hT ha hb
    go_wp2_with fail
    refine (is_same ea _).mono ?_
    rintro e w6 ⟨rfl, rfl⟩
    go_wp2
    go_ret2
    exact ⟨by rw [HD.out.1, HD.out.2]; exact EsRes.nil _ _ _, B4⟩
end Go.Proofs.YtfnjndbnogeddaaDoor
