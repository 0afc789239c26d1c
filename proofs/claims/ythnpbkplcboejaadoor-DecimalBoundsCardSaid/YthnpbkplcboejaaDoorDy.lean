/- Decimal: Div where there is no quotient. -/
import Derived.Test.YthnpbkplcboejaaDoorDt
set_option linter.unusedSimpArgs false
set_option linter.unusedVariables false
namespace Go.Proofs.YthnpbkplcboejaaDoor
open Go.RowKit Go.Shelf Go.Lib Go.Sort
namespace Dc
set_option maxRecDepth 100000 in
set_option maxHeartbeats 2000000 in
theorem Div_no (d x : D) (sc : Int) (hs0 : d.s.size ≤ maxLen) (hs1 : x.s.size ≤ maxLen) (hc : (d.check && x.check) = false) (w : World) :
    Calls Tryd.prog 13 #[d.val, x.val, .int .i64 sc] w fun e w' => e = .returned (R.err 2).val ∧ RowKit.Below w.heap.size w w' := by
  obtain ⟨hb0, h1, h2, h3⟩ := three_start w (.bool d.neg) (.string d.s) (.int .i64 d.sc) (.bool x.neg) (.string x.s) (.int .i64 x.sc)
  obtain ⟨W0, hW0⟩ : ∃ W0, (((w.alloc (.cells #[.bool d.neg, .string d.s, .int .i64 d.sc] 23)).alloc (.cells #[.bool x.neg, .string x.s, .int .i64 x.sc] 23)).alloc (.cells #[.bool false, .string ⟨#[]⟩, .int .i64 0] 23)) = W0 := ⟨_, rfl⟩
  rw [hW0] at hb0 h1 h2 h3
  obtain ⟨W1, hW1⟩ : ∃ W1, W0.alloc (.cells #[.bool d.neg, .string d.s, .int .i64 d.sc, .bool x.neg, .string x.s, .int .i64 x.sc] 23) = W1 := ⟨_, rfl⟩
  have hb1 := b_alloc (o := .cells #[.bool d.neg, .string d.s, .int .i64 d.sc, .bool x.neg, .string x.s, .int .i64 x.sc] 23) hb0
  have hn := Blk.new W0 #[.bool d.neg, .string d.s, .int .i64 d.sc, .bool x.neg, .string x.s, .int .i64 x.sc] 23
  have h2' := h2.alloc (.cells #[.bool d.neg, .string d.s, .int .i64 d.sc, .bool x.neg, .string x.s, .int .i64 x.sc] 23)
  have h3' := h3.alloc (.cells #[.bool d.neg, .string d.s, .int .i64 d.sc, .bool x.neg, .string x.s, .int .i64 x.sc] 23)
  rw [hW1] at hb1 hn h2' h3'
  have hV := valid2_any d x hs0 hs1 W0.heap.size W1 hn
  rw [hc] at hV
  obtain ⟨a0, a1, a2, _, _, _⟩ := h1.three
  obtain ⟨b0, b1, b2, _, _, _⟩ := h2.three
  rw [d_box, d_box]
  have HB := Lib.hid hb1
  have HN := Lib.hid h3'
  have HN2 := Lib.hid h2'
  clear hc hs0 hs1 hn hb1 hb0 h1 h2 h3 h2' h3'
  go_enter Tryd.func13, Tryd.ntmps13
  go_wp2_with (go_at_call 23; refine hV.mono ?_)
  first | rintro e5 w5 rfl hb5 | rintro e5 w5 ⟨rfl, hb5⟩
  have hB5 := HN.out.below HN.out.lt hb5
  have hA5 := HN2.out.below HN2.out.lt hb5
  obtain ⟨c0, c1, c2, f0, f1, f2⟩ := hB5.three
  obtain ⟨d0, d1, d2, _, _, _⟩ := hA5.three
  have HB5 := Lib.hid (b_step hb5 HB.out)
  clear a0 a1 a2 b0 b1 b2 hb5 hW0 hW1 hV
  go_wp2
  refine bodyPost_ret (v := (R.err 2).val) (results_row_slot (by rfl) _ _ _ _ _ _ (by rfl) (hB5.set3 _ _ _) (by rfl)) rfl ⟨rfl, b_set3 HB5.out (by omega) _ _ _⟩
set_option maxRecDepth 100000 in
set_option maxHeartbeats 2000000 in
theorem Div_by0 (d x : D) (sc : Int) (hs0 : d.s.size ≤ maxLen) (hs1 : x.s.size ≤ maxLen) (hc : (d.check && x.check) = true) (h0 : x.s.toList = [48]) (w : World) :
    Calls Tryd.prog 13 #[d.val, x.val, .int .i64 sc] w fun e w' => e = .returned (R.err 2).val ∧ RowKit.Below w.heap.size w w' := by
  have h0b : (x.s.toList == [48]) = true := by rw [h0]; rfl
  obtain ⟨hb0, h1, h2, h3⟩ := three_start w (.bool d.neg) (.string d.s) (.int .i64 d.sc) (.bool x.neg) (.string x.s) (.int .i64 x.sc)
  obtain ⟨W0, hW0⟩ : ∃ W0, (((w.alloc (.cells #[.bool d.neg, .string d.s, .int .i64 d.sc] 23)).alloc (.cells #[.bool x.neg, .string x.s, .int .i64 x.sc] 23)).alloc (.cells #[.bool false, .string ⟨#[]⟩, .int .i64 0] 23)) = W0 := ⟨_, rfl⟩
  rw [hW0] at hb0 h1 h2 h3
  obtain ⟨W1, hW1⟩ : ∃ W1, W0.alloc (.cells #[.bool d.neg, .string d.s, .int .i64 d.sc, .bool x.neg, .string x.s, .int .i64 x.sc] 23) = W1 := ⟨_, rfl⟩
  have hb1 := b_alloc (o := .cells #[.bool d.neg, .string d.s, .int .i64 d.sc, .bool x.neg, .string x.s, .int .i64 x.sc] 23) hb0
  have hn := Blk.new W0 #[.bool d.neg, .string d.s, .int .i64 d.sc, .bool x.neg, .string x.s, .int .i64 x.sc] 23
  have h2' := h2.alloc (.cells #[.bool d.neg, .string d.s, .int .i64 d.sc, .bool x.neg, .string x.s, .int .i64 x.sc] 23)
  have h3' := h3.alloc (.cells #[.bool d.neg, .string d.s, .int .i64 d.sc, .bool x.neg, .string x.s, .int .i64 x.sc] 23)
  rw [hW1] at hb1 hn h2' h3'
  have hV := valid2_any d x hs0 hs1 W0.heap.size W1 hn
  rw [hc] at hV
  obtain ⟨a0, a1, a2, _, _, _⟩ := h1.three
  obtain ⟨b0, b1, b2, _, _, _⟩ := h2.three
  rw [d_box, d_box]
  have HB := Lib.hid hb1
  have HN := Lib.hid h3'
  have HN2 := Lib.hid h2'
  clear hc hs0 hs1 hn hb1 hb0 h1 h2 h3 h2' h3'
  go_enter Tryd.func13, Tryd.ntmps13
  go_wp2_with (go_at_call 23; refine hV.mono ?_)
  first | rintro e5 w5 rfl hb5 | rintro e5 w5 ⟨rfl, hb5⟩
  have hB5 := HN.out.below HN.out.lt hb5
  have hA5 := HN2.out.below HN2.out.lt hb5
  obtain ⟨c0, c1, c2, f0, f1, f2⟩ := hB5.three
  obtain ⟨d0, d1, d2, _, _, _⟩ := hA5.three
  have HB5 := Lib.hid (b_step hb5 HB.out)
  clear a0 a1 a2 b0 b1 b2 hb5 hW0 hW1 hV
  go_wp2
  refine bodyPost_ret (v := (R.err 2).val) (results_row_slot (by rfl) _ _ _ _ _ _ (by rfl) (hB5.set3 _ _ _) (by rfl)) rfl ⟨rfl, b_set3 HB5.out (by omega) _ _ _⟩
set_option maxRecDepth 100000 in
set_option maxHeartbeats 2000000 in
theorem Div_sc (d x : D) (sc : Int) (hs0 : d.s.size ≤ maxLen) (hs1 : x.s.size ≤ maxLen) (hc : (d.check && x.check) = true) (h0 : ¬ x.s.toList = [48]) (hsc : scB sc = false) (w : World) :
    Calls Tryd.prog 13 #[d.val, x.val, .int .i64 sc] w fun e w' => e = .returned (R.err 2).val ∧ RowKit.Below w.heap.size w w' := by
  have h0b : (x.s.toList == [48]) = false := by rw [beq_eq_false_iff_ne]; exact h0
  have hSc := isScale_any sc
  rw [hsc] at hSc
  clear hsc
  obtain ⟨hb0, h1, h2, h3⟩ := three_start w (.bool d.neg) (.string d.s) (.int .i64 d.sc) (.bool x.neg) (.string x.s) (.int .i64 x.sc)
  obtain ⟨W0, hW0⟩ : ∃ W0, (((w.alloc (.cells #[.bool d.neg, .string d.s, .int .i64 d.sc] 23)).alloc (.cells #[.bool x.neg, .string x.s, .int .i64 x.sc] 23)).alloc (.cells #[.bool false, .string ⟨#[]⟩, .int .i64 0] 23)) = W0 := ⟨_, rfl⟩
  rw [hW0] at hb0 h1 h2 h3
  obtain ⟨W1, hW1⟩ : ∃ W1, W0.alloc (.cells #[.bool d.neg, .string d.s, .int .i64 d.sc, .bool x.neg, .string x.s, .int .i64 x.sc] 23) = W1 := ⟨_, rfl⟩
  have hb1 := b_alloc (o := .cells #[.bool d.neg, .string d.s, .int .i64 d.sc, .bool x.neg, .string x.s, .int .i64 x.sc] 23) hb0
  have hn := Blk.new W0 #[.bool d.neg, .string d.s, .int .i64 d.sc, .bool x.neg, .string x.s, .int .i64 x.sc] 23
  have h2' := h2.alloc (.cells #[.bool d.neg, .string d.s, .int .i64 d.sc, .bool x.neg, .string x.s, .int .i64 x.sc] 23)
  have h3' := h3.alloc (.cells #[.bool d.neg, .string d.s, .int .i64 d.sc, .bool x.neg, .string x.s, .int .i64 x.sc] 23)
  rw [hW1] at hb1 hn h2' h3'
  have hV := valid2_any d x hs0 hs1 W0.heap.size W1 hn
  rw [hc] at hV
  obtain ⟨a0, a1, a2, _, _, _⟩ := h1.three
  obtain ⟨b0, b1, b2, _, _, _⟩ := h2.three
  rw [d_box, d_box]
  have HB := Lib.hid hb1
  have HN := Lib.hid h3'
  have HN2 := Lib.hid h2'
  clear hc hs0 hs1 hn hb1 hb0 h1 h2 h3 h2' h3'
  go_enter Tryd.func13, Tryd.ntmps13
  go_wp2_with (go_at_call 23; refine hV.mono ?_)
  first | rintro e5 w5 rfl hb5 | rintro e5 w5 ⟨rfl, hb5⟩
  have hB5 := HN.out.below HN.out.lt hb5
  have hA5 := HN2.out.below HN2.out.lt hb5
  obtain ⟨c0, c1, c2, f0, f1, f2⟩ := hB5.three
  obtain ⟨d0, d1, d2, _, _, _⟩ := hA5.three
  have HB5 := Lib.hid (b_step hb5 HB.out)
  clear a0 a1 a2 b0 b1 b2 hb5 hW0 hW1 hV
  go_wp2_with (go_at_call 18; refine (hSc _).mono ?_; rintro e w' ⟨rfl, rfl⟩)
  refine bodyPost_ret (v := (R.err 2).val) (results_row_slot (by rfl) _ _ _ _ _ _ (by rfl) (hB5.set3 _ _ _) (by rfl)) rfl ⟨rfl, b_set3 HB5.out (by omega) _ _ _⟩
end Dc
end Go.Proofs.YthnpbkplcboejaaDoor
