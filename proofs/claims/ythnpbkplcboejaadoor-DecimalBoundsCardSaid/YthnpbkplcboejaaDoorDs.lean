/- Decimal: Add, Sub, Cmp, Digits, Neg. -/
import Derived.Test.YthnpbkplcboejaaDoorDr
set_option linter.unusedSimpArgs false
set_option linter.unusedVariables false
namespace Go.Proofs.YthnpbkplcboejaaDoor
open Go.RowKit Go.Shelf Go.Lib Go.Sort
namespace Dc
def addS (a b : V) : R := sumS a b b.neg
def subS (a b : V) : R := sumS a b (!b.neg)
set_option maxRecDepth 100000 in
set_option maxHeartbeats 2000000 in
theorem Add_ok (a b : V) (ha : a.ok) (hb : b.ok) (w : World) : Calls Tryd.prog 9 #[a.d.val, b.d.val] w fun e w' => e = .returned (addS a b).val ∧ RowKit.Below w.heap.size w w' := by
  obtain ⟨hb0, h1, h2, h3⟩ := three_start w (.bool a.neg) (.string (decB a.n)) (.int .i64 (a.s : Int)) (.bool b.neg) (.string (decB b.n)) (.int .i64 (b.s : Int))
  obtain ⟨W0, hW0⟩ : ∃ W0, (((w.alloc (.cells #[.bool a.neg, .string (decB a.n), .int .i64 (a.s : Int)] 23)).alloc (.cells #[.bool b.neg, .string (decB b.n), .int .i64 (b.s : Int)] 23)).alloc (.cells #[.bool false, .string ⟨#[]⟩, .int .i64 0] 23)) = W0 := ⟨_, rfl⟩
  rw [hW0] at hb0 h1 h2 h3
  have hS := sum_ok a b ha hb b.neg W0
  rw [V.d_val, V.d_val] at hS ⊢
  obtain ⟨r, hr⟩ : ∃ r, (addS a b) = r := ⟨_, rfl⟩
  unfold addS at hr
  unfold addS
  rw [hr] at hS ⊢
  rw [R.val_eq] at hS
  obtain ⟨a0, a1, a2, _, _, _⟩ := h1.three
  obtain ⟨b0, b1, b2, _, _, _⟩ := h2.three
  have HB := Lib.hid hb0
  have HN := Lib.hid h3
  clear hb0 h1 h2 h3 hr ha hb
  go_enter Tryd.func9, Tryd.ntmps9
  go_wp2_with (go_at_call 28; refine hS.mono ?_)
  first | rintro e5 w5 rfl hb5 | rintro e5 w5 ⟨rfl, hb5⟩
  have hB5 := HN.out.below HN.out.lt hb5
  obtain ⟨c0, c1, c2, f0, f1, f2⟩ := hB5.three
  have HB5 := Lib.hid (b_step hb5 HB.out)
  clear a0 a1 a2 b0 b1 b2 hb5 hW0 hS
  go_wp2
  refine bodyPost_ret (v := r.val) (results_row_slot (by rfl) _ _ _ _ _ _ (by rfl) (hB5.set3 _ _ _) (by rfl)) rfl ⟨rfl, b_set3 HB5.out (by omega) _ _ _⟩
set_option maxRecDepth 100000 in
set_option maxHeartbeats 2000000 in
theorem Add_no (a b : D) (hs0 : a.s.size ≤ maxLen) (hs1 : b.s.size ≤ maxLen) (hc : (a.check && b.check) = false) (w : World) : Calls Tryd.prog 9 #[a.val, b.val] w fun e w' => e = .returned (R.err 2).val ∧ RowKit.Below w.heap.size w w' := by
  obtain ⟨hb0, h1, h2, h3⟩ := three_start w (.bool a.neg) (.string a.s) (.int .i64 a.sc) (.bool b.neg) (.string b.s) (.int .i64 b.sc)
  obtain ⟨W0, hW0⟩ : ∃ W0, (((w.alloc (.cells #[.bool a.neg, .string a.s, .int .i64 a.sc] 23)).alloc (.cells #[.bool b.neg, .string b.s, .int .i64 b.sc] 23)).alloc (.cells #[.bool false, .string ⟨#[]⟩, .int .i64 0] 23)) = W0 := ⟨_, rfl⟩
  rw [hW0] at hb0 h1 h2 h3
  have hS := sum_no a b b.neg hs0 hs1 hc W0
  rw [d_box, d_box] at hS ⊢
  obtain ⟨r, hr⟩ : ∃ r, R.err 2 = r := ⟨_, rfl⟩
  skip
  skip
  rw [hr] at hS ⊢
  rw [R.val_eq] at hS
  obtain ⟨a0, a1, a2, _, _, _⟩ := h1.three
  obtain ⟨b0, b1, b2, _, _, _⟩ := h2.three
  have HB := Lib.hid hb0
  have HN := Lib.hid h3
  clear hb0 h1 h2 h3 hr hs0 hs1 hc
  go_enter Tryd.func9, Tryd.ntmps9
  go_wp2_with (go_at_call 28; refine hS.mono ?_)
  first | rintro e5 w5 rfl hb5 | rintro e5 w5 ⟨rfl, hb5⟩
  have hB5 := HN.out.below HN.out.lt hb5
  obtain ⟨c0, c1, c2, f0, f1, f2⟩ := hB5.three
  have HB5 := Lib.hid (b_step hb5 HB.out)
  clear a0 a1 a2 b0 b1 b2 hb5 hW0 hS
  go_wp2
  refine bodyPost_ret (v := r.val) (results_row_slot (by rfl) _ _ _ _ _ _ (by rfl) (hB5.set3 _ _ _) (by rfl)) rfl ⟨rfl, b_set3 HB5.out (by omega) _ _ _⟩
set_option maxRecDepth 100000 in
set_option maxHeartbeats 2000000 in
theorem Sub_ok (a b : V) (ha : a.ok) (hb : b.ok) (w : World) : Calls Tryd.prog 11 #[a.d.val, b.d.val] w fun e w' => e = .returned (subS a b).val ∧ RowKit.Below w.heap.size w w' := by
  obtain ⟨hb0, h1, h2, h3⟩ := three_start w (.bool a.neg) (.string (decB a.n)) (.int .i64 (a.s : Int)) (.bool b.neg) (.string (decB b.n)) (.int .i64 (b.s : Int))
  obtain ⟨W0, hW0⟩ : ∃ W0, (((w.alloc (.cells #[.bool a.neg, .string (decB a.n), .int .i64 (a.s : Int)] 23)).alloc (.cells #[.bool b.neg, .string (decB b.n), .int .i64 (b.s : Int)] 23)).alloc (.cells #[.bool false, .string ⟨#[]⟩, .int .i64 0] 23)) = W0 := ⟨_, rfl⟩
  rw [hW0] at hb0 h1 h2 h3
  have hS := sum_ok a b ha hb (!b.neg) W0
  rw [V.d_val, V.d_val] at hS ⊢
  obtain ⟨r, hr⟩ : ∃ r, (subS a b) = r := ⟨_, rfl⟩
  unfold subS at hr
  unfold subS
  rw [hr] at hS ⊢
  rw [R.val_eq] at hS
  obtain ⟨a0, a1, a2, _, _, _⟩ := h1.three
  obtain ⟨b0, b1, b2, _, _, _⟩ := h2.three
  have HB := Lib.hid hb0
  have HN := Lib.hid h3
  clear hb0 h1 h2 h3 hr ha hb
  go_enter Tryd.func11, Tryd.ntmps11
  go_wp2_with (go_at_call 28; refine hS.mono ?_)
  first | rintro e5 w5 rfl hb5 | rintro e5 w5 ⟨rfl, hb5⟩
  have hB5 := HN.out.below HN.out.lt hb5
  obtain ⟨c0, c1, c2, f0, f1, f2⟩ := hB5.three
  have HB5 := Lib.hid (b_step hb5 HB.out)
  clear a0 a1 a2 b0 b1 b2 hb5 hW0 hS
  go_wp2
  refine bodyPost_ret (v := r.val) (results_row_slot (by rfl) _ _ _ _ _ _ (by rfl) (hB5.set3 _ _ _) (by rfl)) rfl ⟨rfl, b_set3 HB5.out (by omega) _ _ _⟩
set_option maxRecDepth 100000 in
set_option maxHeartbeats 2000000 in
theorem Sub_no (a b : D) (hs0 : a.s.size ≤ maxLen) (hs1 : b.s.size ≤ maxLen) (hc : (a.check && b.check) = false) (w : World) : Calls Tryd.prog 11 #[a.val, b.val] w fun e w' => e = .returned (R.err 2).val ∧ RowKit.Below w.heap.size w w' := by
  obtain ⟨hb0, h1, h2, h3⟩ := three_start w (.bool a.neg) (.string a.s) (.int .i64 a.sc) (.bool b.neg) (.string b.s) (.int .i64 b.sc)
  obtain ⟨W0, hW0⟩ : ∃ W0, (((w.alloc (.cells #[.bool a.neg, .string a.s, .int .i64 a.sc] 23)).alloc (.cells #[.bool b.neg, .string b.s, .int .i64 b.sc] 23)).alloc (.cells #[.bool false, .string ⟨#[]⟩, .int .i64 0] 23)) = W0 := ⟨_, rfl⟩
  rw [hW0] at hb0 h1 h2 h3
  have hS := sum_no a b (!b.neg) hs0 hs1 hc W0
  rw [d_box, d_box] at hS ⊢
  obtain ⟨r, hr⟩ : ∃ r, R.err 2 = r := ⟨_, rfl⟩
  skip
  skip
  rw [hr] at hS ⊢
  rw [R.val_eq] at hS
  obtain ⟨a0, a1, a2, _, _, _⟩ := h1.three
  obtain ⟨b0, b1, b2, _, _, _⟩ := h2.three
  have HB := Lib.hid hb0
  have HN := Lib.hid h3
  clear hb0 h1 h2 h3 hr hs0 hs1 hc
  go_enter Tryd.func11, Tryd.ntmps11
  go_wp2_with (go_at_call 28; refine hS.mono ?_)
  first | rintro e5 w5 rfl hb5 | rintro e5 w5 ⟨rfl, hb5⟩
  have hB5 := HN.out.below HN.out.lt hb5
  obtain ⟨c0, c1, c2, f0, f1, f2⟩ := hB5.three
  have HB5 := Lib.hid (b_step hb5 HB.out)
  clear a0 a1 a2 b0 b1 b2 hb5 hW0 hS
  go_wp2
  refine bodyPost_ret (v := r.val) (results_row_slot (by rfl) _ _ _ _ _ _ (by rfl) (hB5.set3 _ _ _) (by rfl)) rfl ⟨rfl, b_set3 HB5.out (by omega) _ _ _⟩
end Dc
end Go.Proofs.YthnpbkplcboejaaDoor
