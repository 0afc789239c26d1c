/- Decimal: Round where it is not; the reference: Div, Round. -/
import Derived.Test.YthnpbkplcboejaaGreatDoorFm
import Derived.Test.YthnpbkplcboejaaGreatDoorFh
import Derived.Test.YthnpbkplcboejaaGreatDoorDr
set_option linter.unusedSimpArgs false
set_option linter.unusedVariables false
namespace Go.Proofs.YthnpbkplcboejaaGreatDoor
open Go.RowKit Go.Shelf Go.Lib Go.Sort
namespace Dc
set_option maxRecDepth 100000 in
set_option maxHeartbeats 8000000 in
theorem Round_no (d : D) (sc : Int) (hs : d.s.size ≤ maxLen) (hc : d.check = false) (w : World) :
    Calls Tryz.prog 27 #[d.val, .int .i64 sc] w fun e w' => e = .returned (R.err 2).val ∧ RowKit.Below w.heap.size w w' := by
  obtain ⟨W1, hW1, hb1, h1, h2, h3⟩ := neg_start w (.bool d.neg) (.string d.s) (.int .i64 d.sc)
  have hV := valid1_any d hs _ W1 h3
  rw [hc] at hV
  rw [d_box]
  have HB := Lib.hid hb1
  have HN := Lib.hid h2
  have HN1 := Lib.hid h1
  clear hc hs h1 h2 h3 hb1
  go_enter Tryz.func27, Tryz.ntmps27
  go_wp2_with (go_at_call 39; refine hV.mono ?_)
  first | rintro e5 w5 rfl hb5 | rintro e5 w5 ⟨rfl, hb5⟩
  have hB5 := HN.out.below HN.out.lt hb5
  have hA5 := HN1.out.below HN1.out.lt hb5
  obtain ⟨c0, c1, c2, f0, f1, f2⟩ := hB5.three
  obtain ⟨d0, d1, d2, _, _, _⟩ := hA5.three
  have HB5 := Lib.hid (b_step hb5 HB.out)
  clear hb5 hW1 hV
  go_wp2
  refine bodyPost_ret (v := (R.err 2).val) (results_row_slot (by rfl) _ _ _ _ _ _ (by rfl) (hB5.set3 _ _ _) (by rfl)) rfl ⟨rfl, b_set3 HB5.out (by omega) _ _ _⟩
set_option maxRecDepth 100000 in
set_option maxHeartbeats 8000000 in
theorem Round_sc (d : D) (sc : Int) (hs : d.s.size ≤ maxLen) (hc : d.check = true) (hsc : scB sc = false) (w : World) :
    Calls Tryz.prog 27 #[d.val, .int .i64 sc] w fun e w' => e = .returned (R.err 2).val ∧ RowKit.Below w.heap.size w w' := by
  have hSc := isScale_any sc
  rw [hsc] at hSc
  clear hsc
  obtain ⟨W1, hW1, hb1, h1, h2, h3⟩ := neg_start w (.bool d.neg) (.string d.s) (.int .i64 d.sc)
  have hV := valid1_any d hs _ W1 h3
  rw [hc] at hV
  rw [d_box]
  have HB := Lib.hid hb1
  have HN := Lib.hid h2
  have HN1 := Lib.hid h1
  clear hc hs h1 h2 h3 hb1
  go_enter Tryz.func27, Tryz.ntmps27
  go_wp2_with (go_at_call 39; refine hV.mono ?_)
  first | rintro e5 w5 rfl hb5 | rintro e5 w5 ⟨rfl, hb5⟩
  have hB5 := HN.out.below HN.out.lt hb5
  have hA5 := HN1.out.below HN1.out.lt hb5
  obtain ⟨c0, c1, c2, f0, f1, f2⟩ := hB5.three
  obtain ⟨d0, d1, d2, _, _, _⟩ := hA5.three
  have HB5 := Lib.hid (b_step hb5 HB.out)
  clear hb5 hW1 hV
  go_wp2_with (go_at_call 42; refine (hSc _).mono ?_; rintro e w' ⟨rfl, rfl⟩)
  refine bodyPost_ret (v := (R.err 2).val) (results_row_slot (by rfl) _ _ _ _ _ _ (by rfl) (hB5.set3 _ _ _) (by rfl)) rfl ⟨rfl, b_set3 HB5.out (by omega) _ _ _⟩
theorem scB_no {sc : Int} (h : scB sc = false) : sc < 0 ∨ 60 < sc := by
  unfold scB at h
  by_cases h0 : 0 ≤ sc
  · rw [decide_eq_true h0, Bool.true_and, decide_eq_false_iff_not] at h; omega
  · omega
theorem rmade_q (neg : Bool) (n m : Nat) (hn : n < 10 ^ 200) (hm : m ≤ 1000) (w : World) :
    Calls Tryz.prog 38 #[.bool neg, .string (decB n), .int .i64 (m : Int)] w fun e w' => e = .returned (mk neg n m).val ∧ RowKit.Below w.heap.size w w' := by
  have h := rmade_any neg (decB n) m (decB_digs n) (decB_pos n) (Nat.le_trans (decB_le (k := 200) (by decide) hn) (by decide)) hm w
  rw [decB_dv] at h
  exact h
theorem last_byte (Q l : Nat) (h : l + 1 = (decB Q).size) (h1 : l < (decB Q).size) : ((decB Q)[l]'h1).toNat = 48 + Q % 10 := by
  have e1 := dec_last Q
  rw [List.getLast?_eq_getElem?] at e1
  have hsz := decB_size' Q
  have e2 := get_some (decB Q) l h1
  rw [show (dec Q).length - 1 = l by omega] at e1
  have e3 : some ((decB Q)[l]'h1) = some (UInt8.ofNat (48 + Q % 10)) := e2.symm.trans e1
  rw [Option.some.inj e3, ofNat_dig (Nat.mod_lt _ (by decide))]
set_option maxRecDepth 100000 in
set_option maxHeartbeats 8000000 in
theorem rDiv_no (d x : D) (sc : Int) (hs0 : d.s.size ≤ maxLen) (hs1 : x.s.size ≤ maxLen) (hc : (d.check && x.check) = false) (w : World) :
    Calls Tryz.prog 26 #[d.val, x.val, .int .i64 sc] w fun e w' => e = .returned (R.err 2).val ∧ RowKit.Below w.heap.size w w' := by
  have hC1 := fun W => rCheck_any d hs0 W
  have hC2 := fun W => rCheck_any x hs1 W
  obtain ⟨hb0, h1, h2, h3⟩ := three_start w (.bool d.neg) (.string d.s) (.int .i64 d.sc) (.bool x.neg) (.string x.s) (.int .i64 x.sc)
  obtain ⟨W0, hW0⟩ : ∃ W0, (((w.alloc (.cells #[.bool d.neg, .string d.s, .int .i64 d.sc] 23)).alloc (.cells #[.bool x.neg, .string x.s, .int .i64 x.sc] 23)).alloc (.cells #[.bool false, .string ⟨#[]⟩, .int .i64 0] 23)) = W0 := ⟨_, rfl⟩
  rw [hW0] at hb0 h1 h2 h3
  obtain ⟨a0, a1, a2, _, _, _⟩ := h1.three
  obtain ⟨b0, b1, b2, _, _, _⟩ := h2.three
  have HS0 : Hid (RowKit.Below w.heap.size w W0 ∧ Blk W0 (w.heap.size) (#[.bool d.neg, .string d.s, .int .i64 d.sc]) 23 ∧ Blk W0 (w.heap.size + 1) (#[.bool x.neg, .string x.s, .int .i64 x.sc]) 23 ∧ Blk W0 (w.heap.size + 2) (#[.bool false, .string ⟨#[]⟩, .int .i64 0]) 23) := ⟨hb0, h1, h2, h3⟩
  have hsz0 : w.heap.size + 3 ≤ W0.heap.size := by have := h3.lt; omega
  clear hb0 h1 h2 h3
  rw [d_box] at hC1 hC2
  rw [d_box, d_box]
  cases hd : d.check with
  | false =>
    rw [hd, if_neg Bool.false_ne_true] at hC1
    clear hd hc hs0 hs1 hC2
    go_enter Tryz.func26, Tryz.ntmps26
    go_wp2_with (go_at_call 12; refine (hC1 _).mono ?_)
    first | rintro e5 w5 rfl hb5 | rintro e5 w5 ⟨rfl, hb5⟩
    have hS5 : RowKit.Below w.heap.size w w5 ∧ Blk w5 (w.heap.size) (#[.bool d.neg, .string d.s, .int .i64 d.sc]) 23 ∧ Blk w5 (w.heap.size + 1) (#[.bool x.neg, .string x.s, .int .i64 x.sc]) 23 ∧ Blk w5 (w.heap.size + 2) (#[.bool false, .string ⟨#[]⟩, .int .i64 0]) 23 := ⟨b_step hb5 (HS0.out.1), (HS0.out.2.1).below (HS0.out.2.1).lt hb5, (HS0.out.2.2.1).below (HS0.out.2.2.1).lt hb5, (HS0.out.2.2.2).below (HS0.out.2.2.2).lt hb5⟩
    clear a0 a1 a2 b0 b1 b2 hb5
    clear HS0 hW0 hC1 hsz0
    obtain ⟨a0, a1, a2, _, _, _⟩ := (hS5.2.1).three
    obtain ⟨b0, b1, b2, _, _, _⟩ := (hS5.2.2.1).three
    obtain ⟨q0, q1, q2, f0, f1, f2⟩ := (hS5.2.2.2).three
    have HSk := Lib.hid hS5
    clear hS5
    go_wp2
    refine bodyPost_ret (v := (R.err 2).val) (results_row_slot (by rfl) _ _ _ _ _ _ (by rfl) ((HSk.out.2.2.2).set3 _ _ _) (by rfl)) rfl ⟨rfl, b_set3 (HSk.out.1) (by omega) _ _ _⟩
  | true =>
    have hx : x.check = false := by rw [hd, Bool.true_and] at hc; exact hc
    rw [hd, if_pos rfl] at hC1
    rw [hx, if_neg Bool.false_ne_true] at hC2
    clear hd hx hc hs0 hs1
    go_enter Tryz.func26, Tryz.ntmps26
    go_wp2_with (go_at_call 12; refine (hC1 _).mono ?_)
    first | rintro e5 w5 rfl hb5 | rintro e5 w5 ⟨rfl, hb5⟩
    have hS5 : RowKit.Below w.heap.size w w5 ∧ Blk w5 (w.heap.size) (#[.bool d.neg, .string d.s, .int .i64 d.sc]) 23 ∧ Blk w5 (w.heap.size + 1) (#[.bool x.neg, .string x.s, .int .i64 x.sc]) 23 ∧ Blk w5 (w.heap.size + 2) (#[.bool false, .string ⟨#[]⟩, .int .i64 0]) 23 := ⟨b_step hb5 (HS0.out.1), (HS0.out.2.1).below (HS0.out.2.1).lt hb5, (HS0.out.2.2.1).below (HS0.out.2.2.1).lt hb5, (HS0.out.2.2.2).below (HS0.out.2.2.2).lt hb5⟩
    clear a0 a1 a2 b0 b1 b2 hb5
    clear HS0 hW0 hsz0
    obtain ⟨a0, a1, a2, _, _, _⟩ := (hS5.2.1).three
    obtain ⟨b0, b1, b2, _, _, _⟩ := (hS5.2.2.1).three
    go_wp2_with (go_at_call 12; refine (hC2 _).mono ?_)
    first | rintro e6 w6 rfl hb6 | rintro e6 w6 ⟨rfl, hb6⟩
    have hS6 : RowKit.Below w.heap.size w w6 ∧ Blk w6 (w.heap.size) (#[.bool d.neg, .string d.s, .int .i64 d.sc]) 23 ∧ Blk w6 (w.heap.size + 1) (#[.bool x.neg, .string x.s, .int .i64 x.sc]) 23 ∧ Blk w6 (w.heap.size + 2) (#[.bool false, .string ⟨#[]⟩, .int .i64 0]) 23 := ⟨b_step hb6 (hS5.1), (hS5.2.1).below (hS5.2.1).lt hb6, (hS5.2.2.1).below (hS5.2.2.1).lt hb6, (hS5.2.2.2).below (hS5.2.2.2).lt hb6⟩
    clear a0 a1 a2 b0 b1 b2 hb6 hS5
    clear hC1 hC2
    obtain ⟨a0, a1, a2, _, _, _⟩ := (hS6.2.1).three
    obtain ⟨b0, b1, b2, _, _, _⟩ := (hS6.2.2.1).three
    obtain ⟨q0, q1, q2, f0, f1, f2⟩ := (hS6.2.2.2).three
    have HSk := Lib.hid hS6
    clear hS6
    go_wp2
    refine bodyPost_ret (v := (R.err 2).val) (results_row_slot (by rfl) _ _ _ _ _ _ (by rfl) ((HSk.out.2.2.2).set3 _ _ _) (by rfl)) rfl ⟨rfl, b_set3 (HSk.out.1) (by omega) _ _ _⟩
set_option maxRecDepth 100000 in
set_option maxHeartbeats 8000000 in
theorem rDiv_by0 (d x : D) (sc : Int) (hs0 : d.s.size ≤ maxLen) (hs1 : x.s.size ≤ maxLen) (hc : (d.check && x.check) = true) (h0 : x.s.toList = [48]) (w : World) :
    Calls Tryz.prog 26 #[d.val, x.val, .int .i64 sc] w fun e w' => e = .returned (R.err 2).val ∧ RowKit.Below w.heap.size w w' := by
  have hC1 := fun W => rCheck_any d hs0 W
  have hC2 := fun W => rCheck_any x hs1 W
  rw [Bool.and_eq_true] at hc
  rw [hc.1, if_pos rfl] at hC1
  rw [hc.2, if_pos rfl] at hC2
  have h0b : (x.s.toList == [48]) = true := by rw [h0]; rfl
  obtain ⟨hb0, h1, h2, h3⟩ := three_start w (.bool d.neg) (.string d.s) (.int .i64 d.sc) (.bool x.neg) (.string x.s) (.int .i64 x.sc)
  obtain ⟨W0, hW0⟩ : ∃ W0, (((w.alloc (.cells #[.bool d.neg, .string d.s, .int .i64 d.sc] 23)).alloc (.cells #[.bool x.neg, .string x.s, .int .i64 x.sc] 23)).alloc (.cells #[.bool false, .string ⟨#[]⟩, .int .i64 0] 23)) = W0 := ⟨_, rfl⟩
  rw [hW0] at hb0 h1 h2 h3
  obtain ⟨a0, a1, a2, _, _, _⟩ := h1.three
  obtain ⟨b0, b1, b2, _, _, _⟩ := h2.three
  have HS0 : Hid (RowKit.Below w.heap.size w W0 ∧ Blk W0 (w.heap.size) (#[.bool d.neg, .string d.s, .int .i64 d.sc]) 23 ∧ Blk W0 (w.heap.size + 1) (#[.bool x.neg, .string x.s, .int .i64 x.sc]) 23 ∧ Blk W0 (w.heap.size + 2) (#[.bool false, .string ⟨#[]⟩, .int .i64 0]) 23) := ⟨hb0, h1, h2, h3⟩
  have hsz0 : w.heap.size + 3 ≤ W0.heap.size := by have := h3.lt; omega
  clear hb0 h1 h2 h3
  rw [d_box] at hC1 hC2
  rw [d_box, d_box]
  clear hc hs0 hs1
  go_enter Tryz.func26, Tryz.ntmps26
  go_wp2_with (go_at_call 12; refine (hC1 _).mono ?_)
  first | rintro e5 w5 rfl hb5 | rintro e5 w5 ⟨rfl, hb5⟩
  have hS5 : RowKit.Below w.heap.size w w5 ∧ Blk w5 (w.heap.size) (#[.bool d.neg, .string d.s, .int .i64 d.sc]) 23 ∧ Blk w5 (w.heap.size + 1) (#[.bool x.neg, .string x.s, .int .i64 x.sc]) 23 ∧ Blk w5 (w.heap.size + 2) (#[.bool false, .string ⟨#[]⟩, .int .i64 0]) 23 := ⟨b_step hb5 (HS0.out.1), (HS0.out.2.1).below (HS0.out.2.1).lt hb5, (HS0.out.2.2.1).below (HS0.out.2.2.1).lt hb5, (HS0.out.2.2.2).below (HS0.out.2.2.2).lt hb5⟩
  clear a0 a1 a2 b0 b1 b2 hb5
  clear HS0 hW0 hsz0
  obtain ⟨a0, a1, a2, _, _, _⟩ := (hS5.2.1).three
  obtain ⟨b0, b1, b2, _, _, _⟩ := (hS5.2.2.1).three
  go_wp2_with (go_at_call 12; refine (hC2 _).mono ?_)
  first | rintro e6 w6 rfl hb6 | rintro e6 w6 ⟨rfl, hb6⟩
  have hS6 : RowKit.Below w.heap.size w w6 ∧ Blk w6 (w.heap.size) (#[.bool d.neg, .string d.s, .int .i64 d.sc]) 23 ∧ Blk w6 (w.heap.size + 1) (#[.bool x.neg, .string x.s, .int .i64 x.sc]) 23 ∧ Blk w6 (w.heap.size + 2) (#[.bool false, .string ⟨#[]⟩, .int .i64 0]) 23 := ⟨b_step hb6 (hS5.1), (hS5.2.1).below (hS5.2.1).lt hb6, (hS5.2.2.1).below (hS5.2.2.1).lt hb6, (hS5.2.2.2).below (hS5.2.2.2).lt hb6⟩
  clear a0 a1 a2 b0 b1 b2 hb6 hS5
  clear hC1 hC2
  obtain ⟨a0, a1, a2, _, _, _⟩ := (hS6.2.1).three
  obtain ⟨b0, b1, b2, _, _, _⟩ := (hS6.2.2.1).three
  obtain ⟨q0, q1, q2, f0, f1, f2⟩ := (hS6.2.2.2).three
  have HSk := Lib.hid hS6
  clear hS6
  go_wp2
  refine bodyPost_ret (v := (R.err 2).val) (results_row_slot (by rfl) _ _ _ _ _ _ (by rfl) ((HSk.out.2.2.2).set3 _ _ _) (by rfl)) rfl ⟨rfl, b_set3 (HSk.out.1) (by omega) _ _ _⟩
set_option maxRecDepth 100000 in
set_option maxHeartbeats 8000000 in
theorem rDiv_sc (d x : D) (sc : Int) (hs0 : d.s.size ≤ maxLen) (hs1 : x.s.size ≤ maxLen) (hc : (d.check && x.check) = true) (h0 : ¬ x.s.toList = [48]) (hsc : scB sc = false) (w : World) :
    Calls Tryz.prog 26 #[d.val, x.val, .int .i64 sc] w fun e w' => e = .returned (R.err 2).val ∧ RowKit.Below w.heap.size w w' := by
  have hC1 := fun W => rCheck_any d hs0 W
  have hC2 := fun W => rCheck_any x hs1 W
  rw [Bool.and_eq_true] at hc
  rw [hc.1, if_pos rfl] at hC1
  rw [hc.2, if_pos rfl] at hC2
  have h0b : (x.s.toList == [48]) = false := by rw [beq_eq_false_iff_ne]; exact h0
  have hsc := scB_no hsc
  obtain ⟨hb0, h1, h2, h3⟩ := three_start w (.bool d.neg) (.string d.s) (.int .i64 d.sc) (.bool x.neg) (.string x.s) (.int .i64 x.sc)
  obtain ⟨W0, hW0⟩ : ∃ W0, (((w.alloc (.cells #[.bool d.neg, .string d.s, .int .i64 d.sc] 23)).alloc (.cells #[.bool x.neg, .string x.s, .int .i64 x.sc] 23)).alloc (.cells #[.bool false, .string ⟨#[]⟩, .int .i64 0] 23)) = W0 := ⟨_, rfl⟩
  rw [hW0] at hb0 h1 h2 h3
  obtain ⟨a0, a1, a2, _, _, _⟩ := h1.three
  obtain ⟨b0, b1, b2, _, _, _⟩ := h2.three
  have HS0 : Hid (RowKit.Below w.heap.size w W0 ∧ Blk W0 (w.heap.size) (#[.bool d.neg, .string d.s, .int .i64 d.sc]) 23 ∧ Blk W0 (w.heap.size + 1) (#[.bool x.neg, .string x.s, .int .i64 x.sc]) 23 ∧ Blk W0 (w.heap.size + 2) (#[.bool false, .string ⟨#[]⟩, .int .i64 0]) 23) := ⟨hb0, h1, h2, h3⟩
  have hsz0 : w.heap.size + 3 ≤ W0.heap.size := by have := h3.lt; omega
  clear hb0 h1 h2 h3
  rw [d_box] at hC1 hC2
  rw [d_box, d_box]
  by_cases hn : sc < 0
  · have g0 : decide (sc < 0) = true := decide_eq_true hn
    clear hsc
    clear hc hs0 hs1
    go_enter Tryz.func26, Tryz.ntmps26
    go_wp2_with (go_at_call 12; refine (hC1 _).mono ?_)
    first | rintro e5 w5 rfl hb5 | rintro e5 w5 ⟨rfl, hb5⟩
    have hS5 : RowKit.Below w.heap.size w w5 ∧ Blk w5 (w.heap.size) (#[.bool d.neg, .string d.s, .int .i64 d.sc]) 23 ∧ Blk w5 (w.heap.size + 1) (#[.bool x.neg, .string x.s, .int .i64 x.sc]) 23 ∧ Blk w5 (w.heap.size + 2) (#[.bool false, .string ⟨#[]⟩, .int .i64 0]) 23 := ⟨b_step hb5 (HS0.out.1), (HS0.out.2.1).below (HS0.out.2.1).lt hb5, (HS0.out.2.2.1).below (HS0.out.2.2.1).lt hb5, (HS0.out.2.2.2).below (HS0.out.2.2.2).lt hb5⟩
    clear a0 a1 a2 b0 b1 b2 hb5
    clear HS0 hW0 hsz0
    obtain ⟨a0, a1, a2, _, _, _⟩ := (hS5.2.1).three
    obtain ⟨b0, b1, b2, _, _, _⟩ := (hS5.2.2.1).three
    go_wp2_with (go_at_call 12; refine (hC2 _).mono ?_)
    first | rintro e6 w6 rfl hb6 | rintro e6 w6 ⟨rfl, hb6⟩
    have hS6 : RowKit.Below w.heap.size w w6 ∧ Blk w6 (w.heap.size) (#[.bool d.neg, .string d.s, .int .i64 d.sc]) 23 ∧ Blk w6 (w.heap.size + 1) (#[.bool x.neg, .string x.s, .int .i64 x.sc]) 23 ∧ Blk w6 (w.heap.size + 2) (#[.bool false, .string ⟨#[]⟩, .int .i64 0]) 23 := ⟨b_step hb6 (hS5.1), (hS5.2.1).below (hS5.2.1).lt hb6, (hS5.2.2.1).below (hS5.2.2.1).lt hb6, (hS5.2.2.2).below (hS5.2.2.2).lt hb6⟩
    clear a0 a1 a2 b0 b1 b2 hb6 hS5
    clear hC1 hC2
    obtain ⟨a0, a1, a2, _, _, _⟩ := (hS6.2.1).three
    obtain ⟨b0, b1, b2, _, _, _⟩ := (hS6.2.2.1).three
    obtain ⟨q0, q1, q2, f0, f1, f2⟩ := (hS6.2.2.2).three
    have HSk := Lib.hid hS6
    clear hS6
    go_wp2
    refine bodyPost_ret (v := (R.err 2).val) (results_row_slot (by rfl) _ _ _ _ _ _ (by rfl) ((HSk.out.2.2.2).set3 _ _ _) (by rfl)) rfl ⟨rfl, b_set3 (HSk.out.1) (by omega) _ _ _⟩
  · have hm : 60 < sc := by omega
    have g0 : decide (sc < 0) = false := decide_eq_false hn
    have g1 : decide (60 < sc) = true := decide_eq_true hm
    clear hsc
    clear hc hs0 hs1
    go_enter Tryz.func26, Tryz.ntmps26
    go_wp2_with (go_at_call 12; refine (hC1 _).mono ?_)
    first | rintro e5 w5 rfl hb5 | rintro e5 w5 ⟨rfl, hb5⟩
    have hS5 : RowKit.Below w.heap.size w w5 ∧ Blk w5 (w.heap.size) (#[.bool d.neg, .string d.s, .int .i64 d.sc]) 23 ∧ Blk w5 (w.heap.size + 1) (#[.bool x.neg, .string x.s, .int .i64 x.sc]) 23 ∧ Blk w5 (w.heap.size + 2) (#[.bool false, .string ⟨#[]⟩, .int .i64 0]) 23 := ⟨b_step hb5 (HS0.out.1), (HS0.out.2.1).below (HS0.out.2.1).lt hb5, (HS0.out.2.2.1).below (HS0.out.2.2.1).lt hb5, (HS0.out.2.2.2).below (HS0.out.2.2.2).lt hb5⟩
    clear a0 a1 a2 b0 b1 b2 hb5
    clear HS0 hW0 hsz0
    obtain ⟨a0, a1, a2, _, _, _⟩ := (hS5.2.1).three
    obtain ⟨b0, b1, b2, _, _, _⟩ := (hS5.2.2.1).three
    go_wp2_with (go_at_call 12; refine (hC2 _).mono ?_)
    first | rintro e6 w6 rfl hb6 | rintro e6 w6 ⟨rfl, hb6⟩
    have hS6 : RowKit.Below w.heap.size w w6 ∧ Blk w6 (w.heap.size) (#[.bool d.neg, .string d.s, .int .i64 d.sc]) 23 ∧ Blk w6 (w.heap.size + 1) (#[.bool x.neg, .string x.s, .int .i64 x.sc]) 23 ∧ Blk w6 (w.heap.size + 2) (#[.bool false, .string ⟨#[]⟩, .int .i64 0]) 23 := ⟨b_step hb6 (hS5.1), (hS5.2.1).below (hS5.2.1).lt hb6, (hS5.2.2.1).below (hS5.2.2.1).lt hb6, (hS5.2.2.2).below (hS5.2.2.2).lt hb6⟩
    clear a0 a1 a2 b0 b1 b2 hb6 hS5
    clear hC1 hC2
    obtain ⟨a0, a1, a2, _, _, _⟩ := (hS6.2.1).three
    obtain ⟨b0, b1, b2, _, _, _⟩ := (hS6.2.2.1).three
    obtain ⟨q0, q1, q2, f0, f1, f2⟩ := (hS6.2.2.2).three
    have HSk := Lib.hid hS6
    clear hS6
    go_wp2
    refine bodyPost_ret (v := (R.err 2).val) (results_row_slot (by rfl) _ _ _ _ _ _ (by rfl) ((HSk.out.2.2.2).set3 _ _ _) (by rfl)) rfl ⟨rfl, b_set3 (HSk.out.1) (by omega) _ _ _⟩
set_option maxRecDepth 100000 in
set_option maxHeartbeats 8000000 in
theorem rDiv_ok (a b : V) (ha : a.ok) (hb : b.ok) (sc : Nat) (hsc : sc ≤ 60) (hb0 : b.n ≠ 0) (w : World) :
    Calls Tryz.prog 26 #[a.d.val, b.d.val, .int .i64 (sc : Int)] w fun e w' => e = .returned (divS a b sc).val ∧ RowKit.Below w.heap.size w w' := by
  have hla := ha.len
  have hlb := hb.len
  have hC1 := fun W => rCheck_any a.d (by show (decB a.n).size ≤ _; unfold maxLen; omega) W
  have hC2 := fun W => rCheck_any b.d (by show (decB b.n).size ≤ _; unfold maxLen; omega) W
  rw [V.check ha, if_pos rfl, V.d_val] at hC1
  rw [V.check hb, if_pos rfl, V.d_val] at hC2
  have hzz : ¬ dec b.n = [48] := fun h => hb0 (by have := congrArg dv h; rw [dv_dec] at this; exact this)
  have hzb : (dec b.n == [48]) = false := beq_eq_false_iff_ne.2 hzz
  have hSm := fun W => rsame_any a b ha hb W
  obtain ⟨p1, q1⟩ := alB_size a b ha hb
  obtain ⟨p2, q2⟩ := alB_size b a hb ha
  have u1 := alB_dv a b
  have u2 := alB_dv b a
  have v1 := alB_digs a b
  have v2 := alB_digs b a
  have hX := al_lt ha hb
  have hY0 : 0 < al b a := pos_al hb0
  rw [show a.n * 10 ^ (max a.s b.s - a.s) = al a b from rfl] at u1
  rw [show b.n * 10 ^ (max b.s a.s - b.s) = al b a from rfl] at u2
  have hq := div_eq a b sc
  obtain ⟨m, hm⟩ : ∃ m, max a.s b.s = m := ⟨_, rfl⟩
  obtain ⟨X, hXe⟩ : ∃ X, al a b = X := ⟨_, rfl⟩
  obtain ⟨Y, hYe⟩ : ∃ Y, al b a = Y := ⟨_, rfl⟩
  obtain ⟨xs, hxs⟩ : ∃ x, alB a b = x := ⟨_, rfl⟩
  obtain ⟨ys, hys⟩ : ∃ x, alB b a = x := ⟨_, rfl⟩
  rw [hXe] at hX u1 hq
  rw [hYe] at hY0 u2 hq
  rw [hxs] at p1 q1 u1 v1
  rw [hys] at p2 q2 u2 v2
  rw [hxs, hys, hm, V.d_val, V.d_val] at hSm
  have hZ := fun W => rzeros_any sc (by omega) W
  have hzs := zs_size sc
  have hzl := zs_list sc
  obtain ⟨z, hz⟩ : ∃ z, zs sc = z := ⟨_, rfl⟩
  rw [hz] at hZ hzs hzl
  obtain ⟨y, hy⟩ : ∃ y, xs ++ z = y := ⟨_, rfl⟩
  have hyl : y.data.toList = xs.data.toList ++ List.replicate sc 48 := by rw [← hy, app_list', hzl]
  have hyn : y.size = xs.size + sc := by rw [← size_list', hyl, List.length_append, List.length_replicate, size_list']
  have hyd : digs y.data.toList = true := by rw [hyl, digs_append, v1, digs_zeros]; rfl
  have hyv : dv y.data.toList = X * 10 ^ sc := by rw [hyl, dv_trail, u1]
  have hOv := fun W => rover_any y ys hyd v2 (by omega) p2 (by omega) (by omega) (by rw [u2]; exact hY0) W
  rw [hyv, u2] at hOv
  have hQ : X * 10 ^ sc / Y < 10 ^ 200 := by
    refine Nat.lt_of_le_of_lt (Nat.div_le_self _ _) ?_
    exact Nat.lt_of_le_of_lt (Nat.mul_le_mul (Nat.le_of_lt hX) (Nat.pow_le_pow_right (by decide) hsc)) (by decide)
  obtain ⟨Q, hQe⟩ : ∃ Q, X * 10 ^ sc / Y = Q := ⟨_, rfl⟩
  obtain ⟨q0, hq0⟩ : ∃ x, decB (X * 10 ^ sc % Y) = x := ⟨_, rfl⟩
  rw [hq0] at hOv
  rw [hQe] at hOv hQ hq
  have hM := fun W => rmade_q (a.neg != b.neg) Q sc hQ (by omega) W
  obtain ⟨r, hr⟩ : ∃ r, divS a b sc = r := ⟨_, rfl⟩
  have hr2 : mk (a.neg != b.neg) Q sc = r := by rw [← hr]; unfold divS; rw [hq]
  rw [hr2, R.val_eq] at hM
  rw [hr]
  obtain ⟨qs, hqs⟩ : ∃ x, decB Q = x := ⟨_, rfl⟩
  rw [hqs] at hOv hM
  have hcat : ¬ 9223372036854775807 < xs.size + z.size := by omega
  have hm2 : sc ≤ 60 := hsc
  have HOv := Lib.hid hOv
  have HM := Lib.hid hM
  obtain ⟨hb0, h1, h2, h3⟩ := three_start w (.bool a.neg) (.string (decB a.n)) (.int .i64 (a.s : Int)) (.bool b.neg) (.string (decB b.n)) (.int .i64 (b.s : Int))
  obtain ⟨W0, hW0⟩ : ∃ W0, (((w.alloc (.cells #[.bool a.neg, .string (decB a.n), .int .i64 (a.s : Int)] 23)).alloc (.cells #[.bool b.neg, .string (decB b.n), .int .i64 (b.s : Int)] 23)).alloc (.cells #[.bool false, .string ⟨#[]⟩, .int .i64 0] 23)) = W0 := ⟨_, rfl⟩
  rw [hW0] at hb0 h1 h2 h3
  obtain ⟨a0, a1, a2, _, _, _⟩ := h1.three
  obtain ⟨b0, b1, b2, _, _, _⟩ := h2.three
  have HS0 : Hid (RowKit.Below w.heap.size w W0 ∧ Blk W0 (w.heap.size) (#[.bool a.neg, .string (decB a.n), .int .i64 (a.s : Int)]) 23 ∧ Blk W0 (w.heap.size + 1) (#[.bool b.neg, .string (decB b.n), .int .i64 (b.s : Int)]) 23 ∧ Blk W0 (w.heap.size + 2) (#[.bool false, .string ⟨#[]⟩, .int .i64 0]) 23) := ⟨hb0, h1, h2, h3⟩
  have hsz0 : w.heap.size + 3 ≤ W0.heap.size := by have := h3.lt; omega
  clear hb0 h1 h2 h3
  rw [V.d_val, V.d_val]
  clear ha hb hla hlb p1 q1 p2 q2 u1 u2 v1 v2 hX hY0 hq hm hXe hYe hxs hys hzs hzl hz hyl hyn hyd hyv hOv hQ hQe hq0 hM hr hr2 hqs hb0
  go_enter Tryz.func26, Tryz.ntmps26
  go_wp2_with (go_at_call 12; refine (hC1 _).mono ?_)
  first | rintro e5 w5 rfl hb5 | rintro e5 w5 ⟨rfl, hb5⟩
  have hS5 : RowKit.Below w.heap.size w w5 ∧ Blk w5 (w.heap.size) (#[.bool a.neg, .string (decB a.n), .int .i64 (a.s : Int)]) 23 ∧ Blk w5 (w.heap.size + 1) (#[.bool b.neg, .string (decB b.n), .int .i64 (b.s : Int)]) 23 ∧ Blk w5 (w.heap.size + 2) (#[.bool false, .string ⟨#[]⟩, .int .i64 0]) 23 := ⟨b_step hb5 (HS0.out.1), (HS0.out.2.1).below (HS0.out.2.1).lt hb5, (HS0.out.2.2.1).below (HS0.out.2.2.1).lt hb5, (HS0.out.2.2.2).below (HS0.out.2.2.2).lt hb5⟩
  clear a0 a1 a2 b0 b1 b2 hb5
  have hsz5 : w.heap.size + 3 ≤ w5.heap.size := by have := hS5.2.2.2.lt; omega
  clear HS0 hW0 hsz0
  obtain ⟨a0, a1, a2, _, _, _⟩ := (hS5.2.1).three
  obtain ⟨b0, b1, b2, _, _, _⟩ := (hS5.2.2.1).three
  go_wp2_with (go_at_call 12; refine (hC2 _).mono ?_)
  first | rintro e6 w6 rfl hb6 | rintro e6 w6 ⟨rfl, hb6⟩
  have hS6 : RowKit.Below w.heap.size w w6 ∧ Blk w6 (w.heap.size) (#[.bool a.neg, .string (decB a.n), .int .i64 (a.s : Int)]) 23 ∧ Blk w6 (w.heap.size + 1) (#[.bool b.neg, .string (decB b.n), .int .i64 (b.s : Int)]) 23 ∧ Blk w6 (w.heap.size + 2) (#[.bool false, .string ⟨#[]⟩, .int .i64 0]) 23 := ⟨b_step hb6 (hS5.1), (hS5.2.1).below (hS5.2.1).lt hb6, (hS5.2.2.1).below (hS5.2.2.1).lt hb6, (hS5.2.2.2).below (hS5.2.2.2).lt hb6⟩
  clear a0 a1 a2 b0 b1 b2 hb6 hS5
  clear hC1 hC2
  obtain ⟨a0, a1, a2, _, _, _⟩ := (hS6.2.1).three
  obtain ⟨b0, b1, b2, _, _, _⟩ := (hS6.2.2.1).three
  go_wp2_with (go_at_call 53; refine (hSm _).mono ?_)
  first | rintro e7 w7 rfl hb7 | rintro e7 w7 ⟨rfl, hb7⟩
  have hS7 : RowKit.Below w.heap.size w w7 ∧ Blk w7 (w.heap.size) (#[.bool a.neg, .string (decB a.n), .int .i64 (a.s : Int)]) 23 ∧ Blk w7 (w.heap.size + 1) (#[.bool b.neg, .string (decB b.n), .int .i64 (b.s : Int)]) 23 ∧ Blk w7 (w.heap.size + 2) (#[.bool false, .string ⟨#[]⟩, .int .i64 0]) 23 := ⟨b_step hb7 (hS6.1), (hS6.2.1).below (hS6.2.1).lt hb7, (hS6.2.2.1).below (hS6.2.2.1).lt hb7, (hS6.2.2.2).below (hS6.2.2.2).lt hb7⟩
  clear a0 a1 a2 b0 b1 b2 hb7 hS6 hSm hzz hzb
  go_wp2_with (first | (go_at_call 41; refine (hZ _).mono ?_; rintro e w' ⟨rfl, rfl⟩) | (go_at_call 57; refine (HOv.out _).mono ?_))
  first | rintro e8 w8 rfl hb8 | rintro e8 w8 ⟨rfl, hb8⟩
  have hS8 : RowKit.Below w.heap.size w w8 ∧ Blk w8 (w.heap.size) (#[.bool a.neg, .string (decB a.n), .int .i64 (a.s : Int)]) 23 ∧ Blk w8 (w.heap.size + 1) (#[.bool b.neg, .string (decB b.n), .int .i64 (b.s : Int)]) 23 ∧ Blk w8 (w.heap.size + 2) (#[.bool false, .string ⟨#[]⟩, .int .i64 0]) 23 := ⟨b_step hb8 (hS7.1), (hS7.2.1).below (hS7.2.1).lt hb8, (hS7.2.2.1).below (hS7.2.2.1).lt hb8, (hS7.2.2.2).below (hS7.2.2.2).lt hb8⟩
  clear hb8 hS7 hZ HOv hcat hy
  obtain ⟨a0, a1, a2, _, _, _⟩ := (hS8.2.1).three
  obtain ⟨b0, b1, b2, _, _, _⟩ := (hS8.2.2.1).three
  go_wp2_with (go_at_call 38; refine (HM.out _).mono ?_)
  first | rintro e9 w9 rfl hb9 | rintro e9 w9 ⟨rfl, hb9⟩
  have hS9 : RowKit.Below w.heap.size w w9 ∧ Blk w9 (w.heap.size) (#[.bool a.neg, .string (decB a.n), .int .i64 (a.s : Int)]) 23 ∧ Blk w9 (w.heap.size + 1) (#[.bool b.neg, .string (decB b.n), .int .i64 (b.s : Int)]) 23 ∧ Blk w9 (w.heap.size + 2) (#[.bool false, .string ⟨#[]⟩, .int .i64 0]) 23 := ⟨b_step hb9 (hS8.1), (hS8.2.1).below (hS8.2.1).lt hb9, (hS8.2.2.1).below (hS8.2.2.1).lt hb9, (hS8.2.2.2).below (hS8.2.2.2).lt hb9⟩
  clear a0 a1 a2 b0 b1 b2 hb9 hS8 HM
  obtain ⟨q0, q1, q2, f0, f1, f2⟩ := (hS9.2.2.2).three
  have HSk := Lib.hid hS9
  clear hS9
  go_wp2
  refine bodyPost_ret (v := r.val) (results_row_slot (by rfl) _ _ _ _ _ _ (by rfl) ((HSk.out.2.2.2).set3 _ _ _) (by rfl)) rfl ⟨rfl, b_set3 (HSk.out.1) (by omega) _ _ _⟩
set_option maxRecDepth 100000 in
set_option maxHeartbeats 8000000 in
theorem rRound_no (d : D) (sc : Int) (hs : d.s.size ≤ maxLen) (hc : d.check = false) (w : World) :
    Calls Tryz.prog 28 #[d.val, .int .i64 sc] w fun e w' => e = .returned (R.err 2).val ∧ RowKit.Below w.heap.size w w' := by
  have hC1 := fun W => rCheck_any d hs W
  rw [hc, if_neg Bool.false_ne_true] at hC1
  obtain ⟨hb0, h1, h2⟩ := two_start w (.bool d.neg) (.string d.s) (.int .i64 d.sc) (.bool false) (.string ⟨#[]⟩) (.int .i64 0)
  obtain ⟨W0, hW0⟩ : ∃ W0, ((w.alloc (.cells #[.bool d.neg, .string d.s, .int .i64 d.sc] 23)).alloc (.cells #[.bool false, .string ⟨#[]⟩, .int .i64 0] 23)) = W0 := ⟨_, rfl⟩
  rw [hW0] at hb0 h1 h2
  obtain ⟨a0, a1, a2, _, _, _⟩ := h1.three
  have HS0 : Hid (RowKit.Below w.heap.size w W0 ∧ Blk W0 (w.heap.size) (#[.bool d.neg, .string d.s, .int .i64 d.sc]) 23 ∧ Blk W0 (w.heap.size + 1) (#[.bool false, .string ⟨#[]⟩, .int .i64 0]) 23) := ⟨hb0, h1, h2⟩
  have hsz0 : w.heap.size + 2 ≤ W0.heap.size := by have := h2.lt; omega
  clear hb0 h1 h2
  rw [d_box] at hC1
  rw [d_box]
  clear hc hs
  go_enter Tryz.func28, Tryz.ntmps28
  go_wp2_with (go_at_call 12; refine (hC1 _).mono ?_)
  first | rintro e5 w5 rfl hb5 | rintro e5 w5 ⟨rfl, hb5⟩
  have hS5 : RowKit.Below w.heap.size w w5 ∧ Blk w5 (w.heap.size) (#[.bool d.neg, .string d.s, .int .i64 d.sc]) 23 ∧ Blk w5 (w.heap.size + 1) (#[.bool false, .string ⟨#[]⟩, .int .i64 0]) 23 := ⟨b_step hb5 (HS0.out.1), (HS0.out.2.1).below (HS0.out.2.1).lt hb5, (HS0.out.2.2).below (HS0.out.2.2).lt hb5⟩
  clear a0 a1 a2 hb5
  clear HS0 hW0 hC1 hsz0
  obtain ⟨a0, a1, a2, _, _, _⟩ := (hS5.2.1).three
  obtain ⟨q0, q1, q2, f0, f1, f2⟩ := (hS5.2.2).three
  have HSk := Lib.hid hS5
  clear hS5
  go_wp2
  refine bodyPost_ret (v := (R.err 2).val) (results_row_slot (by rfl) _ _ _ _ _ _ (by rfl) ((HSk.out.2.2).set3 _ _ _) (by rfl)) rfl ⟨rfl, b_set3 (HSk.out.1) (by omega) _ _ _⟩
set_option maxRecDepth 100000 in
set_option maxHeartbeats 8000000 in
theorem rRound_sc (d : D) (sc : Int) (hs : d.s.size ≤ maxLen) (hc : d.check = true) (hsc : scB sc = false) (w : World) :
    Calls Tryz.prog 28 #[d.val, .int .i64 sc] w fun e w' => e = .returned (R.err 2).val ∧ RowKit.Below w.heap.size w w' := by
  have hC1 := fun W => rCheck_any d hs W
  rw [hc, if_pos rfl] at hC1
  have hsc := scB_no hsc
  obtain ⟨hb0, h1, h2⟩ := two_start w (.bool d.neg) (.string d.s) (.int .i64 d.sc) (.bool false) (.string ⟨#[]⟩) (.int .i64 0)
  obtain ⟨W0, hW0⟩ : ∃ W0, ((w.alloc (.cells #[.bool d.neg, .string d.s, .int .i64 d.sc] 23)).alloc (.cells #[.bool false, .string ⟨#[]⟩, .int .i64 0] 23)) = W0 := ⟨_, rfl⟩
  rw [hW0] at hb0 h1 h2
  obtain ⟨a0, a1, a2, _, _, _⟩ := h1.three
  have HS0 : Hid (RowKit.Below w.heap.size w W0 ∧ Blk W0 (w.heap.size) (#[.bool d.neg, .string d.s, .int .i64 d.sc]) 23 ∧ Blk W0 (w.heap.size + 1) (#[.bool false, .string ⟨#[]⟩, .int .i64 0]) 23) := ⟨hb0, h1, h2⟩
  have hsz0 : w.heap.size + 2 ≤ W0.heap.size := by have := h2.lt; omega
  clear hb0 h1 h2
  rw [d_box] at hC1
  rw [d_box]
  by_cases hn : sc < 0
  · have g0 : decide (sc < 0) = true := decide_eq_true hn
    clear hsc
    clear hc hs
    go_enter Tryz.func28, Tryz.ntmps28
    go_wp2_with (go_at_call 12; refine (hC1 _).mono ?_)
    first | rintro e5 w5 rfl hb5 | rintro e5 w5 ⟨rfl, hb5⟩
    have hS5 : RowKit.Below w.heap.size w w5 ∧ Blk w5 (w.heap.size) (#[.bool d.neg, .string d.s, .int .i64 d.sc]) 23 ∧ Blk w5 (w.heap.size + 1) (#[.bool false, .string ⟨#[]⟩, .int .i64 0]) 23 := ⟨b_step hb5 (HS0.out.1), (HS0.out.2.1).below (HS0.out.2.1).lt hb5, (HS0.out.2.2).below (HS0.out.2.2).lt hb5⟩
    clear a0 a1 a2 hb5
    clear HS0 hW0 hC1 hsz0
    obtain ⟨a0, a1, a2, _, _, _⟩ := (hS5.2.1).three
    obtain ⟨q0, q1, q2, f0, f1, f2⟩ := (hS5.2.2).three
    have HSk := Lib.hid hS5
    clear hS5
    go_wp2
    refine bodyPost_ret (v := (R.err 2).val) (results_row_slot (by rfl) _ _ _ _ _ _ (by rfl) ((HSk.out.2.2).set3 _ _ _) (by rfl)) rfl ⟨rfl, b_set3 (HSk.out.1) (by omega) _ _ _⟩
  · have hm : 60 < sc := by omega
    have g0 : decide (sc < 0) = false := decide_eq_false hn
    have g1 : decide (60 < sc) = true := decide_eq_true hm
    clear hsc
    clear hc hs
    go_enter Tryz.func28, Tryz.ntmps28
    go_wp2_with (go_at_call 12; refine (hC1 _).mono ?_)
    first | rintro e5 w5 rfl hb5 | rintro e5 w5 ⟨rfl, hb5⟩
    have hS5 : RowKit.Below w.heap.size w w5 ∧ Blk w5 (w.heap.size) (#[.bool d.neg, .string d.s, .int .i64 d.sc]) 23 ∧ Blk w5 (w.heap.size + 1) (#[.bool false, .string ⟨#[]⟩, .int .i64 0]) 23 := ⟨b_step hb5 (HS0.out.1), (HS0.out.2.1).below (HS0.out.2.1).lt hb5, (HS0.out.2.2).below (HS0.out.2.2).lt hb5⟩
    clear a0 a1 a2 hb5
    clear HS0 hW0 hC1 hsz0
    obtain ⟨a0, a1, a2, _, _, _⟩ := (hS5.2.1).three
    obtain ⟨q0, q1, q2, f0, f1, f2⟩ := (hS5.2.2).three
    have HSk := Lib.hid hS5
    clear hS5
    go_wp2
    refine bodyPost_ret (v := (R.err 2).val) (results_row_slot (by rfl) _ _ _ _ _ _ (by rfl) ((HSk.out.2.2).set3 _ _ _) (by rfl)) rfl ⟨rfl, b_set3 (HSk.out.1) (by omega) _ _ _⟩
set_option maxRecDepth 100000 in
set_option maxHeartbeats 8000000 in
theorem rRound_same (a : V) (ha : a.ok) (sc : Nat) (hsc : sc ≤ 60) (hle : a.s ≤ sc) (w : World) :
    Calls Tryz.prog 28 #[a.d.val, .int .i64 (sc : Int)] w fun e w' => e = .returned (R.ok a).val ∧ RowKit.Below w.heap.size w w' := by
  have hla := ha.len
  have hC1 := fun W => rCheck_any a.d (by show (decB a.n).size ≤ _; unfold maxLen; omega) W
  rw [V.check ha, if_pos rfl, V.d_val] at hC1
  have hrv : (R.ok a).val = .tuple #[.agg #[.bool a.neg, .string (decB a.n), .int .i64 (a.s : Int)], .int .i64 0] := rfl
  rw [hrv]
  clear hrv
  have gle : decide ((a.s : Int) ≤ (sc : Int)) = true := decide_eq_true (by omega)
  obtain ⟨hb0, h1, h2⟩ := two_start w (.bool a.neg) (.string (decB a.n)) (.int .i64 (a.s : Int)) (.bool false) (.string ⟨#[]⟩) (.int .i64 0)
  obtain ⟨W0, hW0⟩ : ∃ W0, ((w.alloc (.cells #[.bool a.neg, .string (decB a.n), .int .i64 (a.s : Int)] 23)).alloc (.cells #[.bool false, .string ⟨#[]⟩, .int .i64 0] 23)) = W0 := ⟨_, rfl⟩
  rw [hW0] at hb0 h1 h2
  obtain ⟨a0, a1, a2, _, _, _⟩ := h1.three
  have HS0 : Hid (RowKit.Below w.heap.size w W0 ∧ Blk W0 (w.heap.size) (#[.bool a.neg, .string (decB a.n), .int .i64 (a.s : Int)]) 23 ∧ Blk W0 (w.heap.size + 1) (#[.bool false, .string ⟨#[]⟩, .int .i64 0]) 23) := ⟨hb0, h1, h2⟩
  have hsz0 : w.heap.size + 2 ≤ W0.heap.size := by have := h2.lt; omega
  clear hb0 h1 h2
  rw [V.d_val]
  have gs0 : decide ((sc : Int) < 0) = false := decide_eq_false (by omega)
  have gs1 : decide (60 < (sc : Int)) = false := decide_eq_false (by omega)
  clear ha hla
  go_enter Tryz.func28, Tryz.ntmps28
  go_wp2_with (go_at_call 12; refine (hC1 _).mono ?_)
  first | rintro e5 w5 rfl hb5 | rintro e5 w5 ⟨rfl, hb5⟩
  have hS5 : RowKit.Below w.heap.size w w5 ∧ Blk w5 (w.heap.size) (#[.bool a.neg, .string (decB a.n), .int .i64 (a.s : Int)]) 23 ∧ Blk w5 (w.heap.size + 1) (#[.bool false, .string ⟨#[]⟩, .int .i64 0]) 23 := ⟨b_step hb5 (HS0.out.1), (HS0.out.2.1).below (HS0.out.2.1).lt hb5, (HS0.out.2.2).below (HS0.out.2.2).lt hb5⟩
  clear a0 a1 a2 hb5
  clear HS0 hW0 hC1 hsz0
  obtain ⟨a0, a1, a2, _, _, _⟩ := (hS5.2.1).three
  obtain ⟨q0, q1, q2, f0, f1, f2⟩ := (hS5.2.2).three
  have HSk := Lib.hid hS5
  clear hS5
  go_wp2
  refine bodyPost_ret (v := .tuple #[.agg #[.bool a.neg, .string (decB a.n), .int .i64 (a.s : Int)], .int .i64 0]) (results_row_slot (by rfl) _ _ _ _ _ _ (by rfl) ((HSk.out.2.2).set3 _ _ _) (by rfl)) rfl ⟨rfl, b_set3 (HSk.out.1) (by omega) _ _ _⟩
end Dc
end Go.Proofs.YthnpbkplcboejaaGreatDoor
