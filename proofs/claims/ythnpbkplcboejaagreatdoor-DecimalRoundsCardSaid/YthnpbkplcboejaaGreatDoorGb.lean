/- Decimal, the reference: Add, Sub, Mul. -/
import Derived.Test.YthnpbkplcboejaaGreatDoorGa
set_option linter.unusedSimpArgs false
set_option linter.unusedVariables false
namespace Go.Proofs.YthnpbkplcboejaaGreatDoor
open Go.RowKit Go.Shelf Go.Lib Go.Sort
namespace Dc
set_option maxRecDepth 100000 in
set_option maxHeartbeats 2000000 in
theorem rAdd_no (d x : D) (hs0 : d.s.size ≤ maxLen) (hs1 : x.s.size ≤ maxLen) (hc : (d.check && x.check) = false) (w : World) :
    Calls Tryz.prog 16 #[d.val, x.val] w fun e w' => e = .returned (R.err 2).val ∧ RowKit.Below w.heap.size w w' := by
  have hC1 := fun W => rCheck_any d hs0 W
  have hC2 := fun W => rCheck_any x hs1 W
  obtain ⟨hb0, h1, h2, h3⟩ := three_start w (.bool d.neg) (.string d.s) (.int .i64 d.sc) (.bool x.neg) (.string x.s) (.int .i64 x.sc)
  obtain ⟨W0, hW0⟩ : ∃ W0, (((w.alloc (.cells #[.bool d.neg, .string d.s, .int .i64 d.sc] 23)).alloc (.cells #[.bool x.neg, .string x.s, .int .i64 x.sc] 23)).alloc (.cells #[.bool false, .string ⟨#[]⟩, .int .i64 0] 23)) = W0 := ⟨_, rfl⟩
  rw [hW0] at hb0 h1 h2 h3
  obtain ⟨a0, a1, a2, _, _, _⟩ := h1.three
  obtain ⟨b0, b1, b2, _, _, _⟩ := h2.three
  have HS0 : Hid (RowKit.Below w.heap.size w W0 ∧ Blk W0 (w.heap.size) (#[.bool d.neg, .string d.s, .int .i64 d.sc]) 23 ∧ Blk W0 (w.heap.size + 1) (#[.bool x.neg, .string x.s, .int .i64 x.sc]) 23 ∧ Blk W0 (w.heap.size + 2) (#[.bool false, .string ⟨#[]⟩, .int .i64 0]) 23) := ⟨hb0, h1, h2, h3⟩
  have hsz0 : w.heap.size + 3 ≤ W0.heap.size := by have := h3.lt; omega
  clear hb0 h1 h2 h3
  rw [d_box] at hC1 hC2
  rw [d_box, d_box]
  cases hd : d.check with
  | false =>
    rw [hd, if_neg Bool.false_ne_true] at hC1
    clear hd hc hs0 hs1 hC2
    go_enter Tryz.func16, Tryz.ntmps16
    go_wp2_with (go_at_call 12; refine (hC1 _).mono ?_)
    first | rintro e5 w5 rfl hb5 | rintro e5 w5 ⟨rfl, hb5⟩
    have hS5 : RowKit.Below w.heap.size w w5 ∧ Blk w5 (w.heap.size) (#[.bool d.neg, .string d.s, .int .i64 d.sc]) 23 ∧ Blk w5 (w.heap.size + 1) (#[.bool x.neg, .string x.s, .int .i64 x.sc]) 23 ∧ Blk w5 (w.heap.size + 2) (#[.bool false, .string ⟨#[]⟩, .int .i64 0]) 23 := ⟨b_step hb5 (HS0.out.1), (HS0.out.2.1).below (HS0.out.2.1).lt hb5, (HS0.out.2.2.1).below (HS0.out.2.2.1).lt hb5, (HS0.out.2.2.2).below (HS0.out.2.2.2).lt hb5⟩
    clear a0 a1 a2 b0 b1 b2 hb5
    clear HS0 hW0 hC1 hsz0
    obtain ⟨q0, q1, q2, f0, f1, f2⟩ := (hS5.2.2.2).three
    have HSk := Lib.hid hS5
    clear hS5
    go_wp2
    refine bodyPost_ret (v := (R.err 2).val) (results_row_slot (by rfl) _ _ _ _ _ _ (by rfl) ((HSk.out.2.2.2).set3 _ _ _) (by rfl)) rfl ⟨rfl, b_set3 (HSk.out.1) (by omega) _ _ _⟩
  | true =>
    have hx : x.check = false := by rw [hd, Bool.true_and] at hc; exact hc
    rw [hd, if_pos rfl] at hC1
    rw [hx, if_neg Bool.false_ne_true] at hC2
    clear hd hx hc hs0 hs1
    go_enter Tryz.func16, Tryz.ntmps16
    go_wp2_with (go_at_call 12; refine (hC1 _).mono ?_)
    first | rintro e5 w5 rfl hb5 | rintro e5 w5 ⟨rfl, hb5⟩
    have hS5 : RowKit.Below w.heap.size w w5 ∧ Blk w5 (w.heap.size) (#[.bool d.neg, .string d.s, .int .i64 d.sc]) 23 ∧ Blk w5 (w.heap.size + 1) (#[.bool x.neg, .string x.s, .int .i64 x.sc]) 23 ∧ Blk w5 (w.heap.size + 2) (#[.bool false, .string ⟨#[]⟩, .int .i64 0]) 23 := ⟨b_step hb5 (HS0.out.1), (HS0.out.2.1).below (HS0.out.2.1).lt hb5, (HS0.out.2.2.1).below (HS0.out.2.2.1).lt hb5, (HS0.out.2.2.2).below (HS0.out.2.2.2).lt hb5⟩
    clear a0 a1 a2 b0 b1 b2 hb5
    clear HS0 hW0 hsz0
    obtain ⟨a0, a1, a2, _, _, _⟩ := (hS5.2.1).three
    obtain ⟨b0, b1, b2, _, _, _⟩ := (hS5.2.2.1).three
    go_wp2_with (go_at_call 12; refine (hC2 _).mono ?_)
    first | rintro e6 w6 rfl hb6 | rintro e6 w6 ⟨rfl, hb6⟩
    have hS6 : RowKit.Below w.heap.size w w6 ∧ Blk w6 (w.heap.size) (#[.bool d.neg, .string d.s, .int .i64 d.sc]) 23 ∧ Blk w6 (w.heap.size + 1) (#[.bool x.neg, .string x.s, .int .i64 x.sc]) 23 ∧ Blk w6 (w.heap.size + 2) (#[.bool false, .string ⟨#[]⟩, .int .i64 0]) 23 := ⟨b_step hb6 (hS5.1), (hS5.2.1).below (hS5.2.1).lt hb6, (hS5.2.2.1).below (hS5.2.2.1).lt hb6, (hS5.2.2.2).below (hS5.2.2.2).lt hb6⟩
    clear a0 a1 a2 b0 b1 b2 hb6 hS5
    clear hC1 hC2
    obtain ⟨q0, q1, q2, f0, f1, f2⟩ := (hS6.2.2.2).three
    have HSk := Lib.hid hS6
    clear hS6
    go_wp2
    refine bodyPost_ret (v := (R.err 2).val) (results_row_slot (by rfl) _ _ _ _ _ _ (by rfl) ((HSk.out.2.2.2).set3 _ _ _) (by rfl)) rfl ⟨rfl, b_set3 (HSk.out.1) (by omega) _ _ _⟩
set_option maxRecDepth 100000 in
set_option maxHeartbeats 2000000 in
theorem rSub_no (d x : D) (hs0 : d.s.size ≤ maxLen) (hs1 : x.s.size ≤ maxLen) (hc : (d.check && x.check) = false) (w : World) :
    Calls Tryz.prog 18 #[d.val, x.val] w fun e w' => e = .returned (R.err 2).val ∧ RowKit.Below w.heap.size w w' := by
  have hC1 := fun W => rCheck_any d hs0 W
  have hC2 := fun W => rCheck_any x hs1 W
  obtain ⟨hb0, h1, h2, h3⟩ := three_start w (.bool d.neg) (.string d.s) (.int .i64 d.sc) (.bool x.neg) (.string x.s) (.int .i64 x.sc)
  obtain ⟨W0, hW0⟩ : ∃ W0, (((w.alloc (.cells #[.bool d.neg, .string d.s, .int .i64 d.sc] 23)).alloc (.cells #[.bool x.neg, .string x.s, .int .i64 x.sc] 23)).alloc (.cells #[.bool false, .string ⟨#[]⟩, .int .i64 0] 23)) = W0 := ⟨_, rfl⟩
  rw [hW0] at hb0 h1 h2 h3
  obtain ⟨a0, a1, a2, _, _, _⟩ := h1.three
  obtain ⟨b0, b1, b2, _, _, _⟩ := h2.three
  have HS0 : Hid (RowKit.Below w.heap.size w W0 ∧ Blk W0 (w.heap.size) (#[.bool d.neg, .string d.s, .int .i64 d.sc]) 23 ∧ Blk W0 (w.heap.size + 1) (#[.bool x.neg, .string x.s, .int .i64 x.sc]) 23 ∧ Blk W0 (w.heap.size + 2) (#[.bool false, .string ⟨#[]⟩, .int .i64 0]) 23) := ⟨hb0, h1, h2, h3⟩
  have hsz0 : w.heap.size + 3 ≤ W0.heap.size := by have := h3.lt; omega
  clear hb0 h1 h2 h3
  rw [d_box] at hC1 hC2
  rw [d_box, d_box]
  cases hd : d.check with
  | false =>
    rw [hd, if_neg Bool.false_ne_true] at hC1
    clear hd hc hs0 hs1 hC2
    go_enter Tryz.func18, Tryz.ntmps18
    go_wp2_with (go_at_call 12; refine (hC1 _).mono ?_)
    first | rintro e5 w5 rfl hb5 | rintro e5 w5 ⟨rfl, hb5⟩
    have hS5 : RowKit.Below w.heap.size w w5 ∧ Blk w5 (w.heap.size) (#[.bool d.neg, .string d.s, .int .i64 d.sc]) 23 ∧ Blk w5 (w.heap.size + 1) (#[.bool x.neg, .string x.s, .int .i64 x.sc]) 23 ∧ Blk w5 (w.heap.size + 2) (#[.bool false, .string ⟨#[]⟩, .int .i64 0]) 23 := ⟨b_step hb5 (HS0.out.1), (HS0.out.2.1).below (HS0.out.2.1).lt hb5, (HS0.out.2.2.1).below (HS0.out.2.2.1).lt hb5, (HS0.out.2.2.2).below (HS0.out.2.2.2).lt hb5⟩
    clear a0 a1 a2 b0 b1 b2 hb5
    clear HS0 hW0 hC1 hsz0
    obtain ⟨q0, q1, q2, f0, f1, f2⟩ := (hS5.2.2.2).three
    have HSk := Lib.hid hS5
    clear hS5
    go_wp2
    refine bodyPost_ret (v := (R.err 2).val) (results_row_slot (by rfl) _ _ _ _ _ _ (by rfl) ((HSk.out.2.2.2).set3 _ _ _) (by rfl)) rfl ⟨rfl, b_set3 (HSk.out.1) (by omega) _ _ _⟩
  | true =>
    have hx : x.check = false := by rw [hd, Bool.true_and] at hc; exact hc
    rw [hd, if_pos rfl] at hC1
    rw [hx, if_neg Bool.false_ne_true] at hC2
    clear hd hx hc hs0 hs1
    go_enter Tryz.func18, Tryz.ntmps18
    go_wp2_with (go_at_call 12; refine (hC1 _).mono ?_)
    first | rintro e5 w5 rfl hb5 | rintro e5 w5 ⟨rfl, hb5⟩
    have hS5 : RowKit.Below w.heap.size w w5 ∧ Blk w5 (w.heap.size) (#[.bool d.neg, .string d.s, .int .i64 d.sc]) 23 ∧ Blk w5 (w.heap.size + 1) (#[.bool x.neg, .string x.s, .int .i64 x.sc]) 23 ∧ Blk w5 (w.heap.size + 2) (#[.bool false, .string ⟨#[]⟩, .int .i64 0]) 23 := ⟨b_step hb5 (HS0.out.1), (HS0.out.2.1).below (HS0.out.2.1).lt hb5, (HS0.out.2.2.1).below (HS0.out.2.2.1).lt hb5, (HS0.out.2.2.2).below (HS0.out.2.2.2).lt hb5⟩
    clear a0 a1 a2 b0 b1 b2 hb5
    clear HS0 hW0 hsz0
    obtain ⟨a0, a1, a2, _, _, _⟩ := (hS5.2.1).three
    obtain ⟨b0, b1, b2, _, _, _⟩ := (hS5.2.2.1).three
    go_wp2_with (go_at_call 12; refine (hC2 _).mono ?_)
    first | rintro e6 w6 rfl hb6 | rintro e6 w6 ⟨rfl, hb6⟩
    have hS6 : RowKit.Below w.heap.size w w6 ∧ Blk w6 (w.heap.size) (#[.bool d.neg, .string d.s, .int .i64 d.sc]) 23 ∧ Blk w6 (w.heap.size + 1) (#[.bool x.neg, .string x.s, .int .i64 x.sc]) 23 ∧ Blk w6 (w.heap.size + 2) (#[.bool false, .string ⟨#[]⟩, .int .i64 0]) 23 := ⟨b_step hb6 (hS5.1), (hS5.2.1).below (hS5.2.1).lt hb6, (hS5.2.2.1).below (hS5.2.2.1).lt hb6, (hS5.2.2.2).below (hS5.2.2.2).lt hb6⟩
    clear a0 a1 a2 b0 b1 b2 hb6 hS5
    clear hC1 hC2
    obtain ⟨q0, q1, q2, f0, f1, f2⟩ := (hS6.2.2.2).three
    have HSk := Lib.hid hS6
    clear hS6
    go_wp2
    refine bodyPost_ret (v := (R.err 2).val) (results_row_slot (by rfl) _ _ _ _ _ _ (by rfl) ((HSk.out.2.2.2).set3 _ _ _) (by rfl)) rfl ⟨rfl, b_set3 (HSk.out.1) (by omega) _ _ _⟩
set_option maxRecDepth 100000 in
set_option maxHeartbeats 2000000 in
theorem rMul_no (d x : D) (hs0 : d.s.size ≤ maxLen) (hs1 : x.s.size ≤ maxLen) (hc : (d.check && x.check) = false) (w : World) :
    Calls Tryz.prog 20 #[d.val, x.val] w fun e w' => e = .returned (R.err 2).val ∧ RowKit.Below w.heap.size w w' := by
  have hC1 := fun W => rCheck_any d hs0 W
  have hC2 := fun W => rCheck_any x hs1 W
  obtain ⟨hb0, h1, h2, h3⟩ := three_start w (.bool d.neg) (.string d.s) (.int .i64 d.sc) (.bool x.neg) (.string x.s) (.int .i64 x.sc)
  obtain ⟨W0, hW0⟩ : ∃ W0, (((w.alloc (.cells #[.bool d.neg, .string d.s, .int .i64 d.sc] 23)).alloc (.cells #[.bool x.neg, .string x.s, .int .i64 x.sc] 23)).alloc (.cells #[.bool false, .string ⟨#[]⟩, .int .i64 0] 23)) = W0 := ⟨_, rfl⟩
  rw [hW0] at hb0 h1 h2 h3
  obtain ⟨a0, a1, a2, _, _, _⟩ := h1.three
  obtain ⟨b0, b1, b2, _, _, _⟩ := h2.three
  have HS0 : Hid (RowKit.Below w.heap.size w W0 ∧ Blk W0 (w.heap.size) (#[.bool d.neg, .string d.s, .int .i64 d.sc]) 23 ∧ Blk W0 (w.heap.size + 1) (#[.bool x.neg, .string x.s, .int .i64 x.sc]) 23 ∧ Blk W0 (w.heap.size + 2) (#[.bool false, .string ⟨#[]⟩, .int .i64 0]) 23) := ⟨hb0, h1, h2, h3⟩
  have hsz0 : w.heap.size + 3 ≤ W0.heap.size := by have := h3.lt; omega
  clear hb0 h1 h2 h3
  rw [d_box] at hC1 hC2
  rw [d_box, d_box]
  cases hd : d.check with
  | false =>
    rw [hd, if_neg Bool.false_ne_true] at hC1
    clear hd hc hs0 hs1 hC2
    go_enter Tryz.func20, Tryz.ntmps20
    go_wp2_with (go_at_call 12; refine (hC1 _).mono ?_)
    first | rintro e5 w5 rfl hb5 | rintro e5 w5 ⟨rfl, hb5⟩
    have hS5 : RowKit.Below w.heap.size w w5 ∧ Blk w5 (w.heap.size) (#[.bool d.neg, .string d.s, .int .i64 d.sc]) 23 ∧ Blk w5 (w.heap.size + 1) (#[.bool x.neg, .string x.s, .int .i64 x.sc]) 23 ∧ Blk w5 (w.heap.size + 2) (#[.bool false, .string ⟨#[]⟩, .int .i64 0]) 23 := ⟨b_step hb5 (HS0.out.1), (HS0.out.2.1).below (HS0.out.2.1).lt hb5, (HS0.out.2.2.1).below (HS0.out.2.2.1).lt hb5, (HS0.out.2.2.2).below (HS0.out.2.2.2).lt hb5⟩
    clear a0 a1 a2 b0 b1 b2 hb5
    clear HS0 hW0 hC1 hsz0
    obtain ⟨q0, q1, q2, f0, f1, f2⟩ := (hS5.2.2.2).three
    have HSk := Lib.hid hS5
    clear hS5
    go_wp2
    refine bodyPost_ret (v := (R.err 2).val) (results_row_slot (by rfl) _ _ _ _ _ _ (by rfl) ((HSk.out.2.2.2).set3 _ _ _) (by rfl)) rfl ⟨rfl, b_set3 (HSk.out.1) (by omega) _ _ _⟩
  | true =>
    have hx : x.check = false := by rw [hd, Bool.true_and] at hc; exact hc
    rw [hd, if_pos rfl] at hC1
    rw [hx, if_neg Bool.false_ne_true] at hC2
    clear hd hx hc hs0 hs1
    go_enter Tryz.func20, Tryz.ntmps20
    go_wp2_with (go_at_call 12; refine (hC1 _).mono ?_)
    first | rintro e5 w5 rfl hb5 | rintro e5 w5 ⟨rfl, hb5⟩
    have hS5 : RowKit.Below w.heap.size w w5 ∧ Blk w5 (w.heap.size) (#[.bool d.neg, .string d.s, .int .i64 d.sc]) 23 ∧ Blk w5 (w.heap.size + 1) (#[.bool x.neg, .string x.s, .int .i64 x.sc]) 23 ∧ Blk w5 (w.heap.size + 2) (#[.bool false, .string ⟨#[]⟩, .int .i64 0]) 23 := ⟨b_step hb5 (HS0.out.1), (HS0.out.2.1).below (HS0.out.2.1).lt hb5, (HS0.out.2.2.1).below (HS0.out.2.2.1).lt hb5, (HS0.out.2.2.2).below (HS0.out.2.2.2).lt hb5⟩
    clear a0 a1 a2 b0 b1 b2 hb5
    clear HS0 hW0 hsz0
    obtain ⟨a0, a1, a2, _, _, _⟩ := (hS5.2.1).three
    obtain ⟨b0, b1, b2, _, _, _⟩ := (hS5.2.2.1).three
    go_wp2_with (go_at_call 12; refine (hC2 _).mono ?_)
    first | rintro e6 w6 rfl hb6 | rintro e6 w6 ⟨rfl, hb6⟩
    have hS6 : RowKit.Below w.heap.size w w6 ∧ Blk w6 (w.heap.size) (#[.bool d.neg, .string d.s, .int .i64 d.sc]) 23 ∧ Blk w6 (w.heap.size + 1) (#[.bool x.neg, .string x.s, .int .i64 x.sc]) 23 ∧ Blk w6 (w.heap.size + 2) (#[.bool false, .string ⟨#[]⟩, .int .i64 0]) 23 := ⟨b_step hb6 (hS5.1), (hS5.2.1).below (hS5.2.1).lt hb6, (hS5.2.2.1).below (hS5.2.2.1).lt hb6, (hS5.2.2.2).below (hS5.2.2.2).lt hb6⟩
    clear a0 a1 a2 b0 b1 b2 hb6 hS5
    clear hC1 hC2
    obtain ⟨q0, q1, q2, f0, f1, f2⟩ := (hS6.2.2.2).three
    have HSk := Lib.hid hS6
    clear hS6
    go_wp2
    refine bodyPost_ret (v := (R.err 2).val) (results_row_slot (by rfl) _ _ _ _ _ _ (by rfl) ((HSk.out.2.2.2).set3 _ _ _) (by rfl)) rfl ⟨rfl, b_set3 (HSk.out.1) (by omega) _ _ _⟩
set_option maxRecDepth 100000 in
set_option maxHeartbeats 8000000 in
theorem rAdd_ok (a b : V) (ha : a.ok) (hb : b.ok) (w : World) :
    Calls Tryz.prog 16 #[a.d.val, b.d.val] w fun e w' => e = .returned (addS a b).val ∧ RowKit.Below w.heap.size w w' := by
  have hla := ha.len
  have hlb := hb.len
  have hC1 := fun W => rCheck_any a.d (by show (decB a.n).size ≤ _; unfold maxLen; omega) W
  have hC2 := fun W => rCheck_any b.d (by show (decB b.n).size ≤ _; unfold maxLen; omega) W
  rw [V.check ha, if_pos rfl, V.d_val] at hC1
  rw [V.check hb, if_pos rfl, V.d_val] at hC2
  have hS := fun W => rsum_any a b ha hb W
  obtain ⟨r, hr⟩ : ∃ r, addS a b = r := ⟨_, rfl⟩
  simp only [hr, V.d_val, R.val_eq] at hS
  rw [hr]
  clear hr
  obtain ⟨hb0, h1, h2, h3⟩ := three_start w (.bool a.neg) (.string (decB a.n)) (.int .i64 (a.s : Int)) (.bool b.neg) (.string (decB b.n)) (.int .i64 (b.s : Int))
  obtain ⟨W0, hW0⟩ : ∃ W0, (((w.alloc (.cells #[.bool a.neg, .string (decB a.n), .int .i64 (a.s : Int)] 23)).alloc (.cells #[.bool b.neg, .string (decB b.n), .int .i64 (b.s : Int)] 23)).alloc (.cells #[.bool false, .string ⟨#[]⟩, .int .i64 0] 23)) = W0 := ⟨_, rfl⟩
  rw [hW0] at hb0 h1 h2 h3
  obtain ⟨a0, a1, a2, _, _, _⟩ := h1.three
  obtain ⟨b0, b1, b2, _, _, _⟩ := h2.three
  have HS0 : Hid (RowKit.Below w.heap.size w W0 ∧ Blk W0 (w.heap.size) (#[.bool a.neg, .string (decB a.n), .int .i64 (a.s : Int)]) 23 ∧ Blk W0 (w.heap.size + 1) (#[.bool b.neg, .string (decB b.n), .int .i64 (b.s : Int)]) 23 ∧ Blk W0 (w.heap.size + 2) (#[.bool false, .string ⟨#[]⟩, .int .i64 0]) 23) := ⟨hb0, h1, h2, h3⟩
  have hsz0 : w.heap.size + 3 ≤ W0.heap.size := by have := h3.lt; omega
  clear hb0 h1 h2 h3
  rw [V.d_val, V.d_val]
  clear ha hb hla hlb
  go_enter Tryz.func16, Tryz.ntmps16
  go_wp2_with (go_at_call 12; refine (hC1 _).mono ?_)
  first | rintro e5 w5 rfl hb5 | rintro e5 w5 ⟨rfl, hb5⟩
  have hS5 : RowKit.Below w.heap.size w w5 ∧ Blk w5 (w.heap.size) (#[.bool a.neg, .string (decB a.n), .int .i64 (a.s : Int)]) 23 ∧ Blk w5 (w.heap.size + 1) (#[.bool b.neg, .string (decB b.n), .int .i64 (b.s : Int)]) 23 ∧ Blk w5 (w.heap.size + 2) (#[.bool false, .string ⟨#[]⟩, .int .i64 0]) 23 := ⟨b_step hb5 (HS0.out.1), (HS0.out.2.1).below (HS0.out.2.1).lt hb5, (HS0.out.2.2.1).below (HS0.out.2.2.1).lt hb5, (HS0.out.2.2.2).below (HS0.out.2.2.2).lt hb5⟩
  clear a0 a1 a2 b0 b1 b2 hb5
  have hsz5 : w.heap.size + 3 ≤ w5.heap.size := by have := hS5.2.2.2.lt; omega
  clear HS0 hW0 hsz0
  obtain ⟨a0, a1, a2, _, _, _⟩ := (hS5.2.1).three
  obtain ⟨b0, b1, b2, _, _, _⟩ := (hS5.2.2.1).three
  go_wp2_with (go_at_call 12; refine (hC2 _).mono ?_)
  first | rintro e6 w6 rfl hb6 | rintro e6 w6 ⟨rfl, hb6⟩
  have hS6 : RowKit.Below w.heap.size w w6 ∧ Blk w6 (w.heap.size) (#[.bool a.neg, .string (decB a.n), .int .i64 (a.s : Int)]) 23 ∧ Blk w6 (w.heap.size + 1) (#[.bool b.neg, .string (decB b.n), .int .i64 (b.s : Int)]) 23 ∧ Blk w6 (w.heap.size + 2) (#[.bool false, .string ⟨#[]⟩, .int .i64 0]) 23 := ⟨b_step hb6 (hS5.1), (hS5.2.1).below (hS5.2.1).lt hb6, (hS5.2.2.1).below (hS5.2.2.1).lt hb6, (hS5.2.2.2).below (hS5.2.2.2).lt hb6⟩
  clear a0 a1 a2 b0 b1 b2 hb6 hS5
  clear hC1 hC2
  obtain ⟨a0, a1, a2, _, _, _⟩ := (hS6.2.1).three
  obtain ⟨b0, b1, b2, _, _, _⟩ := (hS6.2.2.1).three
  go_wp2_with (go_at_call 45; refine (hS _).mono ?_)
  first | rintro e7 w7 rfl hb7 | rintro e7 w7 ⟨rfl, hb7⟩
  have hS7 : RowKit.Below w.heap.size w w7 ∧ Blk w7 (w.heap.size) (#[.bool a.neg, .string (decB a.n), .int .i64 (a.s : Int)]) 23 ∧ Blk w7 (w.heap.size + 1) (#[.bool b.neg, .string (decB b.n), .int .i64 (b.s : Int)]) 23 ∧ Blk w7 (w.heap.size + 2) (#[.bool false, .string ⟨#[]⟩, .int .i64 0]) 23 := ⟨b_step hb7 (hS6.1), (hS6.2.1).below (hS6.2.1).lt hb7, (hS6.2.2.1).below (hS6.2.2.1).lt hb7, (hS6.2.2.2).below (hS6.2.2.2).lt hb7⟩
  clear a0 a1 a2 b0 b1 b2 hb7 hS6 hS
  obtain ⟨q0, q1, q2, f0, f1, f2⟩ := (hS7.2.2.2).three
  have HSk := Lib.hid hS7
  clear hS7
  go_wp2
  refine bodyPost_ret (v := r.val) (results_row_slot (by rfl) _ _ _ _ _ _ (by rfl) ((HSk.out.2.2.2).set3 _ _ _) (by rfl)) rfl ⟨rfl, b_set3 (HSk.out.1) (by omega) _ _ _⟩
set_option maxRecDepth 100000 in
set_option maxHeartbeats 8000000 in
theorem rSub_ok (a b : V) (ha : a.ok) (hb : b.ok) (w : World) :
    Calls Tryz.prog 18 #[a.d.val, b.d.val] w fun e w' => e = .returned (subS a b).val ∧ RowKit.Below w.heap.size w w' := by
  have hla := ha.len
  have hlb := hb.len
  have hC1 := fun W => rCheck_any a.d (by show (decB a.n).size ≤ _; unfold maxLen; omega) W
  have hC2 := fun W => rCheck_any b.d (by show (decB b.n).size ≤ _; unfold maxLen; omega) W
  rw [V.check ha, if_pos rfl, V.d_val] at hC1
  rw [V.check hb, if_pos rfl, V.d_val] at hC2
  have hS := fun W => rsum_any a b.opp ha (V.opp_ok hb) W
  have hO := fun W => ropp_any b W
  rw [sub_opp a b hb] at hS
  obtain ⟨r, hr⟩ : ∃ r, subS a b = r := ⟨_, rfl⟩
  simp only [hr, V.d_val, R.val_eq] at hS
  simp only [V.d_val] at hO
  rw [hr]
  have HS := Lib.hid hS
  have HOp := Lib.hid hO
  clear hr hS hO
  obtain ⟨hb0, h1, h2, h3⟩ := three_start w (.bool a.neg) (.string (decB a.n)) (.int .i64 (a.s : Int)) (.bool b.neg) (.string (decB b.n)) (.int .i64 (b.s : Int))
  obtain ⟨W0, hW0⟩ : ∃ W0, (((w.alloc (.cells #[.bool a.neg, .string (decB a.n), .int .i64 (a.s : Int)] 23)).alloc (.cells #[.bool b.neg, .string (decB b.n), .int .i64 (b.s : Int)] 23)).alloc (.cells #[.bool false, .string ⟨#[]⟩, .int .i64 0] 23)) = W0 := ⟨_, rfl⟩
  rw [hW0] at hb0 h1 h2 h3
  obtain ⟨a0, a1, a2, _, _, _⟩ := h1.three
  obtain ⟨b0, b1, b2, _, _, _⟩ := h2.three
  have HS0 : Hid (RowKit.Below w.heap.size w W0 ∧ Blk W0 (w.heap.size) (#[.bool a.neg, .string (decB a.n), .int .i64 (a.s : Int)]) 23 ∧ Blk W0 (w.heap.size + 1) (#[.bool b.neg, .string (decB b.n), .int .i64 (b.s : Int)]) 23 ∧ Blk W0 (w.heap.size + 2) (#[.bool false, .string ⟨#[]⟩, .int .i64 0]) 23) := ⟨hb0, h1, h2, h3⟩
  have hsz0 : w.heap.size + 3 ≤ W0.heap.size := by have := h3.lt; omega
  clear hb0 h1 h2 h3
  rw [V.d_val, V.d_val]
  clear ha hb hla hlb
  go_enter Tryz.func18, Tryz.ntmps18
  go_wp2_with (go_at_call 12; refine (hC1 _).mono ?_)
  first | rintro e5 w5 rfl hb5 | rintro e5 w5 ⟨rfl, hb5⟩
  have hS5 : RowKit.Below w.heap.size w w5 ∧ Blk w5 (w.heap.size) (#[.bool a.neg, .string (decB a.n), .int .i64 (a.s : Int)]) 23 ∧ Blk w5 (w.heap.size + 1) (#[.bool b.neg, .string (decB b.n), .int .i64 (b.s : Int)]) 23 ∧ Blk w5 (w.heap.size + 2) (#[.bool false, .string ⟨#[]⟩, .int .i64 0]) 23 := ⟨b_step hb5 (HS0.out.1), (HS0.out.2.1).below (HS0.out.2.1).lt hb5, (HS0.out.2.2.1).below (HS0.out.2.2.1).lt hb5, (HS0.out.2.2.2).below (HS0.out.2.2.2).lt hb5⟩
  clear a0 a1 a2 b0 b1 b2 hb5
  have hsz5 : w.heap.size + 3 ≤ w5.heap.size := by have := hS5.2.2.2.lt; omega
  clear HS0 hW0 hsz0
  obtain ⟨a0, a1, a2, _, _, _⟩ := (hS5.2.1).three
  obtain ⟨b0, b1, b2, _, _, _⟩ := (hS5.2.2.1).three
  go_wp2_with (go_at_call 12; refine (hC2 _).mono ?_)
  first | rintro e6 w6 rfl hb6 | rintro e6 w6 ⟨rfl, hb6⟩
  have hS6 : RowKit.Below w.heap.size w w6 ∧ Blk w6 (w.heap.size) (#[.bool a.neg, .string (decB a.n), .int .i64 (a.s : Int)]) 23 ∧ Blk w6 (w.heap.size + 1) (#[.bool b.neg, .string (decB b.n), .int .i64 (b.s : Int)]) 23 ∧ Blk w6 (w.heap.size + 2) (#[.bool false, .string ⟨#[]⟩, .int .i64 0]) 23 := ⟨b_step hb6 (hS5.1), (hS5.2.1).below (hS5.2.1).lt hb6, (hS5.2.2.1).below (hS5.2.2.1).lt hb6, (hS5.2.2.2).below (hS5.2.2.2).lt hb6⟩
  clear a0 a1 a2 b0 b1 b2 hb6 hS5
  clear hC1 hC2
  obtain ⟨a0, a1, a2, _, _, _⟩ := (hS6.2.1).three
  obtain ⟨b0, b1, b2, _, _, _⟩ := (hS6.2.2.1).three
  go_wp2
  clear a0 a1 a2 b0 b1 b2
  simp only [Nat.add_assoc, Nat.reduceAdd]
  have hC0 : RowKit.Below w.heap.size w w6.drew ∧ Blk w6.drew (w.heap.size) (#[.bool a.neg, .string (decB a.n), .int .i64 (a.s : Int)]) 23 ∧ Blk w6.drew (w.heap.size + 1) (#[.bool b.neg, .string (decB b.n), .int .i64 (b.s : Int)]) 23 ∧ Blk w6.drew (w.heap.size + 2) (#[.bool false, .string ⟨#[]⟩, .int .i64 0]) 23 := ⟨b_drew (hS6.1), (hS6.2.1), (hS6.2.2.1), (hS6.2.2.2)⟩
  clear hS6
  refine region_inv (fun ls a' w' => ∃ (l0 l1 l2 l3 l4 l5 l6 l7 : Bool) (t15 t16 t17 t18 t19 t20 t5 : Value), ls = [l0, l1, l2, l3, l4, l5, l6, l7] ∧ a' = { tmps := #[Value.agg #[Value.bool a.neg, Value.string (decB a.n), Value.int IntKind.i64 ↑a.s], Value.agg #[Value.bool b.neg, Value.string (decB b.n), Value.int IntKind.i64 ↑b.s], Value.pointer (some { block := w.heap.size, off := 0 }), Value.pointer (some { block := w.heap.size + 1, off := 0 }), Value.pointer (some { block := w.heap.size + 2, off := 0 }), t5, Value.agg #[Value.bool a.neg, Value.string (decB a.n), Value.int IntKind.i64 ↑a.s], Value.int IntKind.i64 0, Value.bool false, Value.bool false, Value.agg #[Value.bool b.neg, Value.string (decB b.n), Value.int IntKind.i64 ↑b.s], Value.int IntKind.i64 0, Value.bool false, Value.bool false, undef, t15, t16, t17, t18, t19, t20], defers := [] } ∧ (l0 = true → t15 = Value.agg #[.bool a.neg, .string (decB a.n), .int .i64 (a.s : Int)]) ∧ (l1 = true → t16 = Value.agg #[.bool b.neg, .string (decB b.n), .int .i64 (b.s : Int)]) ∧ (l2 = true → t17 = Value.agg #[.bool b.opp.neg, .string (decB b.opp.n), .int .i64 (b.opp.s : Int)]) ∧ (l3 = true → t18 = Value.tuple #[Value.agg #[.bool r.d.neg, .string r.d.s, .int .i64 r.d.sc], .int .i64 r.no]) ∧ (l4 = true → t19 = Value.agg #[.bool r.d.neg, .string r.d.s, .int .i64 r.d.sc]) ∧ (l5 = true → t20 = Value.int .i64 r.no) ∧ (l7 = true → t5 = Value.int .i64 r.no) ∧ (l6 = false → RowKit.Below w.heap.size w w' ∧ Blk w' (w.heap.size) (#[.bool a.neg, .string (decB a.n), .int .i64 (a.s : Int)]) 23 ∧ Blk w' (w.heap.size + 1) (#[.bool b.neg, .string (decB b.n), .int .i64 (b.s : Int)]) 23 ∧ Blk w' (w.heap.size + 2) (#[.bool false, .string ⟨#[]⟩, .int .i64 0]) 23) ∧ (l6 = true → RowKit.Below w.heap.size w w' ∧ Blk w' (w.heap.size) (#[.bool a.neg, .string (decB a.n), .int .i64 (a.s : Int)]) 23 ∧ Blk w' (w.heap.size + 1) (#[.bool b.neg, .string (decB b.n), .int .i64 (b.s : Int)]) 23 ∧ Blk w' (w.heap.size + 2) (#[.bool r.d.neg, .string r.d.s, .int .i64 r.d.sc]) 23)) (by kernel_rfl) (by kernel_rfl) ?rlens ?rdones ?rh0s ?rsteps
  case rlens => rintro ls a' w' ⟨l0, l1, l2, l3, l4, l5, l6, l7, t15, t16, t17, t18, t19, t20, t5, rfl, _⟩; rfl
  case rh0s => exact ⟨false, false, false, false, false, false, false, false, undef, undef, undef, undef, undef, undef, Value.int IntKind.i64 0, rfl, rfl, by simp, by simp, by simp, by simp, by simp, by simp, by simp, fun _ => hC0, by simp⟩
  case rdones =>
    rintro ls a' w' ⟨l0, l1, l2, l3, l4, l5, l6, l7, t15, t16, t17, t18, t19, t20, t5, rfl, rfl, h15, h16, h17, h18, h19, h20, h5, hC, hP⟩ hl
    obtain rfl := h5 (by simpa using hl 7)
    have hP := hP (by simpa using hl 6)
    clear h15 h16 h17 h18 h19 h20 hl hC
    go_wp2
    refine bodyPost_ret (v := r.val) (results_row_slot (by rfl) _ _ _ _ _ _ (by rfl) (hP.2.2.2) (by rfl)) rfl ⟨rfl, (hP.1)⟩
  case rsteps =>
    rintro i o ho ls a' w' ⟨l0, l1, l2, l3, l4, l5, l6, l7, t15, t16, t17, t18, t19, t20, t5, rfl, rfl, h15, h16, h17, h18, h19, h20, h5, hC, hP⟩ hcl hu hd K hK
    rcases i with _ | _ | _ | _ | _ | _ | _ | _ | i <;> simp only [List.getElem?_cons_zero, List.getElem?_cons_succ, List.getElem?_nil, Option.some.injEq, reduceCtorEq] at ho
    all_goals subst ho
    · have hu : l0 = false := hu
      have hls : l6 = false := Bool.eq_false_iff.2 fun e => by have h : l0 = true := hcl 6 _ rfl e 0 (by decide +kernel); rw [hu] at h; cases h
      subst hls
      have hC := hC rfl
      clear hcl
      obtain ⟨c0, c1, c2, _, _, _⟩ := (hC.2.1).three
      go_simp
      exact hK _ _ ⟨true, l1, l2, l3, l4, l5, false, l7, _, t16, t17, t18, t19, t20, t5, rfl, rfl, fun _ => rfl, h16, h17, h18, h19, h20, h5, fun _ => hC, by simp⟩
    · have hu : l1 = false := hu
      have hls : l6 = false := Bool.eq_false_iff.2 fun e => by have h : l1 = true := hcl 6 _ rfl e 1 (by decide +kernel); rw [hu] at h; cases h
      subst hls
      have hC := hC rfl
      clear hcl
      obtain ⟨c0, c1, c2, _, _, _⟩ := (hC.2.2.1).three
      go_simp
      exact hK _ _ ⟨l0, true, l2, l3, l4, l5, false, l7, t15, _, t17, t18, t19, t20, t5, rfl, rfl, h15, fun _ => rfl, h17, h18, h19, h20, h5, fun _ => hC, by simp⟩
    · have hu : l2 = false := hu
      have hls : l6 = false := Bool.eq_false_iff.2 fun e => by have h : l2 = true := hcl 6 _ rfl e 2 (by decide +kernel); rw [hu] at h; cases h
      subst hls
      have hC := hC rfl
      clear hcl
      have y16 := h16 (hd 1 (by decide +kernel))
      subst y16
      have hK5 := HOp.out w'
      go_simp
      refine hK5.mono ?_
      rintro e w5 ⟨rfl, hb5⟩
      exact hK _ _ ⟨l0, l1, true, l3, l4, l5, false, l7, t15, _, _, t18, t19, t20, t5, rfl, rfl, h15, fun _ => rfl, fun _ => rfl, h18, h19, h20, h5, fun _ => ⟨b_step hb5 (hC.1), (hC.2.1).below (hC.2.1).lt hb5, (hC.2.2.1).below (hC.2.2.1).lt hb5, (hC.2.2.2).below (hC.2.2.2).lt hb5⟩, by simp⟩
    · have hu : l3 = false := hu
      have hls : l6 = false := Bool.eq_false_iff.2 fun e => by have h : l3 = true := hcl 6 _ rfl e 3 (by decide +kernel); rw [hu] at h; cases h
      subst hls
      have hC := hC rfl
      clear hcl
      have y15 := h15 (hd 0 (by decide +kernel))
      subst y15
      have y17 := h17 (hd 2 (by decide +kernel))
      subst y17
      have hK5 := HS.out w'
      go_simp
      refine hK5.mono ?_
      rintro e w5 ⟨rfl, hb5⟩
      exact hK _ _ ⟨l0, l1, l2, true, l4, l5, false, l7, _, t16, _, _, t19, t20, t5, rfl, rfl, fun _ => rfl, h16, fun _ => rfl, fun _ => rfl, h19, h20, h5, fun _ => ⟨b_step hb5 (hC.1), (hC.2.1).below (hC.2.1).lt hb5, (hC.2.2.1).below (hC.2.2.1).lt hb5, (hC.2.2.2).below (hC.2.2.2).lt hb5⟩, by simp⟩
    · have hu : l4 = false := hu
      have hls : l6 = false := Bool.eq_false_iff.2 fun e => by have h : l4 = true := hcl 6 _ rfl e 4 (by decide +kernel); rw [hu] at h; cases h
      subst hls
      have hC := hC rfl
      clear hcl
      have y18 := h18 (hd 3 (by decide +kernel))
      subst y18
      go_simp
      exact hK _ _ ⟨l0, l1, l2, l3, true, l5, false, l7, t15, t16, t17, _, _, t20, t5, rfl, rfl, h15, h16, h17, fun _ => rfl, fun _ => rfl, h20, h5, fun _ => hC, by simp⟩
    · have hu : l5 = false := hu
      have hls : l6 = false := Bool.eq_false_iff.2 fun e => by have h : l5 = true := hcl 6 _ rfl e 5 (by decide +kernel); rw [hu] at h; cases h
      subst hls
      have hC := hC rfl
      clear hcl
      have y18 := h18 (hd 3 (by decide +kernel))
      subst y18
      go_simp
      exact hK _ _ ⟨l0, l1, l2, l3, l4, true, false, l7, t15, t16, t17, _, t19, _, t5, rfl, rfl, h15, h16, h17, fun _ => rfl, h19, fun _ => rfl, h5, fun _ => hC, by simp⟩
    · have hu : l6 = false := hu
      subst hu
      have hC := hC rfl
      clear hcl
      have y19 := h19 (hd 4 (by decide +kernel))
      subst y19
      rw [if_pos (by rfl)]
      refine wp_store_row _ _ _ rfl _ _ rfl rfl _ _ (hC.2.2.2) sizeDec rfl (dec_one _ _ _) ?_
      exact hK _ _ ⟨l0, l1, l2, l3, l4, l5, true, l7, t15, t16, t17, t18, _, t20, t5, rfl, rfl, h15, h16, h17, h18, fun _ => rfl, h20, h5, by simp, fun _ => ⟨b_row (hC.1) (by omega), (hC.2.1).row_other (by omega), (hC.2.2.1).row_other (by omega), (hC.2.2.2).row _⟩⟩
    · have hu : l7 = false := hu
      clear hcl
      have y20 := h20 (hd 5 (by decide +kernel))
      subst y20
      go_simp
      exact hK _ _ ⟨l0, l1, l2, l3, l4, l5, l6, true, t15, t16, t17, t18, t19, _, _, rfl, rfl, h15, h16, h17, h18, h19, fun _ => rfl, fun _ => rfl, hC, hP⟩
set_option maxRecDepth 100000 in
set_option maxHeartbeats 8000000 in
theorem rMul_ok (a b : V) (ha : a.ok) (hb : b.ok) (w : World) :
    Calls Tryz.prog 20 #[a.d.val, b.d.val] w fun e w' => e = .returned (mulS a b).val ∧ RowKit.Below w.heap.size w w' := by
  have hla := ha.len
  have hlb := hb.len
  have hC1 := fun W => rCheck_any a.d (by show (decB a.n).size ≤ _; unfold maxLen; omega) W
  have hC2 := fun W => rCheck_any b.d (by show (decB b.n).size ≤ _; unfold maxLen; omega) W
  rw [V.check ha, if_pos rfl, V.d_val] at hC1
  rw [V.check hb, if_pos rfl, V.d_val] at hC2
  have hT := fun W => rtimes_any (decB a.n) (decB b.n) (decB_digs _) (decB_digs _) (decB_pos _) (decB_pos _) (by omega) (by omega) W
  rw [decB_dv, decB_dv] at hT
  have hsa := ha.s
  have hsb := hb.s
  have hab : a.n * b.n < 10 ^ 200 := by
    exact Nat.lt_of_le_of_lt (Nat.mul_le_mul (Nat.le_of_lt ha.n) (Nat.le_of_lt hb.n)) (by decide)
  have hM := fun W => rmade_num (a.neg != b.neg) (a.n * b.n) (a.s + b.s) hab (by omega) W
  have hwr : IntKind.i64.wrap ((a.s : Int) + (b.s : Int)) = ((a.s + b.s : Nat) : Int) := by rw [IntWalk.i64_in _ (by omega)]; omega
  obtain ⟨r, hr⟩ : ∃ r, mulS a b = r := ⟨_, rfl⟩
  rw [show mk (a.neg != b.neg) (a.n * b.n) (a.s + b.s) = r from hr] at hM
  rw [R.val_eq] at hM
  rw [hr]
  have HM := Lib.hid hM
  have HTi := Lib.hid hT
  have HWr := Lib.hid hwr
  clear hr hM hT hwr hab hsa hsb
  obtain ⟨hb0, h1, h2, h3⟩ := three_start w (.bool a.neg) (.string (decB a.n)) (.int .i64 (a.s : Int)) (.bool b.neg) (.string (decB b.n)) (.int .i64 (b.s : Int))
  obtain ⟨W0, hW0⟩ : ∃ W0, (((w.alloc (.cells #[.bool a.neg, .string (decB a.n), .int .i64 (a.s : Int)] 23)).alloc (.cells #[.bool b.neg, .string (decB b.n), .int .i64 (b.s : Int)] 23)).alloc (.cells #[.bool false, .string ⟨#[]⟩, .int .i64 0] 23)) = W0 := ⟨_, rfl⟩
  rw [hW0] at hb0 h1 h2 h3
  obtain ⟨a0, a1, a2, _, _, _⟩ := h1.three
  obtain ⟨b0, b1, b2, _, _, _⟩ := h2.three
  have HS0 : Hid (RowKit.Below w.heap.size w W0 ∧ Blk W0 (w.heap.size) (#[.bool a.neg, .string (decB a.n), .int .i64 (a.s : Int)]) 23 ∧ Blk W0 (w.heap.size + 1) (#[.bool b.neg, .string (decB b.n), .int .i64 (b.s : Int)]) 23 ∧ Blk W0 (w.heap.size + 2) (#[.bool false, .string ⟨#[]⟩, .int .i64 0]) 23) := ⟨hb0, h1, h2, h3⟩
  have hsz0 : w.heap.size + 3 ≤ W0.heap.size := by have := h3.lt; omega
  clear hb0 h1 h2 h3
  rw [V.d_val, V.d_val]
  clear ha hb hla hlb
  go_enter Tryz.func20, Tryz.ntmps20
  go_wp2_with (go_at_call 12; refine (hC1 _).mono ?_)
  first | rintro e5 w5 rfl hb5 | rintro e5 w5 ⟨rfl, hb5⟩
  have hS5 : RowKit.Below w.heap.size w w5 ∧ Blk w5 (w.heap.size) (#[.bool a.neg, .string (decB a.n), .int .i64 (a.s : Int)]) 23 ∧ Blk w5 (w.heap.size + 1) (#[.bool b.neg, .string (decB b.n), .int .i64 (b.s : Int)]) 23 ∧ Blk w5 (w.heap.size + 2) (#[.bool false, .string ⟨#[]⟩, .int .i64 0]) 23 := ⟨b_step hb5 (HS0.out.1), (HS0.out.2.1).below (HS0.out.2.1).lt hb5, (HS0.out.2.2.1).below (HS0.out.2.2.1).lt hb5, (HS0.out.2.2.2).below (HS0.out.2.2.2).lt hb5⟩
  clear a0 a1 a2 b0 b1 b2 hb5
  have hsz5 : w.heap.size + 3 ≤ w5.heap.size := by have := hS5.2.2.2.lt; omega
  clear HS0 hW0 hsz0
  obtain ⟨a0, a1, a2, _, _, _⟩ := (hS5.2.1).three
  obtain ⟨b0, b1, b2, _, _, _⟩ := (hS5.2.2.1).three
  go_wp2_with (go_at_call 12; refine (hC2 _).mono ?_)
  first | rintro e6 w6 rfl hb6 | rintro e6 w6 ⟨rfl, hb6⟩
  have hS6 : RowKit.Below w.heap.size w w6 ∧ Blk w6 (w.heap.size) (#[.bool a.neg, .string (decB a.n), .int .i64 (a.s : Int)]) 23 ∧ Blk w6 (w.heap.size + 1) (#[.bool b.neg, .string (decB b.n), .int .i64 (b.s : Int)]) 23 ∧ Blk w6 (w.heap.size + 2) (#[.bool false, .string ⟨#[]⟩, .int .i64 0]) 23 := ⟨b_step hb6 (hS5.1), (hS5.2.1).below (hS5.2.1).lt hb6, (hS5.2.2.1).below (hS5.2.2.1).lt hb6, (hS5.2.2.2).below (hS5.2.2.2).lt hb6⟩
  clear a0 a1 a2 b0 b1 b2 hb6 hS5
  clear hC1 hC2
  obtain ⟨a0, a1, a2, _, _, _⟩ := (hS6.2.1).three
  obtain ⟨b0, b1, b2, _, _, _⟩ := (hS6.2.2.1).three
  go_wp2
  clear a0 a1 a2 b0 b1 b2
  simp only [Nat.add_assoc, Nat.reduceAdd]
  have hC0 : RowKit.Below w.heap.size w w6.drew ∧ Blk w6.drew (w.heap.size) (#[.bool a.neg, .string (decB a.n), .int .i64 (a.s : Int)]) 23 ∧ Blk w6.drew (w.heap.size + 1) (#[.bool b.neg, .string (decB b.n), .int .i64 (b.s : Int)]) 23 ∧ Blk w6.drew (w.heap.size + 2) (#[.bool false, .string ⟨#[]⟩, .int .i64 0]) 23 := ⟨b_drew (hS6.1), (hS6.2.1), (hS6.2.2.1), (hS6.2.2.2)⟩
  clear hS6
  refine region_inv (fun ls a' w' => ∃ (l0 l1 l2 l3 l4 l5 l6 l7 l8 l9 l10 l11 l12 l13 l14 l15 l16 l17 l18 l19 : Bool) (t15 t16 t17 t18 t19 t20 t21 t22 t23 t24 t25 t26 t27 t28 t29 t30 t31 t32 t5 : Value), ls = [l0, l1, l2, l3, l4, l5, l6, l7, l8, l9, l10, l11, l12, l13, l14, l15, l16, l17, l18, l19] ∧ a' = { tmps := #[Value.agg #[Value.bool a.neg, Value.string (decB a.n), Value.int IntKind.i64 ↑a.s], Value.agg #[Value.bool b.neg, Value.string (decB b.n), Value.int IntKind.i64 ↑b.s], Value.pointer (some { block := w.heap.size, off := 0 }), Value.pointer (some { block := w.heap.size + 1, off := 0 }), Value.pointer (some { block := w.heap.size + 2, off := 0 }), t5, Value.agg #[Value.bool a.neg, Value.string (decB a.n), Value.int IntKind.i64 ↑a.s], Value.int IntKind.i64 0, Value.bool false, Value.bool false, Value.agg #[Value.bool b.neg, Value.string (decB b.n), Value.int IntKind.i64 ↑b.s], Value.int IntKind.i64 0, Value.bool false, Value.bool false, undef, t15, t16, t17, t18, t19, t20, t21, t22, t23, t24, t25, t26, t27, t28, t29, t30, t31, t32], defers := [] } ∧ (l0 = true → t15 = Value.pointer (some ⟨w.heap.size, 0, none⟩)) ∧ (l1 = true → t16 = Value.bool a.neg) ∧ (l2 = true → t17 = Value.pointer (some ⟨w.heap.size + 1, 0, none⟩)) ∧ (l3 = true → t18 = Value.bool b.neg) ∧ (l4 = true → t19 = Value.bool (a.neg != b.neg)) ∧ (l5 = true → t20 = Value.pointer (some ⟨w.heap.size, 1, none⟩)) ∧ (l6 = true → t21 = Value.string (decB a.n)) ∧ (l7 = true → t22 = Value.pointer (some ⟨w.heap.size + 1, 1, none⟩)) ∧ (l8 = true → t23 = Value.string (decB b.n)) ∧ (l9 = true → t24 = Value.string (decB (a.n * b.n))) ∧ (l10 = true → t25 = Value.pointer (some ⟨w.heap.size, 2, none⟩)) ∧ (l11 = true → t26 = Value.int .i64 (a.s : Int)) ∧ (l12 = true → t27 = Value.pointer (some ⟨w.heap.size + 1, 2, none⟩)) ∧ (l13 = true → t28 = Value.int .i64 (b.s : Int)) ∧ (l14 = true → t29 = Value.int .i64 ((a.s + b.s : Nat) : Int)) ∧ (l15 = true → t30 = Value.tuple #[Value.agg #[.bool r.d.neg, .string r.d.s, .int .i64 r.d.sc], .int .i64 r.no]) ∧ (l16 = true → t31 = Value.agg #[.bool r.d.neg, .string r.d.s, .int .i64 r.d.sc]) ∧ (l17 = true → t32 = Value.int .i64 r.no) ∧ (l19 = true → t5 = Value.int .i64 r.no) ∧ (l18 = false → RowKit.Below w.heap.size w w' ∧ Blk w' (w.heap.size) (#[.bool a.neg, .string (decB a.n), .int .i64 (a.s : Int)]) 23 ∧ Blk w' (w.heap.size + 1) (#[.bool b.neg, .string (decB b.n), .int .i64 (b.s : Int)]) 23 ∧ Blk w' (w.heap.size + 2) (#[.bool false, .string ⟨#[]⟩, .int .i64 0]) 23) ∧ (l18 = true → RowKit.Below w.heap.size w w' ∧ Blk w' (w.heap.size) (#[.bool a.neg, .string (decB a.n), .int .i64 (a.s : Int)]) 23 ∧ Blk w' (w.heap.size + 1) (#[.bool b.neg, .string (decB b.n), .int .i64 (b.s : Int)]) 23 ∧ Blk w' (w.heap.size + 2) (#[.bool r.d.neg, .string r.d.s, .int .i64 r.d.sc]) 23)) (by kernel_rfl) (by kernel_rfl) ?rlenm ?rdonem ?rh0m ?rstepm
  case rlenm => rintro ls a' w' ⟨l0, l1, l2, l3, l4, l5, l6, l7, l8, l9, l10, l11, l12, l13, l14, l15, l16, l17, l18, l19, t15, t16, t17, t18, t19, t20, t21, t22, t23, t24, t25, t26, t27, t28, t29, t30, t31, t32, t5, rfl, _⟩; rfl
  case rh0m => exact ⟨false, false, false, false, false, false, false, false, false, false, false, false, false, false, false, false, false, false, false, false, undef, undef, undef, undef, undef, undef, undef, undef, undef, undef, undef, undef, undef, undef, undef, undef, undef, undef, Value.int IntKind.i64 0, rfl, rfl, by simp, by simp, by simp, by simp, by simp, by simp, by simp, by simp, by simp, by simp, by simp, by simp, by simp, by simp, by simp, by simp, by simp, by simp, by simp, fun _ => hC0, by simp⟩
  case rdonem =>
    rintro ls a' w' ⟨l0, l1, l2, l3, l4, l5, l6, l7, l8, l9, l10, l11, l12, l13, l14, l15, l16, l17, l18, l19, t15, t16, t17, t18, t19, t20, t21, t22, t23, t24, t25, t26, t27, t28, t29, t30, t31, t32, t5, rfl, rfl, h15, h16, h17, h18, h19, h20, h21, h22, h23, h24, h25, h26, h27, h28, h29, h30, h31, h32, h5, hC, hP⟩ hl
    obtain rfl := h5 (by simpa using hl 19)
    have hP := hP (by simpa using hl 18)
    clear h15 h16 h17 h18 h19 h20 h21 h22 h23 h24 h25 h26 h27 h28 h29 h30 h31 h32 hl hC
    go_wp2
    refine bodyPost_ret (v := r.val) (results_row_slot (by rfl) _ _ _ _ _ _ (by rfl) (hP.2.2.2) (by rfl)) rfl ⟨rfl, (hP.1)⟩
  case rstepm =>
    rintro i o ho ls a' w' ⟨l0, l1, l2, l3, l4, l5, l6, l7, l8, l9, l10, l11, l12, l13, l14, l15, l16, l17, l18, l19, t15, t16, t17, t18, t19, t20, t21, t22, t23, t24, t25, t26, t27, t28, t29, t30, t31, t32, t5, rfl, rfl, h15, h16, h17, h18, h19, h20, h21, h22, h23, h24, h25, h26, h27, h28, h29, h30, h31, h32, h5, hC, hP⟩ hcl hu hd K hK
    rcases i with _ | _ | _ | _ | _ | _ | _ | _ | _ | _ | _ | _ | _ | _ | _ | _ | _ | _ | _ | _ | i <;> simp only [List.getElem?_cons_zero, List.getElem?_cons_succ, List.getElem?_nil, Option.some.injEq, reduceCtorEq] at ho
    all_goals subst ho
    · have hu : l0 = false := hu
      have hls : l18 = false := Bool.eq_false_iff.2 fun e => by have h : l0 = true := hcl 18 _ rfl e 0 (by decide +kernel); rw [hu] at h; cases h
      subst hls
      have hC := hC rfl
      clear hcl
      go_simp
      exact hK _ _ ⟨true, l1, l2, l3, l4, l5, l6, l7, l8, l9, l10, l11, l12, l13, l14, l15, l16, l17, false, l19, _, t16, t17, t18, t19, t20, t21, t22, t23, t24, t25, t26, t27, t28, t29, t30, t31, t32, t5, rfl, rfl, fun _ => rfl, h16, h17, h18, h19, h20, h21, h22, h23, h24, h25, h26, h27, h28, h29, h30, h31, h32, h5, fun _ => hC, by simp⟩
    · have hu : l1 = false := hu
      have hls : l18 = false := Bool.eq_false_iff.2 fun e => by have h : l1 = true := hcl 18 _ rfl e 1 (by decide +kernel); rw [hu] at h; cases h
      subst hls
      have hC := hC rfl
      clear hcl
      have y15 := h15 (hd 0 (by decide +kernel))
      subst y15
      obtain ⟨c0, c1, c2, _, _, _⟩ := (hC.2.1).three
      go_simp
      exact hK _ _ ⟨l0, true, l2, l3, l4, l5, l6, l7, l8, l9, l10, l11, l12, l13, l14, l15, l16, l17, false, l19, _, _, t17, t18, t19, t20, t21, t22, t23, t24, t25, t26, t27, t28, t29, t30, t31, t32, t5, rfl, rfl, fun _ => rfl, fun _ => rfl, h17, h18, h19, h20, h21, h22, h23, h24, h25, h26, h27, h28, h29, h30, h31, h32, h5, fun _ => hC, by simp⟩
    · have hu : l2 = false := hu
      have hls : l18 = false := Bool.eq_false_iff.2 fun e => by have h : l2 = true := hcl 18 _ rfl e 2 (by decide +kernel); rw [hu] at h; cases h
      subst hls
      have hC := hC rfl
      clear hcl
      go_simp
      exact hK _ _ ⟨l0, l1, true, l3, l4, l5, l6, l7, l8, l9, l10, l11, l12, l13, l14, l15, l16, l17, false, l19, t15, t16, _, t18, t19, t20, t21, t22, t23, t24, t25, t26, t27, t28, t29, t30, t31, t32, t5, rfl, rfl, h15, h16, fun _ => rfl, h18, h19, h20, h21, h22, h23, h24, h25, h26, h27, h28, h29, h30, h31, h32, h5, fun _ => hC, by simp⟩
    · have hu : l3 = false := hu
      have hls : l18 = false := Bool.eq_false_iff.2 fun e => by have h : l3 = true := hcl 18 _ rfl e 3 (by decide +kernel); rw [hu] at h; cases h
      subst hls
      have hC := hC rfl
      clear hcl
      have y17 := h17 (hd 2 (by decide +kernel))
      subst y17
      obtain ⟨c0, c1, c2, _, _, _⟩ := (hC.2.2.1).three
      go_simp
      exact hK _ _ ⟨l0, l1, l2, true, l4, l5, l6, l7, l8, l9, l10, l11, l12, l13, l14, l15, l16, l17, false, l19, t15, t16, _, _, t19, t20, t21, t22, t23, t24, t25, t26, t27, t28, t29, t30, t31, t32, t5, rfl, rfl, h15, h16, fun _ => rfl, fun _ => rfl, h19, h20, h21, h22, h23, h24, h25, h26, h27, h28, h29, h30, h31, h32, h5, fun _ => hC, by simp⟩
    · have hu : l4 = false := hu
      have hls : l18 = false := Bool.eq_false_iff.2 fun e => by have h : l4 = true := hcl 18 _ rfl e 4 (by decide +kernel); rw [hu] at h; cases h
      subst hls
      have hC := hC rfl
      clear hcl
      have y16 := h16 (hd 1 (by decide +kernel))
      subst y16
      have y18 := h18 (hd 3 (by decide +kernel))
      subst y18
      go_simp
      exact hK _ _ ⟨l0, l1, l2, l3, true, l5, l6, l7, l8, l9, l10, l11, l12, l13, l14, l15, l16, l17, false, l19, t15, _, t17, _, _, t20, t21, t22, t23, t24, t25, t26, t27, t28, t29, t30, t31, t32, t5, rfl, rfl, h15, fun _ => rfl, h17, fun _ => rfl, fun _ => rfl, h20, h21, h22, h23, h24, h25, h26, h27, h28, h29, h30, h31, h32, h5, fun _ => hC, by simp⟩
    · have hu : l5 = false := hu
      have hls : l18 = false := Bool.eq_false_iff.2 fun e => by have h : l5 = true := hcl 18 _ rfl e 5 (by decide +kernel); rw [hu] at h; cases h
      subst hls
      have hC := hC rfl
      clear hcl
      go_simp
      exact hK _ _ ⟨l0, l1, l2, l3, l4, true, l6, l7, l8, l9, l10, l11, l12, l13, l14, l15, l16, l17, false, l19, t15, t16, t17, t18, t19, _, t21, t22, t23, t24, t25, t26, t27, t28, t29, t30, t31, t32, t5, rfl, rfl, h15, h16, h17, h18, h19, fun _ => rfl, h21, h22, h23, h24, h25, h26, h27, h28, h29, h30, h31, h32, h5, fun _ => hC, by simp⟩
    · have hu : l6 = false := hu
      have hls : l18 = false := Bool.eq_false_iff.2 fun e => by have h : l6 = true := hcl 18 _ rfl e 6 (by decide +kernel); rw [hu] at h; cases h
      subst hls
      have hC := hC rfl
      clear hcl
      have y20 := h20 (hd 5 (by decide +kernel))
      subst y20
      obtain ⟨c0, c1, c2, _, _, _⟩ := (hC.2.1).three
      go_simp
      exact hK _ _ ⟨l0, l1, l2, l3, l4, l5, true, l7, l8, l9, l10, l11, l12, l13, l14, l15, l16, l17, false, l19, t15, t16, t17, t18, t19, _, _, t22, t23, t24, t25, t26, t27, t28, t29, t30, t31, t32, t5, rfl, rfl, h15, h16, h17, h18, h19, fun _ => rfl, fun _ => rfl, h22, h23, h24, h25, h26, h27, h28, h29, h30, h31, h32, h5, fun _ => hC, by simp⟩
    · have hu : l7 = false := hu
      have hls : l18 = false := Bool.eq_false_iff.2 fun e => by have h : l7 = true := hcl 18 _ rfl e 7 (by decide +kernel); rw [hu] at h; cases h
      subst hls
      have hC := hC rfl
      clear hcl
      go_simp
      exact hK _ _ ⟨l0, l1, l2, l3, l4, l5, l6, true, l8, l9, l10, l11, l12, l13, l14, l15, l16, l17, false, l19, t15, t16, t17, t18, t19, t20, t21, _, t23, t24, t25, t26, t27, t28, t29, t30, t31, t32, t5, rfl, rfl, h15, h16, h17, h18, h19, h20, h21, fun _ => rfl, h23, h24, h25, h26, h27, h28, h29, h30, h31, h32, h5, fun _ => hC, by simp⟩
    · have hu : l8 = false := hu
      have hls : l18 = false := Bool.eq_false_iff.2 fun e => by have h : l8 = true := hcl 18 _ rfl e 8 (by decide +kernel); rw [hu] at h; cases h
      subst hls
      have hC := hC rfl
      clear hcl
      have y22 := h22 (hd 7 (by decide +kernel))
      subst y22
      obtain ⟨c0, c1, c2, _, _, _⟩ := (hC.2.2.1).three
      go_simp
      exact hK _ _ ⟨l0, l1, l2, l3, l4, l5, l6, l7, true, l9, l10, l11, l12, l13, l14, l15, l16, l17, false, l19, t15, t16, t17, t18, t19, t20, t21, _, _, t24, t25, t26, t27, t28, t29, t30, t31, t32, t5, rfl, rfl, h15, h16, h17, h18, h19, h20, h21, fun _ => rfl, fun _ => rfl, h24, h25, h26, h27, h28, h29, h30, h31, h32, h5, fun _ => hC, by simp⟩
    · have hu : l9 = false := hu
      have hls : l18 = false := Bool.eq_false_iff.2 fun e => by have h : l9 = true := hcl 18 _ rfl e 9 (by decide +kernel); rw [hu] at h; cases h
      subst hls
      have hC := hC rfl
      clear hcl
      have y21 := h21 (hd 6 (by decide +kernel))
      subst y21
      have y23 := h23 (hd 8 (by decide +kernel))
      subst y23
      have hK5 := HTi.out w'
      go_simp
      refine hK5.mono ?_
      rintro e w5 ⟨rfl, hb5⟩
      exact hK _ _ ⟨l0, l1, l2, l3, l4, l5, l6, l7, l8, true, l10, l11, l12, l13, l14, l15, l16, l17, false, l19, t15, t16, t17, t18, t19, t20, _, t22, _, _, t25, t26, t27, t28, t29, t30, t31, t32, t5, rfl, rfl, h15, h16, h17, h18, h19, h20, fun _ => rfl, h22, fun _ => rfl, fun _ => rfl, h25, h26, h27, h28, h29, h30, h31, h32, h5, fun _ => ⟨b_step hb5 (hC.1), (hC.2.1).below (hC.2.1).lt hb5, (hC.2.2.1).below (hC.2.2.1).lt hb5, (hC.2.2.2).below (hC.2.2.2).lt hb5⟩, by simp⟩
    · have hu : l10 = false := hu
      have hls : l18 = false := Bool.eq_false_iff.2 fun e => by have h : l10 = true := hcl 18 _ rfl e 10 (by decide +kernel); rw [hu] at h; cases h
      subst hls
      have hC := hC rfl
      clear hcl
      go_simp
      exact hK _ _ ⟨l0, l1, l2, l3, l4, l5, l6, l7, l8, l9, true, l11, l12, l13, l14, l15, l16, l17, false, l19, t15, t16, t17, t18, t19, t20, t21, t22, t23, t24, _, t26, t27, t28, t29, t30, t31, t32, t5, rfl, rfl, h15, h16, h17, h18, h19, h20, h21, h22, h23, h24, fun _ => rfl, h26, h27, h28, h29, h30, h31, h32, h5, fun _ => hC, by simp⟩
    · have hu : l11 = false := hu
      have hls : l18 = false := Bool.eq_false_iff.2 fun e => by have h : l11 = true := hcl 18 _ rfl e 11 (by decide +kernel); rw [hu] at h; cases h
      subst hls
      have hC := hC rfl
      clear hcl
      have y25 := h25 (hd 10 (by decide +kernel))
      subst y25
      obtain ⟨c0, c1, c2, _, _, _⟩ := (hC.2.1).three
      go_simp
      exact hK _ _ ⟨l0, l1, l2, l3, l4, l5, l6, l7, l8, l9, l10, true, l12, l13, l14, l15, l16, l17, false, l19, t15, t16, t17, t18, t19, t20, t21, t22, t23, t24, _, _, t27, t28, t29, t30, t31, t32, t5, rfl, rfl, h15, h16, h17, h18, h19, h20, h21, h22, h23, h24, fun _ => rfl, fun _ => rfl, h27, h28, h29, h30, h31, h32, h5, fun _ => hC, by simp⟩
    · have hu : l12 = false := hu
      have hls : l18 = false := Bool.eq_false_iff.2 fun e => by have h : l12 = true := hcl 18 _ rfl e 12 (by decide +kernel); rw [hu] at h; cases h
      subst hls
      have hC := hC rfl
      clear hcl
      go_simp
      exact hK _ _ ⟨l0, l1, l2, l3, l4, l5, l6, l7, l8, l9, l10, l11, true, l13, l14, l15, l16, l17, false, l19, t15, t16, t17, t18, t19, t20, t21, t22, t23, t24, t25, t26, _, t28, t29, t30, t31, t32, t5, rfl, rfl, h15, h16, h17, h18, h19, h20, h21, h22, h23, h24, h25, h26, fun _ => rfl, h28, h29, h30, h31, h32, h5, fun _ => hC, by simp⟩
    · have hu : l13 = false := hu
      have hls : l18 = false := Bool.eq_false_iff.2 fun e => by have h : l13 = true := hcl 18 _ rfl e 13 (by decide +kernel); rw [hu] at h; cases h
      subst hls
      have hC := hC rfl
      clear hcl
      have y27 := h27 (hd 12 (by decide +kernel))
      subst y27
      obtain ⟨c0, c1, c2, _, _, _⟩ := (hC.2.2.1).three
      go_simp
      exact hK _ _ ⟨l0, l1, l2, l3, l4, l5, l6, l7, l8, l9, l10, l11, l12, true, l14, l15, l16, l17, false, l19, t15, t16, t17, t18, t19, t20, t21, t22, t23, t24, t25, t26, _, _, t29, t30, t31, t32, t5, rfl, rfl, h15, h16, h17, h18, h19, h20, h21, h22, h23, h24, h25, h26, fun _ => rfl, fun _ => rfl, h29, h30, h31, h32, h5, fun _ => hC, by simp⟩
    · have hu : l14 = false := hu
      have hls : l18 = false := Bool.eq_false_iff.2 fun e => by have h : l14 = true := hcl 18 _ rfl e 14 (by decide +kernel); rw [hu] at h; cases h
      subst hls
      have hC := hC rfl
      clear hcl
      have y26 := h26 (hd 11 (by decide +kernel))
      subst y26
      have y28 := h28 (hd 13 (by decide +kernel))
      subst y28
      have hw9 := HWr.out
      go_simp
      exact hK _ _ ⟨l0, l1, l2, l3, l4, l5, l6, l7, l8, l9, l10, l11, l12, l13, true, l15, l16, l17, false, l19, t15, t16, t17, t18, t19, t20, t21, t22, t23, t24, t25, _, t27, _, _, t30, t31, t32, t5, rfl, rfl, h15, h16, h17, h18, h19, h20, h21, h22, h23, h24, h25, fun _ => rfl, h27, fun _ => rfl, fun _ => rfl, h30, h31, h32, h5, fun _ => hC, by simp⟩
    · have hu : l15 = false := hu
      have hls : l18 = false := Bool.eq_false_iff.2 fun e => by have h : l15 = true := hcl 18 _ rfl e 15 (by decide +kernel); rw [hu] at h; cases h
      subst hls
      have hC := hC rfl
      clear hcl
      have y19 := h19 (hd 4 (by decide +kernel))
      subst y19
      have y24 := h24 (hd 9 (by decide +kernel))
      subst y24
      have y29 := h29 (hd 14 (by decide +kernel))
      subst y29
      have hK5 := HM.out w'
      go_simp
      refine hK5.mono ?_
      rintro e w5 ⟨rfl, hb5⟩
      exact hK _ _ ⟨l0, l1, l2, l3, l4, l5, l6, l7, l8, l9, l10, l11, l12, l13, l14, true, l16, l17, false, l19, t15, t16, t17, t18, _, t20, t21, t22, t23, _, t25, t26, t27, t28, _, _, t31, t32, t5, rfl, rfl, h15, h16, h17, h18, fun _ => rfl, h20, h21, h22, h23, fun _ => rfl, h25, h26, h27, h28, fun _ => rfl, fun _ => rfl, h31, h32, h5, fun _ => ⟨b_step hb5 (hC.1), (hC.2.1).below (hC.2.1).lt hb5, (hC.2.2.1).below (hC.2.2.1).lt hb5, (hC.2.2.2).below (hC.2.2.2).lt hb5⟩, by simp⟩
    · have hu : l16 = false := hu
      have hls : l18 = false := Bool.eq_false_iff.2 fun e => by have h : l16 = true := hcl 18 _ rfl e 16 (by decide +kernel); rw [hu] at h; cases h
      subst hls
      have hC := hC rfl
      clear hcl
      have y30 := h30 (hd 15 (by decide +kernel))
      subst y30
      go_simp
      exact hK _ _ ⟨l0, l1, l2, l3, l4, l5, l6, l7, l8, l9, l10, l11, l12, l13, l14, l15, true, l17, false, l19, t15, t16, t17, t18, t19, t20, t21, t22, t23, t24, t25, t26, t27, t28, t29, _, _, t32, t5, rfl, rfl, h15, h16, h17, h18, h19, h20, h21, h22, h23, h24, h25, h26, h27, h28, h29, fun _ => rfl, fun _ => rfl, h32, h5, fun _ => hC, by simp⟩
    · have hu : l17 = false := hu
      have hls : l18 = false := Bool.eq_false_iff.2 fun e => by have h : l17 = true := hcl 18 _ rfl e 17 (by decide +kernel); rw [hu] at h; cases h
      subst hls
      have hC := hC rfl
      clear hcl
      have y30 := h30 (hd 15 (by decide +kernel))
      subst y30
      go_simp
      exact hK _ _ ⟨l0, l1, l2, l3, l4, l5, l6, l7, l8, l9, l10, l11, l12, l13, l14, l15, l16, true, false, l19, t15, t16, t17, t18, t19, t20, t21, t22, t23, t24, t25, t26, t27, t28, t29, _, t31, _, t5, rfl, rfl, h15, h16, h17, h18, h19, h20, h21, h22, h23, h24, h25, h26, h27, h28, h29, fun _ => rfl, h31, fun _ => rfl, h5, fun _ => hC, by simp⟩
    · have hu : l18 = false := hu
      subst hu
      have hC := hC rfl
      clear hcl
      have y31 := h31 (hd 16 (by decide +kernel))
      subst y31
      rw [if_pos (by rfl)]
      refine wp_store_row _ _ _ rfl _ _ rfl rfl _ _ (hC.2.2.2) sizeDec rfl (dec_one _ _ _) ?_
      exact hK _ _ ⟨l0, l1, l2, l3, l4, l5, l6, l7, l8, l9, l10, l11, l12, l13, l14, l15, l16, l17, true, l19, t15, t16, t17, t18, t19, t20, t21, t22, t23, t24, t25, t26, t27, t28, t29, t30, _, t32, t5, rfl, rfl, h15, h16, h17, h18, h19, h20, h21, h22, h23, h24, h25, h26, h27, h28, h29, h30, fun _ => rfl, h32, h5, by simp, fun _ => ⟨b_row (hC.1) (by omega), (hC.2.1).row_other (by omega), (hC.2.2.1).row_other (by omega), (hC.2.2.2).row _⟩⟩
    · have hu : l19 = false := hu
      clear hcl
      have y32 := h32 (hd 17 (by decide +kernel))
      subst y32
      go_simp
      exact hK _ _ ⟨l0, l1, l2, l3, l4, l5, l6, l7, l8, l9, l10, l11, l12, l13, l14, l15, l16, l17, l18, true, t15, t16, t17, t18, t19, t20, t21, t22, t23, t24, t25, t26, t27, t28, t29, t30, t31, _, _, rfl, rfl, h15, h16, h17, h18, h19, h20, h21, h22, h23, h24, h25, h26, h27, h28, h29, h30, h31, fun _ => rfl, fun _ => rfl, hC, hP⟩
end Dc
end Go.Proofs.YthnpbkplcboejaaGreatDoor
