/- Decimal: Div. -/
import Derived.Test.YthnpbkplcboejaaDoorDu0
set_option linter.unusedSimpArgs false
set_option linter.unusedVariables false
namespace Go.Proofs.YthnpbkplcboejaaDoor
open Go.RowKit Go.Shelf Go.Lib Go.Sort
namespace Dc
set_option maxRecDepth 100000 in
set_option maxHeartbeats 40000000 in
theorem Div_dn (a b : V) (ha : a.ok) (hb : b.ok) (sc : Nat) (hsc : sc ≤ 60) (hb0 : b.n ≠ 0) (hmo : ¬ 0 < sc + b.s - a.s) (w : World) :
    Calls Tryd.prog 13 #[a.d.val, b.d.val, .int .i64 (sc : Int)] w fun e w' => e = .returned (divS a b sc).val ∧ RowKit.Below w.heap.size w w' := by
  have hpw : pw 20 = 10 ^ 180 := pw20
  have has := ha.s
  have hbs := hb.s
  obtain ⟨up, hup⟩ : ∃ u, sc + b.s - a.s = u := ⟨_, rfl⟩
  rw [hup] at hmo
  obtain ⟨dn, hdn⟩ : ∃ d, a.s - (sc + b.s) = d := ⟨_, rfl⟩
  have hnl : a.n * 10 ^ up < 10 ^ 180 := lt_pow (mul_lt_pow ha.n (Nat.pow_le_pow_right (by decide) (show up ≤ 120 by omega))) (by decide)
  have hdl : b.n * 10 ^ dn < 10 ^ 120 := lt_pow (mul_lt_pow hb.n (Nat.pow_le_pow_right (by decide) (show dn ≤ 60 by omega))) (by decide)
  have hdp : 0 < b.n * 10 ^ dn := Nat.mul_pos (by omega) (Nat.pow_pos (by decide))
  have n1 := fun W => numberOf_dec a.n ha.n W
  have n2 := fun W => numberOf_dec b.n hb.n W
  have p1 := fun W => power_any up (by omega) W
  have p2 := fun W => power_any dn (by omega) W
  have t1 := fun W => times_num a.n (10 ^ up) (by rw [hpw]; exact lt_pow ha.n (by decide)) (by rw [hpw]; exact hnl) W
  have t2 := fun W => times_num b.n (10 ^ dn) (by rw [hpw]; exact lt_pow hb.n (by decide)) (by rw [hpw]; exact lt_pow hdl (by decide)) W
  have h9 : 1000000000 * 10 ^ 120 < 10 ^ 180 := by decide
  have o1 := fun W => over_any (a.n * 10 ^ up) (b.n * 10 ^ dn) (by rw [hpw]; exact hnl) hdp (by rw [hpw]; omega) W
  have hM := fun W => made_num (a.neg != b.neg) (a.n * 10 ^ up / (b.n * 10 ^ dn)) sc (Nat.lt_of_le_of_lt (Nat.div_le_self _ _) hnl) (by omega) W
  have hrs : divS a b sc = mk (a.neg != b.neg) (a.n * 10 ^ up / (b.n * 10 ^ dn)) sc := by unfold divS; rw [hup, hdn]
  obtain ⟨r, hr⟩ : ∃ r, divS a b sc = r := ⟨_, rfl⟩
  rw [← hrs, hr] at hM
  rw [hr]
  obtain ⟨g1, hg1⟩ : ∃ g, 10 ^ up = g := ⟨_, rfl⟩
  obtain ⟨g2, hg2⟩ : ∃ g, 10 ^ dn = g := ⟨_, rfl⟩
  have hx1 : up = 0 → a.n * g1 = a.n := fun h => by rw [← hg1, h]; omega
  have hx2 : dn = 0 → b.n * g2 = b.n := fun h => by rw [← hg2, h]; omega
  rw [hg1] at p1 t1 o1 hM
  rw [hg2] at p2 t2 o1 hM
  obtain ⟨X, hX⟩ : ∃ X, a.n * g1 = X := ⟨_, rfl⟩
  obtain ⟨Y, hY⟩ : ∃ Y, b.n * g2 = Y := ⟨_, rfl⟩
  rw [hX] at t1 o1 hM hx1
  rw [hY] at t2 o1 hM hx2
  obtain ⟨q, hq⟩ : ∃ q, X / Y = q := ⟨_, rfl⟩
  obtain ⟨l, hl⟩ : ∃ l, X % Y = l := ⟨_, rfl⟩
  rw [hq, hl] at o1
  rw [hq] at hM
  obtain ⟨sg, hsg⟩ : ∃ sg, (a.neg != b.neg) = sg := ⟨_, rfl⟩
  rw [hsg] at hM
  have hsg2 : (!(a.neg == b.neg)) = sg := hsg
  rw [R.val_eq] at hM
  have hSc : ∀ W, Calls Tryd.prog 18 #[.int .i64 (sc : Int)] W fun e w' => e = .returned (.bool true) ∧ W = w' := fun W => by
    have h := isScale_any (sc : Int) W
    have e : scB (sc : Int) = true := by unfold scB; simp; omega
    rw [e] at h; exact h
  have hnz : ¬ (dec b.n = [48]) := fun h => by
    have := congrArg dv h
    rw [dv_dec] at this
    exact hb0 this
  have hnz2 : (dec b.n == [48]) = false := by rw [beq_eq_false_iff_ne]; exact hnz
  have N1 := Lib.hid n1
  have N2 := Lib.hid n2
  have P1 := Lib.hid p1
  have P2 := Lib.hid p2
  have T1 := Lib.hid t1
  have T2 := Lib.hid t2
  have O1 := Lib.hid o1
  have HM := Lib.hid hM
  have HX1 := Lib.hid hx1
  have HX2 := Lib.hid hx2
  have HUP := Lib.hid hup
  have HDN := Lib.hid hdn
  have hz := zeroNum
  clear n1 n2 p1 p2 t1 t2 o1 hM hrs hr hpw hup hdn hnl hdl hdp h9 hg1 hg2 hx1 hx2 hX hY hq hl hb0
  obtain ⟨hb0, h1, h2, h3⟩ := three_start w (.bool a.neg) (.string (decB a.n)) (.int .i64 (a.s : Int)) (.bool b.neg) (.string (decB b.n)) (.int .i64 (b.s : Int))
  obtain ⟨W0, hW0⟩ : ∃ W0, (((w.alloc (.cells #[.bool a.neg, .string (decB a.n), .int .i64 (a.s : Int)] 23)).alloc (.cells #[.bool b.neg, .string (decB b.n), .int .i64 (b.s : Int)] 23)).alloc (.cells #[.bool false, .string ⟨#[]⟩, .int .i64 0] 23)) = W0 := ⟨_, rfl⟩
  rw [hW0] at hb0 h1 h2 h3
  obtain ⟨W1, hW1⟩ : ∃ W1, W0.alloc (.cells #[.bool a.neg, .string (decB a.n), .int .i64 (a.s : Int), .bool b.neg, .string (decB b.n), .int .i64 (b.s : Int)] 23) = W1 := ⟨_, rfl⟩
  have hb1 := b_alloc (o := .cells #[.bool a.neg, .string (decB a.n), .int .i64 (a.s : Int), .bool b.neg, .string (decB b.n), .int .i64 (b.s : Int)] 23) hb0
  have hn := Blk.new W0 #[.bool a.neg, .string (decB a.n), .int .i64 (a.s : Int), .bool b.neg, .string (decB b.n), .int .i64 (b.s : Int)] 23
  have h1' := h1.alloc (.cells #[.bool a.neg, .string (decB a.n), .int .i64 (a.s : Int), .bool b.neg, .string (decB b.n), .int .i64 (b.s : Int)] 23)
  have h2' := h2.alloc (.cells #[.bool a.neg, .string (decB a.n), .int .i64 (a.s : Int), .bool b.neg, .string (decB b.n), .int .i64 (b.s : Int)] 23)
  have h3' := h3.alloc (.cells #[.bool a.neg, .string (decB a.n), .int .i64 (a.s : Int), .bool b.neg, .string (decB b.n), .int .i64 (b.s : Int)] 23)
  rw [hW1] at hb1 hn h1' h2' h3'
  have hV := valid2_any a.d b.d (by have := ha.len; show (decB a.n).size ≤ _; unfold maxLen; omega) (by have := hb.len; show (decB b.n).size ≤ _; unfold maxLen; omega) W0.heap.size W1 hn
  rw [V.check ha, V.check hb] at hV
  have hsz0 : w.heap.size + 3 ≤ W1.heap.size := by have := h3'.lt; omega
  obtain ⟨a0, a1, a2, _, _, _⟩ := h1.three
  obtain ⟨b0, b1, b2, _, _, _⟩ := h2.three
  rw [V.d_val, V.d_val]
  have HS1 : Hid (RowKit.Below w.heap.size w W1 ∧ Blk W1 (w.heap.size) (#[.bool a.neg, .string (decB a.n), .int .i64 (a.s : Int)]) 23 ∧ Blk W1 (w.heap.size + 1) (#[.bool b.neg, .string (decB b.n), .int .i64 (b.s : Int)]) 23 ∧ Blk W1 (w.heap.size + 2) (#[.bool false, .string ⟨#[]⟩, .int .i64 0]) 23) := ⟨hb1, h1', h2', h3'⟩
  clear hn hb1 hb0 h1 h2 h3 h1' h2' h3' ha hb
  go_enter Tryd.func13, Tryd.ntmps13
  go_wp2_with (go_at_call 23; refine hV.mono ?_)
  first | rintro e5 w5 rfl hb5 | rintro e5 w5 ⟨rfl, hb5⟩
  have hS5 : RowKit.Below w.heap.size w w5 ∧ Blk w5 (w.heap.size) (#[.bool a.neg, .string (decB a.n), .int .i64 (a.s : Int)]) 23 ∧ Blk w5 (w.heap.size + 1) (#[.bool b.neg, .string (decB b.n), .int .i64 (b.s : Int)]) 23 ∧ Blk w5 (w.heap.size + 2) (#[.bool false, .string ⟨#[]⟩, .int .i64 0]) 23 := ⟨b_step hb5 (HS1.out.1), (HS1.out.2.1).below (HS1.out.2.1).lt hb5, (HS1.out.2.2.1).below (HS1.out.2.2.1).lt hb5, (HS1.out.2.2.2).below (HS1.out.2.2.2).lt hb5⟩
  have hsz5 : w.heap.size + 3 ≤ w5.heap.size := Nat.le_trans hsz0 hb5.size
  clear a0 a1 a2 b0 b1 b2 hb5 hW0 hW1 hV HS1 hsz0
  obtain ⟨a0, a1, a2, _, _, _⟩ := hS5.2.1.three
  obtain ⟨b0, b1, b2, _, _, _⟩ := hS5.2.2.1.three
  clear hz
  go_wp2_with (go_at_call 18; refine (hSc _).mono ?_; rintro e w' ⟨rfl, rfl⟩)
  simp only [Nat.add_assoc, Nat.reduceAdd]
  obtain ⟨hB0, G0, G1, G2⟩ : RowKit.Below w.heap.size w w5.drew ∧ Blk w5.drew (w.heap.size) (#[.bool a.neg, .string (decB a.n), .int .i64 (a.s : Int)]) 23 ∧ Blk w5.drew (w.heap.size + 1) (#[.bool b.neg, .string (decB b.n), .int .i64 (b.s : Int)]) 23 ∧ Blk w5.drew (w.heap.size + 2) (#[.bool false, .string ⟨#[]⟩, .int .i64 0]) 23 := ⟨b_drew (hS5.1), (hS5.2.1), (hS5.2.2.1), (hS5.2.2.2)⟩
  clear hS5 a0 a1 a2 b0 b1 b2
  refine region_inv (fun ls a' w' => ∃ (l0 l1 l2 l3 l4 l5 l6 l7 l8 l9 : Bool) (t29 t30 t31 t32 t33 t34 t8 t9 : Value), ∃ (bx bu : Nat), ls = [l0, l1, l2, l3, l4, l5, l6, l7, l8, l9] ∧ a' = { tmps := #[Value.agg #[Value.bool a.neg, Value.string (decB a.n), Value.int IntKind.i64 ↑a.s], Value.agg #[Value.bool b.neg, Value.string (decB b.n), Value.int IntKind.i64 ↑b.s], Value.int IntKind.i64 ↑sc, Value.pointer (some { block := w.heap.size, off := 0 }), Value.pointer (some { block := w.heap.size + 1, off := 0 }), undef, Value.pointer (some { block := w.heap.size + 2, off := 0 }), Value.int IntKind.i64 0, t8, t9, undef, undef, undef, Value.agg #[Value.bool a.neg, Value.string (decB a.n), Value.int IntKind.i64 ↑a.s], Value.agg #[Value.bool b.neg, Value.string (decB b.n), Value.int IntKind.i64 ↑b.s], Value.slice (some { block := W0.heap.size, off := 0 }) 2 2, Value.bool true, Value.bool false, Value.bool false, Value.pointer (some { block := w.heap.size + 1, off := 1 }), Value.string (decB b.n), Value.bool false, Value.bool false, Value.bool false, Value.int IntKind.i64 ↑sc, Value.bool true, Value.bool false, Value.bool false, undef, t29, t30, t31, t32, t33, t34, undef, undef, undef, undef, undef, undef, undef, undef, undef, undef, undef, undef, undef, undef, undef, undef, undef, undef, undef, undef, undef, undef, undef, undef, undef, undef, undef, undef, undef, undef, undef, undef, undef, undef, undef], defers := [] } ∧ (l0 = true → t29 = Value.pointer (some ⟨w.heap.size, 1, none⟩)) ∧ (l1 = true → t30 = Value.string (decB a.n)) ∧ (l2 = true → t31 = Value.agg (arr (numF a.n))) ∧ (l3 = true → t32 = Value.pointer (some ⟨w.heap.size + 1, 1, none⟩)) ∧ (l4 = true → t33 = Value.string (decB b.n)) ∧ (l5 = true → t34 = Value.agg (arr (numF b.n))) ∧ RowKit.Below w.heap.size w w' ∧ Blk w' (w.heap.size) (#[.bool a.neg, .string (decB a.n), .int .i64 (a.s : Int)]) (23) ∧ Blk w' (w.heap.size + 1) (#[.bool b.neg, .string (decB b.n), .int .i64 (b.s : Int)]) (23) ∧ Blk w' (w.heap.size + 2) (#[.bool false, .string ⟨#[]⟩, .int .i64 0]) (23) ∧ (l6 = true → t8 = Value.pointer (some ⟨bx, 0, none⟩) ∧ w.heap.size + 3 ≤ bx ∧ Blk w' bx (cond l8 (arr (numF a.n)) (arr fun _ => 0)) (56)) ∧ (l7 = true → t9 = Value.pointer (some ⟨bu, 0, none⟩) ∧ w.heap.size + 3 ≤ bu ∧ Blk w' bu (cond l9 (arr (numF b.n)) (arr fun _ => 0)) (56)) ∧ (l6 = true → l7 = true → bx ≠ bu)) (by kernel_rfl) (by kernel_rfl) ?rlen3 ?rdone3 ?rh03 ?rstep3
  case rlen3 => rintro ls a' w' ⟨l0, l1, l2, l3, l4, l5, l6, l7, l8, l9, t29, t30, t31, t32, t33, t34, t8, t9, bx, bu, rfl, _⟩; rfl
  case rh03 => exact ⟨false, false, false, false, false, false, false, false, false, false, undef, undef, undef, undef, undef, undef, undef, undef, 0, 0, rfl, rfl, by simp, by simp, by simp, by simp, by simp, by simp, hB0, G0, G1, G2, by simp, by simp, by simp⟩
  case rdone3 =>
    rintro ls a' w' ⟨l0, l1, l2, l3, l4, l5, l6, l7, l8, l9, t29, t30, t31, t32, t33, t34, t8, t9, bx, bu, rfl, rfl, h29, h30, h31, h32, h33, h34, hB, F0, F1, F2, D0, D1, E01⟩ hl
    obtain rfl : l0 = true := by simpa using hl 0
    obtain rfl : l1 = true := by simpa using hl 1
    obtain rfl : l2 = true := by simpa using hl 2
    obtain rfl : l3 = true := by simpa using hl 3
    obtain rfl : l4 = true := by simpa using hl 4
    obtain rfl : l5 = true := by simpa using hl 5
    obtain rfl : l6 = true := by simpa using hl 6
    obtain rfl : l7 = true := by simpa using hl 7
    obtain rfl : l8 = true := by simpa using hl 8
    obtain rfl : l9 = true := by simpa using hl 9
    obtain ⟨rfl, hn_bx, hk_bx⟩ := D0 rfl
    obtain ⟨rfl, hn_bu, hk_bu⟩ := D1 rfl
    clear hl h29 h30 h31 h32 h33 h34
    have hne := E01 rfl rfl
    obtain ⟨a0, a1, a2, _, _, _⟩ := F0.three
    obtain ⟨b0, b1, b2, _, _, _⟩ := F1.three
    clear E01
    obtain ⟨V, hVV⟩ : ∃ V, w' = V := ⟨_, rfl⟩
    rw [hVV] at hB F0 F1 F2 hk_bx hk_bu a0 a1 a2 b0 b1 b2
    subst hVV
    have h0 : up = 0 := by omega
    have hX2 := HX1.out h0
    have hmore : (sc : Int) + (b.s : Int) - (a.s : Int) = -(dn : Int) := by have := HUP.out; have := HDN.out; omega
    have hdn0 : ¬ 0 < -(dn : Int) := by omega
    have HX2 := Lib.hid hX2
    clear h0 hX2 hmo
    go_wp2
    have hk_bx2 : Blk w' bx (arr (numF X)) 56 := by rw [HX2.out]; exact hk_bx
    obtain ⟨hB0, G0, G1, G2, G3, K0⟩ : RowKit.Below w.heap.size w w'.drew ∧ Blk w'.drew w.heap.size (#[.bool a.neg, .string (decB a.n), .int .i64 (a.s : Int)]) 23 ∧ Blk w'.drew (w.heap.size + 1) (#[.bool b.neg, .string (decB b.n), .int .i64 (b.s : Int)]) 23 ∧ Blk w'.drew (w.heap.size + 2) (#[.bool false, .string ⟨#[]⟩, .int .i64 0]) 23 ∧ Blk w'.drew bx (arr (numF X)) 56 ∧ Blk w'.drew bu (arr (numF b.n)) 56 := ⟨b_drew hB, F0, F1, F2, hk_bx2, hk_bu⟩
    clear hB F0 F1 F2 hk_bx hk_bu hk_bx2 a0 a1 a2 b0 b1 b2
    refine region_inv (fun ls a' w' => ∃ (l0 l1 l2 l3 l4 l5 : Bool) (t48 t49 t50 t51 t52 : Value), ls = [l0, l1, l2, l3, l4, l5] ∧ a' = { tmps := #[Value.agg #[Value.bool a.neg, Value.string (decB a.n), Value.int IntKind.i64 ↑a.s], Value.agg #[Value.bool b.neg, Value.string (decB b.n), Value.int IntKind.i64 ↑b.s], Value.int IntKind.i64 ↑sc, Value.pointer (some { block := w.heap.size, off := 0 }), Value.pointer (some { block := w.heap.size + 1, off := 0 }), undef, Value.pointer (some { block := w.heap.size + 2, off := 0 }), Value.int IntKind.i64 0, Value.pointer (some { block := bx, off := 0 }), Value.pointer (some { block := bu, off := 0 }), Value.int IntKind.i64 (-↑dn), undef, undef, Value.agg #[Value.bool a.neg, Value.string (decB a.n), Value.int IntKind.i64 ↑a.s], Value.agg #[Value.bool b.neg, Value.string (decB b.n), Value.int IntKind.i64 ↑b.s], Value.slice (some { block := W0.heap.size, off := 0 }) 2 2, Value.bool true, Value.bool false, Value.bool false, Value.pointer (some { block := w.heap.size + 1, off := 1 }), Value.string (decB b.n), Value.bool false, Value.bool false, Value.bool false, Value.int IntKind.i64 ↑sc, Value.bool true, Value.bool false, Value.bool false, undef, t29, t30, t31, t32, t33, t34, Value.int IntKind.i64 ↑sc, Value.pointer (some { block := w.heap.size + 1, off := 2 }), Value.int IntKind.i64 ↑b.s, Value.int IntKind.i64 (↑sc + ↑b.s), Value.pointer (some { block := w.heap.size, off := 2 }), Value.int IntKind.i64 ↑a.s, Value.int IntKind.i64 (-↑dn), Value.int IntKind.i64 (-↑dn), Value.bool (decide (↑dn < 0)), undef, undef, undef, undef, t48, t49, t50, t51, t52, undef, undef, undef, undef, undef, undef, undef, undef, undef, undef, undef, undef, undef, undef, undef, undef, undef], defers := [] } ∧ (l0 = true → t48 = Value.agg (arr (numF b.n))) ∧ (l1 = true → t49 = Value.int .i64 (-(dn : Int))) ∧ (l2 = true → t50 = Value.int .i64 (dn : Int)) ∧ (l3 = true → t51 = Value.agg (arr (numF g2))) ∧ (l4 = true → t52 = Value.agg (arr (numF Y))) ∧ RowKit.Below w.heap.size w w' ∧ Blk w' (w.heap.size) (#[.bool a.neg, .string (decB a.n), .int .i64 (a.s : Int)]) (23) ∧ Blk w' (w.heap.size + 1) (#[.bool b.neg, .string (decB b.n), .int .i64 (b.s : Int)]) (23) ∧ Blk w' (w.heap.size + 2) (#[.bool false, .string ⟨#[]⟩, .int .i64 0]) (23) ∧ Blk w' (bx) (arr (numF X)) (56) ∧ Blk w' (bu) (cond l5 (arr (numF Y)) (arr (numF b.n))) (56)) (by kernel_rfl) (by kernel_rfl) ?rlen7 ?rdone7 ?rh07 ?rstep7
    case rlen7 => rintro ls a' w' ⟨l0, l1, l2, l3, l4, l5, t48, t49, t50, t51, t52, rfl, _⟩; rfl
    case rh07 => exact ⟨false, false, false, false, false, false, undef, undef, undef, undef, undef, rfl, rfl, by simp, by simp, by simp, by simp, by simp, hB0, G0, G1, G2, G3, K0⟩
    case rdone7 =>
      rintro ls a' w' ⟨l0, l1, l2, l3, l4, l5, t48, t49, t50, t51, t52, rfl, rfl, h48, h49, h50, h51, h52, hB, F0, F1, F2, F3, C0⟩ hl
      obtain rfl : l0 = true := by simpa using hl 0
      obtain rfl : l1 = true := by simpa using hl 1
      obtain rfl : l2 = true := by simpa using hl 2
      obtain rfl : l3 = true := by simpa using hl 3
      obtain rfl : l4 = true := by simpa using hl 4
      obtain rfl : l5 = true := by simpa using hl 5
      clear hl h48 h49 h50 h51 h52
      obtain ⟨V, hVV⟩ : ∃ V, w' = V := ⟨_, rfl⟩
      have hS8 : RowKit.Below w.heap.size w w' ∧ Blk w' (w.heap.size) (#[.bool a.neg, .string (decB a.n), .int .i64 (a.s : Int)]) 23 ∧ Blk w' (w.heap.size + 1) (#[.bool b.neg, .string (decB b.n), .int .i64 (b.s : Int)]) 23 ∧ Blk w' (w.heap.size + 2) (#[.bool false, .string ⟨#[]⟩, .int .i64 0]) 23 ∧ Blk w' (bx) (arr (numF X)) 56 ∧ Blk w' (bu) (arr (numF Y)) 56 := ⟨hB, F0, F1, F2, F3, C0⟩
      clear hB F0 F1 F2 F3 C0 hVV
      go_wp2_with (first | refine wpList_load_row rfl _ _ rfl _ rfl _ _ _ _ (hS8.2.2.2.2.1) underNum rfl (sizeNum _) ?_ | refine wpList_load_row rfl _ _ rfl _ rfl _ _ _ _ (hS8.2.2.2.2.2) underNum rfl (sizeNum _) ?_ | (go_at_call 35; refine (O1.out _).mono ?_))
      first | rintro e9 w9 rfl hb9 | rintro e9 w9 ⟨rfl, hb9⟩
      have hS9 : RowKit.Below w.heap.size w w9 ∧ Blk w9 (w.heap.size) (#[.bool a.neg, .string (decB a.n), .int .i64 (a.s : Int)]) 23 ∧ Blk w9 (w.heap.size + 1) (#[.bool b.neg, .string (decB b.n), .int .i64 (b.s : Int)]) 23 ∧ Blk w9 (w.heap.size + 2) (#[.bool false, .string ⟨#[]⟩, .int .i64 0]) 23 ∧ Blk w9 (bx) (arr (numF X)) 56 ∧ Blk w9 (bu) (arr (numF Y)) 56 := ⟨b_step hb9 (hS8.1), (hS8.2.1).below (hS8.2.1).lt hb9, (hS8.2.2.1).below (hS8.2.2.1).lt hb9, (hS8.2.2.2.1).below (hS8.2.2.2.1).lt hb9, (hS8.2.2.2.2.1).below (hS8.2.2.2.2.1).lt hb9, (hS8.2.2.2.2.2).below (hS8.2.2.2.2.2).lt hb9⟩
      clear hb9 hS8
      have hz := zeroNum
      obtain ⟨W7, hW7⟩ : ∃ W7, (w9.alloc (.cells (arr fun _ => 0) 56)).alloc (.cells (arr fun _ => 0) 56) = W7 := ⟨_, rfl⟩
      obtain ⟨bq, hbq⟩ : ∃ bx, w9.heap.size = bx := ⟨_, rfl⟩
      have hx0 : Blk W7 bq (arr fun _ => 0) 56 := by rw [← hW7, ← hbq]; exact (Blk.new w9 _ _).alloc _
      have hy0 : Blk W7 (bq + 1) (arr fun _ => 0) 56 := by
        rw [← hW7, ← hbq]
        have := Blk.new (w9.alloc (.cells (arr fun _ => 0) 56)) (arr fun _ => 0) 56
        rw [World.size_alloc] at this; exact this
      have hb7 : RowKit.Below w9.heap.size w9 W7 := by rw [← hW7]; exact b_alloc ((Below.refl _ w9).alloc (Nat.le_refl _) _)
      have hS7 : RowKit.Below w.heap.size w W7 ∧ Blk W7 (w.heap.size) (#[.bool a.neg, .string (decB a.n), .int .i64 (a.s : Int)]) 23 ∧ Blk W7 (w.heap.size + 1) (#[.bool b.neg, .string (decB b.n), .int .i64 (b.s : Int)]) 23 ∧ Blk W7 (w.heap.size + 2) (#[.bool false, .string ⟨#[]⟩, .int .i64 0]) 23 ∧ Blk W7 (bx) (arr (numF X)) 56 ∧ Blk W7 (bu) (arr (numF Y)) 56 := ⟨b_step hb7 (hS9.1), (hS9.2.1).below (hS9.2.1).lt hb7, (hS9.2.2.1).below (hS9.2.2.1).lt hb7, (hS9.2.2.2.1).below (hS9.2.2.2.1).lt hb7, (hS9.2.2.2.2.1).below (hS9.2.2.2.2.1).lt hb7, (hS9.2.2.2.2.2).below (hS9.2.2.2.2.2).lt hb7⟩
      have hy1 : Blk (W7.setRow bq (arr (numF q))) (bq + 1) (arr fun _ => 0) 56 := hy0.row_other (by omega)
      have l1 := (hS9.2.1).lt
      have l2 := (hS9.2.2.1).lt
      have l3 := (hS9.2.2.2.1).lt
      rw [hbq] at l1 l2 l3
      have hSA : RowKit.Below w.heap.size w ((W7.setRow bq (arr (numF q))).setRow (bq + 1) (arr (numF l))) ∧ Blk ((W7.setRow bq (arr (numF q))).setRow (bq + 1) (arr (numF l))) w.heap.size (#[.bool a.neg, .string (decB a.n), .int .i64 (a.s : Int)]) 23 ∧ Blk ((W7.setRow bq (arr (numF q))).setRow (bq + 1) (arr (numF l))) (w.heap.size + 1) (#[.bool b.neg, .string (decB b.n), .int .i64 (b.s : Int)]) 23 ∧ Blk ((W7.setRow bq (arr (numF q))).setRow (bq + 1) (arr (numF l))) (w.heap.size + 2) (#[.bool false, .string ⟨#[]⟩, .int .i64 0]) 23 ∧ Blk ((W7.setRow bq (arr (numF q))).setRow (bq + 1) (arr (numF l))) bq (arr (numF q)) 56 :=
        ⟨b_row (b_row hS7.1 (by omega)) (by omega), (hS7.2.1.row_other (by omega)).row_other (by omega), (hS7.2.2.1.row_other (by omega)).row_other (by omega), (hS7.2.2.2.1.row_other (by omega)).row_other (by omega), (hx0.row _).row_other (by omega)⟩
      obtain ⟨W8, hW8⟩ : ∃ W8, ((W7.setRow bq (arr (numF q))).setRow (bq + 1) (arr (numF l))) = W8 := ⟨_, rfl⟩
      rw [hW8] at hSA
      clear hS7 hS9 hb7 hy0
      go_wp2_with (first | refine wpList_store_row rfl _ _ _ rfl _ _ rfl rfl _ _ hx0 (sizeNum _) (by rw [arr_size, arr_size]) (arr_one _) ?_ | refine wpList_store_row rfl _ _ _ rfl _ _ rfl rfl _ _ hy1 (sizeNum _) (by rw [arr_size, arr_size]) (arr_one _) ?_)
      simp only [hW8, Act.put]
      obtain ⟨hB0, G0, G1, K0, G2⟩ : RowKit.Below w.heap.size w W8.drew ∧ Blk W8.drew w.heap.size (#[.bool a.neg, .string (decB a.n), .int .i64 (a.s : Int)]) 23 ∧ Blk W8.drew (w.heap.size + 1) (#[.bool b.neg, .string (decB b.n), .int .i64 (b.s : Int)]) 23 ∧ Blk W8.drew (w.heap.size + 2) (#[.bool false, .string ⟨#[]⟩, .int .i64 0]) 23 ∧ Blk W8.drew bq (arr (numF q)) 56 := ⟨b_drew hSA.1, hSA.2⟩
      have hbqn : w.heap.size + 3 ≤ bq := by omega
      clear hSA hx0 hy1 hW7 hz l1 l2 l3 hbq
      refine region_inv (fun ls a' w' => ∃ (l0 l1 l2 l3 l4 l5 l6 l7 l8 l9 l10 l11 l12 : Bool) (t59 t60 t61 t62 t63 t64 t65 t66 t67 t68 t69 t7 : Value), ls = [l0, l1, l2, l3, l4, l5, l6, l7, l8, l9, l10, l11, l12] ∧ a' = { tmps := #[Value.agg #[Value.bool a.neg, Value.string (decB a.n), Value.int IntKind.i64 ↑a.s], Value.agg #[Value.bool b.neg, Value.string (decB b.n), Value.int IntKind.i64 ↑b.s], Value.int IntKind.i64 ↑sc, Value.pointer (some { block := w.heap.size, off := 0 }), Value.pointer (some { block := w.heap.size + 1, off := 0 }), undef, Value.pointer (some { block := w.heap.size + 2, off := 0 }), t7, Value.pointer (some { block := bx, off := 0 }), Value.pointer (some { block := bu, off := 0 }), Value.int IntKind.i64 (-↑dn), Value.pointer (some { block := bq, off := 0 }), Value.pointer (some { block := bq + 1, off := 0 }), Value.agg #[Value.bool a.neg, Value.string (decB a.n), Value.int IntKind.i64 ↑a.s], Value.agg #[Value.bool b.neg, Value.string (decB b.n), Value.int IntKind.i64 ↑b.s], Value.slice (some { block := W0.heap.size, off := 0 }) 2 2, Value.bool true, Value.bool false, Value.bool false, Value.pointer (some { block := w.heap.size + 1, off := 1 }), Value.string (decB b.n), Value.bool false, Value.bool false, Value.bool false, Value.int IntKind.i64 ↑sc, Value.bool true, Value.bool false, Value.bool false, undef, t29, t30, t31, t32, t33, t34, Value.int IntKind.i64 ↑sc, Value.pointer (some { block := w.heap.size + 1, off := 2 }), Value.int IntKind.i64 ↑b.s, Value.int IntKind.i64 (↑sc + ↑b.s), Value.pointer (some { block := w.heap.size, off := 2 }), Value.int IntKind.i64 ↑a.s, Value.int IntKind.i64 (-↑dn), Value.int IntKind.i64 (-↑dn), Value.bool false, undef, undef, undef, undef, t48, t49, t50, t51, t52, Value.tuple #[Value.agg (arr (numF q)), Value.agg (arr (numF l))], Value.agg (arr (numF X)), Value.agg (arr (numF Y)), Value.tuple #[Value.agg (arr (numF q)), Value.agg (arr (numF l))], Value.agg (arr (numF q)), Value.agg (arr (numF l)), t59, t60, t61, t62, t63, t64, t65, t66, t67, t68, t69], defers := [] } ∧ (l0 = true → t59 = Value.pointer (some ⟨w.heap.size, 0, none⟩)) ∧ (l1 = true → t60 = Value.bool a.neg) ∧ (l2 = true → t61 = Value.pointer (some ⟨w.heap.size + 1, 0, none⟩)) ∧ (l3 = true → t62 = Value.bool b.neg) ∧ (l4 = true → t63 = Value.bool sg) ∧ (l5 = true → t64 = Value.agg (arr (numF q))) ∧ (l6 = true → t65 = Value.string (txtB q)) ∧ (l7 = true → t66 = Value.int .i64 (sc : Int)) ∧ (l8 = true → t67 = Value.tuple #[Value.agg #[.bool r.d.neg, .string r.d.s, .int .i64 r.d.sc], .int .i64 r.no]) ∧ (l9 = true → t68 = Value.agg #[.bool r.d.neg, .string r.d.s, .int .i64 r.d.sc]) ∧ (l10 = true → t69 = Value.int .i64 r.no) ∧ (l12 = true → t7 = Value.int .i64 r.no) ∧ RowKit.Below w.heap.size w w' ∧ Blk w' (w.heap.size) (#[.bool a.neg, .string (decB a.n), .int .i64 (a.s : Int)]) (23) ∧ Blk w' (w.heap.size + 1) (#[.bool b.neg, .string (decB b.n), .int .i64 (b.s : Int)]) (23) ∧ Blk w' (bq) (arr (numF q)) (56) ∧ Blk w' (w.heap.size + 2) (cond l11 (#[.bool r.d.neg, .string r.d.s, .int .i64 r.d.sc]) (#[.bool false, .string ⟨#[]⟩, .int .i64 0])) (23)) (by kernel_rfl) (by kernel_rfl) ?rlen9b ?rdone9b ?rh09b ?rstep9b
      case rlen9b => rintro ls a' w' ⟨l0, l1, l2, l3, l4, l5, l6, l7, l8, l9, l10, l11, l12, t59, t60, t61, t62, t63, t64, t65, t66, t67, t68, t69, t7, rfl, _⟩; rfl
      case rh09b => exact ⟨false, false, false, false, false, false, false, false, false, false, false, false, false, undef, undef, undef, undef, undef, undef, undef, undef, undef, undef, undef, Value.int IntKind.i64 0, rfl, rfl, by simp, by simp, by simp, by simp, by simp, by simp, by simp, by simp, by simp, by simp, by simp, by simp, hB0, G0, G1, G2, K0⟩
      case rdone9b =>
        rintro ls a' w' ⟨l0, l1, l2, l3, l4, l5, l6, l7, l8, l9, l10, l11, l12, t59, t60, t61, t62, t63, t64, t65, t66, t67, t68, t69, t7, rfl, rfl, h59, h60, h61, h62, h63, h64, h65, h66, h67, h68, h69, h7, hB, F0, F1, F2, C0⟩ hl
        obtain rfl : l0 = true := by simpa using hl 0
        obtain rfl : l1 = true := by simpa using hl 1
        obtain rfl : l2 = true := by simpa using hl 2
        obtain rfl : l3 = true := by simpa using hl 3
        obtain rfl : l4 = true := by simpa using hl 4
        obtain rfl : l5 = true := by simpa using hl 5
        obtain rfl : l6 = true := by simpa using hl 6
        obtain rfl : l7 = true := by simpa using hl 7
        obtain rfl : l8 = true := by simpa using hl 8
        obtain rfl : l9 = true := by simpa using hl 9
        obtain rfl : l10 = true := by simpa using hl 10
        obtain rfl : l11 = true := by simpa using hl 11
        obtain rfl : l12 = true := by simpa using hl 12
        obtain rfl := h7 rfl
        clear hl h59 h60 h61 h62 h63 h64 h65 h66 h67 h68 h69
        go_wp2
        refine bodyPost_ret (v := r.val) (results_row_slot (by rfl) _ _ _ _ _ _ (by rfl) C0 (by rfl)) rfl ⟨rfl, hB⟩
      case rstep9b =>
        rintro i o ho ls a' w' ⟨l0, l1, l2, l3, l4, l5, l6, l7, l8, l9, l10, l11, l12, t59, t60, t61, t62, t63, t64, t65, t66, t67, t68, t69, t7, rfl, rfl, h59, h60, h61, h62, h63, h64, h65, h66, h67, h68, h69, h7, hB, F0, F1, F2, C0⟩ hcl hu hd K hK
        rcases i with _ | _ | _ | _ | _ | _ | _ | _ | _ | _ | _ | _ | _ | i <;> simp only [List.getElem?_cons_zero, List.getElem?_cons_succ, List.getElem?_nil, Option.some.injEq, reduceCtorEq] at ho
        all_goals subst ho
        · have hu : l0 = false := hu
          clear hcl
          go_simp
          exact hK _ _ ⟨true, l1, l2, l3, l4, l5, l6, l7, l8, l9, l10, l11, l12, _, t60, t61, t62, t63, t64, t65, t66, t67, t68, t69, t7, rfl, rfl, fun _ => rfl, h60, h61, h62, h63, h64, h65, h66, h67, h68, h69, h7, hB, F0, F1, F2, C0⟩
        · have hu : l1 = false := hu
          clear hcl
          have y59 := h59 (hd 0 (by decide +kernel))
          subst y59
          obtain ⟨c0, c1, c2, _, _, _⟩ := F0.three
          go_simp
          exact hK _ _ ⟨l0, true, l2, l3, l4, l5, l6, l7, l8, l9, l10, l11, l12, _, _, t61, t62, t63, t64, t65, t66, t67, t68, t69, t7, rfl, rfl, fun _ => rfl, fun _ => rfl, h61, h62, h63, h64, h65, h66, h67, h68, h69, h7, hB, F0, F1, F2, C0⟩
        · have hu : l2 = false := hu
          clear hcl
          go_simp
          exact hK _ _ ⟨l0, l1, true, l3, l4, l5, l6, l7, l8, l9, l10, l11, l12, t59, t60, _, t62, t63, t64, t65, t66, t67, t68, t69, t7, rfl, rfl, h59, h60, fun _ => rfl, h62, h63, h64, h65, h66, h67, h68, h69, h7, hB, F0, F1, F2, C0⟩
        · have hu : l3 = false := hu
          clear hcl
          have y61 := h61 (hd 2 (by decide +kernel))
          subst y61
          obtain ⟨c0, c1, c2, _, _, _⟩ := F1.three
          go_simp
          exact hK _ _ ⟨l0, l1, l2, true, l4, l5, l6, l7, l8, l9, l10, l11, l12, t59, t60, _, _, t63, t64, t65, t66, t67, t68, t69, t7, rfl, rfl, h59, h60, fun _ => rfl, fun _ => rfl, h63, h64, h65, h66, h67, h68, h69, h7, hB, F0, F1, F2, C0⟩
        · have hu : l4 = false := hu
          clear hcl
          have y60 := h60 (hd 1 (by decide +kernel))
          subst y60
          have y62 := h62 (hd 3 (by decide +kernel))
          subst y62
          go_simp
          exact hK _ _ ⟨l0, l1, l2, l3, true, l5, l6, l7, l8, l9, l10, l11, l12, t59, _, t61, _, _, t64, t65, t66, t67, t68, t69, t7, rfl, rfl, h59, fun _ => rfl, h61, fun _ => rfl, fun _ => rfl, h64, h65, h66, h67, h68, h69, h7, hB, F0, F1, F2, C0⟩
        · have hu : l5 = false := hu
          clear hcl
          rw [if_pos (by rfl)]
          refine wp_load_row _ _ rfl _ rfl _ _ _ _ F2 underNum rfl (sizeNum _) ?_
          exact hK _ _ ⟨l0, l1, l2, l3, l4, true, l6, l7, l8, l9, l10, l11, l12, t59, t60, t61, t62, t63, _, t65, t66, t67, t68, t69, t7, rfl, rfl, h59, h60, h61, h62, h63, fun _ => rfl, h65, h66, h67, h68, h69, h7, hB, F0, F1, F2, C0⟩
        · have hu : l6 = false := hu
          clear hcl
          have y64 := h64 (hd 5 (by decide +kernel))
          subst y64
          have hK5 := digits_any q w'
          go_simp
          refine hK5.mono ?_
          rintro e w5 ⟨rfl, hb5⟩
          exact hK _ _ ⟨l0, l1, l2, l3, l4, l5, true, l7, l8, l9, l10, l11, l12, t59, t60, t61, t62, t63, _, _, t66, t67, t68, t69, t7, rfl, rfl, h59, h60, h61, h62, h63, fun _ => rfl, fun _ => rfl, h66, h67, h68, h69, h7, b_step hb5 hB, F0.below F0.lt hb5, F1.below F1.lt hb5, F2.below F2.lt hb5, C0.below C0.lt hb5⟩
        · have hu : l7 = false := hu
          clear hcl
          go_simp
          exact hK _ _ ⟨l0, l1, l2, l3, l4, l5, l6, true, l8, l9, l10, l11, l12, t59, t60, t61, t62, t63, t64, t65, _, t67, t68, t69, t7, rfl, rfl, h59, h60, h61, h62, h63, h64, h65, fun _ => rfl, h67, h68, h69, h7, hB, F0, F1, F2, C0⟩
        · have hu : l8 = false := hu
          clear hcl
          have y63 := h63 (hd 4 (by decide +kernel))
          subst y63
          have y65 := h65 (hd 6 (by decide +kernel))
          subst y65
          have y66 := h66 (hd 7 (by decide +kernel))
          subst y66
          have hK5 := HM.out w'
          go_simp
          refine hK5.mono ?_
          rintro e w5 ⟨rfl, hb5⟩
          exact hK _ _ ⟨l0, l1, l2, l3, l4, l5, l6, l7, true, l9, l10, l11, l12, t59, t60, t61, t62, _, t64, _, _, _, t68, t69, t7, rfl, rfl, h59, h60, h61, h62, fun _ => rfl, h64, fun _ => rfl, fun _ => rfl, fun _ => rfl, h68, h69, h7, b_step hb5 hB, F0.below F0.lt hb5, F1.below F1.lt hb5, F2.below F2.lt hb5, C0.below C0.lt hb5⟩
        · have hu : l9 = false := hu
          clear hcl
          have y67 := h67 (hd 8 (by decide +kernel))
          subst y67
          go_simp
          exact hK _ _ ⟨l0, l1, l2, l3, l4, l5, l6, l7, l8, true, l10, l11, l12, t59, t60, t61, t62, t63, t64, t65, t66, _, _, t69, t7, rfl, rfl, h59, h60, h61, h62, h63, h64, h65, h66, fun _ => rfl, fun _ => rfl, h69, h7, hB, F0, F1, F2, C0⟩
        · have hu : l10 = false := hu
          clear hcl
          have y67 := h67 (hd 8 (by decide +kernel))
          subst y67
          go_simp
          exact hK _ _ ⟨l0, l1, l2, l3, l4, l5, l6, l7, l8, l9, true, l11, l12, t59, t60, t61, t62, t63, t64, t65, t66, _, t68, _, t7, rfl, rfl, h59, h60, h61, h62, h63, h64, h65, h66, fun _ => rfl, h68, fun _ => rfl, h7, hB, F0, F1, F2, C0⟩
        · have hu : l11 = false := hu
          subst hu
          clear hcl
          have y68 := h68 (hd 9 (by decide +kernel))
          subst y68
          rw [if_pos (by rfl)]
          refine wp_store_row _ _ _ rfl _ _ rfl rfl _ _ C0 sizeDec rfl (dec_one _ _ _) ?_
          exact hK _ _ ⟨l0, l1, l2, l3, l4, l5, l6, l7, l8, l9, l10, true, l12, t59, t60, t61, t62, t63, t64, t65, t66, t67, _, t69, t7, rfl, rfl, h59, h60, h61, h62, h63, h64, h65, h66, h67, fun _ => rfl, h69, h7, b_row hB (by omega), F0.row_other (by omega), F1.row_other (by omega), F2.row_other (by omega), C0.row _⟩
        · have hu : l12 = false := hu
          clear hcl
          have y69 := h69 (hd 10 (by decide +kernel))
          subst y69
          go_simp
          exact hK _ _ ⟨l0, l1, l2, l3, l4, l5, l6, l7, l8, l9, l10, l11, true, t59, t60, t61, t62, t63, t64, t65, t66, t67, t68, _, _, rfl, rfl, h59, h60, h61, h62, h63, h64, h65, h66, h67, h68, fun _ => rfl, fun _ => rfl, hB, F0, F1, F2, C0⟩
    case rstep7 =>
      rintro i o ho ls a' w' ⟨l0, l1, l2, l3, l4, l5, t48, t49, t50, t51, t52, rfl, rfl, h48, h49, h50, h51, h52, hB, F0, F1, F2, F3, C0⟩ hcl hu hd K hK
      rcases i with _ | _ | _ | _ | _ | _ | i <;> simp only [List.getElem?_cons_zero, List.getElem?_cons_succ, List.getElem?_nil, Option.some.injEq, reduceCtorEq] at ho
      all_goals subst ho
      · have hu : l0 = false := hu
        have hcl2 := hcl
        clear hcl
        have hS0 : l5 = false := Bool.eq_false_iff.2 fun e => by have h : l0 = true := hcl2 5 _ rfl e 0 (by decide +kernel); rw [hu] at h; cases h
        have GX : Blk w' bu (arr (numF b.n)) 56 := by rw [hS0] at C0; exact C0
        rw [if_pos (by rfl)]
        refine wp_load_row _ _ rfl _ rfl _ _ _ _ GX underNum rfl (sizeNum _) ?_
        exact hK _ _ ⟨true, l1, l2, l3, l4, l5, _, t49, t50, t51, t52, rfl, rfl, fun _ => rfl, h49, h50, h51, h52, hB, F0, F1, F2, F3, C0⟩
      · have hu : l1 = false := hu
        clear hcl
        go_simp
        exact hK _ _ ⟨l0, true, l2, l3, l4, l5, t48, _, t50, t51, t52, rfl, rfl, h48, fun _ => rfl, h50, h51, h52, hB, F0, F1, F2, F3, C0⟩
      · have hu : l2 = false := hu
        clear hcl
        have y49 := h49 (hd 1 (by decide +kernel))
        subst y49
        have hwn : IntKind.i64.wrap (- -(dn : Int)) = (dn : Int) := by rw [IntWalk.i64_in _ (by have := HUP.out; have := HDN.out; omega)]; omega
        have hwn2 : IntKind.i64.wrap (dn : Int) = (dn : Int) := IntWalk.i64_in _ (by have := HUP.out; have := HDN.out; omega)
        go_simp
        exact hK _ _ ⟨l0, l1, true, l3, l4, l5, t48, _, _, t51, t52, rfl, rfl, h48, fun _ => rfl, fun _ => rfl, h51, h52, hB, F0, F1, F2, F3, C0⟩
      · have hu : l3 = false := hu
        clear hcl
        have y50 := h50 (hd 2 (by decide +kernel))
        subst y50
        have hK5 := P2.out w'
        go_simp
        refine hK5.mono ?_
        rintro e w5 ⟨rfl, hb5⟩
        exact hK _ _ ⟨l0, l1, l2, true, l4, l5, t48, t49, _, _, t52, rfl, rfl, h48, h49, fun _ => rfl, fun _ => rfl, h52, b_step hb5 hB, F0.below F0.lt hb5, F1.below F1.lt hb5, F2.below F2.lt hb5, F3.below F3.lt hb5, C0.below C0.lt hb5⟩
      · have hu : l4 = false := hu
        clear hcl
        have y48 := h48 (hd 0 (by decide +kernel))
        subst y48
        have y51 := h51 (hd 3 (by decide +kernel))
        subst y51
        have hK5 := T2.out w'
        go_simp
        refine hK5.mono ?_
        rintro e w5 ⟨rfl, hb5⟩
        exact hK _ _ ⟨l0, l1, l2, l3, true, l5, _, t49, t50, _, _, rfl, rfl, fun _ => rfl, h49, h50, fun _ => rfl, fun _ => rfl, b_step hb5 hB, F0.below F0.lt hb5, F1.below F1.lt hb5, F2.below F2.lt hb5, F3.below F3.lt hb5, C0.below C0.lt hb5⟩
      · have hu : l5 = false := hu
        subst hu
        clear hcl
        have y52 := h52 (hd 4 (by decide +kernel))
        subst y52
        rw [if_pos (by rfl)]
        refine wp_store_row _ _ _ rfl _ _ rfl rfl _ _ C0 (sizeNum _) (by simp only [Bool.cond_false, arr_size]) (arr_one _) ?_
        exact hK _ _ ⟨l0, l1, l2, l3, l4, true, t48, t49, t50, t51, _, rfl, rfl, h48, h49, h50, h51, fun _ => rfl, b_row hB (by omega), F0.row_other (by omega), F1.row_other (by omega), F2.row_other (by omega), F3.row_other (by omega), C0.row _⟩
  case rstep3 =>
    rintro i o ho ls a' w' ⟨l0, l1, l2, l3, l4, l5, l6, l7, l8, l9, t29, t30, t31, t32, t33, t34, t8, t9, bx, bu, rfl, rfl, h29, h30, h31, h32, h33, h34, hB, F0, F1, F2, D0, D1, E01⟩ hcl hu hd K hK
    rcases i with _ | _ | _ | _ | _ | _ | _ | _ | _ | _ | i <;> simp only [List.getElem?_cons_zero, List.getElem?_cons_succ, List.getElem?_nil, Option.some.injEq, reduceCtorEq] at ho
    all_goals subst ho
    · have hu : l0 = false := hu
      clear hcl
      go_simp
      exact hK _ _ ⟨true, l1, l2, l3, l4, l5, l6, l7, l8, l9, _, t30, t31, t32, t33, t34, t8, t9, bx, bu, rfl, rfl, fun _ => rfl, h30, h31, h32, h33, h34, hB, F0, F1, F2, D0, D1, E01⟩
    · have hu : l1 = false := hu
      clear hcl
      have y29 := h29 (hd 0 (by decide +kernel))
      subst y29
      obtain ⟨c0, c1, c2, _, _, _⟩ := F0.three
      go_simp
      exact hK _ _ ⟨l0, true, l2, l3, l4, l5, l6, l7, l8, l9, _, _, t31, t32, t33, t34, t8, t9, bx, bu, rfl, rfl, fun _ => rfl, fun _ => rfl, h31, h32, h33, h34, hB, F0, F1, F2, D0, D1, E01⟩
    · have hu : l2 = false := hu
      clear hcl
      have y30 := h30 (hd 1 (by decide +kernel))
      subst y30
      have hK5 := N1.out w'
      go_simp
      refine hK5.mono ?_
      rintro e w5 ⟨rfl, hb5⟩
      exact hK _ _ ⟨l0, l1, true, l3, l4, l5, l6, l7, l8, l9, t29, _, _, t32, t33, t34, t8, t9, bx, bu, rfl, rfl, h29, fun _ => rfl, fun _ => rfl, h32, h33, h34, b_step hb5 hB, F0.below F0.lt hb5, F1.below F1.lt hb5, F2.below F2.lt hb5, fun h => ⟨(D0 h).1, (D0 h).2.1, (D0 h).2.2.below (D0 h).2.2.lt hb5⟩, fun h => ⟨(D1 h).1, (D1 h).2.1, (D1 h).2.2.below (D1 h).2.2.lt hb5⟩, E01⟩
    · have hu : l3 = false := hu
      clear hcl
      go_simp
      exact hK _ _ ⟨l0, l1, l2, true, l4, l5, l6, l7, l8, l9, t29, t30, t31, _, t33, t34, t8, t9, bx, bu, rfl, rfl, h29, h30, h31, fun _ => rfl, h33, h34, hB, F0, F1, F2, D0, D1, E01⟩
    · have hu : l4 = false := hu
      clear hcl
      have y32 := h32 (hd 3 (by decide +kernel))
      subst y32
      obtain ⟨c0, c1, c2, _, _, _⟩ := F1.three
      go_simp
      exact hK _ _ ⟨l0, l1, l2, l3, true, l5, l6, l7, l8, l9, t29, t30, t31, _, _, t34, t8, t9, bx, bu, rfl, rfl, h29, h30, h31, fun _ => rfl, fun _ => rfl, h34, hB, F0, F1, F2, D0, D1, E01⟩
    · have hu : l5 = false := hu
      clear hcl
      have y33 := h33 (hd 4 (by decide +kernel))
      subst y33
      have hK5 := N2.out w'
      go_simp
      refine hK5.mono ?_
      rintro e w5 ⟨rfl, hb5⟩
      exact hK _ _ ⟨l0, l1, l2, l3, l4, true, l6, l7, l8, l9, t29, t30, t31, t32, _, _, t8, t9, bx, bu, rfl, rfl, h29, h30, h31, h32, fun _ => rfl, fun _ => rfl, b_step hb5 hB, F0.below F0.lt hb5, F1.below F1.lt hb5, F2.below F2.lt hb5, fun h => ⟨(D0 h).1, (D0 h).2.1, (D0 h).2.2.below (D0 h).2.2.lt hb5⟩, fun h => ⟨(D1 h).1, (D1 h).2.1, (D1 h).2.2.below (D1 h).2.2.lt hb5⟩, E01⟩
    · have hu : l6 = false := hu
      have hls : l8 = false := Bool.eq_false_iff.2 fun e => by have h : l6 = true := hcl 8 _ rfl e 6 (by decide +kernel); rw [hu] at h; cases h
      subst hls
      clear hcl
      have hz5 := zeroNum
      go_simp
      exact hK _ _ ⟨l0, l1, l2, l3, l4, l5, true, l7, false, l9, t29, t30, t31, t32, t33, t34, _, t9, w'.heap.size, bu, rfl, rfl, h29, h30, h31, h32, h33, h34, b_alloc hB, F0.alloc _, F1.alloc _, F2.alloc _, fun _ => ⟨rfl, (by have := F2.lt; omega), Blk.new w' _ _⟩, fun h => ⟨(D1 h).1, (D1 h).2.1, (D1 h).2.2.alloc _⟩, fun _ h => Nat.ne_of_gt (D1 h).2.2.lt⟩
    · have hu : l7 = false := hu
      have hls : l9 = false := Bool.eq_false_iff.2 fun e => by have h : l7 = true := hcl 9 _ rfl e 7 (by decide +kernel); rw [hu] at h; cases h
      subst hls
      clear hcl
      have hz5 := zeroNum
      go_simp
      exact hK _ _ ⟨l0, l1, l2, l3, l4, l5, l6, true, l8, false, t29, t30, t31, t32, t33, t34, t8, _, bx, w'.heap.size, rfl, rfl, h29, h30, h31, h32, h33, h34, b_alloc hB, F0.alloc _, F1.alloc _, F2.alloc _, fun h => ⟨(D0 h).1, (D0 h).2.1, (D0 h).2.2.alloc _⟩, fun _ => ⟨rfl, (by have := F2.lt; omega), Blk.new w' _ _⟩, fun h _ => Nat.ne_of_lt (D0 h).2.2.lt⟩
    · have hu : l8 = false := hu
      subst hu
      clear hcl
      have y31 := h31 (hd 2 (by decide +kernel))
      subst y31
      have hA : l6 = true := hd 6 (by decide +kernel)
      obtain ⟨yd, hn, hk⟩ := D0 hA
      subst yd
      rw [if_pos (by rfl)]
      refine wp_store_row _ _ _ rfl _ _ rfl rfl _ _ hk (sizeNum _) (by simp only [Bool.cond_false, arr_size]) (arr_one _) ?_
      exact hK _ _ ⟨l0, l1, l2, l3, l4, l5, l6, l7, true, l9, t29, t30, _, t32, t33, t34, _, t9, bx, bu, rfl, rfl, h29, h30, fun _ => rfl, h32, h33, h34, b_row hB (by omega), F0.row_other (by omega), F1.row_other (by omega), F2.row_other (by omega), fun _ => ⟨rfl, hn, hk.row _⟩, fun h => ⟨(D1 h).1, (D1 h).2.1, (D1 h).2.2.row_other (E01 hA h).symm⟩, E01⟩
    · have hu : l9 = false := hu
      subst hu
      clear hcl
      have y34 := h34 (hd 5 (by decide +kernel))
      subst y34
      have hA : l7 = true := hd 7 (by decide +kernel)
      obtain ⟨yd, hn, hk⟩ := D1 hA
      subst yd
      rw [if_pos (by rfl)]
      refine wp_store_row _ _ _ rfl _ _ rfl rfl _ _ hk (sizeNum _) (by simp only [Bool.cond_false, arr_size]) (arr_one _) ?_
      exact hK _ _ ⟨l0, l1, l2, l3, l4, l5, l6, l7, l8, true, t29, t30, t31, t32, t33, _, t8, _, bx, bu, rfl, rfl, h29, h30, h31, h32, h33, fun _ => rfl, b_row hB (by omega), F0.row_other (by omega), F1.row_other (by omega), F2.row_other (by omega), fun h => ⟨(D0 h).1, (D0 h).2.1, (D0 h).2.2.row_other (E01 h hA)⟩, fun _ => ⟨rfl, hn, hk.row _⟩, E01⟩
end Dc
end Go.Proofs.YthnpbkplcboejaaDoor
