/- Decimal: Mul. -/
import Derived.Test.YthnpbkplcboejaaDoorDs
set_option linter.unusedSimpArgs false
set_option linter.unusedVariables false
namespace Go.Proofs.YthnpbkplcboejaaDoor
open Go.RowKit Go.Shelf Go.Lib Go.Sort
namespace Dc
def mulS (a b : V) : R := mk (a.neg != b.neg) (a.n * b.n) (a.s + b.s)
set_option maxRecDepth 100000 in
set_option maxHeartbeats 2000000 in
theorem Mul_no (d x : D) (hs0 : d.s.size ≤ maxLen) (hs1 : x.s.size ≤ maxLen) (hc : (d.check && x.check) = false) (w : World) :
    Calls Tryd.prog 10 #[d.val, x.val] w fun e w' => e = .returned (R.err 2).val ∧ RowKit.Below w.heap.size w w' := by
  obtain ⟨hb0, h1, h2, h3⟩ := three_start w (.bool d.neg) (.string d.s) (.int .i64 d.sc) (.bool x.neg) (.string x.s) (.int .i64 x.sc)
  obtain ⟨W0, hW0⟩ : ∃ W0, (((w.alloc (.cells #[.bool d.neg, .string d.s, .int .i64 d.sc] 23)).alloc (.cells #[.bool x.neg, .string x.s, .int .i64 x.sc] 23)).alloc (.cells #[.bool false, .string ⟨#[]⟩, .int .i64 0] 23)) = W0 := ⟨_, rfl⟩
  rw [hW0] at hb0 h1 h2 h3
  obtain ⟨W1, hW1⟩ : ∃ W1, W0.alloc (.cells #[.bool d.neg, .string d.s, .int .i64 d.sc, .bool x.neg, .string x.s, .int .i64 x.sc] 23) = W1 := ⟨_, rfl⟩
  have hb1 := b_alloc (o := .cells #[.bool d.neg, .string d.s, .int .i64 d.sc, .bool x.neg, .string x.s, .int .i64 x.sc] 23) hb0
  have hn := Blk.new W0 #[.bool d.neg, .string d.s, .int .i64 d.sc, .bool x.neg, .string x.s, .int .i64 x.sc] 23
  have h3' := h3.alloc (.cells #[.bool d.neg, .string d.s, .int .i64 d.sc, .bool x.neg, .string x.s, .int .i64 x.sc] 23)
  rw [hW1] at hb1 hn h3'
  have hV := valid2_any d x hs0 hs1 W0.heap.size W1 hn
  rw [hc] at hV
  obtain ⟨a0, a1, a2, _, _, _⟩ := h1.three
  obtain ⟨b0, b1, b2, _, _, _⟩ := h2.three
  rw [d_box, d_box]
  have HB := Lib.hid hb1
  have HN := Lib.hid h3'
  clear hc hs0 hs1 hn hb1 hb0 h1 h2 h3 h3'
  go_enter Tryd.func10, Tryd.ntmps10
  go_wp2_with (go_at_call 23; refine hV.mono ?_)
  first | rintro e5 w5 rfl hb5 | rintro e5 w5 ⟨rfl, hb5⟩
  have hB5 := HN.out.below HN.out.lt hb5
  obtain ⟨c0, c1, c2, f0, f1, f2⟩ := hB5.three
  have HB5 := Lib.hid (b_step hb5 HB.out)
  clear a0 a1 a2 b0 b1 b2 hb5 hW0 hW1 hV
  go_wp2
  refine bodyPost_ret (v := (R.err 2).val) (results_row_slot (by rfl) _ _ _ _ _ _ (by rfl) (hB5.set3 _ _ _) (by rfl)) rfl ⟨rfl, b_set3 HB5.out (by omega) _ _ _⟩
set_option maxRecDepth 100000 in
set_option maxHeartbeats 8000000 in
theorem Mul_ok (a b : V) (ha : a.ok) (hb : b.ok) (w : World) :
    Calls Tryd.prog 10 #[a.d.val, b.d.val] w fun e w' => e = .returned (mulS a b).val ∧ RowKit.Below w.heap.size w w' := by
  have hpw : pw 20 = 10 ^ 180 := pw20
  have hXY : a.n * b.n < 10 ^ 120 := mul_lt_pow ha.n (Nat.le_of_lt hb.n)
  have n1 := fun W => numberOf_dec a.n ha.n W
  have n2 := fun W => numberOf_dec b.n hb.n W
  have t1 := fun W => times_num a.n b.n (by rw [hpw]; exact lt_pow ha.n (by decide)) (by rw [hpw]; exact lt_pow hXY (by decide)) W
  have hsm : a.s + b.s ≤ 120 := by have := ha.s; have := hb.s; omega
  have hM := fun W => made_num (a.neg != b.neg) (a.n * b.n) (a.s + b.s) (lt_pow hXY (by decide)) (by omega) W
  have hrs : mulS a b = mk (a.neg != b.neg) (a.n * b.n) (a.s + b.s) := rfl
  obtain ⟨r, hr⟩ : ∃ r, mulS a b = r := ⟨_, rfl⟩
  rw [← hrs, hr] at hM
  rw [hr]
  obtain ⟨p, hp⟩ : ∃ p, a.n * b.n = p := ⟨_, rfl⟩
  obtain ⟨m, hm⟩ : ∃ m, a.s + b.s = m := ⟨_, rfl⟩
  rw [hp] at t1
  rw [hp, hm] at hM
  obtain ⟨sg, hsg⟩ : ∃ sg, (a.neg != b.neg) = sg := ⟨_, rfl⟩
  rw [hsg] at hM
  have hsg2 : (!(a.neg == b.neg)) = sg := hsg
  rw [R.val_eq] at hM
  have hw : IntKind.i64.wrap ((a.s : Int) + (b.s : Int)) = (m : Int) := by rw [IntWalk.i64_in _ (by omega)]; omega
  have N1 := Lib.hid n1
  have N2 := Lib.hid n2
  have T1 := Lib.hid t1
  have HM := Lib.hid hM
  have hz := zeroNum
  clear hXY n1 n2 t1 hM hrs hr hp hm hsm hpw
  obtain ⟨hb0, h1, h2, h3⟩ := three_start w (.bool a.neg) (.string (decB a.n)) (.int .i64 (a.s : Int)) (.bool b.neg) (.string (decB b.n)) (.int .i64 (b.s : Int))
  obtain ⟨W0, hW0⟩ : ∃ W0, (((w.alloc (.cells #[.bool a.neg, .string (decB a.n), .int .i64 (a.s : Int)] 23)).alloc (.cells #[.bool b.neg, .string (decB b.n), .int .i64 (b.s : Int)] 23)).alloc (.cells #[.bool false, .string ⟨#[]⟩, .int .i64 0] 23)) = W0 := ⟨_, rfl⟩
  rw [hW0] at hb0 h1 h2 h3
  obtain ⟨W1, hW1⟩ : ∃ W1, W0.alloc (.cells #[.bool a.neg, .string (decB a.n), .int .i64 (a.s : Int), .bool b.neg, .string (decB b.n), .int .i64 (b.s : Int)] 23) = W1 := ⟨_, rfl⟩
  have hb1 := b_alloc (o := .cells #[.bool a.neg, .string (decB a.n), .int .i64 (a.s : Int), .bool b.neg, .string (decB b.n), .int .i64 (b.s : Int)] 23) hb0
  have hn := Blk.new W0 #[.bool a.neg, .string (decB a.n), .int .i64 (a.s : Int), .bool b.neg, .string (decB b.n), .int .i64 (b.s : Int)] 23
  have h1' := h1.alloc (.cells #[.bool a.neg, .string (decB a.n), .int .i64 (a.s : Int), .bool b.neg, .string (decB b.n), .int .i64 (b.s : Int)] 23)
  have h2' := h2.alloc (.cells #[.bool a.neg, .string (decB a.n), .int .i64 (a.s : Int), .bool b.neg, .string (decB b.n), .int .i64 (b.s : Int)] 23)
  have h3' := h3.alloc (.cells #[.bool a.neg, .string (decB a.n), .int .i64 (a.s : Int), .bool b.neg, .string (decB b.n), .int .i64 (b.s : Int)] 23)
  rw [hW1] at hb1 hn h1' h2' h3'
  have hV := valid2_any a.d b.d (by have := ha.len; show (decB a.n).size ≤ _; unfold maxLen; omega) (by have := hb.len; show (decB b.n).size ≤ _; unfold maxLen; omega) W0.heap.size W1 hn
  rw [V.check ha, V.check hb] at hV
  have hsz0 : w.heap.size + 3 ≤ W1.heap.size := by have := h3'.lt; omega
  obtain ⟨a0, a1, a2, _, _, _⟩ := h1.three
  obtain ⟨b0, b1, b2, _, _, _⟩ := h2.three
  rw [V.d_val, V.d_val]
  have HS1 : Hid (RowKit.Below w.heap.size w W1 ∧ Blk W1 (w.heap.size) (#[.bool a.neg, .string (decB a.n), .int .i64 (a.s : Int)]) 23 ∧ Blk W1 (w.heap.size + 1) (#[.bool b.neg, .string (decB b.n), .int .i64 (b.s : Int)]) 23 ∧ Blk W1 (w.heap.size + 2) (#[.bool false, .string ⟨#[]⟩, .int .i64 0]) 23) := ⟨hb1, h1', h2', h3'⟩
  clear hn hb1 hb0 h1 h2 h3 h1' h2' h3' ha hb
  go_enter Tryd.func10, Tryd.ntmps10
  go_wp2_with (go_at_call 23; refine hV.mono ?_)
  first | rintro e5 w5 rfl hb5 | rintro e5 w5 ⟨rfl, hb5⟩
  have hS5 : RowKit.Below w.heap.size w w5 ∧ Blk w5 (w.heap.size) (#[.bool a.neg, .string (decB a.n), .int .i64 (a.s : Int)]) 23 ∧ Blk w5 (w.heap.size + 1) (#[.bool b.neg, .string (decB b.n), .int .i64 (b.s : Int)]) 23 ∧ Blk w5 (w.heap.size + 2) (#[.bool false, .string ⟨#[]⟩, .int .i64 0]) 23 := ⟨b_step hb5 (HS1.out.1), (HS1.out.2.1).below (HS1.out.2.1).lt hb5, (HS1.out.2.2.1).below (HS1.out.2.2.1).lt hb5, (HS1.out.2.2.2).below (HS1.out.2.2.2).lt hb5⟩
  have hsz5 : w.heap.size + 3 ≤ w5.heap.size := Nat.le_trans hsz0 hb5.size
  clear a0 a1 a2 b0 b1 b2 hb5 hW0 hW1 hV HS1 hsz0
  obtain ⟨a0, a1, a2, _, _, _⟩ := hS5.2.1.three
  obtain ⟨b0, b1, b2, _, _, _⟩ := hS5.2.2.1.three
  clear hz
  go_wp2
  simp only [Nat.add_assoc, Nat.reduceAdd]
  obtain ⟨hB0, G0, G1, G2⟩ : RowKit.Below w.heap.size w w5.drew ∧ Blk w5.drew (w.heap.size) (#[.bool a.neg, .string (decB a.n), .int .i64 (a.s : Int)]) 23 ∧ Blk w5.drew (w.heap.size + 1) (#[.bool b.neg, .string (decB b.n), .int .i64 (b.s : Int)]) 23 ∧ Blk w5.drew (w.heap.size + 2) (#[.bool false, .string ⟨#[]⟩, .int .i64 0]) 23 := ⟨b_drew (hS5.1), (hS5.2.1), (hS5.2.2.1), (hS5.2.2.2)⟩
  clear hS5 a0 a1 a2 b0 b1 b2
  refine region_inv (fun ls a' w' => ∃ (l0 l1 l2 l3 l4 l5 l6 l7 l8 : Bool) (t13 t14 t15 t16 t17 t18 t19 t6 : Value), ∃ (bp : Nat), ls = [l0, l1, l2, l3, l4, l5, l6, l7, l8] ∧ a' = { tmps := #[Value.agg #[Value.bool a.neg, Value.string (decB a.n), Value.int IntKind.i64 ↑a.s], Value.agg #[Value.bool b.neg, Value.string (decB b.n), Value.int IntKind.i64 ↑b.s], Value.pointer (some { block := w.heap.size, off := 0 }), Value.pointer (some { block := w.heap.size + 1, off := 0 }), Value.pointer (some { block := w.heap.size + 2, off := 0 }), Value.int IntKind.i64 0, t6, Value.agg #[Value.bool a.neg, Value.string (decB a.n), Value.int IntKind.i64 ↑a.s], Value.agg #[Value.bool b.neg, Value.string (decB b.n), Value.int IntKind.i64 ↑b.s], Value.slice (some { block := W0.heap.size, off := 0 }) 2 2, Value.bool true, Value.bool false, undef, t13, t14, t15, t16, t17, t18, t19, undef, undef, undef, undef, undef, undef, undef, undef, undef, undef, undef, undef, undef, undef, undef], defers := [] } ∧ (l0 = true → t13 = Value.pointer (some ⟨w.heap.size, 1, none⟩)) ∧ (l1 = true → t14 = Value.string (decB a.n)) ∧ (l2 = true → t15 = Value.agg (arr (numF a.n))) ∧ (l3 = true → t16 = Value.pointer (some ⟨w.heap.size + 1, 1, none⟩)) ∧ (l4 = true → t17 = Value.string (decB b.n)) ∧ (l5 = true → t18 = Value.agg (arr (numF b.n))) ∧ (l6 = true → t19 = Value.agg (arr (numF p))) ∧ RowKit.Below w.heap.size w w' ∧ Blk w' (w.heap.size) (#[.bool a.neg, .string (decB a.n), .int .i64 (a.s : Int)]) (23) ∧ Blk w' (w.heap.size + 1) (#[.bool b.neg, .string (decB b.n), .int .i64 (b.s : Int)]) (23) ∧ Blk w' (w.heap.size + 2) (#[.bool false, .string ⟨#[]⟩, .int .i64 0]) (23) ∧ (l7 = true → t6 = Value.pointer (some ⟨bp, 0, none⟩) ∧ w.heap.size + 3 ≤ bp ∧ Blk w' bp (cond l8 (arr (numF p)) (arr fun _ => 0)) (56))) (by kernel_rfl) (by kernel_rfl) ?rlen3 ?rdone3 ?rh03 ?rstep3
  case rlen3 => rintro ls a' w' ⟨l0, l1, l2, l3, l4, l5, l6, l7, l8, t13, t14, t15, t16, t17, t18, t19, t6, bp, rfl, _⟩; rfl
  case rh03 => exact ⟨false, false, false, false, false, false, false, false, false, undef, undef, undef, undef, undef, undef, undef, undef, 0, rfl, rfl, by simp, by simp, by simp, by simp, by simp, by simp, by simp, hB0, G0, G1, G2, by simp⟩
  case rdone3 =>
    rintro ls a' w' ⟨l0, l1, l2, l3, l4, l5, l6, l7, l8, t13, t14, t15, t16, t17, t18, t19, t6, bp, rfl, rfl, h13, h14, h15, h16, h17, h18, h19, hB, F0, F1, F2, D0⟩ hl
    obtain rfl : l0 = true := by simpa using hl 0
    obtain rfl : l1 = true := by simpa using hl 1
    obtain rfl : l2 = true := by simpa using hl 2
    obtain rfl : l3 = true := by simpa using hl 3
    obtain rfl : l4 = true := by simpa using hl 4
    obtain rfl : l5 = true := by simpa using hl 5
    obtain rfl : l6 = true := by simpa using hl 6
    obtain rfl : l7 = true := by simpa using hl 7
    obtain rfl : l8 = true := by simpa using hl 8
    obtain ⟨rfl, hn_bp, hk_bp⟩ := D0 rfl
    clear hl h13 h14 h15 h16 h17 h18 h19
    go_wp2
    obtain ⟨hB0, G0, G1, K0, G2⟩ : RowKit.Below w.heap.size w w'.drew ∧ Blk w'.drew w.heap.size (#[.bool a.neg, .string (decB a.n), .int .i64 (a.s : Int)]) 23 ∧ Blk w'.drew (w.heap.size + 1) (#[.bool b.neg, .string (decB b.n), .int .i64 (b.s : Int)]) 23 ∧ Blk w'.drew (w.heap.size + 2) (#[.bool false, .string ⟨#[]⟩, .int .i64 0]) 23 ∧ Blk w'.drew bp (arr (numF p)) 56 := ⟨b_drew hB, F0, F1, F2, hk_bp⟩
    clear hB F0 F1 F2 hk_bp
    refine region_inv (fun ls a' w' => ∃ (l0 l1 l2 l3 l4 l5 l6 l7 l8 l9 l10 l11 l12 l13 l14 l15 l16 : Bool) (t20 t21 t22 t23 t24 t25 t26 t27 t28 t29 t30 t31 t32 t33 t34 t5 : Value), ls = [l0, l1, l2, l3, l4, l5, l6, l7, l8, l9, l10, l11, l12, l13, l14, l15, l16] ∧ a' = { tmps := #[Value.agg #[Value.bool a.neg, Value.string (decB a.n), Value.int IntKind.i64 ↑a.s], Value.agg #[Value.bool b.neg, Value.string (decB b.n), Value.int IntKind.i64 ↑b.s], Value.pointer (some { block := w.heap.size, off := 0 }), Value.pointer (some { block := w.heap.size + 1, off := 0 }), Value.pointer (some { block := w.heap.size + 2, off := 0 }), t5, Value.pointer (some { block := bp, off := 0 }), Value.agg #[Value.bool a.neg, Value.string (decB a.n), Value.int IntKind.i64 ↑a.s], Value.agg #[Value.bool b.neg, Value.string (decB b.n), Value.int IntKind.i64 ↑b.s], Value.slice (some { block := W0.heap.size, off := 0 }) 2 2, Value.bool true, Value.bool false, undef, t13, t14, t15, t16, t17, t18, t19, t20, t21, t22, t23, t24, t25, t26, t27, t28, t29, t30, t31, t32, t33, t34], defers := [] } ∧ (l0 = true → t20 = Value.pointer (some ⟨w.heap.size, 0, none⟩)) ∧ (l1 = true → t21 = Value.bool a.neg) ∧ (l2 = true → t22 = Value.pointer (some ⟨w.heap.size + 1, 0, none⟩)) ∧ (l3 = true → t23 = Value.bool b.neg) ∧ (l4 = true → t24 = Value.bool sg) ∧ (l5 = true → t25 = Value.agg (arr (numF p))) ∧ (l6 = true → t26 = Value.string (txtB p)) ∧ (l7 = true → t27 = Value.pointer (some ⟨w.heap.size, 2, none⟩)) ∧ (l8 = true → t28 = Value.int .i64 (a.s : Int)) ∧ (l9 = true → t29 = Value.pointer (some ⟨w.heap.size + 1, 2, none⟩)) ∧ (l10 = true → t30 = Value.int .i64 (b.s : Int)) ∧ (l11 = true → t31 = Value.int .i64 (m : Int)) ∧ (l12 = true → t32 = Value.tuple #[Value.agg #[.bool r.d.neg, .string r.d.s, .int .i64 r.d.sc], .int .i64 r.no]) ∧ (l13 = true → t33 = Value.agg #[.bool r.d.neg, .string r.d.s, .int .i64 r.d.sc]) ∧ (l14 = true → t34 = Value.int .i64 r.no) ∧ (l16 = true → t5 = Value.int .i64 r.no) ∧ RowKit.Below w.heap.size w w' ∧ Blk w' (w.heap.size) (#[.bool a.neg, .string (decB a.n), .int .i64 (a.s : Int)]) (23) ∧ Blk w' (w.heap.size + 1) (#[.bool b.neg, .string (decB b.n), .int .i64 (b.s : Int)]) (23) ∧ Blk w' (bp) (arr (numF p)) (56) ∧ Blk w' (w.heap.size + 2) (cond l15 (#[.bool r.d.neg, .string r.d.s, .int .i64 r.d.sc]) (#[.bool false, .string ⟨#[]⟩, .int .i64 0])) (23)) (by kernel_rfl) (by kernel_rfl) ?rlen4 ?rdone4 ?rh04 ?rstep4
    case rlen4 => rintro ls a' w' ⟨l0, l1, l2, l3, l4, l5, l6, l7, l8, l9, l10, l11, l12, l13, l14, l15, l16, t20, t21, t22, t23, t24, t25, t26, t27, t28, t29, t30, t31, t32, t33, t34, t5, rfl, _⟩; rfl
    case rh04 => exact ⟨false, false, false, false, false, false, false, false, false, false, false, false, false, false, false, false, false, undef, undef, undef, undef, undef, undef, undef, undef, undef, undef, undef, undef, undef, undef, undef, Value.int IntKind.i64 0, rfl, rfl, by simp, by simp, by simp, by simp, by simp, by simp, by simp, by simp, by simp, by simp, by simp, by simp, by simp, by simp, by simp, by simp, hB0, G0, G1, G2, K0⟩
    case rdone4 =>
      rintro ls a' w' ⟨l0, l1, l2, l3, l4, l5, l6, l7, l8, l9, l10, l11, l12, l13, l14, l15, l16, t20, t21, t22, t23, t24, t25, t26, t27, t28, t29, t30, t31, t32, t33, t34, t5, rfl, rfl, h20, h21, h22, h23, h24, h25, h26, h27, h28, h29, h30, h31, h32, h33, h34, h5, hB, F0, F1, F2, C0⟩ hl
      obtain rfl : l0 = true := by simpa using hl 0
      obtain rfl : l1 = true := by simpa using hl 1
      obtain rfl : l2 = true := by simpa using hl 2
      obtain rfl : l3 = true := by simpa using hl 3
      obtain rfl : l4 = true := by simpa using hl 4
      obtain rfl : l5 = true := by simpa using hl 5
      obtain rfl : l6 = true := by simpa using hl 6
      obtain rfl : l7 = true := by simpa using hl 7
      obtain rfl : l8 = true := by simpa using hl 8
      obtain rfl : l9 = true := by simpa using hl 9
      obtain rfl : l10 = true := by simpa using hl 10
      obtain rfl : l11 = true := by simpa using hl 11
      obtain rfl : l12 = true := by simpa using hl 12
      obtain rfl : l13 = true := by simpa using hl 13
      obtain rfl : l14 = true := by simpa using hl 14
      obtain rfl : l15 = true := by simpa using hl 15
      obtain rfl : l16 = true := by simpa using hl 16
      obtain rfl := h5 rfl
      clear hl h20 h21 h22 h23 h24 h25 h26 h27 h28 h29 h30 h31 h32 h33 h34
      go_wp2
      refine bodyPost_ret (v := r.val) (results_row_slot (by rfl) _ _ _ _ _ _ (by rfl) C0 (by rfl)) rfl ⟨rfl, hB⟩
    case rstep4 =>
      rintro i o ho ls a' w' ⟨l0, l1, l2, l3, l4, l5, l6, l7, l8, l9, l10, l11, l12, l13, l14, l15, l16, t20, t21, t22, t23, t24, t25, t26, t27, t28, t29, t30, t31, t32, t33, t34, t5, rfl, rfl, h20, h21, h22, h23, h24, h25, h26, h27, h28, h29, h30, h31, h32, h33, h34, h5, hB, F0, F1, F2, C0⟩ hcl hu hd K hK
      rcases i with _ | _ | _ | _ | _ | _ | _ | _ | _ | _ | _ | _ | _ | _ | _ | _ | _ | i <;> simp only [List.getElem?_cons_zero, List.getElem?_cons_succ, List.getElem?_nil, Option.some.injEq, reduceCtorEq] at ho
      all_goals subst ho
      · have hu : l0 = false := hu
        clear hcl
        go_simp
        exact hK _ _ ⟨true, l1, l2, l3, l4, l5, l6, l7, l8, l9, l10, l11, l12, l13, l14, l15, l16, _, t21, t22, t23, t24, t25, t26, t27, t28, t29, t30, t31, t32, t33, t34, t5, rfl, rfl, fun _ => rfl, h21, h22, h23, h24, h25, h26, h27, h28, h29, h30, h31, h32, h33, h34, h5, hB, F0, F1, F2, C0⟩
      · have hu : l1 = false := hu
        clear hcl
        have y20 := h20 (hd 0 (by decide +kernel))
        subst y20
        obtain ⟨c0, c1, c2, _, _, _⟩ := F0.three
        go_simp
        exact hK _ _ ⟨l0, true, l2, l3, l4, l5, l6, l7, l8, l9, l10, l11, l12, l13, l14, l15, l16, _, _, t22, t23, t24, t25, t26, t27, t28, t29, t30, t31, t32, t33, t34, t5, rfl, rfl, fun _ => rfl, fun _ => rfl, h22, h23, h24, h25, h26, h27, h28, h29, h30, h31, h32, h33, h34, h5, hB, F0, F1, F2, C0⟩
      · have hu : l2 = false := hu
        clear hcl
        go_simp
        exact hK _ _ ⟨l0, l1, true, l3, l4, l5, l6, l7, l8, l9, l10, l11, l12, l13, l14, l15, l16, t20, t21, _, t23, t24, t25, t26, t27, t28, t29, t30, t31, t32, t33, t34, t5, rfl, rfl, h20, h21, fun _ => rfl, h23, h24, h25, h26, h27, h28, h29, h30, h31, h32, h33, h34, h5, hB, F0, F1, F2, C0⟩
      · have hu : l3 = false := hu
        clear hcl
        have y22 := h22 (hd 2 (by decide +kernel))
        subst y22
        obtain ⟨c0, c1, c2, _, _, _⟩ := F1.three
        go_simp
        exact hK _ _ ⟨l0, l1, l2, true, l4, l5, l6, l7, l8, l9, l10, l11, l12, l13, l14, l15, l16, t20, t21, _, _, t24, t25, t26, t27, t28, t29, t30, t31, t32, t33, t34, t5, rfl, rfl, h20, h21, fun _ => rfl, fun _ => rfl, h24, h25, h26, h27, h28, h29, h30, h31, h32, h33, h34, h5, hB, F0, F1, F2, C0⟩
      · have hu : l4 = false := hu
        clear hcl
        have y21 := h21 (hd 1 (by decide +kernel))
        subst y21
        have y23 := h23 (hd 3 (by decide +kernel))
        subst y23
        go_simp
        exact hK _ _ ⟨l0, l1, l2, l3, true, l5, l6, l7, l8, l9, l10, l11, l12, l13, l14, l15, l16, t20, _, t22, _, _, t25, t26, t27, t28, t29, t30, t31, t32, t33, t34, t5, rfl, rfl, h20, fun _ => rfl, h22, fun _ => rfl, fun _ => rfl, h25, h26, h27, h28, h29, h30, h31, h32, h33, h34, h5, hB, F0, F1, F2, C0⟩
      · have hu : l5 = false := hu
        clear hcl
        rw [if_pos (by rfl)]
        refine wp_load_row _ _ rfl _ rfl _ _ _ _ F2 underNum rfl (sizeNum _) ?_
        exact hK _ _ ⟨l0, l1, l2, l3, l4, true, l6, l7, l8, l9, l10, l11, l12, l13, l14, l15, l16, t20, t21, t22, t23, t24, _, t26, t27, t28, t29, t30, t31, t32, t33, t34, t5, rfl, rfl, h20, h21, h22, h23, h24, fun _ => rfl, h26, h27, h28, h29, h30, h31, h32, h33, h34, h5, hB, F0, F1, F2, C0⟩
      · have hu : l6 = false := hu
        clear hcl
        have y25 := h25 (hd 5 (by decide +kernel))
        subst y25
        have hK5 := digits_any p w'
        go_simp
        refine hK5.mono ?_
        rintro e w5 ⟨rfl, hb5⟩
        exact hK _ _ ⟨l0, l1, l2, l3, l4, l5, true, l7, l8, l9, l10, l11, l12, l13, l14, l15, l16, t20, t21, t22, t23, t24, _, _, t27, t28, t29, t30, t31, t32, t33, t34, t5, rfl, rfl, h20, h21, h22, h23, h24, fun _ => rfl, fun _ => rfl, h27, h28, h29, h30, h31, h32, h33, h34, h5, b_step hb5 hB, F0.below F0.lt hb5, F1.below F1.lt hb5, F2.below F2.lt hb5, C0.below C0.lt hb5⟩
      · have hu : l7 = false := hu
        clear hcl
        go_simp
        exact hK _ _ ⟨l0, l1, l2, l3, l4, l5, l6, true, l8, l9, l10, l11, l12, l13, l14, l15, l16, t20, t21, t22, t23, t24, t25, t26, _, t28, t29, t30, t31, t32, t33, t34, t5, rfl, rfl, h20, h21, h22, h23, h24, h25, h26, fun _ => rfl, h28, h29, h30, h31, h32, h33, h34, h5, hB, F0, F1, F2, C0⟩
      · have hu : l8 = false := hu
        clear hcl
        have y27 := h27 (hd 7 (by decide +kernel))
        subst y27
        obtain ⟨c0, c1, c2, _, _, _⟩ := F0.three
        go_simp
        exact hK _ _ ⟨l0, l1, l2, l3, l4, l5, l6, l7, true, l9, l10, l11, l12, l13, l14, l15, l16, t20, t21, t22, t23, t24, t25, t26, _, _, t29, t30, t31, t32, t33, t34, t5, rfl, rfl, h20, h21, h22, h23, h24, h25, h26, fun _ => rfl, fun _ => rfl, h29, h30, h31, h32, h33, h34, h5, hB, F0, F1, F2, C0⟩
      · have hu : l9 = false := hu
        clear hcl
        go_simp
        exact hK _ _ ⟨l0, l1, l2, l3, l4, l5, l6, l7, l8, true, l10, l11, l12, l13, l14, l15, l16, t20, t21, t22, t23, t24, t25, t26, t27, t28, _, t30, t31, t32, t33, t34, t5, rfl, rfl, h20, h21, h22, h23, h24, h25, h26, h27, h28, fun _ => rfl, h30, h31, h32, h33, h34, h5, hB, F0, F1, F2, C0⟩
      · have hu : l10 = false := hu
        clear hcl
        have y29 := h29 (hd 9 (by decide +kernel))
        subst y29
        obtain ⟨c0, c1, c2, _, _, _⟩ := F1.three
        go_simp
        exact hK _ _ ⟨l0, l1, l2, l3, l4, l5, l6, l7, l8, l9, true, l11, l12, l13, l14, l15, l16, t20, t21, t22, t23, t24, t25, t26, t27, t28, _, _, t31, t32, t33, t34, t5, rfl, rfl, h20, h21, h22, h23, h24, h25, h26, h27, h28, fun _ => rfl, fun _ => rfl, h31, h32, h33, h34, h5, hB, F0, F1, F2, C0⟩
      · have hu : l11 = false := hu
        clear hcl
        have y28 := h28 (hd 8 (by decide +kernel))
        subst y28
        have y30 := h30 (hd 10 (by decide +kernel))
        subst y30
        go_simp
        exact hK _ _ ⟨l0, l1, l2, l3, l4, l5, l6, l7, l8, l9, l10, true, l12, l13, l14, l15, l16, t20, t21, t22, t23, t24, t25, t26, t27, _, t29, _, _, t32, t33, t34, t5, rfl, rfl, h20, h21, h22, h23, h24, h25, h26, h27, fun _ => rfl, h29, fun _ => rfl, fun _ => rfl, h32, h33, h34, h5, hB, F0, F1, F2, C0⟩
      · have hu : l12 = false := hu
        clear hcl
        have y24 := h24 (hd 4 (by decide +kernel))
        subst y24
        have y26 := h26 (hd 6 (by decide +kernel))
        subst y26
        have y31 := h31 (hd 11 (by decide +kernel))
        subst y31
        have hK5 := HM.out w'
        go_simp
        refine hK5.mono ?_
        rintro e w5 ⟨rfl, hb5⟩
        exact hK _ _ ⟨l0, l1, l2, l3, l4, l5, l6, l7, l8, l9, l10, l11, true, l13, l14, l15, l16, t20, t21, t22, t23, _, t25, _, t27, t28, t29, t30, _, _, t33, t34, t5, rfl, rfl, h20, h21, h22, h23, fun _ => rfl, h25, fun _ => rfl, h27, h28, h29, h30, fun _ => rfl, fun _ => rfl, h33, h34, h5, b_step hb5 hB, F0.below F0.lt hb5, F1.below F1.lt hb5, F2.below F2.lt hb5, C0.below C0.lt hb5⟩
      · have hu : l13 = false := hu
        clear hcl
        have y32 := h32 (hd 12 (by decide +kernel))
        subst y32
        go_simp
        exact hK _ _ ⟨l0, l1, l2, l3, l4, l5, l6, l7, l8, l9, l10, l11, l12, true, l14, l15, l16, t20, t21, t22, t23, t24, t25, t26, t27, t28, t29, t30, t31, _, _, t34, t5, rfl, rfl, h20, h21, h22, h23, h24, h25, h26, h27, h28, h29, h30, h31, fun _ => rfl, fun _ => rfl, h34, h5, hB, F0, F1, F2, C0⟩
      · have hu : l14 = false := hu
        clear hcl
        have y32 := h32 (hd 12 (by decide +kernel))
        subst y32
        go_simp
        exact hK _ _ ⟨l0, l1, l2, l3, l4, l5, l6, l7, l8, l9, l10, l11, l12, l13, true, l15, l16, t20, t21, t22, t23, t24, t25, t26, t27, t28, t29, t30, t31, _, t33, _, t5, rfl, rfl, h20, h21, h22, h23, h24, h25, h26, h27, h28, h29, h30, h31, fun _ => rfl, h33, fun _ => rfl, h5, hB, F0, F1, F2, C0⟩
      · have hu : l15 = false := hu
        subst hu
        clear hcl
        have y33 := h33 (hd 13 (by decide +kernel))
        subst y33
        rw [if_pos (by rfl)]
        refine wp_store_row _ _ _ rfl _ _ rfl rfl _ _ C0 sizeDec rfl (dec_one _ _ _) ?_
        exact hK _ _ ⟨l0, l1, l2, l3, l4, l5, l6, l7, l8, l9, l10, l11, l12, l13, l14, true, l16, t20, t21, t22, t23, t24, t25, t26, t27, t28, t29, t30, t31, t32, _, t34, t5, rfl, rfl, h20, h21, h22, h23, h24, h25, h26, h27, h28, h29, h30, h31, h32, fun _ => rfl, h34, h5, b_row hB (by omega), F0.row_other (by omega), F1.row_other (by omega), F2.row_other (by omega), C0.row _⟩
      · have hu : l16 = false := hu
        clear hcl
        have y34 := h34 (hd 14 (by decide +kernel))
        subst y34
        go_simp
        exact hK _ _ ⟨l0, l1, l2, l3, l4, l5, l6, l7, l8, l9, l10, l11, l12, l13, l14, l15, true, t20, t21, t22, t23, t24, t25, t26, t27, t28, t29, t30, t31, t32, t33, _, _, rfl, rfl, h20, h21, h22, h23, h24, h25, h26, h27, h28, h29, h30, h31, h32, h33, fun _ => rfl, fun _ => rfl, hB, F0, F1, F2, C0⟩
  case rstep3 =>
    rintro i o ho ls a' w' ⟨l0, l1, l2, l3, l4, l5, l6, l7, l8, t13, t14, t15, t16, t17, t18, t19, t6, bp, rfl, rfl, h13, h14, h15, h16, h17, h18, h19, hB, F0, F1, F2, D0⟩ hcl hu hd K hK
    rcases i with _ | _ | _ | _ | _ | _ | _ | _ | _ | i <;> simp only [List.getElem?_cons_zero, List.getElem?_cons_succ, List.getElem?_nil, Option.some.injEq, reduceCtorEq] at ho
    all_goals subst ho
    · have hu : l0 = false := hu
      clear hcl
      go_simp
      exact hK _ _ ⟨true, l1, l2, l3, l4, l5, l6, l7, l8, _, t14, t15, t16, t17, t18, t19, t6, bp, rfl, rfl, fun _ => rfl, h14, h15, h16, h17, h18, h19, hB, F0, F1, F2, D0⟩
    · have hu : l1 = false := hu
      clear hcl
      have y13 := h13 (hd 0 (by decide +kernel))
      subst y13
      obtain ⟨c0, c1, c2, _, _, _⟩ := F0.three
      go_simp
      exact hK _ _ ⟨l0, true, l2, l3, l4, l5, l6, l7, l8, _, _, t15, t16, t17, t18, t19, t6, bp, rfl, rfl, fun _ => rfl, fun _ => rfl, h15, h16, h17, h18, h19, hB, F0, F1, F2, D0⟩
    · have hu : l2 = false := hu
      clear hcl
      have y14 := h14 (hd 1 (by decide +kernel))
      subst y14
      have hK5 := N1.out w'
      go_simp
      refine hK5.mono ?_
      rintro e w5 ⟨rfl, hb5⟩
      exact hK _ _ ⟨l0, l1, true, l3, l4, l5, l6, l7, l8, t13, _, _, t16, t17, t18, t19, t6, bp, rfl, rfl, h13, fun _ => rfl, fun _ => rfl, h16, h17, h18, h19, b_step hb5 hB, F0.below F0.lt hb5, F1.below F1.lt hb5, F2.below F2.lt hb5, fun h => ⟨(D0 h).1, (D0 h).2.1, (D0 h).2.2.below (D0 h).2.2.lt hb5⟩⟩
    · have hu : l3 = false := hu
      clear hcl
      go_simp
      exact hK _ _ ⟨l0, l1, l2, true, l4, l5, l6, l7, l8, t13, t14, t15, _, t17, t18, t19, t6, bp, rfl, rfl, h13, h14, h15, fun _ => rfl, h17, h18, h19, hB, F0, F1, F2, D0⟩
    · have hu : l4 = false := hu
      clear hcl
      have y16 := h16 (hd 3 (by decide +kernel))
      subst y16
      obtain ⟨c0, c1, c2, _, _, _⟩ := F1.three
      go_simp
      exact hK _ _ ⟨l0, l1, l2, l3, true, l5, l6, l7, l8, t13, t14, t15, _, _, t18, t19, t6, bp, rfl, rfl, h13, h14, h15, fun _ => rfl, fun _ => rfl, h18, h19, hB, F0, F1, F2, D0⟩
    · have hu : l5 = false := hu
      clear hcl
      have y17 := h17 (hd 4 (by decide +kernel))
      subst y17
      have hK5 := N2.out w'
      go_simp
      refine hK5.mono ?_
      rintro e w5 ⟨rfl, hb5⟩
      exact hK _ _ ⟨l0, l1, l2, l3, l4, true, l6, l7, l8, t13, t14, t15, t16, _, _, t19, t6, bp, rfl, rfl, h13, h14, h15, h16, fun _ => rfl, fun _ => rfl, h19, b_step hb5 hB, F0.below F0.lt hb5, F1.below F1.lt hb5, F2.below F2.lt hb5, fun h => ⟨(D0 h).1, (D0 h).2.1, (D0 h).2.2.below (D0 h).2.2.lt hb5⟩⟩
    · have hu : l6 = false := hu
      clear hcl
      have y15 := h15 (hd 2 (by decide +kernel))
      subst y15
      have y18 := h18 (hd 5 (by decide +kernel))
      subst y18
      have hK5 := T1.out w'
      go_simp
      refine hK5.mono ?_
      rintro e w5 ⟨rfl, hb5⟩
      exact hK _ _ ⟨l0, l1, l2, l3, l4, l5, true, l7, l8, t13, t14, _, t16, t17, _, _, t6, bp, rfl, rfl, h13, h14, fun _ => rfl, h16, h17, fun _ => rfl, fun _ => rfl, b_step hb5 hB, F0.below F0.lt hb5, F1.below F1.lt hb5, F2.below F2.lt hb5, fun h => ⟨(D0 h).1, (D0 h).2.1, (D0 h).2.2.below (D0 h).2.2.lt hb5⟩⟩
    · have hu : l7 = false := hu
      have hls : l8 = false := Bool.eq_false_iff.2 fun e => by have h : l7 = true := hcl 8 _ rfl e 7 (by decide +kernel); rw [hu] at h; cases h
      subst hls
      clear hcl
      have hz5 := zeroNum
      go_simp
      exact hK _ _ ⟨l0, l1, l2, l3, l4, l5, l6, true, false, t13, t14, t15, t16, t17, t18, t19, _, w'.heap.size, rfl, rfl, h13, h14, h15, h16, h17, h18, h19, b_alloc hB, F0.alloc _, F1.alloc _, F2.alloc _, fun _ => ⟨rfl, (by have := F2.lt; omega), Blk.new w' _ _⟩⟩
    · have hu : l8 = false := hu
      subst hu
      clear hcl
      have y19 := h19 (hd 6 (by decide +kernel))
      subst y19
      have hA : l7 = true := hd 7 (by decide +kernel)
      obtain ⟨yd, hn, hk⟩ := D0 hA
      subst yd
      rw [if_pos (by rfl)]
      refine wp_store_row _ _ _ rfl _ _ rfl rfl _ _ hk (sizeNum _) (by simp only [Bool.cond_false, arr_size]) (arr_one _) ?_
      exact hK _ _ ⟨l0, l1, l2, l3, l4, l5, l6, l7, true, t13, t14, t15, t16, t17, t18, _, _, bp, rfl, rfl, h13, h14, h15, h16, h17, h18, fun _ => rfl, b_row hB (by omega), F0.row_other (by omega), F1.row_other (by omega), F2.row_other (by omega), fun _ => ⟨rfl, hn, hk.row _⟩⟩
end Dc
end Go.Proofs.YthnpbkplcboejaaDoor
