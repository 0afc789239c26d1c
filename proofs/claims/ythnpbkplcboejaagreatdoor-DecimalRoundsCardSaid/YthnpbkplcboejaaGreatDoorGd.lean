/- Decimal: what the operations say, of the program and of the reference; DecimalSums. -/
import Derived.Test.YthnpbkplcboejaaGreatDoorGc
import Derived.Test.YthnpbkplcboejaaGreatDoorDy
set_option linter.unusedSimpArgs false
set_option linter.unusedVariables false
namespace Go.Proofs.YthnpbkplcboejaaGreatDoor
open Go.RowKit Go.Shelf Go.Lib Go.Sort
namespace Dc
theorem adds_any (d x : D) (hs0 : d.s.size ≤ maxLen) (hs1 : x.s.size ≤ maxLen) : ∃ r : R,
    (∀ W, Calls Tryz.prog 15 #[d.val, x.val] W fun e w' => e = .returned r.val ∧ RowKit.Below W.heap.size W w') ∧
    (∀ W, Calls Tryz.prog 16 #[d.val, x.val] W fun e w' => e = .returned r.val ∧ RowKit.Below W.heap.size W w') := by
  cases hc : d.check && x.check with
  | false => exact ⟨R.err 2, fun W => Add_no d x hs0 hs1 hc W, fun W => rAdd_no d x hs0 hs1 hc W⟩
  | true =>
    rw [Bool.and_eq_true] at hc
    obtain ⟨a, ha, rfl⟩ := D.of_check hc.1
    obtain ⟨b, hb, rfl⟩ := D.of_check hc.2
    exact ⟨addS a b, fun W => Add_ok a b ha hb W, fun W => rAdd_ok a b ha hb W⟩
theorem subs_any (d x : D) (hs0 : d.s.size ≤ maxLen) (hs1 : x.s.size ≤ maxLen) : ∃ r : R,
    (∀ W, Calls Tryz.prog 17 #[d.val, x.val] W fun e w' => e = .returned r.val ∧ RowKit.Below W.heap.size W w') ∧
    (∀ W, Calls Tryz.prog 18 #[d.val, x.val] W fun e w' => e = .returned r.val ∧ RowKit.Below W.heap.size W w') := by
  cases hc : d.check && x.check with
  | false => exact ⟨R.err 2, fun W => Sub_no d x hs0 hs1 hc W, fun W => rSub_no d x hs0 hs1 hc W⟩
  | true =>
    rw [Bool.and_eq_true] at hc
    obtain ⟨a, ha, rfl⟩ := D.of_check hc.1
    obtain ⟨b, hb, rfl⟩ := D.of_check hc.2
    exact ⟨subS a b, fun W => Sub_ok a b ha hb W, fun W => rSub_ok a b ha hb W⟩
theorem muls_any (d x : D) (hs0 : d.s.size ≤ maxLen) (hs1 : x.s.size ≤ maxLen) : ∃ r : R,
    (∀ W, Calls Tryz.prog 19 #[d.val, x.val] W fun e w' => e = .returned r.val ∧ RowKit.Below W.heap.size W w') ∧
    (∀ W, Calls Tryz.prog 20 #[d.val, x.val] W fun e w' => e = .returned r.val ∧ RowKit.Below W.heap.size W w') := by
  cases hc : d.check && x.check with
  | false => exact ⟨R.err 2, fun W => Mul_no d x hs0 hs1 hc W, fun W => rMul_no d x hs0 hs1 hc W⟩
  | true =>
    rw [Bool.and_eq_true] at hc
    obtain ⟨a, ha, rfl⟩ := D.of_check hc.1
    obtain ⟨b, hb, rfl⟩ := D.of_check hc.2
    exact ⟨mulS a b, fun W => Mul_ok a b ha hb W, fun W => rMul_ok a b ha hb W⟩
theorem negs_any (d : D) (hs : d.s.size ≤ maxLen) : ∃ r : R,
    (∀ W, Calls Tryz.prog 21 #[d.val] W fun e w' => e = .returned r.val ∧ RowKit.Below W.heap.size W w') ∧
    (∀ W, Calls Tryz.prog 22 #[d.val] W fun e w' => e = .returned r.val ∧ RowKit.Below W.heap.size W w') := by
  cases hc : d.check with
  | false => exact ⟨R.err 2, fun W => Neg_no d hs hc W, fun W => rNeg_no d hs hc W⟩
  | true =>
    obtain ⟨a, ha, rfl⟩ := D.of_check hc
    exact ⟨R.ok a.opp, fun W => by have := Neg_ok a ha W; rw [opp_mk ha] at this; exact this, fun W => rNeg_ok a ha W⟩
theorem cmps_any (d x : D) (hs0 : d.s.size ≤ maxLen) (hs1 : x.s.size ≤ maxLen) : ∃ k n : Int,
    (∀ W, Calls Tryz.prog 23 #[d.val, x.val] W fun e w' => e = .returned (.tuple #[.int .i64 k, .int .i64 n]) ∧ RowKit.Below W.heap.size W w') ∧
    (∀ W, Calls Tryz.prog 24 #[d.val, x.val] W fun e w' => e = .returned (.tuple #[.int .i64 k, .int .i64 n]) ∧ RowKit.Below W.heap.size W w') := by
  cases hc : d.check && x.check with
  | false => exact ⟨0, 2, fun W => Cmp_no d x hs0 hs1 hc W, fun W => rCmp_no d x hs0 hs1 hc W⟩
  | true =>
    rw [Bool.and_eq_true] at hc
    obtain ⟨a, ha, rfl⟩ := D.of_check hc.1
    obtain ⟨b, hb, rfl⟩ := D.of_check hc.2
    exact ⟨cmpS a b, 0, fun W => Cmp_ok a b ha hb W, fun W => rCmp_ok a b ha hb W⟩
theorem neD_any (a : Bool) (b : ByteArray) (c : Int) (a' : Bool) (b' : ByteArray) (c' : Int) (w : World) : (binOp .neq 23 (.agg #[.bool a, .string b, .int .i64 c]) (.agg #[.bool a', .string b', .int .i64 c'])).run Tryz.prog w = .ok (.bool (!decide (D.mk a b c = D.mk a' b' c'))) w := by
  have h := eqD_any a b c a' b' c' w
  rw [run_eql_struct] at h
  rw [run_neq_struct]
  cases hr : (Op.equalIn 10000 23 (.agg #[.bool a, .string b, .int .i64 c]) (.agg #[.bool a', .string b', .int .i64 c'])).run Tryz.prog w with
  | ok b w' => rw [hr] at h; simp only [Result.andThen_ok, Result.ok.injEq, Value.bool.injEq] at h ⊢; rw [h.1]; exact ⟨rfl, h.2⟩
  | halt x w' => rw [hr] at h; simp [Result.andThen] at h
theorem neD_self (a : Bool) (b : ByteArray) (c : Int) (w : World) : (binOp .neq 23 (.agg #[.bool a, .string b, .int .i64 c]) (.agg #[.bool a, .string b, .int .i64 c])).run Tryz.prog w = .ok (.bool false) w := by
  have h := neD_any a b c a b c w
  rw [decide_eq_true rfl] at h
  exact h
set_option maxRecDepth 100000 in
set_option maxHeartbeats 16000000 in
theorem DecimalSums_any (d x : D) (hd : d.s.size ≤ maxLen) (hx : x.s.size ≤ maxLen) (w : World) (hG : G w) :
    Calls Tryz.prog 4 #[d.val, x.val] w fun e w' => e = .returned (.bool true) ∧ RowKit.Below w.heap.size w w' := by
  obtain ⟨rA, hA1, hA2⟩ := adds_any d x hd hx
  obtain ⟨rS, hS1', hS2'⟩ := subs_any d x hd hx
  obtain ⟨rM, hM1, hM2⟩ := muls_any d x hd hx
  obtain ⟨rN, hN1, hN2⟩ := negs_any d hd
  obtain ⟨ck, cn, hC1, hC2⟩ := cmps_any d x hd hx
  simp only [R.val_eq] at hA1 hA2
  obtain ⟨p0, hp0⟩ : ∃ y, rA.d.neg = y := ⟨_, rfl⟩
  obtain ⟨p1, hp1⟩ : ∃ y, rA.d.s = y := ⟨_, rfl⟩
  obtain ⟨p2, hp2⟩ : ∃ y, rA.d.sc = y := ⟨_, rfl⟩
  obtain ⟨p3, hp3⟩ : ∃ y, rA.no = y := ⟨_, rfl⟩
  simp only [hp0, hp1, hp2, hp3] at hA1 hA2
  clear hp0 hp1 hp2 hp3
  simp only [R.val_eq] at hS1' hS2'
  obtain ⟨q0, hq0⟩ : ∃ y, rS.d.neg = y := ⟨_, rfl⟩
  obtain ⟨q1, hq1⟩ : ∃ y, rS.d.s = y := ⟨_, rfl⟩
  obtain ⟨q2, hq2⟩ : ∃ y, rS.d.sc = y := ⟨_, rfl⟩
  obtain ⟨q3, hq3⟩ : ∃ y, rS.no = y := ⟨_, rfl⟩
  simp only [hq0, hq1, hq2, hq3] at hS1' hS2'
  clear hq0 hq1 hq2 hq3
  simp only [R.val_eq] at hM1 hM2
  obtain ⟨m0, hm0⟩ : ∃ y, rM.d.neg = y := ⟨_, rfl⟩
  obtain ⟨m1, hm1⟩ : ∃ y, rM.d.s = y := ⟨_, rfl⟩
  obtain ⟨m2, hm2⟩ : ∃ y, rM.d.sc = y := ⟨_, rfl⟩
  obtain ⟨m3, hm3⟩ : ∃ y, rM.no = y := ⟨_, rfl⟩
  simp only [hm0, hm1, hm2, hm3] at hM1 hM2
  clear hm0 hm1 hm2 hm3
  simp only [R.val_eq] at hN1 hN2
  obtain ⟨n0, hn0⟩ : ∃ y, rN.d.neg = y := ⟨_, rfl⟩
  obtain ⟨n1, hn1⟩ : ∃ y, rN.d.s = y := ⟨_, rfl⟩
  obtain ⟨n2, hn2⟩ : ∃ y, rN.d.sc = y := ⟨_, rfl⟩
  obtain ⟨n3, hn3⟩ : ∃ y, rN.no = y := ⟨_, rfl⟩
  simp only [hn0, hn1, hn2, hn3] at hN1 hN2
  clear hn0 hn1 hn2 hn3
  obtain ⟨hb0, h1, h2⟩ := two_start w (.bool d.neg) (.string d.s) (.int .i64 d.sc) (.bool x.neg) (.string x.s) (.int .i64 x.sc)
  obtain ⟨W0, hW0⟩ : ∃ W0, ((w.alloc (.cells #[.bool d.neg, .string d.s, .int .i64 d.sc] 23)).alloc (.cells #[.bool x.neg, .string x.s, .int .i64 x.sc] 23)) = W0 := ⟨_, rfl⟩
  rw [hW0] at hb0 h1 h2
  rw [d_box] at hA1 hA2 hS1' hS2' hM1 hM2 hN1 hN2 hC1 hC2
  simp only [d_box x] at hA1 hA2 hS1' hS2' hM1 hM2 hC1 hC2
  rw [d_box, d_box]
  have hG0 := hG.later hb0
  have hSh := fun W hG => shown_any W hG
  have HB0 := Lib.hid hb0
  have HG := Lib.hid hG
  have HS0 : Hid (RowKit.Below w.heap.size w W0 ∧ Blk W0 (w.heap.size) (#[.bool d.neg, .string d.s, .int .i64 d.sc]) 23 ∧ Blk W0 (w.heap.size + 1) (#[.bool x.neg, .string x.s, .int .i64 x.sc]) 23) := ⟨hb0, h1, h2⟩
  obtain ⟨a0, a1, a2, _, _, _⟩ := h1.three
  obtain ⟨b0, b1, b2, _, _, _⟩ := h2.three
  unfold maxLen at hd hx
  have hz0 : w.heap.size + 2 ≤ W0.heap.size := by have := h2.lt; omega
  clear hb0 h1 h2 hG
  by_cases hbig : 400 < d.s.size
  · have g0 : decide (400 < (d.s.size : Int)) = true := decide_eq_true (by omega)
    clear hA1 hA2 hS1' hS2' hM1 hM2 hN1 hN2 hC1 hC2 hbig hz0 HS0
    go_enter Tryz.func4, Tryz.ntmps4
    go_wp2_with (go_at_call 6; refine (hSh _ hG0).mono ?_)
    first | rintro e W1 rfl hb1 | rintro e W1 ⟨rfl, hb1⟩
    have HB1 := Lib.hid (b_step hb1 HB0.out)
    clear hb1
    go_wp2
    go_ret
    exact ⟨rfl, HB1.out⟩
  · have g0 : decide (400 < (d.s.size : Int)) = false := decide_eq_false (by omega)
    by_cases hbig2 : 400 < x.s.size
    · have g1 : decide (400 < (x.s.size : Int)) = true := decide_eq_true (by omega)
      clear hA1 hA2 hS1' hS2' hM1 hM2 hN1 hN2 hC1 hC2 hbig hbig2 hz0 HS0
      go_enter Tryz.func4, Tryz.ntmps4
      go_wp2_with (go_at_call 6; refine (hSh _ hG0).mono ?_)
      first | rintro e W1 rfl hb1 | rintro e W1 ⟨rfl, hb1⟩
      have HB1 := Lib.hid (b_step hb1 HB0.out)
      clear hb1
      go_wp2
      go_ret
      exact ⟨rfl, HB1.out⟩
    · have g1 : decide (400 < (x.s.size : Int)) = false := decide_eq_false (by omega)
      clear hbig hbig2 hG0
      have ep := fun W => neD_self p0 p1 p2 W
      have fp := fun W => eqD_self p0 p1 p2 W
      have gp := fun op x y W => guardD op x y p0 p1 p2 p0 p1 p2 W
      have eq := fun W => neD_self q0 q1 q2 W
      have fq := fun W => eqD_self q0 q1 q2 W
      have gq := fun op x y W => guardD op x y q0 q1 q2 q0 q1 q2 W
      have em := fun W => neD_self m0 m1 m2 W
      have fm := fun W => eqD_self m0 m1 m2 W
      have gm := fun op x y W => guardD op x y m0 m1 m2 m0 m1 m2 W
      have en := fun W => neD_self n0 n1 n2 W
      have fn := fun W => eqD_self n0 n1 n2 W
      have gn := fun op x y W => guardD op x y n0 n1 n2 n0 n1 n2 W
      go_enter Tryz.func4, Tryz.ntmps4
      go_wp2_with (go_at_call 15; refine (hA1 _).mono ?_)
      first | rintro e1 w1 rfl hb1 | rintro e1 w1 ⟨rfl, hb1⟩
      clear a0 a1 a2 b0 b1 b2
      clear hA1
      have hS1 : RowKit.Below w.heap.size w w1 ∧ Blk w1 (w.heap.size) (#[.bool d.neg, .string d.s, .int .i64 d.sc]) 23 ∧ Blk w1 (w.heap.size + 1) (#[.bool x.neg, .string x.s, .int .i64 x.sc]) 23 := ⟨b_step hb1 (HS0.out.1), (HS0.out.2.1).below (HS0.out.2.1).lt hb1, (HS0.out.2.2).below (HS0.out.2.2).lt hb1⟩
      have hz1 : W0.heap.size ≤ w1.heap.size := hb1.size
      clear HS0 hb1
      clear hW0
      obtain ⟨v1, hv1⟩ : ∃ v, w1.alloc (.cells #[.bool p0, .string p1, .int .i64 p2] 23) = v := ⟨_, rfl⟩
      have hT1 : RowKit.Below w.heap.size w v1 ∧ Blk v1 (w.heap.size) (#[.bool d.neg, .string d.s, .int .i64 d.sc]) 23 ∧ Blk v1 (w.heap.size + 1) (#[.bool x.neg, .string x.s, .int .i64 x.sc]) 23 ∧ Blk v1 (w1.heap.size) (#[.bool p0, .string p1, .int .i64 p2]) 23 := by rw [← hv1]; exact ⟨b_alloc (hS1.1), (hS1.2.1).alloc _, (hS1.2.2).alloc _, Blk.new w1 _ _⟩
      have hy1 : w1.heap.size < v1.heap.size := (hT1.2.2.2).lt
      clear hS1
      obtain ⟨a0, a1, a2, _, _, _⟩ := (hT1.2.1).three
      obtain ⟨b0, b1, b2, _, _, _⟩ := (hT1.2.2.1).three
      go_wp2_with (go_at_call 16; refine (hA2 _).mono ?_)
      first | rintro e2 w2 rfl hb2 | rintro e2 w2 ⟨rfl, hb2⟩
      clear a0 a1 a2 b0 b1 b2
      clear hA2
      have hS2 : RowKit.Below w.heap.size w w2 ∧ Blk w2 (w.heap.size) (#[.bool d.neg, .string d.s, .int .i64 d.sc]) 23 ∧ Blk w2 (w.heap.size + 1) (#[.bool x.neg, .string x.s, .int .i64 x.sc]) 23 ∧ Blk w2 (w1.heap.size) (#[.bool p0, .string p1, .int .i64 p2]) 23 := ⟨b_step hb2 (hT1.1), (hT1.2.1).below (hT1.2.1).lt hb2, (hT1.2.2.1).below (hT1.2.2.1).lt hb2, (hT1.2.2.2).below (hT1.2.2.2).lt hb2⟩
      have hz2 : v1.heap.size ≤ w2.heap.size := hb2.size
      clear hT1 hb2
      clear hv1
      obtain ⟨v2, hv2⟩ : ∃ v, w2.alloc (.cells #[.bool p0, .string p1, .int .i64 p2] 23) = v := ⟨_, rfl⟩
      have hT2 : RowKit.Below w.heap.size w v2 ∧ Blk v2 (w.heap.size) (#[.bool d.neg, .string d.s, .int .i64 d.sc]) 23 ∧ Blk v2 (w.heap.size + 1) (#[.bool x.neg, .string x.s, .int .i64 x.sc]) 23 ∧ Blk v2 (w1.heap.size) (#[.bool p0, .string p1, .int .i64 p2]) 23 ∧ Blk v2 (w2.heap.size) (#[.bool p0, .string p1, .int .i64 p2]) 23 := by rw [← hv2]; exact ⟨b_alloc (hS2.1), (hS2.2.1).alloc _, (hS2.2.2.1).alloc _, (hS2.2.2.2).alloc _, Blk.new w2 _ _⟩
      have hy2 : w2.heap.size < v2.heap.size := (hT2.2.2.2.2).lt
      clear hS2
      obtain ⟨a0, a1, a2, _, _, _⟩ := (hT2.2.1).three
      obtain ⟨b0, b1, b2, _, _, _⟩ := (hT2.2.2.1).three
      obtain ⟨x0, x1, x2, _, _, _⟩ := (hT2.2.2.2.1).three
      obtain ⟨y0, y1, y2, _, _, _⟩ := (hT2.2.2.2.2).three
      go_wp2_with (go_at_call 17; refine (hS1' _).mono ?_)
      first | rintro e3 w3 rfl hb3 | rintro e3 w3 ⟨rfl, hb3⟩
      clear a0 a1 a2 b0 b1 b2 x0 x1 x2 y0 y1 y2
      clear hS1'
      have hS3 : RowKit.Below w.heap.size w w3 ∧ Blk w3 (w.heap.size) (#[.bool d.neg, .string d.s, .int .i64 d.sc]) 23 ∧ Blk w3 (w.heap.size + 1) (#[.bool x.neg, .string x.s, .int .i64 x.sc]) 23 ∧ Blk w3 (w1.heap.size) (#[.bool p0, .string p1, .int .i64 p2]) 23 ∧ Blk w3 (w2.heap.size) (#[.bool p0, .string p1, .int .i64 p2]) 23 := ⟨b_step hb3 (hT2.1), (hT2.2.1).below (hT2.2.1).lt hb3, (hT2.2.2.1).below (hT2.2.2.1).lt hb3, (hT2.2.2.2.1).below (hT2.2.2.2.1).lt hb3, (hT2.2.2.2.2).below (hT2.2.2.2.2).lt hb3⟩
      have hz3 : v2.heap.size ≤ w3.heap.size := hb3.size
      clear hT2 hb3
      clear hv2
      obtain ⟨u0, u1, u2, uf0, uf1, uf2⟩ := (hS3.2.2.2.1).three
      obtain ⟨v3, hv3⟩ : ∃ v, ((w3.setCell ⟨w1.heap.size, 0, none⟩ (.bool q0)).setCell ⟨w1.heap.size, 1, none⟩ (.string q1)).setCell ⟨w1.heap.size, 2, none⟩ (.int .i64 q2) = v := ⟨_, rfl⟩
      have hT3 : RowKit.Below w.heap.size w v3 ∧ Blk v3 (w.heap.size) (#[.bool d.neg, .string d.s, .int .i64 d.sc]) 23 ∧ Blk v3 (w.heap.size + 1) (#[.bool x.neg, .string x.s, .int .i64 x.sc]) 23 ∧ Blk v3 (w1.heap.size) (#[.bool q0, .string q1, .int .i64 q2]) 23 ∧ Blk v3 (w2.heap.size) (#[.bool p0, .string p1, .int .i64 p2]) 23 := by rw [← hv3]; exact ⟨b_set3 (hS3.1) (by omega) _ _ _, (((hS3.2.1).other (i := 0) (by omega) _).other (i := 1) (by omega) _).other (i := 2) (by omega) _, (((hS3.2.2.1).other (i := 0) (by omega) _).other (i := 1) (by omega) _).other (i := 2) (by omega) _, (hS3.2.2.2.1).set3 _ _ _, (((hS3.2.2.2.2).other (i := 0) (by omega) _).other (i := 1) (by omega) _).other (i := 2) (by omega) _⟩
      have hy3 : w3.heap.size ≤ v3.heap.size := by rw [← hv3]; simp
      clear hS3
      obtain ⟨a0, a1, a2, _, _, _⟩ := (hT3.2.1).three
      obtain ⟨b0, b1, b2, _, _, _⟩ := (hT3.2.2.1).three
      go_wp2_with (go_at_call 18; refine (hS2' _).mono ?_)
      first | rintro e4 w4 rfl hb4 | rintro e4 w4 ⟨rfl, hb4⟩
      clear u0 u1 u2 uf0 uf1 uf2 a0 a1 a2 b0 b1 b2
      clear hS2'
      have hS4 : RowKit.Below w.heap.size w w4 ∧ Blk w4 (w.heap.size) (#[.bool d.neg, .string d.s, .int .i64 d.sc]) 23 ∧ Blk w4 (w.heap.size + 1) (#[.bool x.neg, .string x.s, .int .i64 x.sc]) 23 ∧ Blk w4 (w1.heap.size) (#[.bool q0, .string q1, .int .i64 q2]) 23 ∧ Blk w4 (w2.heap.size) (#[.bool p0, .string p1, .int .i64 p2]) 23 := ⟨b_step hb4 (hT3.1), (hT3.2.1).below (hT3.2.1).lt hb4, (hT3.2.2.1).below (hT3.2.2.1).lt hb4, (hT3.2.2.2.1).below (hT3.2.2.2.1).lt hb4, (hT3.2.2.2.2).below (hT3.2.2.2.2).lt hb4⟩
      have hz4 : v3.heap.size ≤ w4.heap.size := hb4.size
      clear hT3 hb4
      clear hv3
      obtain ⟨u0, u1, u2, uf0, uf1, uf2⟩ := (hS4.2.2.2.2).three
      obtain ⟨v4, hv4⟩ : ∃ v, ((w4.setCell ⟨w2.heap.size, 0, none⟩ (.bool q0)).setCell ⟨w2.heap.size, 1, none⟩ (.string q1)).setCell ⟨w2.heap.size, 2, none⟩ (.int .i64 q2) = v := ⟨_, rfl⟩
      have hT4 : RowKit.Below w.heap.size w v4 ∧ Blk v4 (w.heap.size) (#[.bool d.neg, .string d.s, .int .i64 d.sc]) 23 ∧ Blk v4 (w.heap.size + 1) (#[.bool x.neg, .string x.s, .int .i64 x.sc]) 23 ∧ Blk v4 (w1.heap.size) (#[.bool q0, .string q1, .int .i64 q2]) 23 ∧ Blk v4 (w2.heap.size) (#[.bool q0, .string q1, .int .i64 q2]) 23 := by rw [← hv4]; exact ⟨b_set3 (hS4.1) (by omega) _ _ _, (((hS4.2.1).other (i := 0) (by omega) _).other (i := 1) (by omega) _).other (i := 2) (by omega) _, (((hS4.2.2.1).other (i := 0) (by omega) _).other (i := 1) (by omega) _).other (i := 2) (by omega) _, (((hS4.2.2.2.1).other (i := 0) (by omega) _).other (i := 1) (by omega) _).other (i := 2) (by omega) _, (hS4.2.2.2.2).set3 _ _ _⟩
      have hy4 : w4.heap.size ≤ v4.heap.size := by rw [← hv4]; simp
      clear hS4
      obtain ⟨a0, a1, a2, _, _, _⟩ := (hT4.2.1).three
      obtain ⟨b0, b1, b2, _, _, _⟩ := (hT4.2.2.1).three
      obtain ⟨x0, x1, x2, _, _, _⟩ := (hT4.2.2.2.1).three
      obtain ⟨y0, y1, y2, _, _, _⟩ := (hT4.2.2.2.2).three
      go_wp2_with (go_at_call 19; refine (hM1 _).mono ?_)
      first | rintro e5 w5 rfl hb5 | rintro e5 w5 ⟨rfl, hb5⟩
      clear u0 u1 u2 uf0 uf1 uf2 a0 a1 a2 b0 b1 b2 x0 x1 x2 y0 y1 y2
      clear hM1
      have hS5 : RowKit.Below w.heap.size w w5 ∧ Blk w5 (w.heap.size) (#[.bool d.neg, .string d.s, .int .i64 d.sc]) 23 ∧ Blk w5 (w.heap.size + 1) (#[.bool x.neg, .string x.s, .int .i64 x.sc]) 23 ∧ Blk w5 (w1.heap.size) (#[.bool q0, .string q1, .int .i64 q2]) 23 ∧ Blk w5 (w2.heap.size) (#[.bool q0, .string q1, .int .i64 q2]) 23 := ⟨b_step hb5 (hT4.1), (hT4.2.1).below (hT4.2.1).lt hb5, (hT4.2.2.1).below (hT4.2.2.1).lt hb5, (hT4.2.2.2.1).below (hT4.2.2.2.1).lt hb5, (hT4.2.2.2.2).below (hT4.2.2.2.2).lt hb5⟩
      have hz5 : v4.heap.size ≤ w5.heap.size := hb5.size
      clear hT4 hb5
      clear hv4
      obtain ⟨u0, u1, u2, uf0, uf1, uf2⟩ := (hS5.2.2.2.1).three
      obtain ⟨v5, hv5⟩ : ∃ v, ((w5.setCell ⟨w1.heap.size, 0, none⟩ (.bool m0)).setCell ⟨w1.heap.size, 1, none⟩ (.string m1)).setCell ⟨w1.heap.size, 2, none⟩ (.int .i64 m2) = v := ⟨_, rfl⟩
      have hT5 : RowKit.Below w.heap.size w v5 ∧ Blk v5 (w.heap.size) (#[.bool d.neg, .string d.s, .int .i64 d.sc]) 23 ∧ Blk v5 (w.heap.size + 1) (#[.bool x.neg, .string x.s, .int .i64 x.sc]) 23 ∧ Blk v5 (w1.heap.size) (#[.bool m0, .string m1, .int .i64 m2]) 23 ∧ Blk v5 (w2.heap.size) (#[.bool q0, .string q1, .int .i64 q2]) 23 := by rw [← hv5]; exact ⟨b_set3 (hS5.1) (by omega) _ _ _, (((hS5.2.1).other (i := 0) (by omega) _).other (i := 1) (by omega) _).other (i := 2) (by omega) _, (((hS5.2.2.1).other (i := 0) (by omega) _).other (i := 1) (by omega) _).other (i := 2) (by omega) _, (hS5.2.2.2.1).set3 _ _ _, (((hS5.2.2.2.2).other (i := 0) (by omega) _).other (i := 1) (by omega) _).other (i := 2) (by omega) _⟩
      have hy5 : w5.heap.size ≤ v5.heap.size := by rw [← hv5]; simp
      clear hS5
      obtain ⟨a0, a1, a2, _, _, _⟩ := (hT5.2.1).three
      obtain ⟨b0, b1, b2, _, _, _⟩ := (hT5.2.2.1).three
      go_wp2_with (go_at_call 20; refine (hM2 _).mono ?_)
      first | rintro e6 w6 rfl hb6 | rintro e6 w6 ⟨rfl, hb6⟩
      clear u0 u1 u2 uf0 uf1 uf2 a0 a1 a2 b0 b1 b2
      clear hM2
      have hS6 : RowKit.Below w.heap.size w w6 ∧ Blk w6 (w.heap.size) (#[.bool d.neg, .string d.s, .int .i64 d.sc]) 23 ∧ Blk w6 (w.heap.size + 1) (#[.bool x.neg, .string x.s, .int .i64 x.sc]) 23 ∧ Blk w6 (w1.heap.size) (#[.bool m0, .string m1, .int .i64 m2]) 23 ∧ Blk w6 (w2.heap.size) (#[.bool q0, .string q1, .int .i64 q2]) 23 := ⟨b_step hb6 (hT5.1), (hT5.2.1).below (hT5.2.1).lt hb6, (hT5.2.2.1).below (hT5.2.2.1).lt hb6, (hT5.2.2.2.1).below (hT5.2.2.2.1).lt hb6, (hT5.2.2.2.2).below (hT5.2.2.2.2).lt hb6⟩
      have hz6 : v5.heap.size ≤ w6.heap.size := hb6.size
      clear hT5 hb6
      clear hv5
      obtain ⟨u0, u1, u2, uf0, uf1, uf2⟩ := (hS6.2.2.2.2).three
      obtain ⟨v6, hv6⟩ : ∃ v, ((w6.setCell ⟨w2.heap.size, 0, none⟩ (.bool m0)).setCell ⟨w2.heap.size, 1, none⟩ (.string m1)).setCell ⟨w2.heap.size, 2, none⟩ (.int .i64 m2) = v := ⟨_, rfl⟩
      have hT6 : RowKit.Below w.heap.size w v6 ∧ Blk v6 (w.heap.size) (#[.bool d.neg, .string d.s, .int .i64 d.sc]) 23 ∧ Blk v6 (w.heap.size + 1) (#[.bool x.neg, .string x.s, .int .i64 x.sc]) 23 ∧ Blk v6 (w1.heap.size) (#[.bool m0, .string m1, .int .i64 m2]) 23 ∧ Blk v6 (w2.heap.size) (#[.bool m0, .string m1, .int .i64 m2]) 23 := by rw [← hv6]; exact ⟨b_set3 (hS6.1) (by omega) _ _ _, (((hS6.2.1).other (i := 0) (by omega) _).other (i := 1) (by omega) _).other (i := 2) (by omega) _, (((hS6.2.2.1).other (i := 0) (by omega) _).other (i := 1) (by omega) _).other (i := 2) (by omega) _, (((hS6.2.2.2.1).other (i := 0) (by omega) _).other (i := 1) (by omega) _).other (i := 2) (by omega) _, (hS6.2.2.2.2).set3 _ _ _⟩
      have hy6 : w6.heap.size ≤ v6.heap.size := by rw [← hv6]; simp
      clear hS6
      obtain ⟨a0, a1, a2, _, _, _⟩ := (hT6.2.1).three
      obtain ⟨b0, b1, b2, _, _, _⟩ := (hT6.2.2.1).three
      obtain ⟨x0, x1, x2, _, _, _⟩ := (hT6.2.2.2.1).three
      obtain ⟨y0, y1, y2, _, _, _⟩ := (hT6.2.2.2.2).three
      go_wp2_with (go_at_call 21; refine (hN1 _).mono ?_)
      first | rintro e7 w7 rfl hb7 | rintro e7 w7 ⟨rfl, hb7⟩
      clear u0 u1 u2 uf0 uf1 uf2 a0 a1 a2 b0 b1 b2 x0 x1 x2 y0 y1 y2
      clear hN1
      have hS7 : RowKit.Below w.heap.size w w7 ∧ Blk w7 (w.heap.size) (#[.bool d.neg, .string d.s, .int .i64 d.sc]) 23 ∧ Blk w7 (w.heap.size + 1) (#[.bool x.neg, .string x.s, .int .i64 x.sc]) 23 ∧ Blk w7 (w1.heap.size) (#[.bool m0, .string m1, .int .i64 m2]) 23 ∧ Blk w7 (w2.heap.size) (#[.bool m0, .string m1, .int .i64 m2]) 23 := ⟨b_step hb7 (hT6.1), (hT6.2.1).below (hT6.2.1).lt hb7, (hT6.2.2.1).below (hT6.2.2.1).lt hb7, (hT6.2.2.2.1).below (hT6.2.2.2.1).lt hb7, (hT6.2.2.2.2).below (hT6.2.2.2.2).lt hb7⟩
      have hz7 : v6.heap.size ≤ w7.heap.size := hb7.size
      clear hT6 hb7
      clear hv6
      obtain ⟨u0, u1, u2, uf0, uf1, uf2⟩ := (hS7.2.2.2.1).three
      obtain ⟨v7, hv7⟩ : ∃ v, ((w7.setCell ⟨w1.heap.size, 0, none⟩ (.bool n0)).setCell ⟨w1.heap.size, 1, none⟩ (.string n1)).setCell ⟨w1.heap.size, 2, none⟩ (.int .i64 n2) = v := ⟨_, rfl⟩
      have hT7 : RowKit.Below w.heap.size w v7 ∧ Blk v7 (w.heap.size) (#[.bool d.neg, .string d.s, .int .i64 d.sc]) 23 ∧ Blk v7 (w.heap.size + 1) (#[.bool x.neg, .string x.s, .int .i64 x.sc]) 23 ∧ Blk v7 (w1.heap.size) (#[.bool n0, .string n1, .int .i64 n2]) 23 ∧ Blk v7 (w2.heap.size) (#[.bool m0, .string m1, .int .i64 m2]) 23 := by rw [← hv7]; exact ⟨b_set3 (hS7.1) (by omega) _ _ _, (((hS7.2.1).other (i := 0) (by omega) _).other (i := 1) (by omega) _).other (i := 2) (by omega) _, (((hS7.2.2.1).other (i := 0) (by omega) _).other (i := 1) (by omega) _).other (i := 2) (by omega) _, (hS7.2.2.2.1).set3 _ _ _, (((hS7.2.2.2.2).other (i := 0) (by omega) _).other (i := 1) (by omega) _).other (i := 2) (by omega) _⟩
      have hy7 : w7.heap.size ≤ v7.heap.size := by rw [← hv7]; simp
      clear hS7
      obtain ⟨a0, a1, a2, _, _, _⟩ := (hT7.2.1).three
      obtain ⟨b0, b1, b2, _, _, _⟩ := (hT7.2.2.1).three
      go_wp2_with (go_at_call 22; refine (hN2 _).mono ?_)
      first | rintro e8 w8 rfl hb8 | rintro e8 w8 ⟨rfl, hb8⟩
      clear u0 u1 u2 uf0 uf1 uf2 a0 a1 a2 b0 b1 b2
      clear hN2
      have hS8 : RowKit.Below w.heap.size w w8 ∧ Blk w8 (w.heap.size) (#[.bool d.neg, .string d.s, .int .i64 d.sc]) 23 ∧ Blk w8 (w.heap.size + 1) (#[.bool x.neg, .string x.s, .int .i64 x.sc]) 23 ∧ Blk w8 (w1.heap.size) (#[.bool n0, .string n1, .int .i64 n2]) 23 ∧ Blk w8 (w2.heap.size) (#[.bool m0, .string m1, .int .i64 m2]) 23 := ⟨b_step hb8 (hT7.1), (hT7.2.1).below (hT7.2.1).lt hb8, (hT7.2.2.1).below (hT7.2.2.1).lt hb8, (hT7.2.2.2.1).below (hT7.2.2.2.1).lt hb8, (hT7.2.2.2.2).below (hT7.2.2.2.2).lt hb8⟩
      have hz8 : v7.heap.size ≤ w8.heap.size := hb8.size
      clear hT7 hb8
      clear hv7
      obtain ⟨u0, u1, u2, uf0, uf1, uf2⟩ := (hS8.2.2.2.2).three
      obtain ⟨v8, hv8⟩ : ∃ v, ((w8.setCell ⟨w2.heap.size, 0, none⟩ (.bool n0)).setCell ⟨w2.heap.size, 1, none⟩ (.string n1)).setCell ⟨w2.heap.size, 2, none⟩ (.int .i64 n2) = v := ⟨_, rfl⟩
      have hT8 : RowKit.Below w.heap.size w v8 ∧ Blk v8 (w.heap.size) (#[.bool d.neg, .string d.s, .int .i64 d.sc]) 23 ∧ Blk v8 (w.heap.size + 1) (#[.bool x.neg, .string x.s, .int .i64 x.sc]) 23 ∧ Blk v8 (w1.heap.size) (#[.bool n0, .string n1, .int .i64 n2]) 23 ∧ Blk v8 (w2.heap.size) (#[.bool n0, .string n1, .int .i64 n2]) 23 := by rw [← hv8]; exact ⟨b_set3 (hS8.1) (by omega) _ _ _, (((hS8.2.1).other (i := 0) (by omega) _).other (i := 1) (by omega) _).other (i := 2) (by omega) _, (((hS8.2.2.1).other (i := 0) (by omega) _).other (i := 1) (by omega) _).other (i := 2) (by omega) _, (((hS8.2.2.2.1).other (i := 0) (by omega) _).other (i := 1) (by omega) _).other (i := 2) (by omega) _, (hS8.2.2.2.2).set3 _ _ _⟩
      have hy8 : w8.heap.size ≤ v8.heap.size := by rw [← hv8]; simp
      clear hS8
      obtain ⟨a0, a1, a2, _, _, _⟩ := (hT8.2.1).three
      obtain ⟨b0, b1, b2, _, _, _⟩ := (hT8.2.2.1).three
      go_wp2_with (go_at_call 23; refine (hC1 _).mono ?_)
      first | rintro e9 w9 rfl hb9 | rintro e9 w9 ⟨rfl, hb9⟩
      clear u0 u1 u2 uf0 uf1 uf2 a0 a1 a2 b0 b1 b2
      clear hC1
      have hS9 : RowKit.Below w.heap.size w w9 ∧ Blk w9 (w.heap.size) (#[.bool d.neg, .string d.s, .int .i64 d.sc]) 23 ∧ Blk w9 (w.heap.size + 1) (#[.bool x.neg, .string x.s, .int .i64 x.sc]) 23 ∧ Blk w9 (w1.heap.size) (#[.bool n0, .string n1, .int .i64 n2]) 23 ∧ Blk w9 (w2.heap.size) (#[.bool n0, .string n1, .int .i64 n2]) 23 := ⟨b_step hb9 (hT8.1), (hT8.2.1).below (hT8.2.1).lt hb9, (hT8.2.2.1).below (hT8.2.2.1).lt hb9, (hT8.2.2.2.1).below (hT8.2.2.2.1).lt hb9, (hT8.2.2.2.2).below (hT8.2.2.2.2).lt hb9⟩
      have hz9 : v8.heap.size ≤ w9.heap.size := hb9.size
      clear hT8 hb9
      clear hv8
      obtain ⟨a0, a1, a2, _, _, _⟩ := (hS9.2.1).three
      obtain ⟨b0, b1, b2, _, _, _⟩ := (hS9.2.2.1).three
      go_wp2_with (go_at_call 24; refine (hC2 _).mono ?_)
      first | rintro e10 w10 rfl hb10 | rintro e10 w10 ⟨rfl, hb10⟩
      clear a0 a1 a2 b0 b1 b2
      clear hC2
      have hS10 : RowKit.Below w.heap.size w w10 ∧ Blk w10 (w.heap.size) (#[.bool d.neg, .string d.s, .int .i64 d.sc]) 23 ∧ Blk w10 (w.heap.size + 1) (#[.bool x.neg, .string x.s, .int .i64 x.sc]) 23 ∧ Blk w10 (w1.heap.size) (#[.bool n0, .string n1, .int .i64 n2]) 23 ∧ Blk w10 (w2.heap.size) (#[.bool n0, .string n1, .int .i64 n2]) 23 := ⟨b_step hb10 (hS9.1), (hS9.2.1).below (hS9.2.1).lt hb10, (hS9.2.2.1).below (hS9.2.2.1).lt hb10, (hS9.2.2.2.1).below (hS9.2.2.2.1).lt hb10, (hS9.2.2.2.2).below (hS9.2.2.2.2).lt hb10⟩
      have hz10 : w9.heap.size ≤ w10.heap.size := hb10.size
      clear hS9 hb10
      obtain ⟨x0, x1, x2, _, _, _⟩ := (hS10.2.2.2.1).three
      obtain ⟨y0, y1, y2, _, _, _⟩ := (hS10.2.2.2.2).three
      have hGG := HG.out.later (hS10.1)
      have HB10 := Lib.hid (hS10.1)
      clear hS10
      go_wp2_with (go_at_call 6; refine (hSh _ hGG).mono ?_)
      first | rintro e11 w11 rfl hb11 | rintro e11 w11 ⟨rfl, hb11⟩
      have HB11 := Lib.hid (b_step hb11 HB10.out)
      clear hb11 x0 x1 x2 y0 y1 y2
      go_wp2
      go_ret
      exact ⟨rfl, HB11.out⟩
end Dc
end Go.Proofs.YthnpbkplcboejaaGreatDoor
