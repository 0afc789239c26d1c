/- Decimal: Div, Round and Digits, of the program and of the reference; DecimalRounds. -/
import Derived.Test.YthnpbkplcboejaaGreatDoorGd
import Derived.Test.YthnpbkplcboejaaGreatDoorGf
import Derived.Test.YthnpbkplcboejaaGreatDoorDv
import Derived.Test.YthnpbkplcboejaaGreatDoorDu
import Derived.Test.YthnpbkplcboejaaGreatDoorDw
set_option linter.unusedSimpArgs false
set_option linter.unusedVariables false
namespace Go.Proofs.YthnpbkplcboejaaGreatDoor
open Go.RowKit Go.Shelf Go.Lib Go.Sort
namespace Dc
theorem scB_yes {sc : Int} (h : scB sc = true) : ∃ k : Nat, sc = (k : Int) ∧ k ≤ 60 := by
  unfold scB at h
  rw [Bool.and_eq_true, decide_eq_true_iff, decide_eq_true_iff] at h
  exact ⟨sc.toNat, by omega, by omega⟩
theorem divs_any (d x : D) (sc : Int) (hs0 : d.s.size ≤ maxLen) (hs1 : x.s.size ≤ maxLen) : ∃ r : R,
    (∀ W, Calls Tryz.prog 25 #[d.val, x.val, .int .i64 sc] W fun e w' => e = .returned r.val ∧ RowKit.Below W.heap.size W w') ∧
    (∀ W, Calls Tryz.prog 26 #[d.val, x.val, .int .i64 sc] W fun e w' => e = .returned r.val ∧ RowKit.Below W.heap.size W w') := by
  cases hc : d.check && x.check with
  | false => exact ⟨R.err 2, fun W => Div_no d x sc hs0 hs1 hc W, fun W => rDiv_no d x sc hs0 hs1 hc W⟩
  | true =>
    by_cases h0 : x.s.toList = [48]
    · exact ⟨R.err 2, fun W => Div_by0 d x sc hs0 hs1 hc h0 W, fun W => rDiv_by0 d x sc hs0 hs1 hc h0 W⟩
    · cases hsc : scB sc with
      | false => exact ⟨R.err 2, fun W => Div_sc d x sc hs0 hs1 hc h0 hsc W, fun W => rDiv_sc d x sc hs0 hs1 hc h0 hsc W⟩
      | true =>
        obtain ⟨k, rfl, hk⟩ := scB_yes hsc
        rw [Bool.and_eq_true] at hc
        obtain ⟨a, ha, rfl⟩ := D.of_check hc.1
        obtain ⟨b, hb, rfl⟩ := D.of_check hc.2
        have hb0 : b.n ≠ 0 := fun e => h0 (by show (decB b.n).toList = _; rw [e, ByteArray.toList_eq]; exact dec_zero)
        by_cases hm : 0 < k + b.s - a.s
        · exact ⟨divS a b k, fun W => Div_up a b ha hb k hk hb0 hm W, fun W => rDiv_ok a b ha hb k hk hb0 W⟩
        · exact ⟨divS a b k, fun W => Div_dn a b ha hb k hk hb0 hm W, fun W => rDiv_ok a b ha hb k hk hb0 W⟩
theorem rounds_any (d : D) (sc : Int) (hs : d.s.size ≤ maxLen) : ∃ r : R,
    (∀ W, Calls Tryz.prog 27 #[d.val, .int .i64 sc] W fun e w' => e = .returned r.val ∧ RowKit.Below W.heap.size W w') ∧
    (∀ W, Calls Tryz.prog 28 #[d.val, .int .i64 sc] W fun e w' => e = .returned r.val ∧ RowKit.Below W.heap.size W w') := by
  cases hc : d.check with
  | false => exact ⟨R.err 2, fun W => Round_no d sc hs hc W, fun W => rRound_no d sc hs hc W⟩
  | true =>
    cases hsc : scB sc with
    | false => exact ⟨R.err 2, fun W => Round_sc d sc hs hc hsc W, fun W => rRound_sc d sc hs hc hsc W⟩
    | true =>
      obtain ⟨k, rfl, hk⟩ := scB_yes hsc
      obtain ⟨a, ha, rfl⟩ := D.of_check hc
      by_cases hle : a.s ≤ k
      · exact ⟨R.ok a, fun W => Round_same a ha k hk hle W, fun W => rRound_same a ha k hk hle W⟩
      · exact ⟨roundS a k, fun W => Round_ok a ha k hk hle W, fun W => rRound_ok a ha k hk hle W⟩
theorem digits2_any (d : D) (hs : d.s.size ≤ maxLen) : ∃ t u g : Int,
    (∀ W, Calls Tryz.prog 29 #[d.val] W fun e w' => e = .returned (.tuple #[.int .i64 t, .int .i64 u, .int .i64 g]) ∧ RowKit.Below W.heap.size W w') ∧
    (∀ W, Calls Tryz.prog 30 #[d.val] W fun e w' => e = .returned (.tuple #[.int .i64 t, .int .i64 u, .int .i64 g]) ∧ RowKit.Below W.heap.size W w') := by
  cases hc : d.check with
  | false => exact ⟨0, 0, 2, fun W => Digits_no d hs hc W, fun W => rDigits_no d hs hc W⟩
  | true =>
    obtain ⟨a, ha, rfl⟩ := D.of_check hc
    exact ⟨_, _, 0, fun W => Digits_ok a ha W, fun W => rDigits_ok a ha W⟩
set_option maxRecDepth 100000 in
set_option maxHeartbeats 16000000 in
theorem DecimalRounds_any (d x : D) (sc : Int) (hd : d.s.size ≤ maxLen) (hx : x.s.size ≤ maxLen) (w : World) (hG : G w) :
    Calls Tryz.prog 5 #[d.val, x.val, .int .i64 sc] w fun e w' => e = .returned (.bool true) ∧ RowKit.Below w.heap.size w w' := by
  obtain ⟨rA, hA1, hA2⟩ := divs_any d x sc hd hx
  obtain ⟨rR, hR1, hR2⟩ := rounds_any d sc hd
  obtain ⟨dt, du, dg, hD1, hD2⟩ := digits2_any d hd
  simp only [R.val_eq] at hA1 hA2
  obtain ⟨p0, hp0⟩ : ∃ y, rA.d.neg = y := ⟨_, rfl⟩
  obtain ⟨p1, hp1⟩ : ∃ y, rA.d.s = y := ⟨_, rfl⟩
  obtain ⟨p2, hp2⟩ : ∃ y, rA.d.sc = y := ⟨_, rfl⟩
  obtain ⟨p3, hp3⟩ : ∃ y, rA.no = y := ⟨_, rfl⟩
  simp only [hp0, hp1, hp2, hp3] at hA1 hA2
  clear hp0 hp1 hp2 hp3
  simp only [R.val_eq] at hR1 hR2
  obtain ⟨q0, hq0⟩ : ∃ y, rR.d.neg = y := ⟨_, rfl⟩
  obtain ⟨q1, hq1⟩ : ∃ y, rR.d.s = y := ⟨_, rfl⟩
  obtain ⟨q2, hq2⟩ : ∃ y, rR.d.sc = y := ⟨_, rfl⟩
  obtain ⟨q3, hq3⟩ : ∃ y, rR.no = y := ⟨_, rfl⟩
  simp only [hq0, hq1, hq2, hq3] at hR1 hR2
  clear hq0 hq1 hq2 hq3
  obtain ⟨hb0, h1, h2⟩ := two_start w (.bool d.neg) (.string d.s) (.int .i64 d.sc) (.bool x.neg) (.string x.s) (.int .i64 x.sc)
  obtain ⟨W0, hW0⟩ : ∃ W0, ((w.alloc (.cells #[.bool d.neg, .string d.s, .int .i64 d.sc] 23)).alloc (.cells #[.bool x.neg, .string x.s, .int .i64 x.sc] 23)) = W0 := ⟨_, rfl⟩
  rw [hW0] at hb0 h1 h2
  rw [d_box] at hA1 hA2 hR1 hR2 hD1 hD2
  simp only [d_box x] at hA1 hA2
  rw [d_box, d_box]
  have hG0 := hG.later hb0
  have hSh := fun W hG => shown_any W hG
  have HB0 := Lib.hid hb0
  have HG := Lib.hid hG
  have HS0 : Hid (RowKit.Below w.heap.size w W0 ∧ Blk W0 (w.heap.size) (#[.bool d.neg, .string d.s, .int .i64 d.sc]) 23 ∧ Blk W0 (w.heap.size + 1) (#[.bool x.neg, .string x.s, .int .i64 x.sc]) 23) := ⟨hb0, h1, h2⟩
  obtain ⟨a0, a1, a2, _, _, _⟩ := h1.three
  obtain ⟨b0, b1, b2, _, _, _⟩ := h2.three
  unfold maxLen at hd hx
  have hz0 : w.heap.size + 2 ≤ W0.heap.size := by have := h2.lt; omega
  clear hb0 h1 h2 hG
  by_cases hbig : 400 < d.s.size
  · have g0 : decide (400 < (d.s.size : Int)) = true := decide_eq_true (by omega)
    clear hA1 hA2 hR1 hR2 hD1 hD2 hbig hz0 HS0
    go_enter Tryz.func5, Tryz.ntmps5
    go_wp2_with (go_at_call 6; refine (hSh _ hG0).mono ?_)
    first | rintro e W1 rfl hb1 | rintro e W1 ⟨rfl, hb1⟩
    have HB1 := Lib.hid (b_step hb1 HB0.out)
    clear hb1
    go_wp2
    go_ret
    exact ⟨rfl, HB1.out⟩
  · have g0 : decide (400 < (d.s.size : Int)) = false := decide_eq_false (by omega)
    by_cases hbig2 : 400 < x.s.size
    · have g1 : decide (400 < (x.s.size : Int)) = true := decide_eq_true (by omega)
      clear hA1 hA2 hR1 hR2 hD1 hD2 hbig hbig2 hz0 HS0
      go_enter Tryz.func5, Tryz.ntmps5
      go_wp2_with (go_at_call 6; refine (hSh _ hG0).mono ?_)
      first | rintro e W1 rfl hb1 | rintro e W1 ⟨rfl, hb1⟩
      have HB1 := Lib.hid (b_step hb1 HB0.out)
      clear hb1
      go_wp2
      go_ret
      exact ⟨rfl, HB1.out⟩
    · have g1 : decide (400 < (x.s.size : Int)) = false := decide_eq_false (by omega)
      clear hbig hbig2 hG0
      have ep := fun W => neD_self p0 p1 p2 W
      have fp := fun W => eqD_self p0 p1 p2 W
      have gp := fun op x y W => guardD op x y p0 p1 p2 p0 p1 p2 W
      have eq := fun W => neD_self q0 q1 q2 W
      have fq := fun W => eqD_self q0 q1 q2 W
      have gq := fun op x y W => guardD op x y q0 q1 q2 q0 q1 q2 W
      go_enter Tryz.func5, Tryz.ntmps5
      go_wp2_with (go_at_call 25; refine (hA1 _).mono ?_)
      first | rintro e1 w1 rfl hb1 | rintro e1 w1 ⟨rfl, hb1⟩
      clear a0 a1 a2 b0 b1 b2
      clear hA1
      have hS1 : RowKit.Below w.heap.size w w1 ∧ Blk w1 (w.heap.size) (#[.bool d.neg, .string d.s, .int .i64 d.sc]) 23 ∧ Blk w1 (w.heap.size + 1) (#[.bool x.neg, .string x.s, .int .i64 x.sc]) 23 := ⟨b_step hb1 (HS0.out.1), (HS0.out.2.1).below (HS0.out.2.1).lt hb1, (HS0.out.2.2).below (HS0.out.2.2).lt hb1⟩
      have hz1 : W0.heap.size ≤ w1.heap.size := hb1.size
      clear HS0 hb1
      clear hW0
      obtain ⟨v1, hv1⟩ : ∃ v, w1.alloc (.cells #[.bool p0, .string p1, .int .i64 p2] 23) = v := ⟨_, rfl⟩
      have hT1 : RowKit.Below w.heap.size w v1 ∧ Blk v1 (w.heap.size) (#[.bool d.neg, .string d.s, .int .i64 d.sc]) 23 ∧ Blk v1 (w.heap.size + 1) (#[.bool x.neg, .string x.s, .int .i64 x.sc]) 23 ∧ Blk v1 (w1.heap.size) (#[.bool p0, .string p1, .int .i64 p2]) 23 := by rw [← hv1]; exact ⟨b_alloc (hS1.1), (hS1.2.1).alloc _, (hS1.2.2).alloc _, Blk.new w1 _ _⟩
      have hy1 : w1.heap.size < v1.heap.size := (hT1.2.2.2).lt
      clear hS1
      obtain ⟨a0, a1, a2, _, _, _⟩ := (hT1.2.1).three
      obtain ⟨b0, b1, b2, _, _, _⟩ := (hT1.2.2.1).three
      go_wp2_with (go_at_call 26; refine (hA2 _).mono ?_)
      first | rintro e2 w2 rfl hb2 | rintro e2 w2 ⟨rfl, hb2⟩
      clear a0 a1 a2 b0 b1 b2
      clear hA2
      have hS2 : RowKit.Below w.heap.size w w2 ∧ Blk w2 (w.heap.size) (#[.bool d.neg, .string d.s, .int .i64 d.sc]) 23 ∧ Blk w2 (w.heap.size + 1) (#[.bool x.neg, .string x.s, .int .i64 x.sc]) 23 ∧ Blk w2 (w1.heap.size) (#[.bool p0, .string p1, .int .i64 p2]) 23 := ⟨b_step hb2 (hT1.1), (hT1.2.1).below (hT1.2.1).lt hb2, (hT1.2.2.1).below (hT1.2.2.1).lt hb2, (hT1.2.2.2).below (hT1.2.2.2).lt hb2⟩
      have hz2 : v1.heap.size ≤ w2.heap.size := hb2.size
      clear hT1 hb2
      clear hv1
      obtain ⟨v2, hv2⟩ : ∃ v, w2.alloc (.cells #[.bool p0, .string p1, .int .i64 p2] 23) = v := ⟨_, rfl⟩
      have hT2 : RowKit.Below w.heap.size w v2 ∧ Blk v2 (w.heap.size) (#[.bool d.neg, .string d.s, .int .i64 d.sc]) 23 ∧ Blk v2 (w.heap.size + 1) (#[.bool x.neg, .string x.s, .int .i64 x.sc]) 23 ∧ Blk v2 (w1.heap.size) (#[.bool p0, .string p1, .int .i64 p2]) 23 ∧ Blk v2 (w2.heap.size) (#[.bool p0, .string p1, .int .i64 p2]) 23 := by rw [← hv2]; exact ⟨b_alloc (hS2.1), (hS2.2.1).alloc _, (hS2.2.2.1).alloc _, (hS2.2.2.2).alloc _, Blk.new w2 _ _⟩
      have hy2 : w2.heap.size < v2.heap.size := (hT2.2.2.2.2).lt
      clear hS2
      obtain ⟨a0, a1, a2, _, _, _⟩ := (hT2.2.1).three
      obtain ⟨x0, x1, x2, _, _, _⟩ := (hT2.2.2.2.1).three
      obtain ⟨y0, y1, y2, _, _, _⟩ := (hT2.2.2.2.2).three
      go_wp2_with (go_at_call 27; refine (hR1 _).mono ?_)
      first | rintro e3 w3 rfl hb3 | rintro e3 w3 ⟨rfl, hb3⟩
      clear a0 a1 a2 x0 x1 x2 y0 y1 y2
      clear hR1
      have hS3 : RowKit.Below w.heap.size w w3 ∧ Blk w3 (w.heap.size) (#[.bool d.neg, .string d.s, .int .i64 d.sc]) 23 ∧ Blk w3 (w.heap.size + 1) (#[.bool x.neg, .string x.s, .int .i64 x.sc]) 23 ∧ Blk w3 (w1.heap.size) (#[.bool p0, .string p1, .int .i64 p2]) 23 ∧ Blk w3 (w2.heap.size) (#[.bool p0, .string p1, .int .i64 p2]) 23 := ⟨b_step hb3 (hT2.1), (hT2.2.1).below (hT2.2.1).lt hb3, (hT2.2.2.1).below (hT2.2.2.1).lt hb3, (hT2.2.2.2.1).below (hT2.2.2.2.1).lt hb3, (hT2.2.2.2.2).below (hT2.2.2.2.2).lt hb3⟩
      have hz3 : v2.heap.size ≤ w3.heap.size := hb3.size
      clear hT2 hb3
      clear hv2
      obtain ⟨u0, u1, u2, uf0, uf1, uf2⟩ := (hS3.2.2.2.1).three
      obtain ⟨v3, hv3⟩ : ∃ v, ((w3.setCell ⟨w1.heap.size, 0, none⟩ (.bool q0)).setCell ⟨w1.heap.size, 1, none⟩ (.string q1)).setCell ⟨w1.heap.size, 2, none⟩ (.int .i64 q2) = v := ⟨_, rfl⟩
      have hT3 : RowKit.Below w.heap.size w v3 ∧ Blk v3 (w.heap.size) (#[.bool d.neg, .string d.s, .int .i64 d.sc]) 23 ∧ Blk v3 (w.heap.size + 1) (#[.bool x.neg, .string x.s, .int .i64 x.sc]) 23 ∧ Blk v3 (w1.heap.size) (#[.bool q0, .string q1, .int .i64 q2]) 23 ∧ Blk v3 (w2.heap.size) (#[.bool p0, .string p1, .int .i64 p2]) 23 := by rw [← hv3]; exact ⟨b_set3 (hS3.1) (by omega) _ _ _, (((hS3.2.1).other (i := 0) (by omega) _).other (i := 1) (by omega) _).other (i := 2) (by omega) _, (((hS3.2.2.1).other (i := 0) (by omega) _).other (i := 1) (by omega) _).other (i := 2) (by omega) _, (hS3.2.2.2.1).set3 _ _ _, (((hS3.2.2.2.2).other (i := 0) (by omega) _).other (i := 1) (by omega) _).other (i := 2) (by omega) _⟩
      have hy3 : w3.heap.size ≤ v3.heap.size := by rw [← hv3]; simp
      clear hS3
      obtain ⟨a0, a1, a2, _, _, _⟩ := (hT3.2.1).three
      go_wp2_with (go_at_call 28; refine (hR2 _).mono ?_)
      first | rintro e4 w4 rfl hb4 | rintro e4 w4 ⟨rfl, hb4⟩
      clear u0 u1 u2 uf0 uf1 uf2 a0 a1 a2
      clear hR2
      have hS4 : RowKit.Below w.heap.size w w4 ∧ Blk w4 (w.heap.size) (#[.bool d.neg, .string d.s, .int .i64 d.sc]) 23 ∧ Blk w4 (w.heap.size + 1) (#[.bool x.neg, .string x.s, .int .i64 x.sc]) 23 ∧ Blk w4 (w1.heap.size) (#[.bool q0, .string q1, .int .i64 q2]) 23 ∧ Blk w4 (w2.heap.size) (#[.bool p0, .string p1, .int .i64 p2]) 23 := ⟨b_step hb4 (hT3.1), (hT3.2.1).below (hT3.2.1).lt hb4, (hT3.2.2.1).below (hT3.2.2.1).lt hb4, (hT3.2.2.2.1).below (hT3.2.2.2.1).lt hb4, (hT3.2.2.2.2).below (hT3.2.2.2.2).lt hb4⟩
      have hz4 : v3.heap.size ≤ w4.heap.size := hb4.size
      clear hT3 hb4
      clear hv3
      obtain ⟨u0, u1, u2, uf0, uf1, uf2⟩ := (hS4.2.2.2.2).three
      obtain ⟨v4, hv4⟩ : ∃ v, ((w4.setCell ⟨w2.heap.size, 0, none⟩ (.bool q0)).setCell ⟨w2.heap.size, 1, none⟩ (.string q1)).setCell ⟨w2.heap.size, 2, none⟩ (.int .i64 q2) = v := ⟨_, rfl⟩
      have hT4 : RowKit.Below w.heap.size w v4 ∧ Blk v4 (w.heap.size) (#[.bool d.neg, .string d.s, .int .i64 d.sc]) 23 ∧ Blk v4 (w.heap.size + 1) (#[.bool x.neg, .string x.s, .int .i64 x.sc]) 23 ∧ Blk v4 (w1.heap.size) (#[.bool q0, .string q1, .int .i64 q2]) 23 ∧ Blk v4 (w2.heap.size) (#[.bool q0, .string q1, .int .i64 q2]) 23 := by rw [← hv4]; exact ⟨b_set3 (hS4.1) (by omega) _ _ _, (((hS4.2.1).other (i := 0) (by omega) _).other (i := 1) (by omega) _).other (i := 2) (by omega) _, (((hS4.2.2.1).other (i := 0) (by omega) _).other (i := 1) (by omega) _).other (i := 2) (by omega) _, (((hS4.2.2.2.1).other (i := 0) (by omega) _).other (i := 1) (by omega) _).other (i := 2) (by omega) _, (hS4.2.2.2.2).set3 _ _ _⟩
      have hy4 : w4.heap.size ≤ v4.heap.size := by rw [← hv4]; simp
      clear hS4
      obtain ⟨a0, a1, a2, _, _, _⟩ := (hT4.2.1).three
      go_wp2_with (go_at_call 29; refine (hD1 _).mono ?_)
      first | rintro e5 w5 rfl hb5 | rintro e5 w5 ⟨rfl, hb5⟩
      clear u0 u1 u2 uf0 uf1 uf2 a0 a1 a2
      clear hD1
      have hS5 : RowKit.Below w.heap.size w w5 ∧ Blk w5 (w.heap.size) (#[.bool d.neg, .string d.s, .int .i64 d.sc]) 23 ∧ Blk w5 (w.heap.size + 1) (#[.bool x.neg, .string x.s, .int .i64 x.sc]) 23 ∧ Blk w5 (w1.heap.size) (#[.bool q0, .string q1, .int .i64 q2]) 23 ∧ Blk w5 (w2.heap.size) (#[.bool q0, .string q1, .int .i64 q2]) 23 := ⟨b_step hb5 (hT4.1), (hT4.2.1).below (hT4.2.1).lt hb5, (hT4.2.2.1).below (hT4.2.2.1).lt hb5, (hT4.2.2.2.1).below (hT4.2.2.2.1).lt hb5, (hT4.2.2.2.2).below (hT4.2.2.2.2).lt hb5⟩
      have hz5 : v4.heap.size ≤ w5.heap.size := hb5.size
      clear hT4 hb5
      clear hv4
      obtain ⟨a0, a1, a2, _, _, _⟩ := (hS5.2.1).three
      go_wp2_with (go_at_call 30; refine (hD2 _).mono ?_)
      first | rintro e6 w6 rfl hb6 | rintro e6 w6 ⟨rfl, hb6⟩
      clear a0 a1 a2
      clear hD2
      have hS6 : RowKit.Below w.heap.size w w6 ∧ Blk w6 (w.heap.size) (#[.bool d.neg, .string d.s, .int .i64 d.sc]) 23 ∧ Blk w6 (w.heap.size + 1) (#[.bool x.neg, .string x.s, .int .i64 x.sc]) 23 ∧ Blk w6 (w1.heap.size) (#[.bool q0, .string q1, .int .i64 q2]) 23 ∧ Blk w6 (w2.heap.size) (#[.bool q0, .string q1, .int .i64 q2]) 23 := ⟨b_step hb6 (hS5.1), (hS5.2.1).below (hS5.2.1).lt hb6, (hS5.2.2.1).below (hS5.2.2.1).lt hb6, (hS5.2.2.2.1).below (hS5.2.2.2.1).lt hb6, (hS5.2.2.2.2).below (hS5.2.2.2.2).lt hb6⟩
      have hz6 : w5.heap.size ≤ w6.heap.size := hb6.size
      clear hS5 hb6
      obtain ⟨x0, x1, x2, _, _, _⟩ := (hS6.2.2.2.1).three
      obtain ⟨y0, y1, y2, _, _, _⟩ := (hS6.2.2.2.2).three
      have hGG := HG.out.later (hS6.1)
      have HB10 := Lib.hid (hS6.1)
      clear hS6
      go_wp2_with (go_at_call 6; refine (hSh _ hGG).mono ?_)
      first | rintro e11 w11 rfl hb11 | rintro e11 w11 ⟨rfl, hb11⟩
      have HB11 := Lib.hid (b_step hb11 HB10.out)
      clear hb11 x0 x1 x2 y0 y1 y2
      go_wp2
      go_ret
      exact ⟨rfl, HB11.out⟩
end Dc
end Go.Proofs.YthnpbkplcboejaaGreatDoor
