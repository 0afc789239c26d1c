/- Decimal: DecimalBounds. -/
import Derived.Test.YthnpbkplcboejaaDoorHe
import Derived.Test.YthnpbkplcboejaaDoorHb
import Derived.Test.YthnpbkplcboejaaDoorDv
import Derived.Test.YthnpbkplcboejaaDoorDu
import Derived.Test.YthnpbkplcboejaaDoorDy
import Derived.Deep.RegionHeld3
set_option linter.unusedSimpArgs false
set_option linter.unusedVariables false
namespace Go.Proofs.YthnpbkplcboejaaDoor
open Go.RowKit Go.Shelf Go.Lib Go.Sort
namespace Dc
set_option maxRecDepth 100000 in
set_option maxHeartbeats 2000000 in
theorem plain_any (a : V) (w : World) :
    Calls Tryd.prog 15 #[.agg #[.bool a.neg, .string (decB a.n), .int .i64 (a.s : Int)]] w fun e w' => e = .returned (.agg #[.bool false, .string (decB a.n), .int .i64 (a.s : Int)]) ∧ RowKit.Below w.heap.size w w' := by
  obtain ⟨hb0, h1, h2⟩ := two_start w (.bool a.neg) (.string (decB a.n)) (.int .i64 (a.s : Int)) (.bool false) (.string ⟨#[]⟩) (.int .i64 0)
  obtain ⟨W0, hW0⟩ : ∃ W0, ((w.alloc (.cells #[.bool a.neg, .string (decB a.n), .int .i64 (a.s : Int)] 23)).alloc (.cells #[.bool false, .string ⟨#[]⟩, .int .i64 0] 23)) = W0 := ⟨_, rfl⟩
  rw [hW0] at hb0 h1 h2
  obtain ⟨a0, a1, a2, f0, f1, f2⟩ := h1.three
  obtain ⟨b0, b1, b2, g0, g1, g2⟩ := h2.three
  have hA : Blk (W0.setCell ⟨w.heap.size, 0, none⟩ (.bool false)) w.heap.size #[.bool false, .string (decB a.n), .int .i64 (a.s : Int)] 23 := h1.set 0 (.bool false)
  have hBx := h2.other (i := 0) (show w.heap.size + 1 ≠ w.heap.size by omega) (.bool false)
  have hBw := hb0.setCell (p := ⟨w.heap.size, 0, none⟩) (Nat.le_refl _) (.bool false)
  have HA := Lib.hid hA
  have HBx := Lib.hid hBx
  have HBw := Lib.hid hBw
  clear h1 h2 hA hBx hBw hb0
  go_enter Tryd.func15, Tryd.ntmps15
  go_upto_region 2 with fail
  have hA2 := HA.out
  have hB2 := HBx.out
  obtain ⟨a0, a1, a2, _, _, _⟩ := hA2.three
  obtain ⟨b0, b1, b2, g0, g1, g2⟩ := hB2.three
  clear HA HBx hA2 hW0
  go_wp2
  refine bodyPost_ret (v := .agg #[.bool false, .string (decB a.n), .int .i64 (a.s : Int)]) (results_cell_row (by rfl) _ _ _ _ _ _ _ (by rfl) (hB2.set3 _ _ _) Tryd.underlying23 rfl sizeDec) rfl ⟨rfl, b_set3 HBw.out (by omega) _ _ _⟩
set_option maxRecDepth 100000 in
set_option maxHeartbeats 2000000 in
theorem below_any (a b : V) (ha : a.ok) (hb : b.ok) (also : Bool) (w : World) :
    Calls Tryd.prog 14 #[.agg #[.bool a.neg, .string (decB a.n), .int .i64 (a.s : Int)], .agg #[.bool b.neg, .string (decB b.n), .int .i64 (b.s : Int)], .bool also] w fun e w' => e = .returned (.bool (lowS a b also)) ∧ RowKit.Below w.heap.size w w' := by
  have hK := fun W => Cmp_ok a b ha hb W
  rw [V.d_val, V.d_val] at hK
  have hl : lowS a b also = (decide (cmpS a b < 0) || (also && decide (cmpS a b = 0))) := rfl
  obtain ⟨k, hk⟩ : ∃ k, cmpS a b = k := ⟨_, rfl⟩
  rw [hk] at hK hl
  obtain ⟨r, hr⟩ : ∃ r, lowS a b also = r := ⟨_, rfl⟩
  rw [hr] at hl ⊢
  obtain ⟨hb0, h1, h2⟩ := two_start w (.bool a.neg) (.string (decB a.n)) (.int .i64 (a.s : Int)) (.bool b.neg) (.string (decB b.n)) (.int .i64 (b.s : Int))
  obtain ⟨W0, hW0⟩ : ∃ W0, ((w.alloc (.cells #[.bool a.neg, .string (decB a.n), .int .i64 (a.s : Int)] 23)).alloc (.cells #[.bool b.neg, .string (decB b.n), .int .i64 (b.s : Int)] 23)) = W0 := ⟨_, rfl⟩
  rw [hW0] at hb0 h1 h2
  obtain ⟨a0, a1, a2, _, _, _⟩ := h1.three
  obtain ⟨b0, b1, b2, _, _, _⟩ := h2.three
  have HB := Lib.hid hb0
  have HL := Lib.hid hl
  clear hb0 h1 h2 hl hk hr ha hb
  by_cases hk0 : k < 0
  · have e1 : decide (k < 0) = true := decide_eq_true hk0
    have hr : r = true := by rw [HL.out, e1, Bool.true_or]
    subst hr
    clear HL
    go_enter Tryd.func14, Tryd.ntmps14
    go_wp2_with (go_at_call 12; refine (hK _).mono ?_; first | rintro e5 w5 rfl hb5 | rintro e5 w5 ⟨rfl, hb5⟩)
    go_ret
    exact ⟨rfl, b_step hb5 HB.out⟩
  · have e1 : decide (k < 0) = false := decide_eq_false hk0
    cases also
    · have hr : r = false := by rw [HL.out, e1]; rfl
      subst hr
      clear HL
      go_enter Tryd.func14, Tryd.ntmps14
      go_wp2_with (go_at_call 12; refine (hK _).mono ?_; first | rintro e5 w5 rfl hb5 | rintro e5 w5 ⟨rfl, hb5⟩)
      go_ret
      exact ⟨rfl, b_step hb5 HB.out⟩
    · by_cases hz : k = 0
      · subst hz
        have hr : r = true := by rw [HL.out, e1]; rfl
        subst hr
        clear HL
        go_enter Tryd.func14, Tryd.ntmps14
        go_wp2_with (go_at_call 12; refine (hK _).mono ?_; first | rintro e5 w5 rfl hb5 | rintro e5 w5 ⟨rfl, hb5⟩)
        go_ret
        exact ⟨rfl, b_step hb5 HB.out⟩
      · have e2 : (k == 0) = false := beq_eq_false_iff_ne.2 hz
        have hr : r = false := by rw [HL.out, e1, decide_eq_false hz]; rfl
        subst hr
        clear HL
        go_enter Tryd.func14, Tryd.ntmps14
        go_wp2_with (go_at_call 12; refine (hK _).mono ?_; first | rintro e5 w5 rfl hb5 | rintro e5 w5 ⟨rfl, hb5⟩)
        go_ret
        exact ⟨rfl, b_step hb5 HB.out⟩
theorem decB_one : decB 1 = ⟨#[49]⟩ := congrArg (fun l => (⟨l.toArray⟩ : ByteArray)) (dec_small (n := 1) (by decide))
theorem unit_val (sc : Nat) : (unitV sc).d.val = .agg #[.bool false, .string ⟨#[49]⟩, .int .i64 (sc : Int)] := by rw [V.d_val]; show Value.agg #[.bool false, .string (decB 1), .int .i64 (sc : Int)] = _; rw [decB_one]
set_option maxRecDepth 100000 in
set_option maxHeartbeats 16000000 in
theorem bounds_main (a b : V) (ha : a.ok) (hb : b.ok) (sc : Nat) (la : (dec a.n).length ≤ 20) (lb : (dec b.n).length ≤ 20) (h3 : a.s ≤ 10) (h4 : b.s ≤ 10) (hsc : sc ≤ 10) (hb0 : b.n ≠ 0) (w : World) (hG : G w) :
    Calls Tryd.prog 4 #[a.d.val, b.d.val, .int .i64 (sc : Int)] w fun e w' => e = .returned (.bool true) ∧ RowKit.Below w.heap.size w w' := by
  obtain ⟨q, p, rest, small, hq, hp, hr, hs, e1, e2, e3, e4, l1, l2, hqs⟩ := quot_bounds a b ha hb ((dec_len (by decide)).1 la) ((dec_len (by decide)).1 lb) h3 h4 sc hsc hb0
  obtain ⟨r, rs2, tw, hr5, hr6, hr7, e5, e6, e7, hrs, l3⟩ := round_bounds a ha ((dec_len (by decide)).1 la) h3 sc hsc
  have hu := unit_ok (sc := sc) (by omega)
  have hun := unit_val sc
  have hC1 := fun W => Check_yes (V.check ha) (by show (decB a.n).size ≤ _; rw [decB_size]; unfold maxLen; omega) W
  have hC2 := fun W => Check_yes (V.check hb) (by show (decB b.n).size ≤ _; rw [decB_size]; unfold maxLen; omega) W
  have hDv : ∀ W, Calls Tryd.prog 13 #[a.d.val, b.d.val, .int .i64 (sc : Int)] W fun e w' => e = .returned (divS a b sc).val ∧ RowKit.Below W.heap.size W w' := by
    intro W
    by_cases hm : 0 < sc + b.s - a.s
    · exact Div_up a b ha hb sc (by omega) hb0 hm W
    · exact Div_dn a b ha hb sc (by omega) hb0 hm W
  have hMq := fun W => Mul_ok q b hq hb W
  have hSp := fun W => Sub_ok a p ha hp W
  have hMu := fun W => Mul_ok b (unitV sc) hb hu W
  have hRd : ∀ W, Calls Tryd.prog 16 #[a.d.val, .int .i64 (sc : Int)] W fun e w' => e = .returned (roundS a sc).val ∧ RowKit.Below W.heap.size W w' := by
    intro W
    by_cases hle : a.s ≤ sc
    · have := Round_same a ha sc (by omega) hle W
      rw [show roundS a sc = .ok a by unfold roundS; rw [if_pos hle]]
      exact this
    · exact Round_ok a ha sc (by omega) hle W
  have hSr := fun W => Sub_ok a r ha hr5 W
  have hAt := fun W => Add_ok rs2 rs2 hr6 hr6 W
  have hL1 := fun W => below_any p.abs a.abs (V.abs_ok hp) (V.abs_ok ha) true W
  have hL2 := fun W => below_any rest.abs small.abs (V.abs_ok hr) (V.abs_ok hs) false W
  have hL3 := fun W => below_any tw.abs (unitV sc).abs (V.abs_ok hr7) (V.abs_ok hu) true W
  have hP1 := fun W => plain_any p W
  have hP2 := fun W => plain_any a W
  have hP3 := fun W => plain_any rest W
  have hP4 := fun W => plain_any small W
  have hP5 := fun W => plain_any tw W
  rw [e1] at hDv
  rw [e2] at hMq
  rw [e3] at hSp
  rw [e4] at hMu
  rw [e5] at hRd
  rw [e6] at hSr
  rw [e7] at hAt
  rw [l1] at hL1
  rw [l2] at hL2
  rw [l3] at hL3
  simp only [hun] at hMu
  simp only [R.ok_val, V.d_val] at hC1 hC2 hDv hMq hSp hMu hRd hSr hAt
  replace hL3 : ∀ W, Calls Tryd.prog 14 #[.agg #[.bool false, .string (decB tw.n), .int .i64 (tw.s : Int)], .agg #[.bool false, .string ⟨#[49]⟩, .int .i64 (sc : Int)], .bool true] W fun e w' => e = .returned (.bool true) ∧ RowKit.Below W.heap.size W w' := fun W => by
    have := hL3 W
    simp only [V.abs, unitV, decB_one] at this
    exact this
  simp only [V.abs] at hL1 hL2
  obtain ⟨hb0, h1, h2⟩ := two_start w (.bool a.neg) (.string (decB a.n)) (.int .i64 (a.s : Int)) (.bool b.neg) (.string (decB b.n)) (.int .i64 (b.s : Int))
  obtain ⟨W0, hW0⟩ : ∃ W0, ((w.alloc (.cells #[.bool a.neg, .string (decB a.n), .int .i64 (a.s : Int)] 23)).alloc (.cells #[.bool b.neg, .string (decB b.n), .int .i64 (b.s : Int)] 23)) = W0 := ⟨_, rfl⟩
  rw [hW0] at hb0 h1 h2
  have hG0 := hG.later hb0
  have hSh := fun W hG => shown_any W hG
  have HB0 := Lib.hid hb0
  have HG := Lib.hid hG
  have HS0 : Hid (RowKit.Below w.heap.size w W0 ∧ Blk W0 (w.heap.size) (#[.bool a.neg, .string (decB a.n), .int .i64 (a.s : Int)]) 23 ∧ Blk W0 (w.heap.size + 1) (#[.bool b.neg, .string (decB b.n), .int .i64 (b.s : Int)]) 23) := ⟨hb0, h1, h2⟩
  obtain ⟨a0, a1, a2, _, _, _⟩ := h1.three
  obtain ⟨b0, b1, b2, _, _, _⟩ := h2.three
  have hz0 : w.heap.size + 2 ≤ W0.heap.size := by have := h2.lt; omega
  clear hb0 h1 h2 hG
  rw [V.d_val, V.d_val]
  have la3 : decide (20 < ((dec a.n).length : Int)) = false := decide_eq_false (by omega)
  have lb3 : decide (20 < ((dec b.n).length : Int)) = false := decide_eq_false (by omega)
  have a10 : decide (10 < (a.s : Int)) = false := decide_eq_false (by omega)
  have b10 : decide (10 < (b.s : Int)) = false := decide_eq_false (by omega)
  have s0 : decide ((sc : Int) < 0) = false := decide_eq_false (by omega)
  have s10 : decide (10 < (sc : Int)) = false := decide_eq_false (by omega)
  have hzz : ¬ dec b.n = [48] := fun h => hb0 (by have := congrArg dv h; rw [dv_dec] at this; exact this)
  have hzb : (dec b.n == [48]) = false := beq_eq_false_iff_ne.2 hzz
  have qs : decide ((sc : Int) < (q.s : Int)) = false := decide_eq_false (by omega)
  have rs : decide ((r.s : Int) ≤ (sc : Int)) = true := decide_eq_true (by omega)
  have HhC1 := Lib.hid hC1
  have HhC2 := Lib.hid hC2
  have HhDv := Lib.hid hDv
  have HhMq := Lib.hid hMq
  have HhSp := Lib.hid hSp
  have HhMu := Lib.hid hMu
  have HhRd := Lib.hid hRd
  have HhSr := Lib.hid hSr
  have HhAt := Lib.hid hAt
  have HhL1 := Lib.hid hL1
  have HhL2 := Lib.hid hL2
  have HhL3 := Lib.hid hL3
  have HhP1 := Lib.hid hP1
  have HhP2 := Lib.hid hP2
  have HhP3 := Lib.hid hP3
  have HhP4 := Lib.hid hP4
  have HhP5 := Lib.hid hP5
  clear hC1 hC2 hDv hMq hSp hMu hRd hSr hAt hL1 hL2 hL3 hP1 hP2 hP3 hP4 hP5 e1 e2 e3 e4 e5 e6 e7 l1 l2 l3 hu hun hq hp hr hs hr5 hr6 hr7 ha hb hG0 hb0
  go_enter Tryd.func4, Tryd.ntmps4
  go_wp2_with (go_at_call 5; (with_reducible refine (HhC1.out _).mono ?_))
  first | rintro e1 w1 rfl hb1 | rintro e1 w1 ⟨rfl, hb1⟩
  clear a0 a1 a2 b0 b1 b2
  have hS1 : RowKit.Below w.heap.size w w1 ∧ Blk w1 (w.heap.size) (#[.bool a.neg, .string (decB a.n), .int .i64 (a.s : Int)]) 23 ∧ Blk w1 (w.heap.size + 1) (#[.bool b.neg, .string (decB b.n), .int .i64 (b.s : Int)]) 23 := ⟨b_step hb1 (HS0.out.1), (HS0.out.2.1).below (HS0.out.2.1).lt hb1, (HS0.out.2.2).below (HS0.out.2.2).lt hb1⟩
  have hz1 : W0.heap.size ≤ w1.heap.size := hb1.size
  clear HS0 hb1
  clear hW0
  obtain ⟨b0, b1, b2, _, _, _⟩ := (hS1.2.2).three
  go_wp2_with (go_at_call 5; (with_reducible refine (HhC2.out _).mono ?_))
  first | rintro e2 w2 rfl hb2 | rintro e2 w2 ⟨rfl, hb2⟩
  clear b0 b1 b2
  have hS2 : RowKit.Below w.heap.size w w2 ∧ Blk w2 (w.heap.size) (#[.bool a.neg, .string (decB a.n), .int .i64 (a.s : Int)]) 23 ∧ Blk w2 (w.heap.size + 1) (#[.bool b.neg, .string (decB b.n), .int .i64 (b.s : Int)]) 23 := ⟨b_step hb2 (hS1.1), (hS1.2.1).below (hS1.2.1).lt hb2, (hS1.2.2).below (hS1.2.2).lt hb2⟩
  have hz2 : w1.heap.size ≤ w2.heap.size := hb2.size
  clear hS1 hb2
  obtain ⟨a0, a1, a2, _, _, _⟩ := (hS2.2.1).three
  obtain ⟨b0, b1, b2, _, _, _⟩ := (hS2.2.2).three
  have la4 := la3
  obtain ⟨v2, hv2⟩ : ∃ v, w2.alloc (.cells #[.bool false, .string ⟨#[49]⟩, .int .i64 (sc : Int)] 23) = v := ⟨_, rfl⟩
  have hT2 : RowKit.Below w.heap.size w v2 ∧ Blk v2 (w.heap.size) (#[.bool a.neg, .string (decB a.n), .int .i64 (a.s : Int)]) 23 ∧ Blk v2 (w.heap.size + 1) (#[.bool b.neg, .string (decB b.n), .int .i64 (b.s : Int)]) 23 ∧ Blk v2 (w2.heap.size) (#[.bool false, .string ⟨#[49]⟩, .int .i64 (sc : Int)]) 23 := by rw [← hv2]; exact ⟨b_alloc (hS2.1), (hS2.2.1).alloc _, (hS2.2.2).alloc _, Blk.new w2 _ _⟩
  have hy2 : w2.heap.size < v2.heap.size := (hT2.2.2.2).lt
  clear hS2
  obtain ⟨c0, c1, c2, _, _, _⟩ := (hT2.2.1).three
  obtain ⟨d0, d1, d2, _, _, _⟩ := (hT2.2.2.1).three
  go_wp2_with (go_at_call 13; (with_reducible refine (HhDv.out _).mono ?_))
  first | rintro e3 w3 rfl hb3 | rintro e3 w3 ⟨rfl, hb3⟩
  clear a0 a1 a2 b0 b1 b2 c0 c1 c2 d0 d1 d2
  clear la3 la4 lb3 a10 b10 s0 s10 hzz hzb
  have hS3 : RowKit.Below w.heap.size w w3 ∧ Blk w3 (w.heap.size) (#[.bool a.neg, .string (decB a.n), .int .i64 (a.s : Int)]) 23 ∧ Blk w3 (w.heap.size + 1) (#[.bool b.neg, .string (decB b.n), .int .i64 (b.s : Int)]) 23 ∧ Blk w3 (w2.heap.size) (#[.bool false, .string ⟨#[49]⟩, .int .i64 (sc : Int)]) 23 := ⟨b_step hb3 (hT2.1), (hT2.2.1).below (hT2.2.1).lt hb3, (hT2.2.2.1).below (hT2.2.2.1).lt hb3, (hT2.2.2.2).below (hT2.2.2.2).lt hb3⟩
  have hz3 : v2.heap.size ≤ w3.heap.size := hb3.size
  clear hT2 hb3
  clear hv2
  obtain ⟨v3, hv3⟩ : ∃ v, w3.alloc (.cells #[.bool q.neg, .string (decB q.n), .int .i64 (q.s : Int)] 23) = v := ⟨_, rfl⟩
  have hT3 : RowKit.Below w.heap.size w v3 ∧ Blk v3 (w.heap.size) (#[.bool a.neg, .string (decB a.n), .int .i64 (a.s : Int)]) 23 ∧ Blk v3 (w.heap.size + 1) (#[.bool b.neg, .string (decB b.n), .int .i64 (b.s : Int)]) 23 ∧ Blk v3 (w2.heap.size) (#[.bool false, .string ⟨#[49]⟩, .int .i64 (sc : Int)]) 23 ∧ Blk v3 (w3.heap.size) (#[.bool q.neg, .string (decB q.n), .int .i64 (q.s : Int)]) 23 := by rw [← hv3]; exact ⟨b_alloc (hS3.1), (hS3.2.1).alloc _, (hS3.2.2.1).alloc _, (hS3.2.2.2).alloc _, Blk.new w3 _ _⟩
  have hy3 : w3.heap.size < v3.heap.size := (hT3.2.2.2.2).lt
  clear hS3
  obtain ⟨q0, q1, q2, _, _, _⟩ := (hT3.2.2.2.2).three
  obtain ⟨b0, b1, b2, _, _, _⟩ := (hT3.2.2.1).three
  go_wp2_with (go_at_call 10; (with_reducible refine (HhMq.out _).mono ?_))
  first | rintro e4 w4 rfl hb4 | rintro e4 w4 ⟨rfl, hb4⟩
  clear q0 q1 q2 b0 b1 b2
  have hS4 : RowKit.Below w.heap.size w w4 ∧ Blk w4 (w.heap.size) (#[.bool a.neg, .string (decB a.n), .int .i64 (a.s : Int)]) 23 ∧ Blk w4 (w.heap.size + 1) (#[.bool b.neg, .string (decB b.n), .int .i64 (b.s : Int)]) 23 ∧ Blk w4 (w2.heap.size) (#[.bool false, .string ⟨#[49]⟩, .int .i64 (sc : Int)]) 23 ∧ Blk w4 (w3.heap.size) (#[.bool q.neg, .string (decB q.n), .int .i64 (q.s : Int)]) 23 := ⟨b_step hb4 (hT3.1), (hT3.2.1).below (hT3.2.1).lt hb4, (hT3.2.2.1).below (hT3.2.2.1).lt hb4, (hT3.2.2.2.1).below (hT3.2.2.2.1).lt hb4, (hT3.2.2.2.2).below (hT3.2.2.2.2).lt hb4⟩
  have hz4 : v3.heap.size ≤ w4.heap.size := hb4.size
  clear hT3 hb4
  clear hv3
  obtain ⟨v4, hv4⟩ : ∃ v, w4.alloc (.cells #[.bool p.neg, .string (decB p.n), .int .i64 (p.s : Int)] 23) = v := ⟨_, rfl⟩
  have hT4 : RowKit.Below w.heap.size w v4 ∧ Blk v4 (w.heap.size) (#[.bool a.neg, .string (decB a.n), .int .i64 (a.s : Int)]) 23 ∧ Blk v4 (w.heap.size + 1) (#[.bool b.neg, .string (decB b.n), .int .i64 (b.s : Int)]) 23 ∧ Blk v4 (w2.heap.size) (#[.bool false, .string ⟨#[49]⟩, .int .i64 (sc : Int)]) 23 ∧ Blk v4 (w3.heap.size) (#[.bool q.neg, .string (decB q.n), .int .i64 (q.s : Int)]) 23 ∧ Blk v4 (w4.heap.size) (#[.bool p.neg, .string (decB p.n), .int .i64 (p.s : Int)]) 23 := by rw [← hv4]; exact ⟨b_alloc (hS4.1), (hS4.2.1).alloc _, (hS4.2.2.1).alloc _, (hS4.2.2.2.1).alloc _, (hS4.2.2.2.2).alloc _, Blk.new w4 _ _⟩
  have hy4 : w4.heap.size < v4.heap.size := (hT4.2.2.2.2.2).lt
  clear hS4
  obtain ⟨p0, p1, p2, _, _, _⟩ := (hT4.2.2.2.2.2).three
  obtain ⟨a0, a1, a2, _, _, _⟩ := (hT4.2.1).three
  go_wp2_with (go_at_call 11; (with_reducible refine (HhSp.out _).mono ?_))
  first | rintro e5 w5 rfl hb5 | rintro e5 w5 ⟨rfl, hb5⟩
  clear p0 p1 p2 a0 a1 a2
  have hS5 : RowKit.Below w.heap.size w w5 ∧ Blk w5 (w.heap.size) (#[.bool a.neg, .string (decB a.n), .int .i64 (a.s : Int)]) 23 ∧ Blk w5 (w.heap.size + 1) (#[.bool b.neg, .string (decB b.n), .int .i64 (b.s : Int)]) 23 ∧ Blk w5 (w2.heap.size) (#[.bool false, .string ⟨#[49]⟩, .int .i64 (sc : Int)]) 23 ∧ Blk w5 (w3.heap.size) (#[.bool q.neg, .string (decB q.n), .int .i64 (q.s : Int)]) 23 ∧ Blk w5 (w4.heap.size) (#[.bool p.neg, .string (decB p.n), .int .i64 (p.s : Int)]) 23 := ⟨b_step hb5 (hT4.1), (hT4.2.1).below (hT4.2.1).lt hb5, (hT4.2.2.1).below (hT4.2.2.1).lt hb5, (hT4.2.2.2.1).below (hT4.2.2.2.1).lt hb5, (hT4.2.2.2.2.1).below (hT4.2.2.2.2.1).lt hb5, (hT4.2.2.2.2.2).below (hT4.2.2.2.2.2).lt hb5⟩
  have hz5 : v4.heap.size ≤ w5.heap.size := hb5.size
  clear hT4 hb5
  clear hv4
  obtain ⟨v5, hv5⟩ : ∃ v, w5.alloc (.cells #[.bool rest.neg, .string (decB rest.n), .int .i64 (rest.s : Int)] 23) = v := ⟨_, rfl⟩
  have hT5 : RowKit.Below w.heap.size w v5 ∧ Blk v5 (w.heap.size) (#[.bool a.neg, .string (decB a.n), .int .i64 (a.s : Int)]) 23 ∧ Blk v5 (w.heap.size + 1) (#[.bool b.neg, .string (decB b.n), .int .i64 (b.s : Int)]) 23 ∧ Blk v5 (w2.heap.size) (#[.bool false, .string ⟨#[49]⟩, .int .i64 (sc : Int)]) 23 ∧ Blk v5 (w3.heap.size) (#[.bool q.neg, .string (decB q.n), .int .i64 (q.s : Int)]) 23 ∧ Blk v5 (w4.heap.size) (#[.bool p.neg, .string (decB p.n), .int .i64 (p.s : Int)]) 23 ∧ Blk v5 (w5.heap.size) (#[.bool rest.neg, .string (decB rest.n), .int .i64 (rest.s : Int)]) 23 := by rw [← hv5]; exact ⟨b_alloc (hS5.1), (hS5.2.1).alloc _, (hS5.2.2.1).alloc _, (hS5.2.2.2.1).alloc _, (hS5.2.2.2.2.1).alloc _, (hS5.2.2.2.2.2).alloc _, Blk.new w5 _ _⟩
  have hy5 : w5.heap.size < v5.heap.size := (hT5.2.2.2.2.2.2).lt
  clear hS5
  obtain ⟨u0, u1, u2, _, _, _⟩ := (hT5.2.2.2.1).three
  obtain ⟨b0, b1, b2, _, _, _⟩ := (hT5.2.2.1).three
  go_wp2_with (go_at_call 10; (with_reducible refine (HhMu.out _).mono ?_))
  first | rintro e6 w6 rfl hb6 | rintro e6 w6 ⟨rfl, hb6⟩
  clear u0 u1 u2 b0 b1 b2
  have hS6 : RowKit.Below w.heap.size w w6 ∧ Blk w6 (w.heap.size) (#[.bool a.neg, .string (decB a.n), .int .i64 (a.s : Int)]) 23 ∧ Blk w6 (w.heap.size + 1) (#[.bool b.neg, .string (decB b.n), .int .i64 (b.s : Int)]) 23 ∧ Blk w6 (w2.heap.size) (#[.bool false, .string ⟨#[49]⟩, .int .i64 (sc : Int)]) 23 ∧ Blk w6 (w3.heap.size) (#[.bool q.neg, .string (decB q.n), .int .i64 (q.s : Int)]) 23 ∧ Blk w6 (w4.heap.size) (#[.bool p.neg, .string (decB p.n), .int .i64 (p.s : Int)]) 23 ∧ Blk w6 (w5.heap.size) (#[.bool rest.neg, .string (decB rest.n), .int .i64 (rest.s : Int)]) 23 := ⟨b_step hb6 (hT5.1), (hT5.2.1).below (hT5.2.1).lt hb6, (hT5.2.2.1).below (hT5.2.2.1).lt hb6, (hT5.2.2.2.1).below (hT5.2.2.2.1).lt hb6, (hT5.2.2.2.2.1).below (hT5.2.2.2.2.1).lt hb6, (hT5.2.2.2.2.2.1).below (hT5.2.2.2.2.2.1).lt hb6, (hT5.2.2.2.2.2.2).below (hT5.2.2.2.2.2.2).lt hb6⟩
  have hz6 : v5.heap.size ≤ w6.heap.size := hb6.size
  clear hT5 hb6
  clear hv5
  obtain ⟨v6, hv6⟩ : ∃ v, w6.alloc (.cells #[.bool small.neg, .string (decB small.n), .int .i64 (small.s : Int)] 23) = v := ⟨_, rfl⟩
  have hT6 : RowKit.Below w.heap.size w v6 ∧ Blk v6 (w.heap.size) (#[.bool a.neg, .string (decB a.n), .int .i64 (a.s : Int)]) 23 ∧ Blk v6 (w.heap.size + 1) (#[.bool b.neg, .string (decB b.n), .int .i64 (b.s : Int)]) 23 ∧ Blk v6 (w2.heap.size) (#[.bool false, .string ⟨#[49]⟩, .int .i64 (sc : Int)]) 23 ∧ Blk v6 (w3.heap.size) (#[.bool q.neg, .string (decB q.n), .int .i64 (q.s : Int)]) 23 ∧ Blk v6 (w4.heap.size) (#[.bool p.neg, .string (decB p.n), .int .i64 (p.s : Int)]) 23 ∧ Blk v6 (w5.heap.size) (#[.bool rest.neg, .string (decB rest.n), .int .i64 (rest.s : Int)]) 23 ∧ Blk v6 (w6.heap.size) (#[.bool small.neg, .string (decB small.n), .int .i64 (small.s : Int)]) 23 := by rw [← hv6]; exact ⟨b_alloc (hS6.1), (hS6.2.1).alloc _, (hS6.2.2.1).alloc _, (hS6.2.2.2.1).alloc _, (hS6.2.2.2.2.1).alloc _, (hS6.2.2.2.2.2.1).alloc _, (hS6.2.2.2.2.2.2).alloc _, Blk.new w6 _ _⟩
  have hy6 : w6.heap.size < v6.heap.size := (hT6.2.2.2.2.2.2.2).lt
  clear hS6
  have p0 := fun w' (h : RowKit.Below v6.heap.size v6 w') => (h.cell (p := ⟨w4.heap.size, 0, none⟩) (hT6.2.2.2.2.2.1).lt).trans ((hT6.2.2.2.2.2.1).cell 0)
  have p1 := fun w' (h : RowKit.Below v6.heap.size v6 w') => (h.cell (p := ⟨w4.heap.size, 1, none⟩) (hT6.2.2.2.2.2.1).lt).trans ((hT6.2.2.2.2.2.1).cell 1)
  have p2 := fun w' (h : RowKit.Below v6.heap.size v6 w') => (h.cell (p := ⟨w4.heap.size, 2, none⟩) (hT6.2.2.2.2.2.1).lt).trans ((hT6.2.2.2.2.2.1).cell 2)
  have a0 := fun w' (h : RowKit.Below v6.heap.size v6 w') => (h.cell (p := ⟨w.heap.size, 0, none⟩) (hT6.2.1).lt).trans ((hT6.2.1).cell 0)
  have a1 := fun w' (h : RowKit.Below v6.heap.size v6 w') => (h.cell (p := ⟨w.heap.size, 1, none⟩) (hT6.2.1).lt).trans ((hT6.2.1).cell 1)
  have a2 := fun w' (h : RowKit.Below v6.heap.size v6 w') => (h.cell (p := ⟨w.heap.size, 2, none⟩) (hT6.2.1).lt).trans ((hT6.2.1).cell 2)
  have t0 := fun w' (h : RowKit.Below v6.heap.size v6 w') => (h.cell (p := ⟨w5.heap.size, 0, none⟩) (hT6.2.2.2.2.2.2.1).lt).trans ((hT6.2.2.2.2.2.2.1).cell 0)
  have t1 := fun w' (h : RowKit.Below v6.heap.size v6 w') => (h.cell (p := ⟨w5.heap.size, 1, none⟩) (hT6.2.2.2.2.2.2.1).lt).trans ((hT6.2.2.2.2.2.2.1).cell 1)
  have t2 := fun w' (h : RowKit.Below v6.heap.size v6 w') => (h.cell (p := ⟨w5.heap.size, 2, none⟩) (hT6.2.2.2.2.2.2.1).lt).trans ((hT6.2.2.2.2.2.2.1).cell 2)
  have s0 := fun w' (h : RowKit.Below v6.heap.size v6 w') => (h.cell (p := ⟨w6.heap.size, 0, none⟩) (hT6.2.2.2.2.2.2.2).lt).trans ((hT6.2.2.2.2.2.2.2).cell 0)
  have s1 := fun w' (h : RowKit.Below v6.heap.size v6 w') => (h.cell (p := ⟨w6.heap.size, 1, none⟩) (hT6.2.2.2.2.2.2.2).lt).trans ((hT6.2.2.2.2.2.2.2).cell 1)
  have s2 := fun w' (h : RowKit.Below v6.heap.size v6 w') => (h.cell (p := ⟨w6.heap.size, 2, none⟩) (hT6.2.2.2.2.2.2.2).lt).trans ((hT6.2.2.2.2.2.2.2).cell 2)
  have q0 := fun w' (h : RowKit.Below v6.heap.size v6 w') => (h.cell (p := ⟨w3.heap.size, 0, none⟩) (hT6.2.2.2.2.1).lt).trans ((hT6.2.2.2.2.1).cell 0)
  have q1 := fun w' (h : RowKit.Below v6.heap.size v6 w') => (h.cell (p := ⟨w3.heap.size, 1, none⟩) (hT6.2.2.2.2.1).lt).trans ((hT6.2.2.2.2.1).cell 1)
  have q2 := fun w' (h : RowKit.Below v6.heap.size v6 w') => (h.cell (p := ⟨w3.heap.size, 2, none⟩) (hT6.2.2.2.2.1).lt).trans ((hT6.2.2.2.2.1).cell 2)
  simp only [List.getElem?_toArray, List.getElem?_cons_zero, List.getElem?_cons_succ] at p0 p1 p2 a0 a1 a2 t0 t1 t2 s0 s1 s2 q0 q1 q2
  have hbD : RowKit.Below v6.heap.size v6 v6.drew := b_drew (Below.refl _ _)
  have HSB := Lib.hid hT6
  clear hT6
  go_upto_region 10 with fail
  go_region_held3 (fun w' => RowKit.Below v6.heap.size v6 w') (first | assumption | exact hbD | exact (b_step hb25 (b_step hb24 (b_step hb23 (b_step hb22 (b_step hb21 (b_step hb20 hbD)))))) | exact (b_step hb24 (b_step hb23 (b_step hb22 (b_step hb21 (b_step hb20 hbD))))) | exact (b_step hb23 (b_step hb22 (b_step hb21 (b_step hb20 hbD)))) | exact (b_step hb22 (b_step hb21 (b_step hb20 hbD))) | exact (b_step hb21 (b_step hb20 hbD)) | exact (b_step hb20 hbD) | (refine b_step ?_ ?_ <;> assumption))
    (first | (go_at_call 15; (with_reducible refine (HhP1.out _).mono ?_); rintro e w20 ⟨rfl, hb20⟩) | (go_at_call 15; (with_reducible refine (HhP2.out _).mono ?_); rintro e w21 ⟨rfl, hb21⟩) | (go_at_call 14; (with_reducible refine (HhL1.out _).mono ?_); rintro e w22 ⟨rfl, hb22⟩) | (go_at_call 15; (with_reducible refine (HhP3.out _).mono ?_); rintro e w23 ⟨rfl, hb23⟩) | (go_at_call 15; (with_reducible refine (HhP4.out _).mono ?_); rintro e w24 ⟨rfl, hb24⟩) | (go_at_call 14; (with_reducible refine (HhL2.out _).mono ?_); rintro e w25 ⟨rfl, hb25⟩))
  clear p0 p1 p2 a0 a1 a2 t0 t1 t2 s0 s1 s2 q0 q1 q2
  clear hv6
  have hbT : RowKit.Below v6.heap.size v6 w25 := (b_step hb25 (b_step hb24 (b_step hb23 (b_step hb22 (b_step hb21 (b_step hb20 hbD))))))
  have hS25 : RowKit.Below w.heap.size w w25 ∧ Blk w25 (w.heap.size) (#[.bool a.neg, .string (decB a.n), .int .i64 (a.s : Int)]) 23 ∧ Blk w25 (w.heap.size + 1) (#[.bool b.neg, .string (decB b.n), .int .i64 (b.s : Int)]) 23 ∧ Blk w25 (w2.heap.size) (#[.bool false, .string ⟨#[49]⟩, .int .i64 (sc : Int)]) 23 ∧ Blk w25 (w3.heap.size) (#[.bool q.neg, .string (decB q.n), .int .i64 (q.s : Int)]) 23 ∧ Blk w25 (w4.heap.size) (#[.bool p.neg, .string (decB p.n), .int .i64 (p.s : Int)]) 23 ∧ Blk w25 (w5.heap.size) (#[.bool rest.neg, .string (decB rest.n), .int .i64 (rest.s : Int)]) 23 ∧ Blk w25 (w6.heap.size) (#[.bool small.neg, .string (decB small.n), .int .i64 (small.s : Int)]) 23 := ⟨b_step hbT (HSB.out.1), (HSB.out.2.1).below (HSB.out.2.1).lt hbT, (HSB.out.2.2.1).below (HSB.out.2.2.1).lt hbT, (HSB.out.2.2.2.1).below (HSB.out.2.2.2.1).lt hbT, (HSB.out.2.2.2.2.1).below (HSB.out.2.2.2.2.1).lt hbT, (HSB.out.2.2.2.2.2.1).below (HSB.out.2.2.2.2.2.1).lt hbT, (HSB.out.2.2.2.2.2.2.1).below (HSB.out.2.2.2.2.2.2.1).lt hbT, (HSB.out.2.2.2.2.2.2.2).below (HSB.out.2.2.2.2.2.2.2).lt hbT⟩
  have hz25 : v6.heap.size ≤ w25.heap.size := hbT.size
  clear hbT hbD HSB hb20 hb21 hb22 hb23 hb24 hb25
  obtain ⟨a0, a1, a2, _, _, _⟩ := (hS25.2.1).three
  go_wp2_with (go_at_call 16; (with_reducible refine (HhRd.out _).mono ?_))
  first | rintro e7 w7 rfl hb7 | rintro e7 w7 ⟨rfl, hb7⟩
  clear a0 a1 a2
  clear HhP1 HhP2 HhP3 HhP4 HhL1 HhL2
  have hS7 : RowKit.Below w.heap.size w w7 ∧ Blk w7 (w.heap.size) (#[.bool a.neg, .string (decB a.n), .int .i64 (a.s : Int)]) 23 ∧ Blk w7 (w.heap.size + 1) (#[.bool b.neg, .string (decB b.n), .int .i64 (b.s : Int)]) 23 ∧ Blk w7 (w2.heap.size) (#[.bool false, .string ⟨#[49]⟩, .int .i64 (sc : Int)]) 23 ∧ Blk w7 (w3.heap.size) (#[.bool q.neg, .string (decB q.n), .int .i64 (q.s : Int)]) 23 ∧ Blk w7 (w4.heap.size) (#[.bool p.neg, .string (decB p.n), .int .i64 (p.s : Int)]) 23 ∧ Blk w7 (w5.heap.size) (#[.bool rest.neg, .string (decB rest.n), .int .i64 (rest.s : Int)]) 23 ∧ Blk w7 (w6.heap.size) (#[.bool small.neg, .string (decB small.n), .int .i64 (small.s : Int)]) 23 := ⟨b_step hb7 (hS25.1), (hS25.2.1).below (hS25.2.1).lt hb7, (hS25.2.2.1).below (hS25.2.2.1).lt hb7, (hS25.2.2.2.1).below (hS25.2.2.2.1).lt hb7, (hS25.2.2.2.2.1).below (hS25.2.2.2.2.1).lt hb7, (hS25.2.2.2.2.2.1).below (hS25.2.2.2.2.2.1).lt hb7, (hS25.2.2.2.2.2.2.1).below (hS25.2.2.2.2.2.2.1).lt hb7, (hS25.2.2.2.2.2.2.2).below (hS25.2.2.2.2.2.2.2).lt hb7⟩
  have hz7 : w25.heap.size ≤ w7.heap.size := hb7.size
  clear hS25 hb7
  have khS7 : RowKit.Below w.heap.size w w7 ∧ Blk w7 (w.heap.size) (#[.bool a.neg, .string (decB a.n), .int .i64 (a.s : Int)]) 23 ∧ Blk w7 (w.heap.size + 1) (#[.bool b.neg, .string (decB b.n), .int .i64 (b.s : Int)]) 23 ∧ Blk w7 (w2.heap.size) (#[.bool false, .string ⟨#[49]⟩, .int .i64 (sc : Int)]) 23 ∧ Blk w7 (w5.heap.size) (#[.bool rest.neg, .string (decB rest.n), .int .i64 (rest.s : Int)]) 23 := ⟨(hS7.1), (hS7.2.1), (hS7.2.2.1), (hS7.2.2.2.1), (hS7.2.2.2.2.2.2.1)⟩
  clear hS7
  obtain ⟨v7, hv7⟩ : ∃ v, w7.alloc (.cells #[.bool r.neg, .string (decB r.n), .int .i64 (r.s : Int)] 23) = v := ⟨_, rfl⟩
  have hT7 : RowKit.Below w.heap.size w v7 ∧ Blk v7 (w.heap.size) (#[.bool a.neg, .string (decB a.n), .int .i64 (a.s : Int)]) 23 ∧ Blk v7 (w.heap.size + 1) (#[.bool b.neg, .string (decB b.n), .int .i64 (b.s : Int)]) 23 ∧ Blk v7 (w2.heap.size) (#[.bool false, .string ⟨#[49]⟩, .int .i64 (sc : Int)]) 23 ∧ Blk v7 (w5.heap.size) (#[.bool rest.neg, .string (decB rest.n), .int .i64 (rest.s : Int)]) 23 ∧ Blk v7 (w7.heap.size) (#[.bool r.neg, .string (decB r.n), .int .i64 (r.s : Int)]) 23 := by rw [← hv7]; exact ⟨b_alloc (khS7.1), (khS7.2.1).alloc _, (khS7.2.2.1).alloc _, (khS7.2.2.2.1).alloc _, (khS7.2.2.2.2).alloc _, Blk.new w7 _ _⟩
  have hy7 : w7.heap.size < v7.heap.size := (hT7.2.2.2.2.2).lt
  clear khS7
  obtain ⟨a0, a1, a2, _, _, _⟩ := (hT7.2.1).three
  obtain ⟨r0, r1, r2, _, _, _⟩ := (hT7.2.2.2.2.2).three
  go_wp2_with (go_at_call 11; (with_reducible refine (HhSr.out _).mono ?_))
  first | rintro e8 w8 rfl hb8 | rintro e8 w8 ⟨rfl, hb8⟩
  clear a0 a1 a2 r0 r1 r2
  have hS8 : RowKit.Below w.heap.size w w8 ∧ Blk w8 (w.heap.size) (#[.bool a.neg, .string (decB a.n), .int .i64 (a.s : Int)]) 23 ∧ Blk w8 (w.heap.size + 1) (#[.bool b.neg, .string (decB b.n), .int .i64 (b.s : Int)]) 23 ∧ Blk w8 (w2.heap.size) (#[.bool false, .string ⟨#[49]⟩, .int .i64 (sc : Int)]) 23 ∧ Blk w8 (w5.heap.size) (#[.bool rest.neg, .string (decB rest.n), .int .i64 (rest.s : Int)]) 23 ∧ Blk w8 (w7.heap.size) (#[.bool r.neg, .string (decB r.n), .int .i64 (r.s : Int)]) 23 := ⟨b_step hb8 (hT7.1), (hT7.2.1).below (hT7.2.1).lt hb8, (hT7.2.2.1).below (hT7.2.2.1).lt hb8, (hT7.2.2.2.1).below (hT7.2.2.2.1).lt hb8, (hT7.2.2.2.2.1).below (hT7.2.2.2.2.1).lt hb8, (hT7.2.2.2.2.2).below (hT7.2.2.2.2.2).lt hb8⟩
  have hz8 : v7.heap.size ≤ w8.heap.size := hb8.size
  clear hT7 hb8
  clear hv7
  obtain ⟨y0, y1, y2, yf0, yf1, yf2⟩ := (hS8.2.2.2.2.1).three
  obtain ⟨v8, hv8⟩ : ∃ v, ((w8.setCell ⟨w5.heap.size, 0, none⟩ (.bool rs2.neg)).setCell ⟨w5.heap.size, 1, none⟩ (.string (decB rs2.n))).setCell ⟨w5.heap.size, 2, none⟩ (.int .i64 (rs2.s : Int)) = v := ⟨_, rfl⟩
  have hT8 : RowKit.Below w.heap.size w v8 ∧ Blk v8 (w.heap.size) (#[.bool a.neg, .string (decB a.n), .int .i64 (a.s : Int)]) 23 ∧ Blk v8 (w.heap.size + 1) (#[.bool b.neg, .string (decB b.n), .int .i64 (b.s : Int)]) 23 ∧ Blk v8 (w2.heap.size) (#[.bool false, .string ⟨#[49]⟩, .int .i64 (sc : Int)]) 23 ∧ Blk v8 (w5.heap.size) (#[.bool rs2.neg, .string (decB rs2.n), .int .i64 (rs2.s : Int)]) 23 ∧ Blk v8 (w7.heap.size) (#[.bool r.neg, .string (decB r.n), .int .i64 (r.s : Int)]) 23 := by rw [← hv8]; exact ⟨b_set3 (hS8.1) (by omega) _ _ _, (((hS8.2.1).other (i := 0) (by omega) _).other (i := 1) (by omega) _).other (i := 2) (by omega) _, (((hS8.2.2.1).other (i := 0) (by omega) _).other (i := 1) (by omega) _).other (i := 2) (by omega) _, (((hS8.2.2.2.1).other (i := 0) (by omega) _).other (i := 1) (by omega) _).other (i := 2) (by omega) _, (hS8.2.2.2.2.1).set3 _ _ _, (((hS8.2.2.2.2.2).other (i := 0) (by omega) _).other (i := 1) (by omega) _).other (i := 2) (by omega) _⟩
  have hy8 : w8.heap.size ≤ v8.heap.size := by rw [← hv8]; simp
  clear hS8
  obtain ⟨t0, t1, t2, _, _, _⟩ := (hT8.2.2.2.2.1).three
  go_wp2_with (go_at_call 9; (with_reducible refine (HhAt.out _).mono ?_))
  first | rintro e9 w9 rfl hb9 | rintro e9 w9 ⟨rfl, hb9⟩
  clear y0 y1 y2 yf0 yf1 yf2 t0 t1 t2
  have hS9 : RowKit.Below w.heap.size w w9 ∧ Blk w9 (w.heap.size) (#[.bool a.neg, .string (decB a.n), .int .i64 (a.s : Int)]) 23 ∧ Blk w9 (w.heap.size + 1) (#[.bool b.neg, .string (decB b.n), .int .i64 (b.s : Int)]) 23 ∧ Blk w9 (w2.heap.size) (#[.bool false, .string ⟨#[49]⟩, .int .i64 (sc : Int)]) 23 ∧ Blk w9 (w5.heap.size) (#[.bool rs2.neg, .string (decB rs2.n), .int .i64 (rs2.s : Int)]) 23 ∧ Blk w9 (w7.heap.size) (#[.bool r.neg, .string (decB r.n), .int .i64 (r.s : Int)]) 23 := ⟨b_step hb9 (hT8.1), (hT8.2.1).below (hT8.2.1).lt hb9, (hT8.2.2.1).below (hT8.2.2.1).lt hb9, (hT8.2.2.2.1).below (hT8.2.2.2.1).lt hb9, (hT8.2.2.2.2.1).below (hT8.2.2.2.2.1).lt hb9, (hT8.2.2.2.2.2).below (hT8.2.2.2.2.2).lt hb9⟩
  have hz9 : v8.heap.size ≤ w9.heap.size := hb9.size
  clear hT8 hb9
  clear hv8
  obtain ⟨v9, hv9⟩ : ∃ v, w9.alloc (.cells #[.bool tw.neg, .string (decB tw.n), .int .i64 (tw.s : Int)] 23) = v := ⟨_, rfl⟩
  have hT9 : RowKit.Below w.heap.size w v9 ∧ Blk v9 (w.heap.size) (#[.bool a.neg, .string (decB a.n), .int .i64 (a.s : Int)]) 23 ∧ Blk v9 (w.heap.size + 1) (#[.bool b.neg, .string (decB b.n), .int .i64 (b.s : Int)]) 23 ∧ Blk v9 (w2.heap.size) (#[.bool false, .string ⟨#[49]⟩, .int .i64 (sc : Int)]) 23 ∧ Blk v9 (w5.heap.size) (#[.bool rs2.neg, .string (decB rs2.n), .int .i64 (rs2.s : Int)]) 23 ∧ Blk v9 (w7.heap.size) (#[.bool r.neg, .string (decB r.n), .int .i64 (r.s : Int)]) 23 ∧ Blk v9 (w9.heap.size) (#[.bool tw.neg, .string (decB tw.n), .int .i64 (tw.s : Int)]) 23 := by rw [← hv9]; exact ⟨b_alloc (hS9.1), (hS9.2.1).alloc _, (hS9.2.2.1).alloc _, (hS9.2.2.2.1).alloc _, (hS9.2.2.2.2.1).alloc _, (hS9.2.2.2.2.2).alloc _, Blk.new w9 _ _⟩
  have hy9 : w9.heap.size < v9.heap.size := (hT9.2.2.2.2.2.2).lt
  clear hS9
  have HGW := Lib.hid (HG.out.later (hT9.1))
  have r0 := fun w' (h : RowKit.Below v9.heap.size v9 w') => (h.cell (p := ⟨w7.heap.size, 0, none⟩) (hT9.2.2.2.2.2.1).lt).trans ((hT9.2.2.2.2.2.1).cell 0)
  have r1 := fun w' (h : RowKit.Below v9.heap.size v9 w') => (h.cell (p := ⟨w7.heap.size, 1, none⟩) (hT9.2.2.2.2.2.1).lt).trans ((hT9.2.2.2.2.2.1).cell 1)
  have r2 := fun w' (h : RowKit.Below v9.heap.size v9 w') => (h.cell (p := ⟨w7.heap.size, 2, none⟩) (hT9.2.2.2.2.2.1).lt).trans ((hT9.2.2.2.2.2.1).cell 2)
  have x0 := fun w' (h : RowKit.Below v9.heap.size v9 w') => (h.cell (p := ⟨w9.heap.size, 0, none⟩) (hT9.2.2.2.2.2.2).lt).trans ((hT9.2.2.2.2.2.2).cell 0)
  have x1 := fun w' (h : RowKit.Below v9.heap.size v9 w') => (h.cell (p := ⟨w9.heap.size, 1, none⟩) (hT9.2.2.2.2.2.2).lt).trans ((hT9.2.2.2.2.2.2).cell 1)
  have x2 := fun w' (h : RowKit.Below v9.heap.size v9 w') => (h.cell (p := ⟨w9.heap.size, 2, none⟩) (hT9.2.2.2.2.2.2).lt).trans ((hT9.2.2.2.2.2.2).cell 2)
  have u0 := fun w' (h : RowKit.Below v9.heap.size v9 w') => (h.cell (p := ⟨w2.heap.size, 0, none⟩) (hT9.2.2.2.1).lt).trans ((hT9.2.2.2.1).cell 0)
  have u1 := fun w' (h : RowKit.Below v9.heap.size v9 w') => (h.cell (p := ⟨w2.heap.size, 1, none⟩) (hT9.2.2.2.1).lt).trans ((hT9.2.2.2.1).cell 1)
  have u2 := fun w' (h : RowKit.Below v9.heap.size v9 w') => (h.cell (p := ⟨w2.heap.size, 2, none⟩) (hT9.2.2.2.1).lt).trans ((hT9.2.2.2.1).cell 2)
  simp only [List.getElem?_toArray, List.getElem?_cons_zero, List.getElem?_cons_succ] at r0 r1 r2 x0 x1 x2 u0 u1 u2
  have hbD : RowKit.Below v9.heap.size v9 v9.drew := b_drew (Below.refl _ _)
  have HSB := Lib.hid hT9
  clear hT9
  go_upto_region 15 with fail
  go_region_held3 (fun w' => RowKit.Below v9.heap.size v9 w') (first | assumption | exact hbD | exact (b_step hb32 (b_step hb31 (b_step hb30 hbD))) | exact (b_step hb31 (b_step hb30 hbD)) | exact (b_step hb30 hbD) | (refine b_step ?_ ?_ <;> assumption))
    (first | (go_at_call 15; (with_reducible refine (HhP5.out _).mono ?_); rintro e w30 ⟨rfl, hb30⟩) | (go_at_call 14; (with_reducible refine (HhL3.out _).mono ?_); rintro e w31 ⟨rfl, hb31⟩) | (go_at_call 6; (with_reducible refine (hSh _ (HGW.out.later (b_step hb31 (b_step hb30 hbD)))).mono ?_); rintro e w32 ⟨rfl, hb32⟩))
  clear r0 r1 r2 x0 x1 x2 u0 u1 u2
  clear hv9
  have hbT : RowKit.Below v9.heap.size v9 w32 := (b_step hb32 (b_step hb31 (b_step hb30 hbD)))
  have hS32 : RowKit.Below w.heap.size w w32 ∧ Blk w32 (w.heap.size) (#[.bool a.neg, .string (decB a.n), .int .i64 (a.s : Int)]) 23 ∧ Blk w32 (w.heap.size + 1) (#[.bool b.neg, .string (decB b.n), .int .i64 (b.s : Int)]) 23 ∧ Blk w32 (w2.heap.size) (#[.bool false, .string ⟨#[49]⟩, .int .i64 (sc : Int)]) 23 ∧ Blk w32 (w5.heap.size) (#[.bool rs2.neg, .string (decB rs2.n), .int .i64 (rs2.s : Int)]) 23 ∧ Blk w32 (w7.heap.size) (#[.bool r.neg, .string (decB r.n), .int .i64 (r.s : Int)]) 23 ∧ Blk w32 (w9.heap.size) (#[.bool tw.neg, .string (decB tw.n), .int .i64 (tw.s : Int)]) 23 := ⟨b_step hbT (HSB.out.1), (HSB.out.2.1).below (HSB.out.2.1).lt hbT, (HSB.out.2.2.1).below (HSB.out.2.2.1).lt hbT, (HSB.out.2.2.2.1).below (HSB.out.2.2.2.1).lt hbT, (HSB.out.2.2.2.2.1).below (HSB.out.2.2.2.2.1).lt hbT, (HSB.out.2.2.2.2.2.1).below (HSB.out.2.2.2.2.2.1).lt hbT, (HSB.out.2.2.2.2.2.2).below (HSB.out.2.2.2.2.2.2).lt hbT⟩
  have hz32 : v9.heap.size ≤ w32.heap.size := hbT.size
  clear hbT hbD HSB hb30 hb31 hb32
  have HBz := Lib.hid (hS32.1)
  clear hS32
  go_wp2
  go_ret
  exact ⟨rfl, HBz.out⟩
set_option maxRecDepth 100000 in
set_option maxHeartbeats 16000000 in
theorem bounds_two (a b : V) (ha : a.ok) (hb : b.ok) (sc : Int) (w : World) (hG : G w) :
    Calls Tryd.prog 4 #[a.d.val, b.d.val, .int .i64 sc] w fun e w' => e = .returned (.bool true) ∧ RowKit.Below w.heap.size w w' := by
  by_cases hall : (dec a.n).length ≤ 20 ∧ (dec b.n).length ≤ 20 ∧ a.s ≤ 10 ∧ b.s ≤ 10 ∧ 0 ≤ sc ∧ sc ≤ 10 ∧ b.n ≠ 0
  · obtain ⟨k, rfl⟩ := Int.eq_ofNat_of_zero_le hall.2.2.2.2.1
    exact bounds_main a b ha hb k hall.1 hall.2.1 hall.2.2.1 hall.2.2.2.1 (by have := hall.2.2.2.2.2.1; omega) hall.2.2.2.2.2.2 w hG
  have la := ha.len
  have lb := hb.len
  have hC1 := fun W => Check_yes (V.check ha) (by show (decB a.n).size ≤ _; unfold maxLen; omega) W
  have hC2 := fun W => Check_yes (V.check hb) (by show (decB b.n).size ≤ _; unfold maxLen; omega) W
  rw [V.d_val] at hC1 hC2
  clear ha hb la lb
  obtain ⟨hb0, h1, h2⟩ := two_start w (.bool a.neg) (.string (decB a.n)) (.int .i64 (a.s : Int)) (.bool b.neg) (.string (decB b.n)) (.int .i64 (b.s : Int))
  obtain ⟨W0, hW0⟩ : ∃ W0, ((w.alloc (.cells #[.bool a.neg, .string (decB a.n), .int .i64 (a.s : Int)] 23)).alloc (.cells #[.bool b.neg, .string (decB b.n), .int .i64 (b.s : Int)] 23)) = W0 := ⟨_, rfl⟩
  rw [hW0] at hb0 h1 h2
  have hG0 := hG.later hb0
  have hSh := fun W hG => shown_any W hG
  have HB0 := Lib.hid hb0
  have HG := Lib.hid hG
  have HS0 : Hid (RowKit.Below w.heap.size w W0 ∧ Blk W0 (w.heap.size) (#[.bool a.neg, .string (decB a.n), .int .i64 (a.s : Int)]) 23 ∧ Blk W0 (w.heap.size + 1) (#[.bool b.neg, .string (decB b.n), .int .i64 (b.s : Int)]) 23) := ⟨hb0, h1, h2⟩
  obtain ⟨a0, a1, a2, _, _, _⟩ := h1.three
  obtain ⟨b0, b1, b2, _, _, _⟩ := h2.three
  have hz0 : w.heap.size + 2 ≤ W0.heap.size := by have := h2.lt; omega
  clear hb0 h1 h2 hG
  rw [V.d_val, V.d_val]
  clear hG0
  by_cases hc1 : 20 < ((dec a.n).length : Int)
  · have gc1 : decide (20 < ((dec a.n).length : Int)) = true := decide_eq_true hc1
    clear hall
    go_enter Tryd.func4, Tryd.ntmps4
    go_wp2_with (go_at_call 5; (with_reducible refine (hC1 _).mono ?_))
    first | rintro e1 w1 rfl hb1 | rintro e1 w1 ⟨rfl, hb1⟩
    clear a0 a1 a2 b0 b1 b2
    clear hC1
    have hS1 : RowKit.Below w.heap.size w w1 ∧ Blk w1 (w.heap.size) (#[.bool a.neg, .string (decB a.n), .int .i64 (a.s : Int)]) 23 ∧ Blk w1 (w.heap.size + 1) (#[.bool b.neg, .string (decB b.n), .int .i64 (b.s : Int)]) 23 := ⟨b_step hb1 (HS0.out.1), (HS0.out.2.1).below (HS0.out.2.1).lt hb1, (HS0.out.2.2).below (HS0.out.2.2).lt hb1⟩
    have hz1 : W0.heap.size ≤ w1.heap.size := hb1.size
    clear HS0 hb1
    clear hW0
    obtain ⟨a0, a1, a2, _, _, _⟩ := (hS1.2.1).three
    obtain ⟨b0, b1, b2, _, _, _⟩ := (hS1.2.2).three
    go_wp2_with (go_at_call 5; (with_reducible refine (hC2 _).mono ?_))
    first | rintro e2 w2 rfl hb2 | rintro e2 w2 ⟨rfl, hb2⟩
    clear a0 a1 a2 b0 b1 b2
    clear hC2
    have hS2 : RowKit.Below w.heap.size w w2 ∧ Blk w2 (w.heap.size) (#[.bool a.neg, .string (decB a.n), .int .i64 (a.s : Int)]) 23 ∧ Blk w2 (w.heap.size + 1) (#[.bool b.neg, .string (decB b.n), .int .i64 (b.s : Int)]) 23 := ⟨b_step hb2 (hS1.1), (hS1.2.1).below (hS1.2.1).lt hb2, (hS1.2.2).below (hS1.2.2).lt hb2⟩
    have hz2 : w1.heap.size ≤ w2.heap.size := hb2.size
    clear hS1 hb2
    obtain ⟨a0, a1, a2, _, _, _⟩ := (hS2.2.1).three
    obtain ⟨b0, b1, b2, _, _, _⟩ := (hS2.2.2).three
    have hGG := HG.out.later (hS2.1)
    have HBz := Lib.hid (hS2.1)
    clear hS2
    go_wp2_with (go_at_call 6; refine (hSh _ hGG).mono ?_)
    first | rintro e9 w9 rfl hb9 | rintro e9 w9 ⟨rfl, hb9⟩
    have HBy := Lib.hid (b_step hb9 HBz.out)
    clear hb9 a0 a1 a2 b0 b1 b2
    go_wp2
    go_ret
    exact ⟨rfl, HBy.out⟩
  have gc1 : decide (20 < ((dec a.n).length : Int)) = false := decide_eq_false hc1
  by_cases hc2 : 20 < ((dec b.n).length : Int)
  · have gc2 : decide (20 < ((dec b.n).length : Int)) = true := decide_eq_true hc2
    clear hall
    go_enter Tryd.func4, Tryd.ntmps4
    go_wp2_with (go_at_call 5; (with_reducible refine (hC1 _).mono ?_))
    first | rintro e1 w1 rfl hb1 | rintro e1 w1 ⟨rfl, hb1⟩
    clear a0 a1 a2 b0 b1 b2
    clear hC1
    have hS1 : RowKit.Below w.heap.size w w1 ∧ Blk w1 (w.heap.size) (#[.bool a.neg, .string (decB a.n), .int .i64 (a.s : Int)]) 23 ∧ Blk w1 (w.heap.size + 1) (#[.bool b.neg, .string (decB b.n), .int .i64 (b.s : Int)]) 23 := ⟨b_step hb1 (HS0.out.1), (HS0.out.2.1).below (HS0.out.2.1).lt hb1, (HS0.out.2.2).below (HS0.out.2.2).lt hb1⟩
    have hz1 : W0.heap.size ≤ w1.heap.size := hb1.size
    clear HS0 hb1
    clear hW0
    obtain ⟨a0, a1, a2, _, _, _⟩ := (hS1.2.1).three
    obtain ⟨b0, b1, b2, _, _, _⟩ := (hS1.2.2).three
    go_wp2_with (go_at_call 5; (with_reducible refine (hC2 _).mono ?_))
    first | rintro e2 w2 rfl hb2 | rintro e2 w2 ⟨rfl, hb2⟩
    clear a0 a1 a2 b0 b1 b2
    clear hC2
    have hS2 : RowKit.Below w.heap.size w w2 ∧ Blk w2 (w.heap.size) (#[.bool a.neg, .string (decB a.n), .int .i64 (a.s : Int)]) 23 ∧ Blk w2 (w.heap.size + 1) (#[.bool b.neg, .string (decB b.n), .int .i64 (b.s : Int)]) 23 := ⟨b_step hb2 (hS1.1), (hS1.2.1).below (hS1.2.1).lt hb2, (hS1.2.2).below (hS1.2.2).lt hb2⟩
    have hz2 : w1.heap.size ≤ w2.heap.size := hb2.size
    clear hS1 hb2
    obtain ⟨a0, a1, a2, _, _, _⟩ := (hS2.2.1).three
    obtain ⟨b0, b1, b2, _, _, _⟩ := (hS2.2.2).three
    have hGG := HG.out.later (hS2.1)
    have HBz := Lib.hid (hS2.1)
    clear hS2
    go_wp2_with (go_at_call 6; refine (hSh _ hGG).mono ?_)
    first | rintro e9 w9 rfl hb9 | rintro e9 w9 ⟨rfl, hb9⟩
    have HBy := Lib.hid (b_step hb9 HBz.out)
    clear hb9 a0 a1 a2 b0 b1 b2
    go_wp2
    go_ret
    exact ⟨rfl, HBy.out⟩
  have gc2 : decide (20 < ((dec b.n).length : Int)) = false := decide_eq_false hc2
  by_cases hc3 : 10 < (a.s : Int)
  · have gc3 : decide (10 < (a.s : Int)) = true := decide_eq_true hc3
    clear hall
    go_enter Tryd.func4, Tryd.ntmps4
    go_wp2_with (go_at_call 5; (with_reducible refine (hC1 _).mono ?_))
    first | rintro e1 w1 rfl hb1 | rintro e1 w1 ⟨rfl, hb1⟩
    clear a0 a1 a2 b0 b1 b2
    clear hC1
    have hS1 : RowKit.Below w.heap.size w w1 ∧ Blk w1 (w.heap.size) (#[.bool a.neg, .string (decB a.n), .int .i64 (a.s : Int)]) 23 ∧ Blk w1 (w.heap.size + 1) (#[.bool b.neg, .string (decB b.n), .int .i64 (b.s : Int)]) 23 := ⟨b_step hb1 (HS0.out.1), (HS0.out.2.1).below (HS0.out.2.1).lt hb1, (HS0.out.2.2).below (HS0.out.2.2).lt hb1⟩
    have hz1 : W0.heap.size ≤ w1.heap.size := hb1.size
    clear HS0 hb1
    clear hW0
    obtain ⟨a0, a1, a2, _, _, _⟩ := (hS1.2.1).three
    obtain ⟨b0, b1, b2, _, _, _⟩ := (hS1.2.2).three
    go_wp2_with (go_at_call 5; (with_reducible refine (hC2 _).mono ?_))
    first | rintro e2 w2 rfl hb2 | rintro e2 w2 ⟨rfl, hb2⟩
    clear a0 a1 a2 b0 b1 b2
    clear hC2
    have hS2 : RowKit.Below w.heap.size w w2 ∧ Blk w2 (w.heap.size) (#[.bool a.neg, .string (decB a.n), .int .i64 (a.s : Int)]) 23 ∧ Blk w2 (w.heap.size + 1) (#[.bool b.neg, .string (decB b.n), .int .i64 (b.s : Int)]) 23 := ⟨b_step hb2 (hS1.1), (hS1.2.1).below (hS1.2.1).lt hb2, (hS1.2.2).below (hS1.2.2).lt hb2⟩
    have hz2 : w1.heap.size ≤ w2.heap.size := hb2.size
    clear hS1 hb2
    obtain ⟨a0, a1, a2, _, _, _⟩ := (hS2.2.1).three
    obtain ⟨b0, b1, b2, _, _, _⟩ := (hS2.2.2).three
    have hGG := HG.out.later (hS2.1)
    have HBz := Lib.hid (hS2.1)
    clear hS2
    go_wp2_with (go_at_call 6; refine (hSh _ hGG).mono ?_)
    first | rintro e9 w9 rfl hb9 | rintro e9 w9 ⟨rfl, hb9⟩
    have HBy := Lib.hid (b_step hb9 HBz.out)
    clear hb9 a0 a1 a2 b0 b1 b2
    go_wp2
    go_ret
    exact ⟨rfl, HBy.out⟩
  have gc3 : decide (10 < (a.s : Int)) = false := decide_eq_false hc3
  by_cases hc4 : 10 < (b.s : Int)
  · have gc4 : decide (10 < (b.s : Int)) = true := decide_eq_true hc4
    clear hall
    go_enter Tryd.func4, Tryd.ntmps4
    go_wp2_with (go_at_call 5; (with_reducible refine (hC1 _).mono ?_))
    first | rintro e1 w1 rfl hb1 | rintro e1 w1 ⟨rfl, hb1⟩
    clear a0 a1 a2 b0 b1 b2
    clear hC1
    have hS1 : RowKit.Below w.heap.size w w1 ∧ Blk w1 (w.heap.size) (#[.bool a.neg, .string (decB a.n), .int .i64 (a.s : Int)]) 23 ∧ Blk w1 (w.heap.size + 1) (#[.bool b.neg, .string (decB b.n), .int .i64 (b.s : Int)]) 23 := ⟨b_step hb1 (HS0.out.1), (HS0.out.2.1).below (HS0.out.2.1).lt hb1, (HS0.out.2.2).below (HS0.out.2.2).lt hb1⟩
    have hz1 : W0.heap.size ≤ w1.heap.size := hb1.size
    clear HS0 hb1
    clear hW0
    obtain ⟨a0, a1, a2, _, _, _⟩ := (hS1.2.1).three
    obtain ⟨b0, b1, b2, _, _, _⟩ := (hS1.2.2).three
    go_wp2_with (go_at_call 5; (with_reducible refine (hC2 _).mono ?_))
    first | rintro e2 w2 rfl hb2 | rintro e2 w2 ⟨rfl, hb2⟩
    clear a0 a1 a2 b0 b1 b2
    clear hC2
    have hS2 : RowKit.Below w.heap.size w w2 ∧ Blk w2 (w.heap.size) (#[.bool a.neg, .string (decB a.n), .int .i64 (a.s : Int)]) 23 ∧ Blk w2 (w.heap.size + 1) (#[.bool b.neg, .string (decB b.n), .int .i64 (b.s : Int)]) 23 := ⟨b_step hb2 (hS1.1), (hS1.2.1).below (hS1.2.1).lt hb2, (hS1.2.2).below (hS1.2.2).lt hb2⟩
    have hz2 : w1.heap.size ≤ w2.heap.size := hb2.size
    clear hS1 hb2
    obtain ⟨a0, a1, a2, _, _, _⟩ := (hS2.2.1).three
    obtain ⟨b0, b1, b2, _, _, _⟩ := (hS2.2.2).three
    have hGG := HG.out.later (hS2.1)
    have HBz := Lib.hid (hS2.1)
    clear hS2
    go_wp2_with (go_at_call 6; refine (hSh _ hGG).mono ?_)
    first | rintro e9 w9 rfl hb9 | rintro e9 w9 ⟨rfl, hb9⟩
    have HBy := Lib.hid (b_step hb9 HBz.out)
    clear hb9 a0 a1 a2 b0 b1 b2
    go_wp2
    go_ret
    exact ⟨rfl, HBy.out⟩
  have gc4 : decide (10 < (b.s : Int)) = false := decide_eq_false hc4
  by_cases hc5 : sc < 0
  · have gc5 : decide (sc < 0) = true := decide_eq_true hc5
    clear hall
    go_enter Tryd.func4, Tryd.ntmps4
    go_wp2_with (go_at_call 5; (with_reducible refine (hC1 _).mono ?_))
    first | rintro e1 w1 rfl hb1 | rintro e1 w1 ⟨rfl, hb1⟩
    clear a0 a1 a2 b0 b1 b2
    clear hC1
    have hS1 : RowKit.Below w.heap.size w w1 ∧ Blk w1 (w.heap.size) (#[.bool a.neg, .string (decB a.n), .int .i64 (a.s : Int)]) 23 ∧ Blk w1 (w.heap.size + 1) (#[.bool b.neg, .string (decB b.n), .int .i64 (b.s : Int)]) 23 := ⟨b_step hb1 (HS0.out.1), (HS0.out.2.1).below (HS0.out.2.1).lt hb1, (HS0.out.2.2).below (HS0.out.2.2).lt hb1⟩
    have hz1 : W0.heap.size ≤ w1.heap.size := hb1.size
    clear HS0 hb1
    clear hW0
    obtain ⟨a0, a1, a2, _, _, _⟩ := (hS1.2.1).three
    obtain ⟨b0, b1, b2, _, _, _⟩ := (hS1.2.2).three
    go_wp2_with (go_at_call 5; (with_reducible refine (hC2 _).mono ?_))
    first | rintro e2 w2 rfl hb2 | rintro e2 w2 ⟨rfl, hb2⟩
    clear a0 a1 a2 b0 b1 b2
    clear hC2
    have hS2 : RowKit.Below w.heap.size w w2 ∧ Blk w2 (w.heap.size) (#[.bool a.neg, .string (decB a.n), .int .i64 (a.s : Int)]) 23 ∧ Blk w2 (w.heap.size + 1) (#[.bool b.neg, .string (decB b.n), .int .i64 (b.s : Int)]) 23 := ⟨b_step hb2 (hS1.1), (hS1.2.1).below (hS1.2.1).lt hb2, (hS1.2.2).below (hS1.2.2).lt hb2⟩
    have hz2 : w1.heap.size ≤ w2.heap.size := hb2.size
    clear hS1 hb2
    obtain ⟨a0, a1, a2, _, _, _⟩ := (hS2.2.1).three
    obtain ⟨b0, b1, b2, _, _, _⟩ := (hS2.2.2).three
    have hGG := HG.out.later (hS2.1)
    have HBz := Lib.hid (hS2.1)
    clear hS2
    go_wp2_with (go_at_call 6; refine (hSh _ hGG).mono ?_)
    first | rintro e9 w9 rfl hb9 | rintro e9 w9 ⟨rfl, hb9⟩
    have HBy := Lib.hid (b_step hb9 HBz.out)
    clear hb9 a0 a1 a2 b0 b1 b2
    go_wp2
    go_ret
    exact ⟨rfl, HBy.out⟩
  have gc5 : decide (sc < 0) = false := decide_eq_false hc5
  by_cases hc6 : 10 < sc
  · have gc6 : decide (10 < sc) = true := decide_eq_true hc6
    clear hall
    go_enter Tryd.func4, Tryd.ntmps4
    go_wp2_with (go_at_call 5; (with_reducible refine (hC1 _).mono ?_))
    first | rintro e1 w1 rfl hb1 | rintro e1 w1 ⟨rfl, hb1⟩
    clear a0 a1 a2 b0 b1 b2
    clear hC1
    have hS1 : RowKit.Below w.heap.size w w1 ∧ Blk w1 (w.heap.size) (#[.bool a.neg, .string (decB a.n), .int .i64 (a.s : Int)]) 23 ∧ Blk w1 (w.heap.size + 1) (#[.bool b.neg, .string (decB b.n), .int .i64 (b.s : Int)]) 23 := ⟨b_step hb1 (HS0.out.1), (HS0.out.2.1).below (HS0.out.2.1).lt hb1, (HS0.out.2.2).below (HS0.out.2.2).lt hb1⟩
    have hz1 : W0.heap.size ≤ w1.heap.size := hb1.size
    clear HS0 hb1
    clear hW0
    obtain ⟨a0, a1, a2, _, _, _⟩ := (hS1.2.1).three
    obtain ⟨b0, b1, b2, _, _, _⟩ := (hS1.2.2).three
    go_wp2_with (go_at_call 5; (with_reducible refine (hC2 _).mono ?_))
    first | rintro e2 w2 rfl hb2 | rintro e2 w2 ⟨rfl, hb2⟩
    clear a0 a1 a2 b0 b1 b2
    clear hC2
    have hS2 : RowKit.Below w.heap.size w w2 ∧ Blk w2 (w.heap.size) (#[.bool a.neg, .string (decB a.n), .int .i64 (a.s : Int)]) 23 ∧ Blk w2 (w.heap.size + 1) (#[.bool b.neg, .string (decB b.n), .int .i64 (b.s : Int)]) 23 := ⟨b_step hb2 (hS1.1), (hS1.2.1).below (hS1.2.1).lt hb2, (hS1.2.2).below (hS1.2.2).lt hb2⟩
    have hz2 : w1.heap.size ≤ w2.heap.size := hb2.size
    clear hS1 hb2
    obtain ⟨a0, a1, a2, _, _, _⟩ := (hS2.2.1).three
    obtain ⟨b0, b1, b2, _, _, _⟩ := (hS2.2.2).three
    have hGG := HG.out.later (hS2.1)
    have HBz := Lib.hid (hS2.1)
    clear hS2
    go_wp2_with (go_at_call 6; refine (hSh _ hGG).mono ?_)
    first | rintro e9 w9 rfl hb9 | rintro e9 w9 ⟨rfl, hb9⟩
    have HBy := Lib.hid (b_step hb9 HBz.out)
    clear hb9 a0 a1 a2 b0 b1 b2
    go_wp2
    go_ret
    exact ⟨rfl, HBy.out⟩
  have gc6 : decide (10 < sc) = false := decide_eq_false hc6
  have h7 : b.n = 0 := by
    by_cases e : b.n = 0
    · exact e
    · exact absurd ⟨by omega, by omega, by omega, by omega, by omega, by omega, e⟩ hall
  have hzz : dec b.n = [48] := by rw [h7]; exact dec_zero
  have hzb : (dec b.n == [48]) = true := by rw [hzz]; rfl
  clear hall h7
  go_enter Tryd.func4, Tryd.ntmps4
  go_wp2_with (go_at_call 5; (with_reducible refine (hC1 _).mono ?_))
  first | rintro e1 w1 rfl hb1 | rintro e1 w1 ⟨rfl, hb1⟩
  clear a0 a1 a2 b0 b1 b2
  clear hC1
  have hS1 : RowKit.Below w.heap.size w w1 ∧ Blk w1 (w.heap.size) (#[.bool a.neg, .string (decB a.n), .int .i64 (a.s : Int)]) 23 ∧ Blk w1 (w.heap.size + 1) (#[.bool b.neg, .string (decB b.n), .int .i64 (b.s : Int)]) 23 := ⟨b_step hb1 (HS0.out.1), (HS0.out.2.1).below (HS0.out.2.1).lt hb1, (HS0.out.2.2).below (HS0.out.2.2).lt hb1⟩
  have hz1 : W0.heap.size ≤ w1.heap.size := hb1.size
  clear HS0 hb1
  clear hW0
  obtain ⟨a0, a1, a2, _, _, _⟩ := (hS1.2.1).three
  obtain ⟨b0, b1, b2, _, _, _⟩ := (hS1.2.2).three
  go_wp2_with (go_at_call 5; (with_reducible refine (hC2 _).mono ?_))
  first | rintro e2 w2 rfl hb2 | rintro e2 w2 ⟨rfl, hb2⟩
  clear a0 a1 a2 b0 b1 b2
  clear hC2
  have hS2 : RowKit.Below w.heap.size w w2 ∧ Blk w2 (w.heap.size) (#[.bool a.neg, .string (decB a.n), .int .i64 (a.s : Int)]) 23 ∧ Blk w2 (w.heap.size + 1) (#[.bool b.neg, .string (decB b.n), .int .i64 (b.s : Int)]) 23 := ⟨b_step hb2 (hS1.1), (hS1.2.1).below (hS1.2.1).lt hb2, (hS1.2.2).below (hS1.2.2).lt hb2⟩
  have hz2 : w1.heap.size ≤ w2.heap.size := hb2.size
  clear hS1 hb2
  obtain ⟨a0, a1, a2, _, _, _⟩ := (hS2.2.1).three
  obtain ⟨b0, b1, b2, _, _, _⟩ := (hS2.2.2).three
  have hGG := HG.out.later (hS2.1)
  have HBz := Lib.hid (hS2.1)
  clear hS2
  go_wp2_with (go_at_call 6; refine (hSh _ hGG).mono ?_)
  first | rintro e9 w9 rfl hb9 | rintro e9 w9 ⟨rfl, hb9⟩
  have HBy := Lib.hid (b_step hb9 HBz.out)
  clear hb9 a0 a1 a2 b0 b1 b2
  go_wp2
  go_ret
  exact ⟨rfl, HBy.out⟩
set_option maxRecDepth 100000 in
set_option maxHeartbeats 16000000 in
theorem DecimalBounds_any (d x : D) (sc : Int) (hd : d.s.size ≤ maxLen) (hx : x.s.size ≤ maxLen) (w : World) (hG : G w) :
    Calls Tryd.prog 4 #[d.val, x.val, .int .i64 sc] w fun e w' => e = .returned (.bool true) ∧ RowKit.Below w.heap.size w w' := by
  have hC1 := fun W => Check_any d hd W
  have hC2 := fun W => Check_any x hx W
  cases hc1 : d.check with
  | false =>
    rw [hc1, if_neg Bool.false_ne_true, d_box] at hC1
    rw [d_box, d_box]
    clear hc1 hC2 hd hx
    obtain ⟨hb0, h1, h2⟩ := two_start w (.bool d.neg) (.string d.s) (.int .i64 d.sc) (.bool x.neg) (.string x.s) (.int .i64 x.sc)
    obtain ⟨W0, hW0⟩ : ∃ W0, ((w.alloc (.cells #[.bool d.neg, .string d.s, .int .i64 d.sc] 23)).alloc (.cells #[.bool x.neg, .string x.s, .int .i64 x.sc] 23)) = W0 := ⟨_, rfl⟩
    rw [hW0] at hb0 h1 h2
    have hG0 := hG.later hb0
    have hSh := fun W hG => shown_any W hG
    have HB0 := Lib.hid hb0
    have HG := Lib.hid hG
    have HS0 : Hid (RowKit.Below w.heap.size w W0 ∧ Blk W0 (w.heap.size) (#[.bool d.neg, .string d.s, .int .i64 d.sc]) 23 ∧ Blk W0 (w.heap.size + 1) (#[.bool x.neg, .string x.s, .int .i64 x.sc]) 23) := ⟨hb0, h1, h2⟩
    obtain ⟨a0, a1, a2, _, _, _⟩ := h1.three
    obtain ⟨b0, b1, b2, _, _, _⟩ := h2.three
    have hz0 : w.heap.size + 2 ≤ W0.heap.size := by have := h2.lt; omega
    clear hb0 h1 h2 hG
    clear hG0
    go_enter Tryd.func4, Tryd.ntmps4
    go_wp2_with (go_at_call 5; (with_reducible refine (hC1 _).mono ?_))
    first | rintro e1 w1 rfl hb1 | rintro e1 w1 ⟨rfl, hb1⟩
    clear a0 a1 a2 b0 b1 b2
    clear hC1
    have hS1 : RowKit.Below w.heap.size w w1 ∧ Blk w1 (w.heap.size) (#[.bool d.neg, .string d.s, .int .i64 d.sc]) 23 ∧ Blk w1 (w.heap.size + 1) (#[.bool x.neg, .string x.s, .int .i64 x.sc]) 23 := ⟨b_step hb1 (HS0.out.1), (HS0.out.2.1).below (HS0.out.2.1).lt hb1, (HS0.out.2.2).below (HS0.out.2.2).lt hb1⟩
    have hz1 : W0.heap.size ≤ w1.heap.size := hb1.size
    clear HS0 hb1
    clear hW0
    obtain ⟨a0, a1, a2, _, _, _⟩ := (hS1.2.1).three
    obtain ⟨b0, b1, b2, _, _, _⟩ := (hS1.2.2).three
    have hGG := HG.out.later (hS1.1)
    have HBz := Lib.hid (hS1.1)
    clear hS1
    go_wp2_with (go_at_call 6; refine (hSh _ hGG).mono ?_)
    first | rintro e9 w9 rfl hb9 | rintro e9 w9 ⟨rfl, hb9⟩
    have HBy := Lib.hid (b_step hb9 HBz.out)
    clear hb9 a0 a1 a2 b0 b1 b2
    go_wp2
    go_ret
    exact ⟨rfl, HBy.out⟩
  | true =>
    cases hc2 : x.check with
    | false =>
      rw [hc1, if_pos rfl, d_box] at hC1
      rw [hc2, if_neg Bool.false_ne_true, d_box] at hC2
      rw [d_box, d_box]
      clear hc1 hc2 hd hx
      obtain ⟨hb0, h1, h2⟩ := two_start w (.bool d.neg) (.string d.s) (.int .i64 d.sc) (.bool x.neg) (.string x.s) (.int .i64 x.sc)
      obtain ⟨W0, hW0⟩ : ∃ W0, ((w.alloc (.cells #[.bool d.neg, .string d.s, .int .i64 d.sc] 23)).alloc (.cells #[.bool x.neg, .string x.s, .int .i64 x.sc] 23)) = W0 := ⟨_, rfl⟩
      rw [hW0] at hb0 h1 h2
      have hG0 := hG.later hb0
      have hSh := fun W hG => shown_any W hG
      have HB0 := Lib.hid hb0
      have HG := Lib.hid hG
      have HS0 : Hid (RowKit.Below w.heap.size w W0 ∧ Blk W0 (w.heap.size) (#[.bool d.neg, .string d.s, .int .i64 d.sc]) 23 ∧ Blk W0 (w.heap.size + 1) (#[.bool x.neg, .string x.s, .int .i64 x.sc]) 23) := ⟨hb0, h1, h2⟩
      obtain ⟨a0, a1, a2, _, _, _⟩ := h1.three
      obtain ⟨b0, b1, b2, _, _, _⟩ := h2.three
      have hz0 : w.heap.size + 2 ≤ W0.heap.size := by have := h2.lt; omega
      clear hb0 h1 h2 hG
      clear hG0
      go_enter Tryd.func4, Tryd.ntmps4
      go_wp2_with (go_at_call 5; (with_reducible refine (hC1 _).mono ?_))
      first | rintro e1 w1 rfl hb1 | rintro e1 w1 ⟨rfl, hb1⟩
      clear a0 a1 a2 b0 b1 b2
      clear hC1
      have hS1 : RowKit.Below w.heap.size w w1 ∧ Blk w1 (w.heap.size) (#[.bool d.neg, .string d.s, .int .i64 d.sc]) 23 ∧ Blk w1 (w.heap.size + 1) (#[.bool x.neg, .string x.s, .int .i64 x.sc]) 23 := ⟨b_step hb1 (HS0.out.1), (HS0.out.2.1).below (HS0.out.2.1).lt hb1, (HS0.out.2.2).below (HS0.out.2.2).lt hb1⟩
      have hz1 : W0.heap.size ≤ w1.heap.size := hb1.size
      clear HS0 hb1
      clear hW0
      obtain ⟨a0, a1, a2, _, _, _⟩ := (hS1.2.1).three
      obtain ⟨b0, b1, b2, _, _, _⟩ := (hS1.2.2).three
      go_wp2_with (go_at_call 5; (with_reducible refine (hC2 _).mono ?_))
      first | rintro e2 w2 rfl hb2 | rintro e2 w2 ⟨rfl, hb2⟩
      clear a0 a1 a2 b0 b1 b2
      clear hC2
      have hS2 : RowKit.Below w.heap.size w w2 ∧ Blk w2 (w.heap.size) (#[.bool d.neg, .string d.s, .int .i64 d.sc]) 23 ∧ Blk w2 (w.heap.size + 1) (#[.bool x.neg, .string x.s, .int .i64 x.sc]) 23 := ⟨b_step hb2 (hS1.1), (hS1.2.1).below (hS1.2.1).lt hb2, (hS1.2.2).below (hS1.2.2).lt hb2⟩
      have hz2 : w1.heap.size ≤ w2.heap.size := hb2.size
      clear hS1 hb2
      obtain ⟨a0, a1, a2, _, _, _⟩ := (hS2.2.1).three
      obtain ⟨b0, b1, b2, _, _, _⟩ := (hS2.2.2).three
      have hGG := HG.out.later (hS2.1)
      have HBz := Lib.hid (hS2.1)
      clear hS2
      go_wp2_with (go_at_call 6; refine (hSh _ hGG).mono ?_)
      first | rintro e9 w9 rfl hb9 | rintro e9 w9 ⟨rfl, hb9⟩
      have HBy := Lib.hid (b_step hb9 HBz.out)
      clear hb9 a0 a1 a2 b0 b1 b2
      go_wp2
      go_ret
      exact ⟨rfl, HBy.out⟩
    | true =>
      obtain ⟨a, ha, rfl⟩ := D.of_check hc1
      obtain ⟨b, hb, rfl⟩ := D.of_check hc2
      exact bounds_two a b ha hb sc w hG
end Dc
end Go.Proofs.YthnpbkplcboejaaDoor
