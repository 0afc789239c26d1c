/- Decimal: DecimalLaws. -/
import Derived.Test.YthnpbkplcboejaaDoorHb
set_option linter.unusedSimpArgs false
set_option linter.unusedVariables false
namespace Go.Proofs.YthnpbkplcboejaaDoor
open Go.RowKit Go.Shelf Go.Lib Go.Sort
namespace Dc
theorem err_val (k : Int) : (R.err k).val = .tuple #[.agg #[.bool false, .string ⟨#[]⟩, .int .i64 0], .int .i64 k] := rfl
theorem three_boxes (w : World) (A0 A1 A2 B0 B1 B2 C0 C1 C2 : Value) : RowKit.Below w.heap.size w (((w.alloc (.cells #[A0, A1, A2] 23)).alloc (.cells #[B0, B1, B2] 23)).alloc (.cells #[C0, C1, C2] 23)) ∧
    Blk (((w.alloc (.cells #[A0, A1, A2] 23)).alloc (.cells #[B0, B1, B2] 23)).alloc (.cells #[C0, C1, C2] 23)) w.heap.size #[A0, A1, A2] 23 ∧
    Blk (((w.alloc (.cells #[A0, A1, A2] 23)).alloc (.cells #[B0, B1, B2] 23)).alloc (.cells #[C0, C1, C2] 23)) (w.heap.size + 1) #[B0, B1, B2] 23 ∧
    Blk (((w.alloc (.cells #[A0, A1, A2] 23)).alloc (.cells #[B0, B1, B2] 23)).alloc (.cells #[C0, C1, C2] 23)) (w.heap.size + 1 + 1) #[C0, C1, C2] 23 := by
  have h1 := Blk.new w #[A0, A1, A2] 23
  have h2 := Blk.new (w.alloc (.cells #[A0, A1, A2] 23)) #[B0, B1, B2] 23
  have h3 := Blk.new ((w.alloc (.cells #[A0, A1, A2] 23)).alloc (.cells #[B0, B1, B2] 23)) #[C0, C1, C2] 23
  simp only [World.size_alloc] at h2 h3
  exact ⟨b_alloc (b_alloc ((Below.refl _ w).alloc (Nat.le_refl _) _)), (h1.alloc _).alloc _, h2.alloc _, h3⟩
set_option maxRecDepth 100000 in
set_option maxHeartbeats 16000000 in
theorem laws_ee (a b c : V) (ha : a.ok) (hb : b.ok) (hc : c.ok) (hA : addS a b = .err 7) (hD : subS a b = .err 7) (w : World) (hG : G w) :
    Calls Tryd.prog 3 #[a.d.val, b.d.val, c.d.val] w fun e w' => e = .returned (.bool true) ∧ RowKit.Below w.heap.size w w' := by
  have la := ha.len
  have lb := hb.len
  have lc := hc.len
  have la2 : (dec a.n).length ≤ 60 := by rw [← decB_size]; exact la
  have lb2 : (dec b.n).length ≤ 60 := by rw [← decB_size]; exact lb
  have lc2 : (dec c.n).length ≤ 60 := by rw [← decB_size]; exact lc
  have la3 : decide (400 < ((dec a.n).length : Int)) = false := decide_eq_false (by omega)
  have lb3 : decide (400 < ((dec b.n).length : Int)) = false := decide_eq_false (by omega)
  have lc3 : decide (400 < ((dec c.n).length : Int)) = false := decide_eq_false (by omega)
  have hC1 := fun W => Check_yes (V.check ha) (by show (decB a.n).size ≤ _; unfold maxLen; omega) W
  have hC2 := fun W => Check_yes (V.check hb) (by show (decB b.n).size ≤ _; unfold maxLen; omega) W
  have hC3 := fun W => Check_yes (V.check hc) (by show (decB c.n).size ≤ _; unfold maxLen; omega) W
  have hT := fun W => Text_ok a ha W
  have htl := text_len ha
  have hrt := read_text ha
  obtain ⟨t, ht⟩ : ∃ t : ByteArray, (⟨(textL a).toArray⟩ : ByteArray) = t := ⟨_, rfl⟩
  have htd : t.data.toList = textL a := by rw [← ht]
  rw [ht] at hT
  have hR := fun W hG => Read_any t (by rw [← size_list', htd]; omega) W hG
  rw [htd, hrt, R.ok_val] at hR
  have hA1 := fun W => Add_ok a b ha hb W
  have hA2 := fun W => Add_ok b a hb ha W
  rw [add_comm' b a] at hA2
  rw [hA] at hA1 hA2
  have hM1 := fun W => Mul_ok a b ha hb W
  have hM2 := fun W => Mul_ok b a hb ha W
  rw [mul_comm' b a] at hM2
  have hS1 := fun W => Sub_ok a b ha hb W
  rw [hD] at hS1
  have hK := fun W => Cmp_ok a b ha hb W
  have hXS := sub_cmp (d := V.zero) ha hb
  obtain ⟨k, hk⟩ : ∃ k, cmpS a b = k := ⟨_, rfl⟩
  rw [hk] at hK hXS
  obtain ⟨rM, hrM⟩ : ∃ r, mulS a b = r := ⟨_, rfl⟩
  rw [hrM] at hM1 hM2
  simp only [R.val_eq] at hM1 hM2
  obtain ⟨m0, hm0⟩ : ∃ y, rM.d.neg = y := ⟨_, rfl⟩
  obtain ⟨m1, hm1⟩ : ∃ y, rM.d.s = y := ⟨_, rfl⟩
  obtain ⟨m2, hm2⟩ : ∃ y, rM.d.sc = y := ⟨_, rfl⟩
  obtain ⟨m3, hm3⟩ : ∃ y, rM.no = y := ⟨_, rfl⟩
  simp only [hm0, hm1, hm2, hm3] at hM1 hM2
  clear hm0 hm1 hm2 hm3
  simp only [R.ok_val, err_val, V.d_val] at hC1 hC2 hC3 hT hR hA1 hA2 hM1 hM2 hS1 hK
  obtain ⟨hb0, h1, h2, h3⟩ := three_boxes w (.bool a.neg) (.string (decB a.n)) (.int .i64 (a.s : Int)) (.bool b.neg) (.string (decB b.n)) (.int .i64 (b.s : Int)) (.bool c.neg) (.string (decB c.n)) (.int .i64 (c.s : Int))
  obtain ⟨W0, hW0⟩ : ∃ W0, (((w.alloc (.cells #[.bool a.neg, .string (decB a.n), .int .i64 (a.s : Int)] 23)).alloc (.cells #[.bool b.neg, .string (decB b.n), .int .i64 (b.s : Int)] 23)).alloc (.cells #[.bool c.neg, .string (decB c.n), .int .i64 (c.s : Int)] 23)) = W0 := ⟨_, rfl⟩
  rw [hW0] at hb0 h1 h2 h3
  have hG0 := hG.later hb0
  have hSh := fun W hG => shown_any W hG
  have HB0 := Lib.hid hb0
  have HG := Lib.hid hG
  have HS0 : Hid (RowKit.Below w.heap.size w W0 ∧ Blk W0 (w.heap.size) (#[.bool a.neg, .string (decB a.n), .int .i64 (a.s : Int)]) 23 ∧ Blk W0 (w.heap.size + 1) (#[.bool b.neg, .string (decB b.n), .int .i64 (b.s : Int)]) 23 ∧ Blk W0 (w.heap.size + 1 + 1) (#[.bool c.neg, .string (decB c.n), .int .i64 (c.s : Int)]) 23) := ⟨hb0, h1, h2, h3⟩
  obtain ⟨a0, a1, a2, _, _, _⟩ := h1.three
  obtain ⟨b0, b1, b2, _, _, _⟩ := h2.three
  obtain ⟨c0, c1, c2, _, _, _⟩ := h3.three
  have hz0 : w.heap.size + 3 ≤ W0.heap.size := by have := h3.lt; omega
  clear hb0 h1 h2 h3 hG
  rw [V.d_val, V.d_val, V.d_val]
  have HhC1 := Lib.hid hC1
  have HhC2 := Lib.hid hC2
  have HhC3 := Lib.hid hC3
  have HhT := Lib.hid hT
  have HhR := Lib.hid hR
  have HhA1 := Lib.hid hA1
  have HhA2 := Lib.hid hA2
  have HhM1 := Lib.hid hM1
  have HhM2 := Lib.hid hM2
  have HhS1 := Lib.hid hS1
  have HhK := Lib.hid hK
  clear hC1 hC2 hC3 hT hR hA1 hA2 hM1 hM2 hS1 hK hXS hk hrM htl hrt htd ht hA hD
  clear hG0
  go_enter Tryd.func3, Tryd.ntmps3
  go_wp2_with (go_at_call 5; (with_reducible refine (HhC1.out _).mono ?_))
  first | rintro e1 w1 rfl hb1 | rintro e1 w1 ⟨rfl, hb1⟩
  clear a0 a1 a2 b0 b1 b2 c0 c1 c2
  have hS1 : RowKit.Below w.heap.size w w1 ∧ Blk w1 (w.heap.size) (#[.bool a.neg, .string (decB a.n), .int .i64 (a.s : Int)]) 23 ∧ Blk w1 (w.heap.size + 1) (#[.bool b.neg, .string (decB b.n), .int .i64 (b.s : Int)]) 23 ∧ Blk w1 (w.heap.size + 1 + 1) (#[.bool c.neg, .string (decB c.n), .int .i64 (c.s : Int)]) 23 := ⟨b_step hb1 (HS0.out.1), (HS0.out.2.1).below (HS0.out.2.1).lt hb1, (HS0.out.2.2.1).below (HS0.out.2.2.1).lt hb1, (HS0.out.2.2.2).below (HS0.out.2.2.2).lt hb1⟩
  have hz1 : W0.heap.size ≤ w1.heap.size := hb1.size
  clear HS0 hb1
  clear hW0
  obtain ⟨b0, b1, b2, _, _, _⟩ := (hS1.2.2.1).three
  obtain ⟨c0, c1, c2, _, _, _⟩ := (hS1.2.2.2).three
  go_wp2_with (go_at_call 5; (with_reducible refine (HhC2.out _).mono ?_))
  first | rintro e2 w2 rfl hb2 | rintro e2 w2 ⟨rfl, hb2⟩
  clear b0 b1 b2 c0 c1 c2
  have hS2 : RowKit.Below w.heap.size w w2 ∧ Blk w2 (w.heap.size) (#[.bool a.neg, .string (decB a.n), .int .i64 (a.s : Int)]) 23 ∧ Blk w2 (w.heap.size + 1) (#[.bool b.neg, .string (decB b.n), .int .i64 (b.s : Int)]) 23 ∧ Blk w2 (w.heap.size + 1 + 1) (#[.bool c.neg, .string (decB c.n), .int .i64 (c.s : Int)]) 23 := ⟨b_step hb2 (hS1.1), (hS1.2.1).below (hS1.2.1).lt hb2, (hS1.2.2.1).below (hS1.2.2.1).lt hb2, (hS1.2.2.2).below (hS1.2.2.2).lt hb2⟩
  have hz2 : w1.heap.size ≤ w2.heap.size := hb2.size
  clear hS1 hb2
  obtain ⟨c0, c1, c2, _, _, _⟩ := (hS2.2.2.2).three
  go_wp2_with (go_at_call 5; (with_reducible refine (HhC3.out _).mono ?_))
  first | rintro e3 w3 rfl hb3 | rintro e3 w3 ⟨rfl, hb3⟩
  clear c0 c1 c2
  have hS3 : RowKit.Below w.heap.size w w3 ∧ Blk w3 (w.heap.size) (#[.bool a.neg, .string (decB a.n), .int .i64 (a.s : Int)]) 23 ∧ Blk w3 (w.heap.size + 1) (#[.bool b.neg, .string (decB b.n), .int .i64 (b.s : Int)]) 23 ∧ Blk w3 (w.heap.size + 1 + 1) (#[.bool c.neg, .string (decB c.n), .int .i64 (c.s : Int)]) 23 := ⟨b_step hb3 (hS2.1), (hS2.2.1).below (hS2.2.1).lt hb3, (hS2.2.2.1).below (hS2.2.2.1).lt hb3, (hS2.2.2.2).below (hS2.2.2.2).lt hb3⟩
  have hz3 : w2.heap.size ≤ w3.heap.size := hb3.size
  clear hS2 hb3
  obtain ⟨a0, a1, a2, _, _, _⟩ := (hS3.2.1).three
  go_wp2_with (go_at_call 7; (with_reducible refine (HhT.out _).mono ?_))
  first | rintro e4 w4 rfl hb4 | rintro e4 w4 ⟨rfl, hb4⟩
  clear a0 a1 a2
  have hS4 : RowKit.Below w.heap.size w w4 ∧ Blk w4 (w.heap.size) (#[.bool a.neg, .string (decB a.n), .int .i64 (a.s : Int)]) 23 ∧ Blk w4 (w.heap.size + 1) (#[.bool b.neg, .string (decB b.n), .int .i64 (b.s : Int)]) 23 ∧ Blk w4 (w.heap.size + 1 + 1) (#[.bool c.neg, .string (decB c.n), .int .i64 (c.s : Int)]) 23 := ⟨b_step hb4 (hS3.1), (hS3.2.1).below (hS3.2.1).lt hb4, (hS3.2.2.1).below (hS3.2.2.1).lt hb4, (hS3.2.2.2).below (hS3.2.2.2).lt hb4⟩
  have hz4 : w3.heap.size ≤ w4.heap.size := hb4.size
  clear hS3 hb4
  have hG4 := HG.out.later (hS4.1)
  go_wp2_with (go_at_call 8; (with_reducible refine (HhR.out _ hG4).mono ?_))
  first | rintro e5 w5 rfl hb5 | rintro e5 w5 ⟨rfl, hb5⟩
  clear hG4
  have hS5 : RowKit.Below w.heap.size w w5 ∧ Blk w5 (w.heap.size) (#[.bool a.neg, .string (decB a.n), .int .i64 (a.s : Int)]) 23 ∧ Blk w5 (w.heap.size + 1) (#[.bool b.neg, .string (decB b.n), .int .i64 (b.s : Int)]) 23 ∧ Blk w5 (w.heap.size + 1 + 1) (#[.bool c.neg, .string (decB c.n), .int .i64 (c.s : Int)]) 23 := ⟨b_step hb5 (hS4.1), (hS4.2.1).below (hS4.2.1).lt hb5, (hS4.2.2.1).below (hS4.2.2.1).lt hb5, (hS4.2.2.2).below (hS4.2.2.2).lt hb5⟩
  have hz5 : w4.heap.size ≤ w5.heap.size := hb5.size
  clear hS4 hb5
  obtain ⟨v5, hv5⟩ : ∃ v, w5.alloc (.cells #[.bool a.neg, .string (decB a.n), .int .i64 (a.s : Int)] 23) = v := ⟨_, rfl⟩
  have hT5 : RowKit.Below w.heap.size w v5 ∧ Blk v5 (w.heap.size) (#[.bool a.neg, .string (decB a.n), .int .i64 (a.s : Int)]) 23 ∧ Blk v5 (w.heap.size + 1) (#[.bool b.neg, .string (decB b.n), .int .i64 (b.s : Int)]) 23 ∧ Blk v5 (w.heap.size + 1 + 1) (#[.bool c.neg, .string (decB c.n), .int .i64 (c.s : Int)]) 23 ∧ Blk v5 (w5.heap.size) (#[.bool a.neg, .string (decB a.n), .int .i64 (a.s : Int)]) 23 := by rw [← hv5]; exact ⟨b_alloc (hS5.1), (hS5.2.1).alloc _, (hS5.2.2.1).alloc _, (hS5.2.2.2).alloc _, Blk.new w5 _ _⟩
  have hy5 : w5.heap.size < v5.heap.size := (hT5.2.2.2.2).lt
  clear hS5
  have nA := fun W => L_ne_self a.neg (decB a.n) (a.s : Int) W
  have gA := fun op px py W => L_guard op px py a.neg (decB a.n) (a.s : Int) a.neg (decB a.n) (a.s : Int) W
  obtain ⟨a0, a1, a2, _, _, _⟩ := (hT5.2.1).three
  obtain ⟨b0, b1, b2, _, _, _⟩ := (hT5.2.2.1).three
  obtain ⟨u0, u1, u2, _, _, _⟩ := (hT5.2.2.2.2).three
  go_wp2_with (go_at_call 9; (with_reducible refine (HhA1.out _).mono ?_))
  first | rintro e6 w6 rfl hb6 | rintro e6 w6 ⟨rfl, hb6⟩
  clear a0 a1 a2 b0 b1 b2 u0 u1 u2
  clear nA gA
  have hS6 : RowKit.Below w.heap.size w w6 ∧ Blk w6 (w.heap.size) (#[.bool a.neg, .string (decB a.n), .int .i64 (a.s : Int)]) 23 ∧ Blk w6 (w.heap.size + 1) (#[.bool b.neg, .string (decB b.n), .int .i64 (b.s : Int)]) 23 ∧ Blk w6 (w.heap.size + 1 + 1) (#[.bool c.neg, .string (decB c.n), .int .i64 (c.s : Int)]) 23 ∧ Blk w6 (w5.heap.size) (#[.bool a.neg, .string (decB a.n), .int .i64 (a.s : Int)]) 23 := ⟨b_step hb6 (hT5.1), (hT5.2.1).below (hT5.2.1).lt hb6, (hT5.2.2.1).below (hT5.2.2.1).lt hb6, (hT5.2.2.2.1).below (hT5.2.2.2.1).lt hb6, (hT5.2.2.2.2).below (hT5.2.2.2.2).lt hb6⟩
  have hz6 : v5.heap.size ≤ w6.heap.size := hb6.size
  clear hT5 hb6
  clear hv5
  have khS6 : RowKit.Below w.heap.size w w6 ∧ Blk w6 (w.heap.size) (#[.bool a.neg, .string (decB a.n), .int .i64 (a.s : Int)]) 23 ∧ Blk w6 (w.heap.size + 1) (#[.bool b.neg, .string (decB b.n), .int .i64 (b.s : Int)]) 23 ∧ Blk w6 (w.heap.size + 1 + 1) (#[.bool c.neg, .string (decB c.n), .int .i64 (c.s : Int)]) 23 := ⟨(hS6.1), (hS6.2.1), (hS6.2.2.1), (hS6.2.2.2.1)⟩
  clear hS6
  have hT6 : RowKit.Below w.heap.size w (w6.alloc (.cells #[.bool false, .string ⟨#[]⟩, .int .i64 0] 23)) ∧ Blk (w6.alloc (.cells #[.bool false, .string ⟨#[]⟩, .int .i64 0] 23)) (w.heap.size) (#[.bool a.neg, .string (decB a.n), .int .i64 (a.s : Int)]) 23 ∧ Blk (w6.alloc (.cells #[.bool false, .string ⟨#[]⟩, .int .i64 0] 23)) (w.heap.size + 1) (#[.bool b.neg, .string (decB b.n), .int .i64 (b.s : Int)]) 23 ∧ Blk (w6.alloc (.cells #[.bool false, .string ⟨#[]⟩, .int .i64 0] 23)) (w.heap.size + 1 + 1) (#[.bool c.neg, .string (decB c.n), .int .i64 (c.s : Int)]) 23 ∧ Blk (w6.alloc (.cells #[.bool false, .string ⟨#[]⟩, .int .i64 0] 23)) (w6.heap.size) (#[.bool false, .string ⟨#[]⟩, .int .i64 0]) 23 := ⟨b_alloc (khS6.1), (khS6.2.1).alloc _, (khS6.2.2.1).alloc _, (khS6.2.2.2).alloc _, Blk.new w6 _ _⟩
  have hy6 : w6.heap.size < (w6.alloc (.cells #[.bool false, .string ⟨#[]⟩, .int .i64 0] 23)).heap.size := (hT6.2.2.2.2).lt
  clear khS6
  obtain ⟨a0, a1, a2, _, _, _⟩ := (hT6.2.1).three
  obtain ⟨b0, b1, b2, _, _, _⟩ := (hT6.2.2.1).three
  go_wp2_with (go_at_call 9; (with_reducible refine (HhA2.out _).mono ?_))
  first | rintro e7 w7 rfl hb7 | rintro e7 w7 ⟨rfl, hb7⟩
  clear a0 a1 a2 b0 b1 b2
  have hS7 : RowKit.Below w.heap.size w w7 ∧ Blk w7 (w.heap.size) (#[.bool a.neg, .string (decB a.n), .int .i64 (a.s : Int)]) 23 ∧ Blk w7 (w.heap.size + 1) (#[.bool b.neg, .string (decB b.n), .int .i64 (b.s : Int)]) 23 ∧ Blk w7 (w.heap.size + 1 + 1) (#[.bool c.neg, .string (decB c.n), .int .i64 (c.s : Int)]) 23 ∧ Blk w7 (w6.heap.size) (#[.bool false, .string ⟨#[]⟩, .int .i64 0]) 23 := ⟨b_step hb7 (hT6.1), (hT6.2.1).below (hT6.2.1).lt hb7, (hT6.2.2.1).below (hT6.2.2.1).lt hb7, (hT6.2.2.2.1).below (hT6.2.2.2.1).lt hb7, (hT6.2.2.2.2).below (hT6.2.2.2.2).lt hb7⟩
  have hz7 : (w6.alloc (.cells #[.bool false, .string ⟨#[]⟩, .int .i64 0] 23)).heap.size ≤ w7.heap.size := hb7.size
  clear hT6 hb7
  have hT7 : RowKit.Below w.heap.size w (w7.alloc (.cells #[.bool false, .string ⟨#[]⟩, .int .i64 0] 23)) ∧ Blk (w7.alloc (.cells #[.bool false, .string ⟨#[]⟩, .int .i64 0] 23)) (w.heap.size) (#[.bool a.neg, .string (decB a.n), .int .i64 (a.s : Int)]) 23 ∧ Blk (w7.alloc (.cells #[.bool false, .string ⟨#[]⟩, .int .i64 0] 23)) (w.heap.size + 1) (#[.bool b.neg, .string (decB b.n), .int .i64 (b.s : Int)]) 23 ∧ Blk (w7.alloc (.cells #[.bool false, .string ⟨#[]⟩, .int .i64 0] 23)) (w.heap.size + 1 + 1) (#[.bool c.neg, .string (decB c.n), .int .i64 (c.s : Int)]) 23 ∧ Blk (w7.alloc (.cells #[.bool false, .string ⟨#[]⟩, .int .i64 0] 23)) (w6.heap.size) (#[.bool false, .string ⟨#[]⟩, .int .i64 0]) 23 ∧ Blk (w7.alloc (.cells #[.bool false, .string ⟨#[]⟩, .int .i64 0] 23)) (w7.heap.size) (#[.bool false, .string ⟨#[]⟩, .int .i64 0]) 23 := ⟨b_alloc (hS7.1), (hS7.2.1).alloc _, (hS7.2.2.1).alloc _, (hS7.2.2.2.1).alloc _, (hS7.2.2.2.2).alloc _, Blk.new w7 _ _⟩
  have hy7 : w7.heap.size < (w7.alloc (.cells #[.bool false, .string ⟨#[]⟩, .int .i64 0] 23)).heap.size := (hT7.2.2.2.2.2).lt
  clear hS7
  obtain ⟨a0, a1, a2, _, _, _⟩ := (hT7.2.1).three
  obtain ⟨b0, b1, b2, _, _, _⟩ := (hT7.2.2.1).three
  go_wp2_with (go_at_call 10; (with_reducible refine (HhM1.out _).mono ?_))
  first | rintro e8 w8 rfl hb8 | rintro e8 w8 ⟨rfl, hb8⟩
  clear a0 a1 a2 b0 b1 b2
  have hS8 : RowKit.Below w.heap.size w w8 ∧ Blk w8 (w.heap.size) (#[.bool a.neg, .string (decB a.n), .int .i64 (a.s : Int)]) 23 ∧ Blk w8 (w.heap.size + 1) (#[.bool b.neg, .string (decB b.n), .int .i64 (b.s : Int)]) 23 ∧ Blk w8 (w.heap.size + 1 + 1) (#[.bool c.neg, .string (decB c.n), .int .i64 (c.s : Int)]) 23 ∧ Blk w8 (w6.heap.size) (#[.bool false, .string ⟨#[]⟩, .int .i64 0]) 23 ∧ Blk w8 (w7.heap.size) (#[.bool false, .string ⟨#[]⟩, .int .i64 0]) 23 := ⟨b_step hb8 (hT7.1), (hT7.2.1).below (hT7.2.1).lt hb8, (hT7.2.2.1).below (hT7.2.2.1).lt hb8, (hT7.2.2.2.1).below (hT7.2.2.2.1).lt hb8, (hT7.2.2.2.2.1).below (hT7.2.2.2.2.1).lt hb8, (hT7.2.2.2.2.2).below (hT7.2.2.2.2.2).lt hb8⟩
  have hz8 : (w7.alloc (.cells #[.bool false, .string ⟨#[]⟩, .int .i64 0] 23)).heap.size ≤ w8.heap.size := hb8.size
  clear hT7 hb8
  obtain ⟨v8, hv8⟩ : ∃ v, w8.alloc (.cells #[.bool m0, .string m1, .int .i64 m2] 23) = v := ⟨_, rfl⟩
  have hT8 : RowKit.Below w.heap.size w v8 ∧ Blk v8 (w.heap.size) (#[.bool a.neg, .string (decB a.n), .int .i64 (a.s : Int)]) 23 ∧ Blk v8 (w.heap.size + 1) (#[.bool b.neg, .string (decB b.n), .int .i64 (b.s : Int)]) 23 ∧ Blk v8 (w.heap.size + 1 + 1) (#[.bool c.neg, .string (decB c.n), .int .i64 (c.s : Int)]) 23 ∧ Blk v8 (w6.heap.size) (#[.bool false, .string ⟨#[]⟩, .int .i64 0]) 23 ∧ Blk v8 (w7.heap.size) (#[.bool false, .string ⟨#[]⟩, .int .i64 0]) 23 ∧ Blk v8 (w8.heap.size) (#[.bool m0, .string m1, .int .i64 m2]) 23 := by rw [← hv8]; exact ⟨b_alloc (hS8.1), (hS8.2.1).alloc _, (hS8.2.2.1).alloc _, (hS8.2.2.2.1).alloc _, (hS8.2.2.2.2.1).alloc _, (hS8.2.2.2.2.2).alloc _, Blk.new w8 _ _⟩
  have hy8 : w8.heap.size < v8.heap.size := (hT8.2.2.2.2.2.2).lt
  clear hS8
  obtain ⟨a0, a1, a2, _, _, _⟩ := (hT8.2.1).three
  obtain ⟨b0, b1, b2, _, _, _⟩ := (hT8.2.2.1).three
  go_wp2_with (go_at_call 10; (with_reducible refine (HhM2.out _).mono ?_))
  first | rintro e9 w9 rfl hb9 | rintro e9 w9 ⟨rfl, hb9⟩
  clear a0 a1 a2 b0 b1 b2
  have hS9 : RowKit.Below w.heap.size w w9 ∧ Blk w9 (w.heap.size) (#[.bool a.neg, .string (decB a.n), .int .i64 (a.s : Int)]) 23 ∧ Blk w9 (w.heap.size + 1) (#[.bool b.neg, .string (decB b.n), .int .i64 (b.s : Int)]) 23 ∧ Blk w9 (w.heap.size + 1 + 1) (#[.bool c.neg, .string (decB c.n), .int .i64 (c.s : Int)]) 23 ∧ Blk w9 (w6.heap.size) (#[.bool false, .string ⟨#[]⟩, .int .i64 0]) 23 ∧ Blk w9 (w7.heap.size) (#[.bool false, .string ⟨#[]⟩, .int .i64 0]) 23 ∧ Blk w9 (w8.heap.size) (#[.bool m0, .string m1, .int .i64 m2]) 23 := ⟨b_step hb9 (hT8.1), (hT8.2.1).below (hT8.2.1).lt hb9, (hT8.2.2.1).below (hT8.2.2.1).lt hb9, (hT8.2.2.2.1).below (hT8.2.2.2.1).lt hb9, (hT8.2.2.2.2.1).below (hT8.2.2.2.2.1).lt hb9, (hT8.2.2.2.2.2.1).below (hT8.2.2.2.2.2.1).lt hb9, (hT8.2.2.2.2.2.2).below (hT8.2.2.2.2.2.2).lt hb9⟩
  have hz9 : v8.heap.size ≤ w9.heap.size := hb9.size
  clear hT8 hb9
  clear hv8
  obtain ⟨v9, hv9⟩ : ∃ v, w9.alloc (.cells #[.bool m0, .string m1, .int .i64 m2] 23) = v := ⟨_, rfl⟩
  have hT9 : RowKit.Below w.heap.size w v9 ∧ Blk v9 (w.heap.size) (#[.bool a.neg, .string (decB a.n), .int .i64 (a.s : Int)]) 23 ∧ Blk v9 (w.heap.size + 1) (#[.bool b.neg, .string (decB b.n), .int .i64 (b.s : Int)]) 23 ∧ Blk v9 (w.heap.size + 1 + 1) (#[.bool c.neg, .string (decB c.n), .int .i64 (c.s : Int)]) 23 ∧ Blk v9 (w6.heap.size) (#[.bool false, .string ⟨#[]⟩, .int .i64 0]) 23 ∧ Blk v9 (w7.heap.size) (#[.bool false, .string ⟨#[]⟩, .int .i64 0]) 23 ∧ Blk v9 (w8.heap.size) (#[.bool m0, .string m1, .int .i64 m2]) 23 ∧ Blk v9 (w9.heap.size) (#[.bool m0, .string m1, .int .i64 m2]) 23 := by rw [← hv9]; exact ⟨b_alloc (hS9.1), (hS9.2.1).alloc _, (hS9.2.2.1).alloc _, (hS9.2.2.2.1).alloc _, (hS9.2.2.2.2.1).alloc _, (hS9.2.2.2.2.2.1).alloc _, (hS9.2.2.2.2.2.2).alloc _, Blk.new w9 _ _⟩
  have hy9 : w9.heap.size < v9.heap.size := (hT9.2.2.2.2.2.2.2).lt
  clear hS9
  obtain ⟨a0, a1, a2, _, _, _⟩ := (hT9.2.1).three
  obtain ⟨b0, b1, b2, _, _, _⟩ := (hT9.2.2.1).three
  obtain ⟨x0, x1, x2, _, _, _⟩ := (hT9.2.2.2.2.1).three
  obtain ⟨y0, y1, y2, _, _, _⟩ := (hT9.2.2.2.2.2.1).three
  obtain ⟨p0, p1, p2, _, _, _⟩ := (hT9.2.2.2.2.2.2.1).three
  obtain ⟨q0, q1, q2, _, _, _⟩ := (hT9.2.2.2.2.2.2.2).three
  have nX := fun W => L_ne_self false ⟨#[]⟩ 0 W
  have gX := fun op px py W => L_guard op px py false ⟨#[]⟩ 0 false ⟨#[]⟩ 0 W
  have nM := fun W => L_ne_self m0 m1 m2 W
  have gM := fun op px py W => L_guard op px py m0 m1 m2 m0 m1 m2 W
  go_wp2_with (go_at_call 11; (with_reducible refine (HhS1.out _).mono ?_))
  first | rintro e10 w10 rfl hb10 | rintro e10 w10 ⟨rfl, hb10⟩
  clear a0 a1 a2 b0 b1 b2 x0 x1 x2 y0 y1 y2 p0 p1 p2 q0 q1 q2
  clear nX gX nM gM
  have hS10 : RowKit.Below w.heap.size w w10 ∧ Blk w10 (w.heap.size) (#[.bool a.neg, .string (decB a.n), .int .i64 (a.s : Int)]) 23 ∧ Blk w10 (w.heap.size + 1) (#[.bool b.neg, .string (decB b.n), .int .i64 (b.s : Int)]) 23 ∧ Blk w10 (w.heap.size + 1 + 1) (#[.bool c.neg, .string (decB c.n), .int .i64 (c.s : Int)]) 23 ∧ Blk w10 (w6.heap.size) (#[.bool false, .string ⟨#[]⟩, .int .i64 0]) 23 ∧ Blk w10 (w7.heap.size) (#[.bool false, .string ⟨#[]⟩, .int .i64 0]) 23 ∧ Blk w10 (w8.heap.size) (#[.bool m0, .string m1, .int .i64 m2]) 23 ∧ Blk w10 (w9.heap.size) (#[.bool m0, .string m1, .int .i64 m2]) 23 := ⟨b_step hb10 (hT9.1), (hT9.2.1).below (hT9.2.1).lt hb10, (hT9.2.2.1).below (hT9.2.2.1).lt hb10, (hT9.2.2.2.1).below (hT9.2.2.2.1).lt hb10, (hT9.2.2.2.2.1).below (hT9.2.2.2.2.1).lt hb10, (hT9.2.2.2.2.2.1).below (hT9.2.2.2.2.2.1).lt hb10, (hT9.2.2.2.2.2.2.1).below (hT9.2.2.2.2.2.2.1).lt hb10, (hT9.2.2.2.2.2.2.2).below (hT9.2.2.2.2.2.2.2).lt hb10⟩
  have hz10 : v9.heap.size ≤ w10.heap.size := hb10.size
  clear hT9 hb10
  clear hv9
  have khS10 : RowKit.Below w.heap.size w w10 ∧ Blk w10 (w.heap.size) (#[.bool a.neg, .string (decB a.n), .int .i64 (a.s : Int)]) 23 ∧ Blk w10 (w.heap.size + 1) (#[.bool b.neg, .string (decB b.n), .int .i64 (b.s : Int)]) 23 ∧ Blk w10 (w.heap.size + 1 + 1) (#[.bool c.neg, .string (decB c.n), .int .i64 (c.s : Int)]) 23 ∧ Blk w10 (w6.heap.size) (#[.bool false, .string ⟨#[]⟩, .int .i64 0]) 23 := ⟨(hS10.1), (hS10.2.1), (hS10.2.2.1), (hS10.2.2.2.1), (hS10.2.2.2.2.1)⟩
  clear hS10
  have hT10 : RowKit.Below w.heap.size w (w10.alloc (.cells #[.bool false, .string ⟨#[]⟩, .int .i64 0] 23)) ∧ Blk (w10.alloc (.cells #[.bool false, .string ⟨#[]⟩, .int .i64 0] 23)) (w.heap.size) (#[.bool a.neg, .string (decB a.n), .int .i64 (a.s : Int)]) 23 ∧ Blk (w10.alloc (.cells #[.bool false, .string ⟨#[]⟩, .int .i64 0] 23)) (w.heap.size + 1) (#[.bool b.neg, .string (decB b.n), .int .i64 (b.s : Int)]) 23 ∧ Blk (w10.alloc (.cells #[.bool false, .string ⟨#[]⟩, .int .i64 0] 23)) (w.heap.size + 1 + 1) (#[.bool c.neg, .string (decB c.n), .int .i64 (c.s : Int)]) 23 ∧ Blk (w10.alloc (.cells #[.bool false, .string ⟨#[]⟩, .int .i64 0] 23)) (w6.heap.size) (#[.bool false, .string ⟨#[]⟩, .int .i64 0]) 23 ∧ Blk (w10.alloc (.cells #[.bool false, .string ⟨#[]⟩, .int .i64 0] 23)) (w10.heap.size) (#[.bool false, .string ⟨#[]⟩, .int .i64 0]) 23 := ⟨b_alloc (khS10.1), (khS10.2.1).alloc _, (khS10.2.2.1).alloc _, (khS10.2.2.2.1).alloc _, (khS10.2.2.2.2).alloc _, Blk.new w10 _ _⟩
  have hy10 : w10.heap.size < (w10.alloc (.cells #[.bool false, .string ⟨#[]⟩, .int .i64 0] 23)).heap.size := (hT10.2.2.2.2.2).lt
  clear khS10
  obtain ⟨a0, a1, a2, _, _, _⟩ := (hT10.2.1).three
  obtain ⟨b0, b1, b2, _, _, _⟩ := (hT10.2.2.1).three
  go_wp2_with (go_at_call 12; (with_reducible refine (HhK.out _).mono ?_))
  first | rintro e11 w11 rfl hb11 | rintro e11 w11 ⟨rfl, hb11⟩
  clear a0 a1 a2 b0 b1 b2
  have hS11 : RowKit.Below w.heap.size w w11 ∧ Blk w11 (w.heap.size) (#[.bool a.neg, .string (decB a.n), .int .i64 (a.s : Int)]) 23 ∧ Blk w11 (w.heap.size + 1) (#[.bool b.neg, .string (decB b.n), .int .i64 (b.s : Int)]) 23 ∧ Blk w11 (w.heap.size + 1 + 1) (#[.bool c.neg, .string (decB c.n), .int .i64 (c.s : Int)]) 23 ∧ Blk w11 (w6.heap.size) (#[.bool false, .string ⟨#[]⟩, .int .i64 0]) 23 ∧ Blk w11 (w10.heap.size) (#[.bool false, .string ⟨#[]⟩, .int .i64 0]) 23 := ⟨b_step hb11 (hT10.1), (hT10.2.1).below (hT10.2.1).lt hb11, (hT10.2.2.1).below (hT10.2.2.1).lt hb11, (hT10.2.2.2.1).below (hT10.2.2.2.1).lt hb11, (hT10.2.2.2.2.1).below (hT10.2.2.2.2.1).lt hb11, (hT10.2.2.2.2.2).below (hT10.2.2.2.2.2).lt hb11⟩
  have hz11 : (w10.alloc (.cells #[.bool false, .string ⟨#[]⟩, .int .i64 0] 23)).heap.size ≤ w11.heap.size := hb11.size
  clear hT10 hb11
  obtain ⟨d0, d1, d2, _, _, _⟩ := (hS11.2.2.2.2.2).three
  have hGG := HG.out.later (hS11.1)
  have HBz := Lib.hid (hS11.1)
  clear hS11
  go_wp2_with (go_at_call 6; refine (hSh _ hGG).mono ?_)
  first | rintro e12 w12 rfl hb12 | rintro e12 w12 ⟨rfl, hb12⟩
  have HBy := Lib.hid (b_step hb12 HBz.out)
  clear hb12 d0 d1 d2
  go_wp2
  go_ret
  exact ⟨rfl, HBy.out⟩
set_option maxRecDepth 100000 in
set_option maxHeartbeats 16000000 in
theorem laws_eo (a b c : V) (ha : a.ok) (hb : b.ok) (hc : c.ok) (hA : addS a b = .err 7) (dd : V) (hdd : dd.ok) (hD : subS a b = .ok dd) (w : World) (hG : G w) :
    Calls Tryd.prog 3 #[a.d.val, b.d.val, c.d.val] w fun e w' => e = .returned (.bool true) ∧ RowKit.Below w.heap.size w w' := by
  have la := ha.len
  have lb := hb.len
  have lc := hc.len
  have la2 : (dec a.n).length ≤ 60 := by rw [← decB_size]; exact la
  have lb2 : (dec b.n).length ≤ 60 := by rw [← decB_size]; exact lb
  have lc2 : (dec c.n).length ≤ 60 := by rw [← decB_size]; exact lc
  have la3 : decide (400 < ((dec a.n).length : Int)) = false := decide_eq_false (by omega)
  have lb3 : decide (400 < ((dec b.n).length : Int)) = false := decide_eq_false (by omega)
  have lc3 : decide (400 < ((dec c.n).length : Int)) = false := decide_eq_false (by omega)
  have hC1 := fun W => Check_yes (V.check ha) (by show (decB a.n).size ≤ _; unfold maxLen; omega) W
  have hC2 := fun W => Check_yes (V.check hb) (by show (decB b.n).size ≤ _; unfold maxLen; omega) W
  have hC3 := fun W => Check_yes (V.check hc) (by show (decB c.n).size ≤ _; unfold maxLen; omega) W
  have hT := fun W => Text_ok a ha W
  have htl := text_len ha
  have hrt := read_text ha
  obtain ⟨t, ht⟩ : ∃ t : ByteArray, (⟨(textL a).toArray⟩ : ByteArray) = t := ⟨_, rfl⟩
  have htd : t.data.toList = textL a := by rw [← ht]
  rw [ht] at hT
  have hR := fun W hG => Read_any t (by rw [← size_list', htd]; omega) W hG
  rw [htd, hrt, R.ok_val] at hR
  have hA1 := fun W => Add_ok a b ha hb W
  have hA2 := fun W => Add_ok b a hb ha W
  rw [add_comm' b a] at hA2
  rw [hA] at hA1 hA2
  have hM1 := fun W => Mul_ok a b ha hb W
  have hM2 := fun W => Mul_ok b a hb ha W
  rw [mul_comm' b a] at hM2
  have hS1 := fun W => Sub_ok a b ha hb W
  rw [hD] at hS1
  have hK := fun W => Cmp_ok a b ha hb W
  have hXS := sub_cmp (d := dd) ha hb
  obtain ⟨k, hk⟩ : ∃ k, cmpS a b = k := ⟨_, rfl⟩
  rw [hk] at hK hXS
  obtain ⟨rM, hrM⟩ : ∃ r, mulS a b = r := ⟨_, rfl⟩
  rw [hrM] at hM1 hM2
  simp only [R.val_eq] at hM1 hM2
  obtain ⟨m0, hm0⟩ : ∃ y, rM.d.neg = y := ⟨_, rfl⟩
  obtain ⟨m1, hm1⟩ : ∃ y, rM.d.s = y := ⟨_, rfl⟩
  obtain ⟨m2, hm2⟩ : ∃ y, rM.d.sc = y := ⟨_, rfl⟩
  obtain ⟨m3, hm3⟩ : ∃ y, rM.no = y := ⟨_, rfl⟩
  simp only [hm0, hm1, hm2, hm3] at hM1 hM2
  clear hm0 hm1 hm2 hm3
  simp only [R.ok_val, err_val, V.d_val] at hC1 hC2 hC3 hT hR hA1 hA2 hM1 hM2 hS1 hK
  have hx1 := (hXS hD).1
  have hx2 := (hXS hD).2
  have hzz : (dec dd.n = [48]) ↔ dd.n = 0 := ⟨fun h => by have := congrArg dv h; rw [dv_dec] at this; exact this, fun h => by rw [h]; exact dec_zero⟩
  obtain ⟨hb0, h1, h2, h3⟩ := three_boxes w (.bool a.neg) (.string (decB a.n)) (.int .i64 (a.s : Int)) (.bool b.neg) (.string (decB b.n)) (.int .i64 (b.s : Int)) (.bool c.neg) (.string (decB c.n)) (.int .i64 (c.s : Int))
  obtain ⟨W0, hW0⟩ : ∃ W0, (((w.alloc (.cells #[.bool a.neg, .string (decB a.n), .int .i64 (a.s : Int)] 23)).alloc (.cells #[.bool b.neg, .string (decB b.n), .int .i64 (b.s : Int)] 23)).alloc (.cells #[.bool c.neg, .string (decB c.n), .int .i64 (c.s : Int)] 23)) = W0 := ⟨_, rfl⟩
  rw [hW0] at hb0 h1 h2 h3
  have hG0 := hG.later hb0
  have hSh := fun W hG => shown_any W hG
  have HB0 := Lib.hid hb0
  have HG := Lib.hid hG
  have HS0 : Hid (RowKit.Below w.heap.size w W0 ∧ Blk W0 (w.heap.size) (#[.bool a.neg, .string (decB a.n), .int .i64 (a.s : Int)]) 23 ∧ Blk W0 (w.heap.size + 1) (#[.bool b.neg, .string (decB b.n), .int .i64 (b.s : Int)]) 23 ∧ Blk W0 (w.heap.size + 1 + 1) (#[.bool c.neg, .string (decB c.n), .int .i64 (c.s : Int)]) 23) := ⟨hb0, h1, h2, h3⟩
  obtain ⟨a0, a1, a2, _, _, _⟩ := h1.three
  obtain ⟨b0, b1, b2, _, _, _⟩ := h2.three
  obtain ⟨c0, c1, c2, _, _, _⟩ := h3.three
  have hz0 : w.heap.size + 3 ≤ W0.heap.size := by have := h3.lt; omega
  clear hb0 h1 h2 h3 hG
  rw [V.d_val, V.d_val, V.d_val]
  obtain ⟨zb, hzb⟩ : ∃ z, decide (k = 0) = z := ⟨_, rfl⟩
  have hz1 : (dec dd.n == [48]) = zb := by rw [← hzb, Bool.eq_iff_iff, beq_iff_eq, decide_eq_true_iff, hzz]; exact hx2
  have hz2 : (k == 0) = zb := by rw [← hzb, Bool.eq_iff_iff, beq_iff_eq, decide_eq_true_iff]
  have hz3 : decide (dec dd.n = [48]) = zb := by rw [← hz1, Bool.eq_iff_iff, decide_eq_true_iff, beq_iff_eq]
  obtain ⟨nb, hnb⟩ : ∃ z, dd.neg = z := ⟨_, rfl⟩
  have hn1 : decide (k < 0) = nb := by rw [← hx1, hnb]
  have HF := Lib.hid (And.intro hz1 (And.intro hz2 (And.intro hz3 (And.intro hn1 (And.intro hzb hnb)))))
  clear hzb hz1 hz2 hz3 hn1 hnb hzz hx1 hx2 hdd
  have HhC1 := Lib.hid hC1
  have HhC2 := Lib.hid hC2
  have HhC3 := Lib.hid hC3
  have HhT := Lib.hid hT
  have HhR := Lib.hid hR
  have HhA1 := Lib.hid hA1
  have HhA2 := Lib.hid hA2
  have HhM1 := Lib.hid hM1
  have HhM2 := Lib.hid hM2
  have HhS1 := Lib.hid hS1
  have HhK := Lib.hid hK
  clear hC1 hC2 hC3 hT hR hA1 hA2 hM1 hM2 hS1 hK hXS hk hrM htl hrt htd ht hA hD
  clear hG0
  go_enter Tryd.func3, Tryd.ntmps3
  go_wp2_with (go_at_call 5; (with_reducible refine (HhC1.out _).mono ?_))
  first | rintro e1 w1 rfl hb1 | rintro e1 w1 ⟨rfl, hb1⟩
  clear a0 a1 a2 b0 b1 b2 c0 c1 c2
  have hS1 : RowKit.Below w.heap.size w w1 ∧ Blk w1 (w.heap.size) (#[.bool a.neg, .string (decB a.n), .int .i64 (a.s : Int)]) 23 ∧ Blk w1 (w.heap.size + 1) (#[.bool b.neg, .string (decB b.n), .int .i64 (b.s : Int)]) 23 ∧ Blk w1 (w.heap.size + 1 + 1) (#[.bool c.neg, .string (decB c.n), .int .i64 (c.s : Int)]) 23 := ⟨b_step hb1 (HS0.out.1), (HS0.out.2.1).below (HS0.out.2.1).lt hb1, (HS0.out.2.2.1).below (HS0.out.2.2.1).lt hb1, (HS0.out.2.2.2).below (HS0.out.2.2.2).lt hb1⟩
  have hz1 : W0.heap.size ≤ w1.heap.size := hb1.size
  clear HS0 hb1
  clear hW0
  obtain ⟨b0, b1, b2, _, _, _⟩ := (hS1.2.2.1).three
  obtain ⟨c0, c1, c2, _, _, _⟩ := (hS1.2.2.2).three
  go_wp2_with (go_at_call 5; (with_reducible refine (HhC2.out _).mono ?_))
  first | rintro e2 w2 rfl hb2 | rintro e2 w2 ⟨rfl, hb2⟩
  clear b0 b1 b2 c0 c1 c2
  have hS2 : RowKit.Below w.heap.size w w2 ∧ Blk w2 (w.heap.size) (#[.bool a.neg, .string (decB a.n), .int .i64 (a.s : Int)]) 23 ∧ Blk w2 (w.heap.size + 1) (#[.bool b.neg, .string (decB b.n), .int .i64 (b.s : Int)]) 23 ∧ Blk w2 (w.heap.size + 1 + 1) (#[.bool c.neg, .string (decB c.n), .int .i64 (c.s : Int)]) 23 := ⟨b_step hb2 (hS1.1), (hS1.2.1).below (hS1.2.1).lt hb2, (hS1.2.2.1).below (hS1.2.2.1).lt hb2, (hS1.2.2.2).below (hS1.2.2.2).lt hb2⟩
  have hz2 : w1.heap.size ≤ w2.heap.size := hb2.size
  clear hS1 hb2
  obtain ⟨c0, c1, c2, _, _, _⟩ := (hS2.2.2.2).three
  go_wp2_with (go_at_call 5; (with_reducible refine (HhC3.out _).mono ?_))
  first | rintro e3 w3 rfl hb3 | rintro e3 w3 ⟨rfl, hb3⟩
  clear c0 c1 c2
  have hS3 : RowKit.Below w.heap.size w w3 ∧ Blk w3 (w.heap.size) (#[.bool a.neg, .string (decB a.n), .int .i64 (a.s : Int)]) 23 ∧ Blk w3 (w.heap.size + 1) (#[.bool b.neg, .string (decB b.n), .int .i64 (b.s : Int)]) 23 ∧ Blk w3 (w.heap.size + 1 + 1) (#[.bool c.neg, .string (decB c.n), .int .i64 (c.s : Int)]) 23 := ⟨b_step hb3 (hS2.1), (hS2.2.1).below (hS2.2.1).lt hb3, (hS2.2.2.1).below (hS2.2.2.1).lt hb3, (hS2.2.2.2).below (hS2.2.2.2).lt hb3⟩
  have hz3 : w2.heap.size ≤ w3.heap.size := hb3.size
  clear hS2 hb3
  obtain ⟨a0, a1, a2, _, _, _⟩ := (hS3.2.1).three
  go_wp2_with (go_at_call 7; (with_reducible refine (HhT.out _).mono ?_))
  first | rintro e4 w4 rfl hb4 | rintro e4 w4 ⟨rfl, hb4⟩
  clear a0 a1 a2
  have hS4 : RowKit.Below w.heap.size w w4 ∧ Blk w4 (w.heap.size) (#[.bool a.neg, .string (decB a.n), .int .i64 (a.s : Int)]) 23 ∧ Blk w4 (w.heap.size + 1) (#[.bool b.neg, .string (decB b.n), .int .i64 (b.s : Int)]) 23 ∧ Blk w4 (w.heap.size + 1 + 1) (#[.bool c.neg, .string (decB c.n), .int .i64 (c.s : Int)]) 23 := ⟨b_step hb4 (hS3.1), (hS3.2.1).below (hS3.2.1).lt hb4, (hS3.2.2.1).below (hS3.2.2.1).lt hb4, (hS3.2.2.2).below (hS3.2.2.2).lt hb4⟩
  have hz4 : w3.heap.size ≤ w4.heap.size := hb4.size
  clear hS3 hb4
  have hG4 := HG.out.later (hS4.1)
  go_wp2_with (go_at_call 8; (with_reducible refine (HhR.out _ hG4).mono ?_))
  first | rintro e5 w5 rfl hb5 | rintro e5 w5 ⟨rfl, hb5⟩
  clear hG4
  have hS5 : RowKit.Below w.heap.size w w5 ∧ Blk w5 (w.heap.size) (#[.bool a.neg, .string (decB a.n), .int .i64 (a.s : Int)]) 23 ∧ Blk w5 (w.heap.size + 1) (#[.bool b.neg, .string (decB b.n), .int .i64 (b.s : Int)]) 23 ∧ Blk w5 (w.heap.size + 1 + 1) (#[.bool c.neg, .string (decB c.n), .int .i64 (c.s : Int)]) 23 := ⟨b_step hb5 (hS4.1), (hS4.2.1).below (hS4.2.1).lt hb5, (hS4.2.2.1).below (hS4.2.2.1).lt hb5, (hS4.2.2.2).below (hS4.2.2.2).lt hb5⟩
  have hz5 : w4.heap.size ≤ w5.heap.size := hb5.size
  clear hS4 hb5
  obtain ⟨v5, hv5⟩ : ∃ v, w5.alloc (.cells #[.bool a.neg, .string (decB a.n), .int .i64 (a.s : Int)] 23) = v := ⟨_, rfl⟩
  have hT5 : RowKit.Below w.heap.size w v5 ∧ Blk v5 (w.heap.size) (#[.bool a.neg, .string (decB a.n), .int .i64 (a.s : Int)]) 23 ∧ Blk v5 (w.heap.size + 1) (#[.bool b.neg, .string (decB b.n), .int .i64 (b.s : Int)]) 23 ∧ Blk v5 (w.heap.size + 1 + 1) (#[.bool c.neg, .string (decB c.n), .int .i64 (c.s : Int)]) 23 ∧ Blk v5 (w5.heap.size) (#[.bool a.neg, .string (decB a.n), .int .i64 (a.s : Int)]) 23 := by rw [← hv5]; exact ⟨b_alloc (hS5.1), (hS5.2.1).alloc _, (hS5.2.2.1).alloc _, (hS5.2.2.2).alloc _, Blk.new w5 _ _⟩
  have hy5 : w5.heap.size < v5.heap.size := (hT5.2.2.2.2).lt
  clear hS5
  have nA := fun W => L_ne_self a.neg (decB a.n) (a.s : Int) W
  have gA := fun op px py W => L_guard op px py a.neg (decB a.n) (a.s : Int) a.neg (decB a.n) (a.s : Int) W
  obtain ⟨a0, a1, a2, _, _, _⟩ := (hT5.2.1).three
  obtain ⟨b0, b1, b2, _, _, _⟩ := (hT5.2.2.1).three
  obtain ⟨u0, u1, u2, _, _, _⟩ := (hT5.2.2.2.2).three
  go_wp2_with (go_at_call 9; (with_reducible refine (HhA1.out _).mono ?_))
  first | rintro e6 w6 rfl hb6 | rintro e6 w6 ⟨rfl, hb6⟩
  clear a0 a1 a2 b0 b1 b2 u0 u1 u2
  clear nA gA
  have hS6 : RowKit.Below w.heap.size w w6 ∧ Blk w6 (w.heap.size) (#[.bool a.neg, .string (decB a.n), .int .i64 (a.s : Int)]) 23 ∧ Blk w6 (w.heap.size + 1) (#[.bool b.neg, .string (decB b.n), .int .i64 (b.s : Int)]) 23 ∧ Blk w6 (w.heap.size + 1 + 1) (#[.bool c.neg, .string (decB c.n), .int .i64 (c.s : Int)]) 23 ∧ Blk w6 (w5.heap.size) (#[.bool a.neg, .string (decB a.n), .int .i64 (a.s : Int)]) 23 := ⟨b_step hb6 (hT5.1), (hT5.2.1).below (hT5.2.1).lt hb6, (hT5.2.2.1).below (hT5.2.2.1).lt hb6, (hT5.2.2.2.1).below (hT5.2.2.2.1).lt hb6, (hT5.2.2.2.2).below (hT5.2.2.2.2).lt hb6⟩
  have hz6 : v5.heap.size ≤ w6.heap.size := hb6.size
  clear hT5 hb6
  clear hv5
  have khS6 : RowKit.Below w.heap.size w w6 ∧ Blk w6 (w.heap.size) (#[.bool a.neg, .string (decB a.n), .int .i64 (a.s : Int)]) 23 ∧ Blk w6 (w.heap.size + 1) (#[.bool b.neg, .string (decB b.n), .int .i64 (b.s : Int)]) 23 ∧ Blk w6 (w.heap.size + 1 + 1) (#[.bool c.neg, .string (decB c.n), .int .i64 (c.s : Int)]) 23 := ⟨(hS6.1), (hS6.2.1), (hS6.2.2.1), (hS6.2.2.2.1)⟩
  clear hS6
  have hT6 : RowKit.Below w.heap.size w (w6.alloc (.cells #[.bool false, .string ⟨#[]⟩, .int .i64 0] 23)) ∧ Blk (w6.alloc (.cells #[.bool false, .string ⟨#[]⟩, .int .i64 0] 23)) (w.heap.size) (#[.bool a.neg, .string (decB a.n), .int .i64 (a.s : Int)]) 23 ∧ Blk (w6.alloc (.cells #[.bool false, .string ⟨#[]⟩, .int .i64 0] 23)) (w.heap.size + 1) (#[.bool b.neg, .string (decB b.n), .int .i64 (b.s : Int)]) 23 ∧ Blk (w6.alloc (.cells #[.bool false, .string ⟨#[]⟩, .int .i64 0] 23)) (w.heap.size + 1 + 1) (#[.bool c.neg, .string (decB c.n), .int .i64 (c.s : Int)]) 23 ∧ Blk (w6.alloc (.cells #[.bool false, .string ⟨#[]⟩, .int .i64 0] 23)) (w6.heap.size) (#[.bool false, .string ⟨#[]⟩, .int .i64 0]) 23 := ⟨b_alloc (khS6.1), (khS6.2.1).alloc _, (khS6.2.2.1).alloc _, (khS6.2.2.2).alloc _, Blk.new w6 _ _⟩
  have hy6 : w6.heap.size < (w6.alloc (.cells #[.bool false, .string ⟨#[]⟩, .int .i64 0] 23)).heap.size := (hT6.2.2.2.2).lt
  clear khS6
  obtain ⟨a0, a1, a2, _, _, _⟩ := (hT6.2.1).three
  obtain ⟨b0, b1, b2, _, _, _⟩ := (hT6.2.2.1).three
  go_wp2_with (go_at_call 9; (with_reducible refine (HhA2.out _).mono ?_))
  first | rintro e7 w7 rfl hb7 | rintro e7 w7 ⟨rfl, hb7⟩
  clear a0 a1 a2 b0 b1 b2
  have hS7 : RowKit.Below w.heap.size w w7 ∧ Blk w7 (w.heap.size) (#[.bool a.neg, .string (decB a.n), .int .i64 (a.s : Int)]) 23 ∧ Blk w7 (w.heap.size + 1) (#[.bool b.neg, .string (decB b.n), .int .i64 (b.s : Int)]) 23 ∧ Blk w7 (w.heap.size + 1 + 1) (#[.bool c.neg, .string (decB c.n), .int .i64 (c.s : Int)]) 23 ∧ Blk w7 (w6.heap.size) (#[.bool false, .string ⟨#[]⟩, .int .i64 0]) 23 := ⟨b_step hb7 (hT6.1), (hT6.2.1).below (hT6.2.1).lt hb7, (hT6.2.2.1).below (hT6.2.2.1).lt hb7, (hT6.2.2.2.1).below (hT6.2.2.2.1).lt hb7, (hT6.2.2.2.2).below (hT6.2.2.2.2).lt hb7⟩
  have hz7 : (w6.alloc (.cells #[.bool false, .string ⟨#[]⟩, .int .i64 0] 23)).heap.size ≤ w7.heap.size := hb7.size
  clear hT6 hb7
  have hT7 : RowKit.Below w.heap.size w (w7.alloc (.cells #[.bool false, .string ⟨#[]⟩, .int .i64 0] 23)) ∧ Blk (w7.alloc (.cells #[.bool false, .string ⟨#[]⟩, .int .i64 0] 23)) (w.heap.size) (#[.bool a.neg, .string (decB a.n), .int .i64 (a.s : Int)]) 23 ∧ Blk (w7.alloc (.cells #[.bool false, .string ⟨#[]⟩, .int .i64 0] 23)) (w.heap.size + 1) (#[.bool b.neg, .string (decB b.n), .int .i64 (b.s : Int)]) 23 ∧ Blk (w7.alloc (.cells #[.bool false, .string ⟨#[]⟩, .int .i64 0] 23)) (w.heap.size + 1 + 1) (#[.bool c.neg, .string (decB c.n), .int .i64 (c.s : Int)]) 23 ∧ Blk (w7.alloc (.cells #[.bool false, .string ⟨#[]⟩, .int .i64 0] 23)) (w6.heap.size) (#[.bool false, .string ⟨#[]⟩, .int .i64 0]) 23 ∧ Blk (w7.alloc (.cells #[.bool false, .string ⟨#[]⟩, .int .i64 0] 23)) (w7.heap.size) (#[.bool false, .string ⟨#[]⟩, .int .i64 0]) 23 := ⟨b_alloc (hS7.1), (hS7.2.1).alloc _, (hS7.2.2.1).alloc _, (hS7.2.2.2.1).alloc _, (hS7.2.2.2.2).alloc _, Blk.new w7 _ _⟩
  have hy7 : w7.heap.size < (w7.alloc (.cells #[.bool false, .string ⟨#[]⟩, .int .i64 0] 23)).heap.size := (hT7.2.2.2.2.2).lt
  clear hS7
  obtain ⟨a0, a1, a2, _, _, _⟩ := (hT7.2.1).three
  obtain ⟨b0, b1, b2, _, _, _⟩ := (hT7.2.2.1).three
  go_wp2_with (go_at_call 10; (with_reducible refine (HhM1.out _).mono ?_))
  first | rintro e8 w8 rfl hb8 | rintro e8 w8 ⟨rfl, hb8⟩
  clear a0 a1 a2 b0 b1 b2
  have hS8 : RowKit.Below w.heap.size w w8 ∧ Blk w8 (w.heap.size) (#[.bool a.neg, .string (decB a.n), .int .i64 (a.s : Int)]) 23 ∧ Blk w8 (w.heap.size + 1) (#[.bool b.neg, .string (decB b.n), .int .i64 (b.s : Int)]) 23 ∧ Blk w8 (w.heap.size + 1 + 1) (#[.bool c.neg, .string (decB c.n), .int .i64 (c.s : Int)]) 23 ∧ Blk w8 (w6.heap.size) (#[.bool false, .string ⟨#[]⟩, .int .i64 0]) 23 ∧ Blk w8 (w7.heap.size) (#[.bool false, .string ⟨#[]⟩, .int .i64 0]) 23 := ⟨b_step hb8 (hT7.1), (hT7.2.1).below (hT7.2.1).lt hb8, (hT7.2.2.1).below (hT7.2.2.1).lt hb8, (hT7.2.2.2.1).below (hT7.2.2.2.1).lt hb8, (hT7.2.2.2.2.1).below (hT7.2.2.2.2.1).lt hb8, (hT7.2.2.2.2.2).below (hT7.2.2.2.2.2).lt hb8⟩
  have hz8 : (w7.alloc (.cells #[.bool false, .string ⟨#[]⟩, .int .i64 0] 23)).heap.size ≤ w8.heap.size := hb8.size
  clear hT7 hb8
  obtain ⟨v8, hv8⟩ : ∃ v, w8.alloc (.cells #[.bool m0, .string m1, .int .i64 m2] 23) = v := ⟨_, rfl⟩
  have hT8 : RowKit.Below w.heap.size w v8 ∧ Blk v8 (w.heap.size) (#[.bool a.neg, .string (decB a.n), .int .i64 (a.s : Int)]) 23 ∧ Blk v8 (w.heap.size + 1) (#[.bool b.neg, .string (decB b.n), .int .i64 (b.s : Int)]) 23 ∧ Blk v8 (w.heap.size + 1 + 1) (#[.bool c.neg, .string (decB c.n), .int .i64 (c.s : Int)]) 23 ∧ Blk v8 (w6.heap.size) (#[.bool false, .string ⟨#[]⟩, .int .i64 0]) 23 ∧ Blk v8 (w7.heap.size) (#[.bool false, .string ⟨#[]⟩, .int .i64 0]) 23 ∧ Blk v8 (w8.heap.size) (#[.bool m0, .string m1, .int .i64 m2]) 23 := by rw [← hv8]; exact ⟨b_alloc (hS8.1), (hS8.2.1).alloc _, (hS8.2.2.1).alloc _, (hS8.2.2.2.1).alloc _, (hS8.2.2.2.2.1).alloc _, (hS8.2.2.2.2.2).alloc _, Blk.new w8 _ _⟩
  have hy8 : w8.heap.size < v8.heap.size := (hT8.2.2.2.2.2.2).lt
  clear hS8
  obtain ⟨a0, a1, a2, _, _, _⟩ := (hT8.2.1).three
  obtain ⟨b0, b1, b2, _, _, _⟩ := (hT8.2.2.1).three
  go_wp2_with (go_at_call 10; (with_reducible refine (HhM2.out _).mono ?_))
  first | rintro e9 w9 rfl hb9 | rintro e9 w9 ⟨rfl, hb9⟩
  clear a0 a1 a2 b0 b1 b2
  have hS9 : RowKit.Below w.heap.size w w9 ∧ Blk w9 (w.heap.size) (#[.bool a.neg, .string (decB a.n), .int .i64 (a.s : Int)]) 23 ∧ Blk w9 (w.heap.size + 1) (#[.bool b.neg, .string (decB b.n), .int .i64 (b.s : Int)]) 23 ∧ Blk w9 (w.heap.size + 1 + 1) (#[.bool c.neg, .string (decB c.n), .int .i64 (c.s : Int)]) 23 ∧ Blk w9 (w6.heap.size) (#[.bool false, .string ⟨#[]⟩, .int .i64 0]) 23 ∧ Blk w9 (w7.heap.size) (#[.bool false, .string ⟨#[]⟩, .int .i64 0]) 23 ∧ Blk w9 (w8.heap.size) (#[.bool m0, .string m1, .int .i64 m2]) 23 := ⟨b_step hb9 (hT8.1), (hT8.2.1).below (hT8.2.1).lt hb9, (hT8.2.2.1).below (hT8.2.2.1).lt hb9, (hT8.2.2.2.1).below (hT8.2.2.2.1).lt hb9, (hT8.2.2.2.2.1).below (hT8.2.2.2.2.1).lt hb9, (hT8.2.2.2.2.2.1).below (hT8.2.2.2.2.2.1).lt hb9, (hT8.2.2.2.2.2.2).below (hT8.2.2.2.2.2.2).lt hb9⟩
  have hz9 : v8.heap.size ≤ w9.heap.size := hb9.size
  clear hT8 hb9
  clear hv8
  obtain ⟨v9, hv9⟩ : ∃ v, w9.alloc (.cells #[.bool m0, .string m1, .int .i64 m2] 23) = v := ⟨_, rfl⟩
  have hT9 : RowKit.Below w.heap.size w v9 ∧ Blk v9 (w.heap.size) (#[.bool a.neg, .string (decB a.n), .int .i64 (a.s : Int)]) 23 ∧ Blk v9 (w.heap.size + 1) (#[.bool b.neg, .string (decB b.n), .int .i64 (b.s : Int)]) 23 ∧ Blk v9 (w.heap.size + 1 + 1) (#[.bool c.neg, .string (decB c.n), .int .i64 (c.s : Int)]) 23 ∧ Blk v9 (w6.heap.size) (#[.bool false, .string ⟨#[]⟩, .int .i64 0]) 23 ∧ Blk v9 (w7.heap.size) (#[.bool false, .string ⟨#[]⟩, .int .i64 0]) 23 ∧ Blk v9 (w8.heap.size) (#[.bool m0, .string m1, .int .i64 m2]) 23 ∧ Blk v9 (w9.heap.size) (#[.bool m0, .string m1, .int .i64 m2]) 23 := by rw [← hv9]; exact ⟨b_alloc (hS9.1), (hS9.2.1).alloc _, (hS9.2.2.1).alloc _, (hS9.2.2.2.1).alloc _, (hS9.2.2.2.2.1).alloc _, (hS9.2.2.2.2.2.1).alloc _, (hS9.2.2.2.2.2.2).alloc _, Blk.new w9 _ _⟩
  have hy9 : w9.heap.size < v9.heap.size := (hT9.2.2.2.2.2.2.2).lt
  clear hS9
  obtain ⟨a0, a1, a2, _, _, _⟩ := (hT9.2.1).three
  obtain ⟨b0, b1, b2, _, _, _⟩ := (hT9.2.2.1).three
  obtain ⟨x0, x1, x2, _, _, _⟩ := (hT9.2.2.2.2.1).three
  obtain ⟨y0, y1, y2, _, _, _⟩ := (hT9.2.2.2.2.2.1).three
  obtain ⟨p0, p1, p2, _, _, _⟩ := (hT9.2.2.2.2.2.2.1).three
  obtain ⟨q0, q1, q2, _, _, _⟩ := (hT9.2.2.2.2.2.2.2).three
  have nX := fun W => L_ne_self false ⟨#[]⟩ 0 W
  have gX := fun op px py W => L_guard op px py false ⟨#[]⟩ 0 false ⟨#[]⟩ 0 W
  have nM := fun W => L_ne_self m0 m1 m2 W
  have gM := fun op px py W => L_guard op px py m0 m1 m2 m0 m1 m2 W
  go_wp2_with (go_at_call 11; (with_reducible refine (HhS1.out _).mono ?_))
  first | rintro e10 w10 rfl hb10 | rintro e10 w10 ⟨rfl, hb10⟩
  clear a0 a1 a2 b0 b1 b2 x0 x1 x2 y0 y1 y2 p0 p1 p2 q0 q1 q2
  clear nX gX nM gM
  have hS10 : RowKit.Below w.heap.size w w10 ∧ Blk w10 (w.heap.size) (#[.bool a.neg, .string (decB a.n), .int .i64 (a.s : Int)]) 23 ∧ Blk w10 (w.heap.size + 1) (#[.bool b.neg, .string (decB b.n), .int .i64 (b.s : Int)]) 23 ∧ Blk w10 (w.heap.size + 1 + 1) (#[.bool c.neg, .string (decB c.n), .int .i64 (c.s : Int)]) 23 ∧ Blk w10 (w6.heap.size) (#[.bool false, .string ⟨#[]⟩, .int .i64 0]) 23 ∧ Blk w10 (w7.heap.size) (#[.bool false, .string ⟨#[]⟩, .int .i64 0]) 23 ∧ Blk w10 (w8.heap.size) (#[.bool m0, .string m1, .int .i64 m2]) 23 ∧ Blk w10 (w9.heap.size) (#[.bool m0, .string m1, .int .i64 m2]) 23 := ⟨b_step hb10 (hT9.1), (hT9.2.1).below (hT9.2.1).lt hb10, (hT9.2.2.1).below (hT9.2.2.1).lt hb10, (hT9.2.2.2.1).below (hT9.2.2.2.1).lt hb10, (hT9.2.2.2.2.1).below (hT9.2.2.2.2.1).lt hb10, (hT9.2.2.2.2.2.1).below (hT9.2.2.2.2.2.1).lt hb10, (hT9.2.2.2.2.2.2.1).below (hT9.2.2.2.2.2.2.1).lt hb10, (hT9.2.2.2.2.2.2.2).below (hT9.2.2.2.2.2.2.2).lt hb10⟩
  have hz10 : v9.heap.size ≤ w10.heap.size := hb10.size
  clear hT9 hb10
  clear hv9
  have khS10 : RowKit.Below w.heap.size w w10 ∧ Blk w10 (w.heap.size) (#[.bool a.neg, .string (decB a.n), .int .i64 (a.s : Int)]) 23 ∧ Blk w10 (w.heap.size + 1) (#[.bool b.neg, .string (decB b.n), .int .i64 (b.s : Int)]) 23 ∧ Blk w10 (w.heap.size + 1 + 1) (#[.bool c.neg, .string (decB c.n), .int .i64 (c.s : Int)]) 23 ∧ Blk w10 (w6.heap.size) (#[.bool false, .string ⟨#[]⟩, .int .i64 0]) 23 := ⟨(hS10.1), (hS10.2.1), (hS10.2.2.1), (hS10.2.2.2.1), (hS10.2.2.2.2.1)⟩
  clear hS10
  obtain ⟨v10, hv10⟩ : ∃ v, w10.alloc (.cells #[.bool dd.neg, .string (decB dd.n), .int .i64 (dd.s : Int)] 23) = v := ⟨_, rfl⟩
  have hT10 : RowKit.Below w.heap.size w v10 ∧ Blk v10 (w.heap.size) (#[.bool a.neg, .string (decB a.n), .int .i64 (a.s : Int)]) 23 ∧ Blk v10 (w.heap.size + 1) (#[.bool b.neg, .string (decB b.n), .int .i64 (b.s : Int)]) 23 ∧ Blk v10 (w.heap.size + 1 + 1) (#[.bool c.neg, .string (decB c.n), .int .i64 (c.s : Int)]) 23 ∧ Blk v10 (w6.heap.size) (#[.bool false, .string ⟨#[]⟩, .int .i64 0]) 23 ∧ Blk v10 (w10.heap.size) (#[.bool dd.neg, .string (decB dd.n), .int .i64 (dd.s : Int)]) 23 := by rw [← hv10]; exact ⟨b_alloc (khS10.1), (khS10.2.1).alloc _, (khS10.2.2.1).alloc _, (khS10.2.2.2.1).alloc _, (khS10.2.2.2.2).alloc _, Blk.new w10 _ _⟩
  have hy10 : w10.heap.size < v10.heap.size := (hT10.2.2.2.2.2).lt
  clear khS10
  obtain ⟨a0, a1, a2, _, _, _⟩ := (hT10.2.1).three
  obtain ⟨b0, b1, b2, _, _, _⟩ := (hT10.2.2.1).three
  go_wp2_with (go_at_call 12; (with_reducible refine (HhK.out _).mono ?_))
  first | rintro e11 w11 rfl hb11 | rintro e11 w11 ⟨rfl, hb11⟩
  clear a0 a1 a2 b0 b1 b2
  have hS11 : RowKit.Below w.heap.size w w11 ∧ Blk w11 (w.heap.size) (#[.bool a.neg, .string (decB a.n), .int .i64 (a.s : Int)]) 23 ∧ Blk w11 (w.heap.size + 1) (#[.bool b.neg, .string (decB b.n), .int .i64 (b.s : Int)]) 23 ∧ Blk w11 (w.heap.size + 1 + 1) (#[.bool c.neg, .string (decB c.n), .int .i64 (c.s : Int)]) 23 ∧ Blk w11 (w6.heap.size) (#[.bool false, .string ⟨#[]⟩, .int .i64 0]) 23 ∧ Blk w11 (w10.heap.size) (#[.bool dd.neg, .string (decB dd.n), .int .i64 (dd.s : Int)]) 23 := ⟨b_step hb11 (hT10.1), (hT10.2.1).below (hT10.2.1).lt hb11, (hT10.2.2.1).below (hT10.2.2.1).lt hb11, (hT10.2.2.2.1).below (hT10.2.2.2.1).lt hb11, (hT10.2.2.2.2.1).below (hT10.2.2.2.2.1).lt hb11, (hT10.2.2.2.2.2).below (hT10.2.2.2.2.2).lt hb11⟩
  have hz11 : v10.heap.size ≤ w11.heap.size := hb11.size
  clear hT10 hb11
  clear hv10
  obtain ⟨d0, d1, d2, _, _, _⟩ := (hS11.2.2.2.2.2).three
  obtain ⟨hz1, hz2, hz3, hn1, hzb, hnb⟩ := HF.out
  rw [hnb] at d0
  have hGG := HG.out.later (hS11.1)
  have HBz := Lib.hid (hS11.1)
  clear hS11
  go_wp2_with (go_at_call 6; refine (hSh _ hGG).mono ?_)
  first | rintro e12 w12 rfl hb12 | rintro e12 w12 ⟨rfl, hb12⟩
  have HBy := Lib.hid (b_step hb12 HBz.out)
  clear hb12 d0 d1 d2
  go_wp2
  go_ret
  exact ⟨rfl, HBy.out⟩
set_option maxRecDepth 100000 in
set_option maxHeartbeats 16000000 in
theorem laws_oe (a b c : V) (ha : a.ok) (hb : b.ok) (hc : c.ok) (x : V) (hx : x.ok) (hA : addS a b = .ok x) (hD : subS a b = .err 7) (w : World) (hG : G w) :
    Calls Tryd.prog 3 #[a.d.val, b.d.val, c.d.val] w fun e w' => e = .returned (.bool true) ∧ RowKit.Below w.heap.size w w' := by
  have la := ha.len
  have lb := hb.len
  have lc := hc.len
  have la2 : (dec a.n).length ≤ 60 := by rw [← decB_size]; exact la
  have lb2 : (dec b.n).length ≤ 60 := by rw [← decB_size]; exact lb
  have lc2 : (dec c.n).length ≤ 60 := by rw [← decB_size]; exact lc
  have la3 : decide (400 < ((dec a.n).length : Int)) = false := decide_eq_false (by omega)
  have lb3 : decide (400 < ((dec b.n).length : Int)) = false := decide_eq_false (by omega)
  have lc3 : decide (400 < ((dec c.n).length : Int)) = false := decide_eq_false (by omega)
  have hC1 := fun W => Check_yes (V.check ha) (by show (decB a.n).size ≤ _; unfold maxLen; omega) W
  have hC2 := fun W => Check_yes (V.check hb) (by show (decB b.n).size ≤ _; unfold maxLen; omega) W
  have hC3 := fun W => Check_yes (V.check hc) (by show (decB c.n).size ≤ _; unfold maxLen; omega) W
  have hT := fun W => Text_ok a ha W
  have htl := text_len ha
  have hrt := read_text ha
  obtain ⟨t, ht⟩ : ∃ t : ByteArray, (⟨(textL a).toArray⟩ : ByteArray) = t := ⟨_, rfl⟩
  have htd : t.data.toList = textL a := by rw [← ht]
  rw [ht] at hT
  have hR := fun W hG => Read_any t (by rw [← size_list', htd]; omega) W hG
  rw [htd, hrt, R.ok_val] at hR
  have hA1 := fun W => Add_ok a b ha hb W
  have hA2 := fun W => Add_ok b a hb ha W
  rw [add_comm' b a] at hA2
  rw [hA] at hA1 hA2
  have hM1 := fun W => Mul_ok a b ha hb W
  have hM2 := fun W => Mul_ok b a hb ha W
  rw [mul_comm' b a] at hM2
  have hS1 := fun W => Sub_ok a b ha hb W
  rw [hD] at hS1
  have hK := fun W => Cmp_ok a b ha hb W
  have hXS := sub_cmp (d := V.zero) ha hb
  obtain ⟨k, hk⟩ : ∃ k, cmpS a b = k := ⟨_, rfl⟩
  rw [hk] at hK hXS
  obtain ⟨rM, hrM⟩ : ∃ r, mulS a b = r := ⟨_, rfl⟩
  rw [hrM] at hM1 hM2
  have hB := fun W => Sub_ok x b hx hb W
  rw [add_back ha hb hA] at hB
  have hL1 := fun W => Mul_ok x c hx hc W
  have hL2 := fun W => Mul_ok a c ha hc W
  have hL3 := fun W => Mul_ok b c hb hc W
  have hdis := fun (l o t : V) (hl : l.ok) (ho : o.ok) (ht : t.ok) h1 h2 h3 => distr ha hb hc hx hl ho ht hA h1 h2 h3
  have hL4 := fun (o t : V) (ho : o.ok) (ht : t.ok) W => Add_ok o t ho ht W
  have hc1 := mul_two x c
  have hc2 := mul_two a c
  have hc3 := mul_two b c
  simp only [R.val_eq] at hM1 hM2
  obtain ⟨m0, hm0⟩ : ∃ y, rM.d.neg = y := ⟨_, rfl⟩
  obtain ⟨m1, hm1⟩ : ∃ y, rM.d.s = y := ⟨_, rfl⟩
  obtain ⟨m2, hm2⟩ : ∃ y, rM.d.sc = y := ⟨_, rfl⟩
  obtain ⟨m3, hm3⟩ : ∃ y, rM.no = y := ⟨_, rfl⟩
  simp only [hm0, hm1, hm2, hm3] at hM1 hM2
  clear hm0 hm1 hm2 hm3
  simp only [R.ok_val, err_val, V.d_val] at hC1 hC2 hC3 hT hR hA1 hA2 hM1 hM2 hS1 hK hB hL1 hL2 hL3
  obtain ⟨hb0, h1, h2, h3⟩ := three_boxes w (.bool a.neg) (.string (decB a.n)) (.int .i64 (a.s : Int)) (.bool b.neg) (.string (decB b.n)) (.int .i64 (b.s : Int)) (.bool c.neg) (.string (decB c.n)) (.int .i64 (c.s : Int))
  obtain ⟨W0, hW0⟩ : ∃ W0, (((w.alloc (.cells #[.bool a.neg, .string (decB a.n), .int .i64 (a.s : Int)] 23)).alloc (.cells #[.bool b.neg, .string (decB b.n), .int .i64 (b.s : Int)] 23)).alloc (.cells #[.bool c.neg, .string (decB c.n), .int .i64 (c.s : Int)] 23)) = W0 := ⟨_, rfl⟩
  rw [hW0] at hb0 h1 h2 h3
  have hG0 := hG.later hb0
  have hSh := fun W hG => shown_any W hG
  have HB0 := Lib.hid hb0
  have HG := Lib.hid hG
  have HS0 : Hid (RowKit.Below w.heap.size w W0 ∧ Blk W0 (w.heap.size) (#[.bool a.neg, .string (decB a.n), .int .i64 (a.s : Int)]) 23 ∧ Blk W0 (w.heap.size + 1) (#[.bool b.neg, .string (decB b.n), .int .i64 (b.s : Int)]) 23 ∧ Blk W0 (w.heap.size + 1 + 1) (#[.bool c.neg, .string (decB c.n), .int .i64 (c.s : Int)]) 23) := ⟨hb0, h1, h2, h3⟩
  obtain ⟨a0, a1, a2, _, _, _⟩ := h1.three
  obtain ⟨b0, b1, b2, _, _, _⟩ := h2.three
  obtain ⟨c0, c1, c2, _, _, _⟩ := h3.three
  have hz0 : w.heap.size + 3 ≤ W0.heap.size := by have := h3.lt; omega
  clear hb0 h1 h2 h3 hG
  rw [V.d_val, V.d_val, V.d_val]
  have HhC1 := Lib.hid hC1
  have HhC2 := Lib.hid hC2
  have HhC3 := Lib.hid hC3
  have HhT := Lib.hid hT
  have HhR := Lib.hid hR
  have HhA1 := Lib.hid hA1
  have HhA2 := Lib.hid hA2
  have HhM1 := Lib.hid hM1
  have HhM2 := Lib.hid hM2
  have HhS1 := Lib.hid hS1
  have HhK := Lib.hid hK
  have HhB := Lib.hid hB
  have HhL1 := Lib.hid hL1
  have HhL2 := Lib.hid hL2
  have HhL3 := Lib.hid hL3
  have HhL4 := Lib.hid hL4
  have Hhdis := Lib.hid hdis
  have Hhc1 := Lib.hid hc1
  have Hhc2 := Lib.hid hc2
  have Hhc3 := Lib.hid hc3
  clear hC1 hC2 hC3 hT hR hA1 hA2 hM1 hM2 hS1 hK hB hL1 hL2 hL3 hL4 hdis hc1 hc2 hc3 hXS hk hrM htl hrt htd ht hA hD
  clear hG0
  go_enter Tryd.func3, Tryd.ntmps3
  go_wp2_with (go_at_call 5; (with_reducible refine (HhC1.out _).mono ?_))
  first | rintro e1 w1 rfl hb1 | rintro e1 w1 ⟨rfl, hb1⟩
  clear a0 a1 a2 b0 b1 b2 c0 c1 c2
  have hS1 : RowKit.Below w.heap.size w w1 ∧ Blk w1 (w.heap.size) (#[.bool a.neg, .string (decB a.n), .int .i64 (a.s : Int)]) 23 ∧ Blk w1 (w.heap.size + 1) (#[.bool b.neg, .string (decB b.n), .int .i64 (b.s : Int)]) 23 ∧ Blk w1 (w.heap.size + 1 + 1) (#[.bool c.neg, .string (decB c.n), .int .i64 (c.s : Int)]) 23 := ⟨b_step hb1 (HS0.out.1), (HS0.out.2.1).below (HS0.out.2.1).lt hb1, (HS0.out.2.2.1).below (HS0.out.2.2.1).lt hb1, (HS0.out.2.2.2).below (HS0.out.2.2.2).lt hb1⟩
  have hz1 : W0.heap.size ≤ w1.heap.size := hb1.size
  clear HS0 hb1
  clear hW0
  obtain ⟨b0, b1, b2, _, _, _⟩ := (hS1.2.2.1).three
  obtain ⟨c0, c1, c2, _, _, _⟩ := (hS1.2.2.2).three
  go_wp2_with (go_at_call 5; (with_reducible refine (HhC2.out _).mono ?_))
  first | rintro e2 w2 rfl hb2 | rintro e2 w2 ⟨rfl, hb2⟩
  clear b0 b1 b2 c0 c1 c2
  have hS2 : RowKit.Below w.heap.size w w2 ∧ Blk w2 (w.heap.size) (#[.bool a.neg, .string (decB a.n), .int .i64 (a.s : Int)]) 23 ∧ Blk w2 (w.heap.size + 1) (#[.bool b.neg, .string (decB b.n), .int .i64 (b.s : Int)]) 23 ∧ Blk w2 (w.heap.size + 1 + 1) (#[.bool c.neg, .string (decB c.n), .int .i64 (c.s : Int)]) 23 := ⟨b_step hb2 (hS1.1), (hS1.2.1).below (hS1.2.1).lt hb2, (hS1.2.2.1).below (hS1.2.2.1).lt hb2, (hS1.2.2.2).below (hS1.2.2.2).lt hb2⟩
  have hz2 : w1.heap.size ≤ w2.heap.size := hb2.size
  clear hS1 hb2
  obtain ⟨c0, c1, c2, _, _, _⟩ := (hS2.2.2.2).three
  go_wp2_with (go_at_call 5; (with_reducible refine (HhC3.out _).mono ?_))
  first | rintro e3 w3 rfl hb3 | rintro e3 w3 ⟨rfl, hb3⟩
  clear c0 c1 c2
  have hS3 : RowKit.Below w.heap.size w w3 ∧ Blk w3 (w.heap.size) (#[.bool a.neg, .string (decB a.n), .int .i64 (a.s : Int)]) 23 ∧ Blk w3 (w.heap.size + 1) (#[.bool b.neg, .string (decB b.n), .int .i64 (b.s : Int)]) 23 ∧ Blk w3 (w.heap.size + 1 + 1) (#[.bool c.neg, .string (decB c.n), .int .i64 (c.s : Int)]) 23 := ⟨b_step hb3 (hS2.1), (hS2.2.1).below (hS2.2.1).lt hb3, (hS2.2.2.1).below (hS2.2.2.1).lt hb3, (hS2.2.2.2).below (hS2.2.2.2).lt hb3⟩
  have hz3 : w2.heap.size ≤ w3.heap.size := hb3.size
  clear hS2 hb3
  obtain ⟨a0, a1, a2, _, _, _⟩ := (hS3.2.1).three
  go_wp2_with (go_at_call 7; (with_reducible refine (HhT.out _).mono ?_))
  first | rintro e4 w4 rfl hb4 | rintro e4 w4 ⟨rfl, hb4⟩
  clear a0 a1 a2
  have hS4 : RowKit.Below w.heap.size w w4 ∧ Blk w4 (w.heap.size) (#[.bool a.neg, .string (decB a.n), .int .i64 (a.s : Int)]) 23 ∧ Blk w4 (w.heap.size + 1) (#[.bool b.neg, .string (decB b.n), .int .i64 (b.s : Int)]) 23 ∧ Blk w4 (w.heap.size + 1 + 1) (#[.bool c.neg, .string (decB c.n), .int .i64 (c.s : Int)]) 23 := ⟨b_step hb4 (hS3.1), (hS3.2.1).below (hS3.2.1).lt hb4, (hS3.2.2.1).below (hS3.2.2.1).lt hb4, (hS3.2.2.2).below (hS3.2.2.2).lt hb4⟩
  have hz4 : w3.heap.size ≤ w4.heap.size := hb4.size
  clear hS3 hb4
  have hG4 := HG.out.later (hS4.1)
  go_wp2_with (go_at_call 8; (with_reducible refine (HhR.out _ hG4).mono ?_))
  first | rintro e5 w5 rfl hb5 | rintro e5 w5 ⟨rfl, hb5⟩
  clear hG4
  have hS5 : RowKit.Below w.heap.size w w5 ∧ Blk w5 (w.heap.size) (#[.bool a.neg, .string (decB a.n), .int .i64 (a.s : Int)]) 23 ∧ Blk w5 (w.heap.size + 1) (#[.bool b.neg, .string (decB b.n), .int .i64 (b.s : Int)]) 23 ∧ Blk w5 (w.heap.size + 1 + 1) (#[.bool c.neg, .string (decB c.n), .int .i64 (c.s : Int)]) 23 := ⟨b_step hb5 (hS4.1), (hS4.2.1).below (hS4.2.1).lt hb5, (hS4.2.2.1).below (hS4.2.2.1).lt hb5, (hS4.2.2.2).below (hS4.2.2.2).lt hb5⟩
  have hz5 : w4.heap.size ≤ w5.heap.size := hb5.size
  clear hS4 hb5
  obtain ⟨v5, hv5⟩ : ∃ v, w5.alloc (.cells #[.bool a.neg, .string (decB a.n), .int .i64 (a.s : Int)] 23) = v := ⟨_, rfl⟩
  have hT5 : RowKit.Below w.heap.size w v5 ∧ Blk v5 (w.heap.size) (#[.bool a.neg, .string (decB a.n), .int .i64 (a.s : Int)]) 23 ∧ Blk v5 (w.heap.size + 1) (#[.bool b.neg, .string (decB b.n), .int .i64 (b.s : Int)]) 23 ∧ Blk v5 (w.heap.size + 1 + 1) (#[.bool c.neg, .string (decB c.n), .int .i64 (c.s : Int)]) 23 ∧ Blk v5 (w5.heap.size) (#[.bool a.neg, .string (decB a.n), .int .i64 (a.s : Int)]) 23 := by rw [← hv5]; exact ⟨b_alloc (hS5.1), (hS5.2.1).alloc _, (hS5.2.2.1).alloc _, (hS5.2.2.2).alloc _, Blk.new w5 _ _⟩
  have hy5 : w5.heap.size < v5.heap.size := (hT5.2.2.2.2).lt
  clear hS5
  have nA := fun W => L_ne_self a.neg (decB a.n) (a.s : Int) W
  have gA := fun op px py W => L_guard op px py a.neg (decB a.n) (a.s : Int) a.neg (decB a.n) (a.s : Int) W
  obtain ⟨a0, a1, a2, _, _, _⟩ := (hT5.2.1).three
  obtain ⟨b0, b1, b2, _, _, _⟩ := (hT5.2.2.1).three
  obtain ⟨u0, u1, u2, _, _, _⟩ := (hT5.2.2.2.2).three
  go_wp2_with (go_at_call 9; (with_reducible refine (HhA1.out _).mono ?_))
  first | rintro e6 w6 rfl hb6 | rintro e6 w6 ⟨rfl, hb6⟩
  clear a0 a1 a2 b0 b1 b2 u0 u1 u2
  clear nA gA
  have hS6 : RowKit.Below w.heap.size w w6 ∧ Blk w6 (w.heap.size) (#[.bool a.neg, .string (decB a.n), .int .i64 (a.s : Int)]) 23 ∧ Blk w6 (w.heap.size + 1) (#[.bool b.neg, .string (decB b.n), .int .i64 (b.s : Int)]) 23 ∧ Blk w6 (w.heap.size + 1 + 1) (#[.bool c.neg, .string (decB c.n), .int .i64 (c.s : Int)]) 23 ∧ Blk w6 (w5.heap.size) (#[.bool a.neg, .string (decB a.n), .int .i64 (a.s : Int)]) 23 := ⟨b_step hb6 (hT5.1), (hT5.2.1).below (hT5.2.1).lt hb6, (hT5.2.2.1).below (hT5.2.2.1).lt hb6, (hT5.2.2.2.1).below (hT5.2.2.2.1).lt hb6, (hT5.2.2.2.2).below (hT5.2.2.2.2).lt hb6⟩
  have hz6 : v5.heap.size ≤ w6.heap.size := hb6.size
  clear hT5 hb6
  clear hv5
  have khS6 : RowKit.Below w.heap.size w w6 ∧ Blk w6 (w.heap.size) (#[.bool a.neg, .string (decB a.n), .int .i64 (a.s : Int)]) 23 ∧ Blk w6 (w.heap.size + 1) (#[.bool b.neg, .string (decB b.n), .int .i64 (b.s : Int)]) 23 ∧ Blk w6 (w.heap.size + 1 + 1) (#[.bool c.neg, .string (decB c.n), .int .i64 (c.s : Int)]) 23 := ⟨(hS6.1), (hS6.2.1), (hS6.2.2.1), (hS6.2.2.2.1)⟩
  clear hS6
  obtain ⟨v6, hv6⟩ : ∃ v, w6.alloc (.cells #[.bool x.neg, .string (decB x.n), .int .i64 (x.s : Int)] 23) = v := ⟨_, rfl⟩
  have hT6 : RowKit.Below w.heap.size w v6 ∧ Blk v6 (w.heap.size) (#[.bool a.neg, .string (decB a.n), .int .i64 (a.s : Int)]) 23 ∧ Blk v6 (w.heap.size + 1) (#[.bool b.neg, .string (decB b.n), .int .i64 (b.s : Int)]) 23 ∧ Blk v6 (w.heap.size + 1 + 1) (#[.bool c.neg, .string (decB c.n), .int .i64 (c.s : Int)]) 23 ∧ Blk v6 (w6.heap.size) (#[.bool x.neg, .string (decB x.n), .int .i64 (x.s : Int)]) 23 := by rw [← hv6]; exact ⟨b_alloc (khS6.1), (khS6.2.1).alloc _, (khS6.2.2.1).alloc _, (khS6.2.2.2).alloc _, Blk.new w6 _ _⟩
  have hy6 : w6.heap.size < v6.heap.size := (hT6.2.2.2.2).lt
  clear khS6
  obtain ⟨a0, a1, a2, _, _, _⟩ := (hT6.2.1).three
  obtain ⟨b0, b1, b2, _, _, _⟩ := (hT6.2.2.1).three
  go_wp2_with (go_at_call 9; (with_reducible refine (HhA2.out _).mono ?_))
  first | rintro e7 w7 rfl hb7 | rintro e7 w7 ⟨rfl, hb7⟩
  clear a0 a1 a2 b0 b1 b2
  have hS7 : RowKit.Below w.heap.size w w7 ∧ Blk w7 (w.heap.size) (#[.bool a.neg, .string (decB a.n), .int .i64 (a.s : Int)]) 23 ∧ Blk w7 (w.heap.size + 1) (#[.bool b.neg, .string (decB b.n), .int .i64 (b.s : Int)]) 23 ∧ Blk w7 (w.heap.size + 1 + 1) (#[.bool c.neg, .string (decB c.n), .int .i64 (c.s : Int)]) 23 ∧ Blk w7 (w6.heap.size) (#[.bool x.neg, .string (decB x.n), .int .i64 (x.s : Int)]) 23 := ⟨b_step hb7 (hT6.1), (hT6.2.1).below (hT6.2.1).lt hb7, (hT6.2.2.1).below (hT6.2.2.1).lt hb7, (hT6.2.2.2.1).below (hT6.2.2.2.1).lt hb7, (hT6.2.2.2.2).below (hT6.2.2.2.2).lt hb7⟩
  have hz7 : v6.heap.size ≤ w7.heap.size := hb7.size
  clear hT6 hb7
  clear hv6
  obtain ⟨v7, hv7⟩ : ∃ v, w7.alloc (.cells #[.bool x.neg, .string (decB x.n), .int .i64 (x.s : Int)] 23) = v := ⟨_, rfl⟩
  have hT7 : RowKit.Below w.heap.size w v7 ∧ Blk v7 (w.heap.size) (#[.bool a.neg, .string (decB a.n), .int .i64 (a.s : Int)]) 23 ∧ Blk v7 (w.heap.size + 1) (#[.bool b.neg, .string (decB b.n), .int .i64 (b.s : Int)]) 23 ∧ Blk v7 (w.heap.size + 1 + 1) (#[.bool c.neg, .string (decB c.n), .int .i64 (c.s : Int)]) 23 ∧ Blk v7 (w6.heap.size) (#[.bool x.neg, .string (decB x.n), .int .i64 (x.s : Int)]) 23 ∧ Blk v7 (w7.heap.size) (#[.bool x.neg, .string (decB x.n), .int .i64 (x.s : Int)]) 23 := by rw [← hv7]; exact ⟨b_alloc (hS7.1), (hS7.2.1).alloc _, (hS7.2.2.1).alloc _, (hS7.2.2.2.1).alloc _, (hS7.2.2.2.2).alloc _, Blk.new w7 _ _⟩
  have hy7 : w7.heap.size < v7.heap.size := (hT7.2.2.2.2.2).lt
  clear hS7
  obtain ⟨a0, a1, a2, _, _, _⟩ := (hT7.2.1).three
  obtain ⟨b0, b1, b2, _, _, _⟩ := (hT7.2.2.1).three
  go_wp2_with (go_at_call 10; (with_reducible refine (HhM1.out _).mono ?_))
  first | rintro e8 w8 rfl hb8 | rintro e8 w8 ⟨rfl, hb8⟩
  clear a0 a1 a2 b0 b1 b2
  have hS8 : RowKit.Below w.heap.size w w8 ∧ Blk w8 (w.heap.size) (#[.bool a.neg, .string (decB a.n), .int .i64 (a.s : Int)]) 23 ∧ Blk w8 (w.heap.size + 1) (#[.bool b.neg, .string (decB b.n), .int .i64 (b.s : Int)]) 23 ∧ Blk w8 (w.heap.size + 1 + 1) (#[.bool c.neg, .string (decB c.n), .int .i64 (c.s : Int)]) 23 ∧ Blk w8 (w6.heap.size) (#[.bool x.neg, .string (decB x.n), .int .i64 (x.s : Int)]) 23 ∧ Blk w8 (w7.heap.size) (#[.bool x.neg, .string (decB x.n), .int .i64 (x.s : Int)]) 23 := ⟨b_step hb8 (hT7.1), (hT7.2.1).below (hT7.2.1).lt hb8, (hT7.2.2.1).below (hT7.2.2.1).lt hb8, (hT7.2.2.2.1).below (hT7.2.2.2.1).lt hb8, (hT7.2.2.2.2.1).below (hT7.2.2.2.2.1).lt hb8, (hT7.2.2.2.2.2).below (hT7.2.2.2.2.2).lt hb8⟩
  have hz8 : v7.heap.size ≤ w8.heap.size := hb8.size
  clear hT7 hb8
  clear hv7
  obtain ⟨v8, hv8⟩ : ∃ v, w8.alloc (.cells #[.bool m0, .string m1, .int .i64 m2] 23) = v := ⟨_, rfl⟩
  have hT8 : RowKit.Below w.heap.size w v8 ∧ Blk v8 (w.heap.size) (#[.bool a.neg, .string (decB a.n), .int .i64 (a.s : Int)]) 23 ∧ Blk v8 (w.heap.size + 1) (#[.bool b.neg, .string (decB b.n), .int .i64 (b.s : Int)]) 23 ∧ Blk v8 (w.heap.size + 1 + 1) (#[.bool c.neg, .string (decB c.n), .int .i64 (c.s : Int)]) 23 ∧ Blk v8 (w6.heap.size) (#[.bool x.neg, .string (decB x.n), .int .i64 (x.s : Int)]) 23 ∧ Blk v8 (w7.heap.size) (#[.bool x.neg, .string (decB x.n), .int .i64 (x.s : Int)]) 23 ∧ Blk v8 (w8.heap.size) (#[.bool m0, .string m1, .int .i64 m2]) 23 := by rw [← hv8]; exact ⟨b_alloc (hS8.1), (hS8.2.1).alloc _, (hS8.2.2.1).alloc _, (hS8.2.2.2.1).alloc _, (hS8.2.2.2.2.1).alloc _, (hS8.2.2.2.2.2).alloc _, Blk.new w8 _ _⟩
  have hy8 : w8.heap.size < v8.heap.size := (hT8.2.2.2.2.2.2).lt
  clear hS8
  obtain ⟨a0, a1, a2, _, _, _⟩ := (hT8.2.1).three
  obtain ⟨b0, b1, b2, _, _, _⟩ := (hT8.2.2.1).three
  go_wp2_with (go_at_call 10; (with_reducible refine (HhM2.out _).mono ?_))
  first | rintro e9 w9 rfl hb9 | rintro e9 w9 ⟨rfl, hb9⟩
  clear a0 a1 a2 b0 b1 b2
  have hS9 : RowKit.Below w.heap.size w w9 ∧ Blk w9 (w.heap.size) (#[.bool a.neg, .string (decB a.n), .int .i64 (a.s : Int)]) 23 ∧ Blk w9 (w.heap.size + 1) (#[.bool b.neg, .string (decB b.n), .int .i64 (b.s : Int)]) 23 ∧ Blk w9 (w.heap.size + 1 + 1) (#[.bool c.neg, .string (decB c.n), .int .i64 (c.s : Int)]) 23 ∧ Blk w9 (w6.heap.size) (#[.bool x.neg, .string (decB x.n), .int .i64 (x.s : Int)]) 23 ∧ Blk w9 (w7.heap.size) (#[.bool x.neg, .string (decB x.n), .int .i64 (x.s : Int)]) 23 ∧ Blk w9 (w8.heap.size) (#[.bool m0, .string m1, .int .i64 m2]) 23 := ⟨b_step hb9 (hT8.1), (hT8.2.1).below (hT8.2.1).lt hb9, (hT8.2.2.1).below (hT8.2.2.1).lt hb9, (hT8.2.2.2.1).below (hT8.2.2.2.1).lt hb9, (hT8.2.2.2.2.1).below (hT8.2.2.2.2.1).lt hb9, (hT8.2.2.2.2.2.1).below (hT8.2.2.2.2.2.1).lt hb9, (hT8.2.2.2.2.2.2).below (hT8.2.2.2.2.2.2).lt hb9⟩
  have hz9 : v8.heap.size ≤ w9.heap.size := hb9.size
  clear hT8 hb9
  clear hv8
  obtain ⟨v9, hv9⟩ : ∃ v, w9.alloc (.cells #[.bool m0, .string m1, .int .i64 m2] 23) = v := ⟨_, rfl⟩
  have hT9 : RowKit.Below w.heap.size w v9 ∧ Blk v9 (w.heap.size) (#[.bool a.neg, .string (decB a.n), .int .i64 (a.s : Int)]) 23 ∧ Blk v9 (w.heap.size + 1) (#[.bool b.neg, .string (decB b.n), .int .i64 (b.s : Int)]) 23 ∧ Blk v9 (w.heap.size + 1 + 1) (#[.bool c.neg, .string (decB c.n), .int .i64 (c.s : Int)]) 23 ∧ Blk v9 (w6.heap.size) (#[.bool x.neg, .string (decB x.n), .int .i64 (x.s : Int)]) 23 ∧ Blk v9 (w7.heap.size) (#[.bool x.neg, .string (decB x.n), .int .i64 (x.s : Int)]) 23 ∧ Blk v9 (w8.heap.size) (#[.bool m0, .string m1, .int .i64 m2]) 23 ∧ Blk v9 (w9.heap.size) (#[.bool m0, .string m1, .int .i64 m2]) 23 := by rw [← hv9]; exact ⟨b_alloc (hS9.1), (hS9.2.1).alloc _, (hS9.2.2.1).alloc _, (hS9.2.2.2.1).alloc _, (hS9.2.2.2.2.1).alloc _, (hS9.2.2.2.2.2.1).alloc _, (hS9.2.2.2.2.2.2).alloc _, Blk.new w9 _ _⟩
  have hy9 : w9.heap.size < v9.heap.size := (hT9.2.2.2.2.2.2.2).lt
  clear hS9
  obtain ⟨a0, a1, a2, _, _, _⟩ := (hT9.2.1).three
  obtain ⟨b0, b1, b2, _, _, _⟩ := (hT9.2.2.1).three
  obtain ⟨x0, x1, x2, _, _, _⟩ := (hT9.2.2.2.2.1).three
  obtain ⟨y0, y1, y2, _, _, _⟩ := (hT9.2.2.2.2.2.1).three
  obtain ⟨p0, p1, p2, _, _, _⟩ := (hT9.2.2.2.2.2.2.1).three
  obtain ⟨q0, q1, q2, _, _, _⟩ := (hT9.2.2.2.2.2.2.2).three
  have nX := fun W => L_ne_self x.neg (decB x.n) (x.s : Int) W
  have gX := fun op px py W => L_guard op px py x.neg (decB x.n) (x.s : Int) x.neg (decB x.n) (x.s : Int) W
  have nM := fun W => L_ne_self m0 m1 m2 W
  have gM := fun op px py W => L_guard op px py m0 m1 m2 m0 m1 m2 W
  go_wp2_with (go_at_call 11; (with_reducible refine (HhS1.out _).mono ?_))
  first | rintro e10 w10 rfl hb10 | rintro e10 w10 ⟨rfl, hb10⟩
  clear a0 a1 a2 b0 b1 b2 x0 x1 x2 y0 y1 y2 p0 p1 p2 q0 q1 q2
  clear nX gX nM gM
  have hS10 : RowKit.Below w.heap.size w w10 ∧ Blk w10 (w.heap.size) (#[.bool a.neg, .string (decB a.n), .int .i64 (a.s : Int)]) 23 ∧ Blk w10 (w.heap.size + 1) (#[.bool b.neg, .string (decB b.n), .int .i64 (b.s : Int)]) 23 ∧ Blk w10 (w.heap.size + 1 + 1) (#[.bool c.neg, .string (decB c.n), .int .i64 (c.s : Int)]) 23 ∧ Blk w10 (w6.heap.size) (#[.bool x.neg, .string (decB x.n), .int .i64 (x.s : Int)]) 23 ∧ Blk w10 (w7.heap.size) (#[.bool x.neg, .string (decB x.n), .int .i64 (x.s : Int)]) 23 ∧ Blk w10 (w8.heap.size) (#[.bool m0, .string m1, .int .i64 m2]) 23 ∧ Blk w10 (w9.heap.size) (#[.bool m0, .string m1, .int .i64 m2]) 23 := ⟨b_step hb10 (hT9.1), (hT9.2.1).below (hT9.2.1).lt hb10, (hT9.2.2.1).below (hT9.2.2.1).lt hb10, (hT9.2.2.2.1).below (hT9.2.2.2.1).lt hb10, (hT9.2.2.2.2.1).below (hT9.2.2.2.2.1).lt hb10, (hT9.2.2.2.2.2.1).below (hT9.2.2.2.2.2.1).lt hb10, (hT9.2.2.2.2.2.2.1).below (hT9.2.2.2.2.2.2.1).lt hb10, (hT9.2.2.2.2.2.2.2).below (hT9.2.2.2.2.2.2.2).lt hb10⟩
  have hz10 : v9.heap.size ≤ w10.heap.size := hb10.size
  clear hT9 hb10
  clear hv9
  have khS10 : RowKit.Below w.heap.size w w10 ∧ Blk w10 (w.heap.size) (#[.bool a.neg, .string (decB a.n), .int .i64 (a.s : Int)]) 23 ∧ Blk w10 (w.heap.size + 1) (#[.bool b.neg, .string (decB b.n), .int .i64 (b.s : Int)]) 23 ∧ Blk w10 (w.heap.size + 1 + 1) (#[.bool c.neg, .string (decB c.n), .int .i64 (c.s : Int)]) 23 ∧ Blk w10 (w6.heap.size) (#[.bool x.neg, .string (decB x.n), .int .i64 (x.s : Int)]) 23 := ⟨(hS10.1), (hS10.2.1), (hS10.2.2.1), (hS10.2.2.2.1), (hS10.2.2.2.2.1)⟩
  clear hS10
  have hT10 : RowKit.Below w.heap.size w (w10.alloc (.cells #[.bool false, .string ⟨#[]⟩, .int .i64 0] 23)) ∧ Blk (w10.alloc (.cells #[.bool false, .string ⟨#[]⟩, .int .i64 0] 23)) (w.heap.size) (#[.bool a.neg, .string (decB a.n), .int .i64 (a.s : Int)]) 23 ∧ Blk (w10.alloc (.cells #[.bool false, .string ⟨#[]⟩, .int .i64 0] 23)) (w.heap.size + 1) (#[.bool b.neg, .string (decB b.n), .int .i64 (b.s : Int)]) 23 ∧ Blk (w10.alloc (.cells #[.bool false, .string ⟨#[]⟩, .int .i64 0] 23)) (w.heap.size + 1 + 1) (#[.bool c.neg, .string (decB c.n), .int .i64 (c.s : Int)]) 23 ∧ Blk (w10.alloc (.cells #[.bool false, .string ⟨#[]⟩, .int .i64 0] 23)) (w6.heap.size) (#[.bool x.neg, .string (decB x.n), .int .i64 (x.s : Int)]) 23 ∧ Blk (w10.alloc (.cells #[.bool false, .string ⟨#[]⟩, .int .i64 0] 23)) (w10.heap.size) (#[.bool false, .string ⟨#[]⟩, .int .i64 0]) 23 := ⟨b_alloc (khS10.1), (khS10.2.1).alloc _, (khS10.2.2.1).alloc _, (khS10.2.2.2.1).alloc _, (khS10.2.2.2.2).alloc _, Blk.new w10 _ _⟩
  have hy10 : w10.heap.size < (w10.alloc (.cells #[.bool false, .string ⟨#[]⟩, .int .i64 0] 23)).heap.size := (hT10.2.2.2.2.2).lt
  clear khS10
  obtain ⟨a0, a1, a2, _, _, _⟩ := (hT10.2.1).three
  obtain ⟨b0, b1, b2, _, _, _⟩ := (hT10.2.2.1).three
  go_wp2_with (go_at_call 12; (with_reducible refine (HhK.out _).mono ?_))
  first | rintro e11 w11 rfl hb11 | rintro e11 w11 ⟨rfl, hb11⟩
  clear a0 a1 a2 b0 b1 b2
  have hS11 : RowKit.Below w.heap.size w w11 ∧ Blk w11 (w.heap.size) (#[.bool a.neg, .string (decB a.n), .int .i64 (a.s : Int)]) 23 ∧ Blk w11 (w.heap.size + 1) (#[.bool b.neg, .string (decB b.n), .int .i64 (b.s : Int)]) 23 ∧ Blk w11 (w.heap.size + 1 + 1) (#[.bool c.neg, .string (decB c.n), .int .i64 (c.s : Int)]) 23 ∧ Blk w11 (w6.heap.size) (#[.bool x.neg, .string (decB x.n), .int .i64 (x.s : Int)]) 23 ∧ Blk w11 (w10.heap.size) (#[.bool false, .string ⟨#[]⟩, .int .i64 0]) 23 := ⟨b_step hb11 (hT10.1), (hT10.2.1).below (hT10.2.1).lt hb11, (hT10.2.2.1).below (hT10.2.2.1).lt hb11, (hT10.2.2.2.1).below (hT10.2.2.2.1).lt hb11, (hT10.2.2.2.2.1).below (hT10.2.2.2.2.1).lt hb11, (hT10.2.2.2.2.2).below (hT10.2.2.2.2.2).lt hb11⟩
  have hz11 : (w10.alloc (.cells #[.bool false, .string ⟨#[]⟩, .int .i64 0] 23)).heap.size ≤ w11.heap.size := hb11.size
  clear hT10 hb11
  obtain ⟨d0, d1, d2, _, _, _⟩ := (hS11.2.2.2.2.2).three
  obtain ⟨x0, x1, x2, _, _, _⟩ := (hS11.2.2.2.2.1).three
  obtain ⟨b0, b1, b2, _, _, _⟩ := (hS11.2.2.1).three
  go_wp2_with (go_at_call 11; (with_reducible refine (HhB.out _).mono ?_))
  first | rintro e12 w12 rfl hb12 | rintro e12 w12 ⟨rfl, hb12⟩
  clear d0 d1 d2 x0 x1 x2 b0 b1 b2
  have hS12 : RowKit.Below w.heap.size w w12 ∧ Blk w12 (w.heap.size) (#[.bool a.neg, .string (decB a.n), .int .i64 (a.s : Int)]) 23 ∧ Blk w12 (w.heap.size + 1) (#[.bool b.neg, .string (decB b.n), .int .i64 (b.s : Int)]) 23 ∧ Blk w12 (w.heap.size + 1 + 1) (#[.bool c.neg, .string (decB c.n), .int .i64 (c.s : Int)]) 23 ∧ Blk w12 (w6.heap.size) (#[.bool x.neg, .string (decB x.n), .int .i64 (x.s : Int)]) 23 ∧ Blk w12 (w10.heap.size) (#[.bool false, .string ⟨#[]⟩, .int .i64 0]) 23 := ⟨b_step hb12 (hS11.1), (hS11.2.1).below (hS11.2.1).lt hb12, (hS11.2.2.1).below (hS11.2.2.1).lt hb12, (hS11.2.2.2.1).below (hS11.2.2.2.1).lt hb12, (hS11.2.2.2.2.1).below (hS11.2.2.2.2.1).lt hb12, (hS11.2.2.2.2.2).below (hS11.2.2.2.2.2).lt hb12⟩
  have hz12 : w11.heap.size ≤ w12.heap.size := hb12.size
  clear hS11 hb12
  have khS12 : RowKit.Below w.heap.size w w12 ∧ Blk w12 (w.heap.size) (#[.bool a.neg, .string (decB a.n), .int .i64 (a.s : Int)]) 23 ∧ Blk w12 (w.heap.size + 1) (#[.bool b.neg, .string (decB b.n), .int .i64 (b.s : Int)]) 23 ∧ Blk w12 (w.heap.size + 1 + 1) (#[.bool c.neg, .string (decB c.n), .int .i64 (c.s : Int)]) 23 ∧ Blk w12 (w6.heap.size) (#[.bool x.neg, .string (decB x.n), .int .i64 (x.s : Int)]) 23 := ⟨(hS12.1), (hS12.2.1), (hS12.2.2.1), (hS12.2.2.2.1), (hS12.2.2.2.2.1)⟩
  clear hS12
  obtain ⟨v12, hv12⟩ : ∃ v, w12.alloc (.cells #[.bool a.neg, .string (decB a.n), .int .i64 (a.s : Int)] 23) = v := ⟨_, rfl⟩
  have hT12 : RowKit.Below w.heap.size w v12 ∧ Blk v12 (w.heap.size) (#[.bool a.neg, .string (decB a.n), .int .i64 (a.s : Int)]) 23 ∧ Blk v12 (w.heap.size + 1) (#[.bool b.neg, .string (decB b.n), .int .i64 (b.s : Int)]) 23 ∧ Blk v12 (w.heap.size + 1 + 1) (#[.bool c.neg, .string (decB c.n), .int .i64 (c.s : Int)]) 23 ∧ Blk v12 (w6.heap.size) (#[.bool x.neg, .string (decB x.n), .int .i64 (x.s : Int)]) 23 ∧ Blk v12 (w12.heap.size) (#[.bool a.neg, .string (decB a.n), .int .i64 (a.s : Int)]) 23 := by rw [← hv12]; exact ⟨b_alloc (khS12.1), (khS12.2.1).alloc _, (khS12.2.2.1).alloc _, (khS12.2.2.2.1).alloc _, (khS12.2.2.2.2).alloc _, Blk.new w12 _ _⟩
  have hy12 : w12.heap.size < v12.heap.size := (hT12.2.2.2.2.2).lt
  clear khS12
  have nA := fun W => L_ne_self a.neg (decB a.n) (a.s : Int) W
  have gA := fun op px py W => L_guard op px py a.neg (decB a.n) (a.s : Int) a.neg (decB a.n) (a.s : Int) W
  obtain ⟨a0, a1, a2, _, _, _⟩ := (hT12.2.1).three
  obtain ⟨z0, z1, z2, _, _, _⟩ := (hT12.2.2.2.2.2).three
  obtain ⟨x0, x1, x2, _, _, _⟩ := (hT12.2.2.2.2.1).three
  obtain ⟨c0, c1, c2, _, _, _⟩ := (hT12.2.2.2.1).three
  have hc1 := Hhc1.out
  have hc2 := Hhc2.out
  have hc3 := Hhc3.out
  have hL1 := HhL1.out
  have hL2 := HhL2.out
  have hL3 := HhL3.out
  clear Hhc1 Hhc2 Hhc3 HhL1 HhL2 HhL3
  rcases hc1 with ⟨l, hl, e1⟩ | e1
  · rcases hc2 with ⟨o, ho, e2⟩ | e2
    · rcases hc3 with ⟨t, ht, e3⟩ | e3
      · skip
        simp only [e1, R.ok_val, err_val, V.d_val] at hL1
        have HhL1 := Lib.hid hL1
        clear hL1
        simp only [e2, R.ok_val, err_val, V.d_val] at hL2
        have HhL2 := Lib.hid hL2
        clear hL2
        simp only [e3, R.ok_val, err_val, V.d_val] at hL3
        have HhL3 := Lib.hid hL3
        clear hL3
        have h4 := fun W => HhL4.out o t ho ht W
        rw [Hhdis.out l o t hl ho ht e1 e2 e3] at h4
        simp only [R.ok_val, V.d_val] at h4
        have H4 := Lib.hid h4
        clear h4
        clear e1 e2 e3 hl ho ht
        go_wp2_with (go_at_call 10; (with_reducible refine (HhL1.out _).mono ?_))
        first | rintro e13 w13 rfl hb13 | rintro e13 w13 ⟨rfl, hb13⟩
        clear a0 a1 a2 z0 z1 z2 x0 x1 x2 c0 c1 c2
        clear nA gA
        have hS13 : RowKit.Below w.heap.size w w13 ∧ Blk w13 (w.heap.size) (#[.bool a.neg, .string (decB a.n), .int .i64 (a.s : Int)]) 23 ∧ Blk w13 (w.heap.size + 1) (#[.bool b.neg, .string (decB b.n), .int .i64 (b.s : Int)]) 23 ∧ Blk w13 (w.heap.size + 1 + 1) (#[.bool c.neg, .string (decB c.n), .int .i64 (c.s : Int)]) 23 ∧ Blk w13 (w6.heap.size) (#[.bool x.neg, .string (decB x.n), .int .i64 (x.s : Int)]) 23 ∧ Blk w13 (w12.heap.size) (#[.bool a.neg, .string (decB a.n), .int .i64 (a.s : Int)]) 23 := ⟨b_step hb13 (hT12.1), (hT12.2.1).below (hT12.2.1).lt hb13, (hT12.2.2.1).below (hT12.2.2.1).lt hb13, (hT12.2.2.2.1).below (hT12.2.2.2.1).lt hb13, (hT12.2.2.2.2.1).below (hT12.2.2.2.2.1).lt hb13, (hT12.2.2.2.2.2).below (hT12.2.2.2.2.2).lt hb13⟩
        have hz13 : v12.heap.size ≤ w13.heap.size := hb13.size
        clear hT12 hb13
        clear hv12
        have khS13 : RowKit.Below w.heap.size w w13 ∧ Blk w13 (w.heap.size) (#[.bool a.neg, .string (decB a.n), .int .i64 (a.s : Int)]) 23 ∧ Blk w13 (w.heap.size + 1) (#[.bool b.neg, .string (decB b.n), .int .i64 (b.s : Int)]) 23 ∧ Blk w13 (w.heap.size + 1 + 1) (#[.bool c.neg, .string (decB c.n), .int .i64 (c.s : Int)]) 23 ∧ Blk w13 (w6.heap.size) (#[.bool x.neg, .string (decB x.n), .int .i64 (x.s : Int)]) 23 := ⟨(hS13.1), (hS13.2.1), (hS13.2.2.1), (hS13.2.2.2.1), (hS13.2.2.2.2.1)⟩
        clear hS13
        obtain ⟨v13, hv13⟩ : ∃ v, w13.alloc (.cells #[.bool l.neg, .string (decB l.n), .int .i64 (l.s : Int)] 23) = v := ⟨_, rfl⟩
        have hT13 : RowKit.Below w.heap.size w v13 ∧ Blk v13 (w.heap.size) (#[.bool a.neg, .string (decB a.n), .int .i64 (a.s : Int)]) 23 ∧ Blk v13 (w.heap.size + 1) (#[.bool b.neg, .string (decB b.n), .int .i64 (b.s : Int)]) 23 ∧ Blk v13 (w.heap.size + 1 + 1) (#[.bool c.neg, .string (decB c.n), .int .i64 (c.s : Int)]) 23 ∧ Blk v13 (w6.heap.size) (#[.bool x.neg, .string (decB x.n), .int .i64 (x.s : Int)]) 23 ∧ Blk v13 (w13.heap.size) (#[.bool l.neg, .string (decB l.n), .int .i64 (l.s : Int)]) 23 := by rw [← hv13]; exact ⟨b_alloc (khS13.1), (khS13.2.1).alloc _, (khS13.2.2.1).alloc _, (khS13.2.2.2.1).alloc _, (khS13.2.2.2.2).alloc _, Blk.new w13 _ _⟩
        have hy13 : w13.heap.size < v13.heap.size := (hT13.2.2.2.2.2).lt
        clear khS13
        obtain ⟨a0, a1, a2, _, _, _⟩ := (hT13.2.1).three
        obtain ⟨c0, c1, c2, _, _, _⟩ := (hT13.2.2.2.1).three
        go_wp2_with (go_at_call 10; (with_reducible refine (HhL2.out _).mono ?_))
        first | rintro e14 w14 rfl hb14 | rintro e14 w14 ⟨rfl, hb14⟩
        clear a0 a1 a2 c0 c1 c2
        have hS14 : RowKit.Below w.heap.size w w14 ∧ Blk w14 (w.heap.size) (#[.bool a.neg, .string (decB a.n), .int .i64 (a.s : Int)]) 23 ∧ Blk w14 (w.heap.size + 1) (#[.bool b.neg, .string (decB b.n), .int .i64 (b.s : Int)]) 23 ∧ Blk w14 (w.heap.size + 1 + 1) (#[.bool c.neg, .string (decB c.n), .int .i64 (c.s : Int)]) 23 ∧ Blk w14 (w6.heap.size) (#[.bool x.neg, .string (decB x.n), .int .i64 (x.s : Int)]) 23 ∧ Blk w14 (w13.heap.size) (#[.bool l.neg, .string (decB l.n), .int .i64 (l.s : Int)]) 23 := ⟨b_step hb14 (hT13.1), (hT13.2.1).below (hT13.2.1).lt hb14, (hT13.2.2.1).below (hT13.2.2.1).lt hb14, (hT13.2.2.2.1).below (hT13.2.2.2.1).lt hb14, (hT13.2.2.2.2.1).below (hT13.2.2.2.2.1).lt hb14, (hT13.2.2.2.2.2).below (hT13.2.2.2.2.2).lt hb14⟩
        have hz14 : v13.heap.size ≤ w14.heap.size := hb14.size
        clear hT13 hb14
        clear hv13
        obtain ⟨v14, hv14⟩ : ∃ v, w14.alloc (.cells #[.bool o.neg, .string (decB o.n), .int .i64 (o.s : Int)] 23) = v := ⟨_, rfl⟩
        have hT14 : RowKit.Below w.heap.size w v14 ∧ Blk v14 (w.heap.size) (#[.bool a.neg, .string (decB a.n), .int .i64 (a.s : Int)]) 23 ∧ Blk v14 (w.heap.size + 1) (#[.bool b.neg, .string (decB b.n), .int .i64 (b.s : Int)]) 23 ∧ Blk v14 (w.heap.size + 1 + 1) (#[.bool c.neg, .string (decB c.n), .int .i64 (c.s : Int)]) 23 ∧ Blk v14 (w6.heap.size) (#[.bool x.neg, .string (decB x.n), .int .i64 (x.s : Int)]) 23 ∧ Blk v14 (w13.heap.size) (#[.bool l.neg, .string (decB l.n), .int .i64 (l.s : Int)]) 23 ∧ Blk v14 (w14.heap.size) (#[.bool o.neg, .string (decB o.n), .int .i64 (o.s : Int)]) 23 := by rw [← hv14]; exact ⟨b_alloc (hS14.1), (hS14.2.1).alloc _, (hS14.2.2.1).alloc _, (hS14.2.2.2.1).alloc _, (hS14.2.2.2.2.1).alloc _, (hS14.2.2.2.2.2).alloc _, Blk.new w14 _ _⟩
        have hy14 : w14.heap.size < v14.heap.size := (hT14.2.2.2.2.2.2).lt
        clear hS14
        obtain ⟨b0, b1, b2, _, _, _⟩ := (hT14.2.2.1).three
        obtain ⟨c0, c1, c2, _, _, _⟩ := (hT14.2.2.2.1).three
        go_wp2_with (go_at_call 10; (with_reducible refine (HhL3.out _).mono ?_))
        first | rintro e15 w15 rfl hb15 | rintro e15 w15 ⟨rfl, hb15⟩
        clear b0 b1 b2 c0 c1 c2
        have hS15 : RowKit.Below w.heap.size w w15 ∧ Blk w15 (w.heap.size) (#[.bool a.neg, .string (decB a.n), .int .i64 (a.s : Int)]) 23 ∧ Blk w15 (w.heap.size + 1) (#[.bool b.neg, .string (decB b.n), .int .i64 (b.s : Int)]) 23 ∧ Blk w15 (w.heap.size + 1 + 1) (#[.bool c.neg, .string (decB c.n), .int .i64 (c.s : Int)]) 23 ∧ Blk w15 (w6.heap.size) (#[.bool x.neg, .string (decB x.n), .int .i64 (x.s : Int)]) 23 ∧ Blk w15 (w13.heap.size) (#[.bool l.neg, .string (decB l.n), .int .i64 (l.s : Int)]) 23 ∧ Blk w15 (w14.heap.size) (#[.bool o.neg, .string (decB o.n), .int .i64 (o.s : Int)]) 23 := ⟨b_step hb15 (hT14.1), (hT14.2.1).below (hT14.2.1).lt hb15, (hT14.2.2.1).below (hT14.2.2.1).lt hb15, (hT14.2.2.2.1).below (hT14.2.2.2.1).lt hb15, (hT14.2.2.2.2.1).below (hT14.2.2.2.2.1).lt hb15, (hT14.2.2.2.2.2.1).below (hT14.2.2.2.2.2.1).lt hb15, (hT14.2.2.2.2.2.2).below (hT14.2.2.2.2.2.2).lt hb15⟩
        have hz15 : v14.heap.size ≤ w15.heap.size := hb15.size
        clear hT14 hb15
        clear hv14
        obtain ⟨v15, hv15⟩ : ∃ v, w15.alloc (.cells #[.bool t.neg, .string (decB t.n), .int .i64 (t.s : Int)] 23) = v := ⟨_, rfl⟩
        have hT15 : RowKit.Below w.heap.size w v15 ∧ Blk v15 (w.heap.size) (#[.bool a.neg, .string (decB a.n), .int .i64 (a.s : Int)]) 23 ∧ Blk v15 (w.heap.size + 1) (#[.bool b.neg, .string (decB b.n), .int .i64 (b.s : Int)]) 23 ∧ Blk v15 (w.heap.size + 1 + 1) (#[.bool c.neg, .string (decB c.n), .int .i64 (c.s : Int)]) 23 ∧ Blk v15 (w6.heap.size) (#[.bool x.neg, .string (decB x.n), .int .i64 (x.s : Int)]) 23 ∧ Blk v15 (w13.heap.size) (#[.bool l.neg, .string (decB l.n), .int .i64 (l.s : Int)]) 23 ∧ Blk v15 (w14.heap.size) (#[.bool o.neg, .string (decB o.n), .int .i64 (o.s : Int)]) 23 ∧ Blk v15 (w15.heap.size) (#[.bool t.neg, .string (decB t.n), .int .i64 (t.s : Int)]) 23 := by rw [← hv15]; exact ⟨b_alloc (hS15.1), (hS15.2.1).alloc _, (hS15.2.2.1).alloc _, (hS15.2.2.2.1).alloc _, (hS15.2.2.2.2.1).alloc _, (hS15.2.2.2.2.2.1).alloc _, (hS15.2.2.2.2.2.2).alloc _, Blk.new w15 _ _⟩
        have hy15 : w15.heap.size < v15.heap.size := (hT15.2.2.2.2.2.2.2).lt
        clear hS15
        obtain ⟨o0, o1, o2, _, _, _⟩ := (hT15.2.2.2.2.2.2.1).three
        obtain ⟨t0, t1, t2, _, _, _⟩ := (hT15.2.2.2.2.2.2.2).three
        go_wp2_with (go_at_call 9; (with_reducible refine (H4.out _).mono ?_))
        first | rintro e16 w16 rfl hb16 | rintro e16 w16 ⟨rfl, hb16⟩
        clear o0 o1 o2 t0 t1 t2
        have hS16 : RowKit.Below w.heap.size w w16 ∧ Blk w16 (w.heap.size) (#[.bool a.neg, .string (decB a.n), .int .i64 (a.s : Int)]) 23 ∧ Blk w16 (w.heap.size + 1) (#[.bool b.neg, .string (decB b.n), .int .i64 (b.s : Int)]) 23 ∧ Blk w16 (w.heap.size + 1 + 1) (#[.bool c.neg, .string (decB c.n), .int .i64 (c.s : Int)]) 23 ∧ Blk w16 (w6.heap.size) (#[.bool x.neg, .string (decB x.n), .int .i64 (x.s : Int)]) 23 ∧ Blk w16 (w13.heap.size) (#[.bool l.neg, .string (decB l.n), .int .i64 (l.s : Int)]) 23 ∧ Blk w16 (w14.heap.size) (#[.bool o.neg, .string (decB o.n), .int .i64 (o.s : Int)]) 23 ∧ Blk w16 (w15.heap.size) (#[.bool t.neg, .string (decB t.n), .int .i64 (t.s : Int)]) 23 := ⟨b_step hb16 (hT15.1), (hT15.2.1).below (hT15.2.1).lt hb16, (hT15.2.2.1).below (hT15.2.2.1).lt hb16, (hT15.2.2.2.1).below (hT15.2.2.2.1).lt hb16, (hT15.2.2.2.2.1).below (hT15.2.2.2.2.1).lt hb16, (hT15.2.2.2.2.2.1).below (hT15.2.2.2.2.2.1).lt hb16, (hT15.2.2.2.2.2.2.1).below (hT15.2.2.2.2.2.2.1).lt hb16, (hT15.2.2.2.2.2.2.2).below (hT15.2.2.2.2.2.2.2).lt hb16⟩
        have hz16 : v15.heap.size ≤ w16.heap.size := hb16.size
        clear hT15 hb16
        clear hv15
        obtain ⟨v16, hv16⟩ : ∃ v, w16.alloc (.cells #[.bool l.neg, .string (decB l.n), .int .i64 (l.s : Int)] 23) = v := ⟨_, rfl⟩
        have hT16 : RowKit.Below w.heap.size w v16 ∧ Blk v16 (w.heap.size) (#[.bool a.neg, .string (decB a.n), .int .i64 (a.s : Int)]) 23 ∧ Blk v16 (w.heap.size + 1) (#[.bool b.neg, .string (decB b.n), .int .i64 (b.s : Int)]) 23 ∧ Blk v16 (w.heap.size + 1 + 1) (#[.bool c.neg, .string (decB c.n), .int .i64 (c.s : Int)]) 23 ∧ Blk v16 (w6.heap.size) (#[.bool x.neg, .string (decB x.n), .int .i64 (x.s : Int)]) 23 ∧ Blk v16 (w13.heap.size) (#[.bool l.neg, .string (decB l.n), .int .i64 (l.s : Int)]) 23 ∧ Blk v16 (w14.heap.size) (#[.bool o.neg, .string (decB o.n), .int .i64 (o.s : Int)]) 23 ∧ Blk v16 (w15.heap.size) (#[.bool t.neg, .string (decB t.n), .int .i64 (t.s : Int)]) 23 ∧ Blk v16 (w16.heap.size) (#[.bool l.neg, .string (decB l.n), .int .i64 (l.s : Int)]) 23 := by rw [← hv16]; exact ⟨b_alloc (hS16.1), (hS16.2.1).alloc _, (hS16.2.2.1).alloc _, (hS16.2.2.2.1).alloc _, (hS16.2.2.2.2.1).alloc _, (hS16.2.2.2.2.2.1).alloc _, (hS16.2.2.2.2.2.2.1).alloc _, (hS16.2.2.2.2.2.2.2).alloc _, Blk.new w16 _ _⟩
        have hy16 : w16.heap.size < v16.heap.size := (hT16.2.2.2.2.2.2.2.2).lt
        clear hS16
        have nL := fun W => L_ne_self l.neg (decB l.n) (l.s : Int) W
        have gL := fun op px py W => L_guard op px py l.neg (decB l.n) (l.s : Int) l.neg (decB l.n) (l.s : Int) W
        obtain ⟨l0, l1, l2, _, _, _⟩ := (hT16.2.2.2.2.2.1).three
        obtain ⟨r0, r1, r2, _, _, _⟩ := (hT16.2.2.2.2.2.2.2.2).three
        have hGG := HG.out.later (hT16.1)
        have HBz := Lib.hid (hT16.1)
        clear hT16
        go_wp2_with (go_at_call 6; refine (hSh _ hGG).mono ?_)
        first | rintro e17 w17 rfl hb17 | rintro e17 w17 ⟨rfl, hb17⟩
        have HBy := Lib.hid (b_step hb17 HBz.out)
        clear hb17 l0 l1 l2 r0 r1 r2
        clear hv16
        go_wp2
        go_ret
        exact ⟨rfl, HBy.out⟩
      · skip
        simp only [e1, R.ok_val, err_val, V.d_val] at hL1
        have HhL1 := Lib.hid hL1
        clear hL1
        simp only [e2, R.ok_val, err_val, V.d_val] at hL2
        have HhL2 := Lib.hid hL2
        clear hL2
        simp only [e3, R.ok_val, err_val, V.d_val] at hL3
        have HhL3 := Lib.hid hL3
        clear hL3
        clear e1 e2 e3 hl ho
        go_wp2_with (go_at_call 10; (with_reducible refine (HhL1.out _).mono ?_))
        first | rintro e13 w13 rfl hb13 | rintro e13 w13 ⟨rfl, hb13⟩
        clear a0 a1 a2 z0 z1 z2 x0 x1 x2 c0 c1 c2
        clear nA gA
        have hS13 : RowKit.Below w.heap.size w w13 ∧ Blk w13 (w.heap.size) (#[.bool a.neg, .string (decB a.n), .int .i64 (a.s : Int)]) 23 ∧ Blk w13 (w.heap.size + 1) (#[.bool b.neg, .string (decB b.n), .int .i64 (b.s : Int)]) 23 ∧ Blk w13 (w.heap.size + 1 + 1) (#[.bool c.neg, .string (decB c.n), .int .i64 (c.s : Int)]) 23 ∧ Blk w13 (w6.heap.size) (#[.bool x.neg, .string (decB x.n), .int .i64 (x.s : Int)]) 23 ∧ Blk w13 (w12.heap.size) (#[.bool a.neg, .string (decB a.n), .int .i64 (a.s : Int)]) 23 := ⟨b_step hb13 (hT12.1), (hT12.2.1).below (hT12.2.1).lt hb13, (hT12.2.2.1).below (hT12.2.2.1).lt hb13, (hT12.2.2.2.1).below (hT12.2.2.2.1).lt hb13, (hT12.2.2.2.2.1).below (hT12.2.2.2.2.1).lt hb13, (hT12.2.2.2.2.2).below (hT12.2.2.2.2.2).lt hb13⟩
        have hz13 : v12.heap.size ≤ w13.heap.size := hb13.size
        clear hT12 hb13
        clear hv12
        have khS13 : RowKit.Below w.heap.size w w13 ∧ Blk w13 (w.heap.size) (#[.bool a.neg, .string (decB a.n), .int .i64 (a.s : Int)]) 23 ∧ Blk w13 (w.heap.size + 1) (#[.bool b.neg, .string (decB b.n), .int .i64 (b.s : Int)]) 23 ∧ Blk w13 (w.heap.size + 1 + 1) (#[.bool c.neg, .string (decB c.n), .int .i64 (c.s : Int)]) 23 ∧ Blk w13 (w6.heap.size) (#[.bool x.neg, .string (decB x.n), .int .i64 (x.s : Int)]) 23 := ⟨(hS13.1), (hS13.2.1), (hS13.2.2.1), (hS13.2.2.2.1), (hS13.2.2.2.2.1)⟩
        clear hS13
        obtain ⟨v13, hv13⟩ : ∃ v, w13.alloc (.cells #[.bool l.neg, .string (decB l.n), .int .i64 (l.s : Int)] 23) = v := ⟨_, rfl⟩
        have hT13 : RowKit.Below w.heap.size w v13 ∧ Blk v13 (w.heap.size) (#[.bool a.neg, .string (decB a.n), .int .i64 (a.s : Int)]) 23 ∧ Blk v13 (w.heap.size + 1) (#[.bool b.neg, .string (decB b.n), .int .i64 (b.s : Int)]) 23 ∧ Blk v13 (w.heap.size + 1 + 1) (#[.bool c.neg, .string (decB c.n), .int .i64 (c.s : Int)]) 23 ∧ Blk v13 (w6.heap.size) (#[.bool x.neg, .string (decB x.n), .int .i64 (x.s : Int)]) 23 ∧ Blk v13 (w13.heap.size) (#[.bool l.neg, .string (decB l.n), .int .i64 (l.s : Int)]) 23 := by rw [← hv13]; exact ⟨b_alloc (khS13.1), (khS13.2.1).alloc _, (khS13.2.2.1).alloc _, (khS13.2.2.2.1).alloc _, (khS13.2.2.2.2).alloc _, Blk.new w13 _ _⟩
        have hy13 : w13.heap.size < v13.heap.size := (hT13.2.2.2.2.2).lt
        clear khS13
        obtain ⟨a0, a1, a2, _, _, _⟩ := (hT13.2.1).three
        obtain ⟨c0, c1, c2, _, _, _⟩ := (hT13.2.2.2.1).three
        go_wp2_with (go_at_call 10; (with_reducible refine (HhL2.out _).mono ?_))
        first | rintro e14 w14 rfl hb14 | rintro e14 w14 ⟨rfl, hb14⟩
        clear a0 a1 a2 c0 c1 c2
        have hS14 : RowKit.Below w.heap.size w w14 ∧ Blk w14 (w.heap.size) (#[.bool a.neg, .string (decB a.n), .int .i64 (a.s : Int)]) 23 ∧ Blk w14 (w.heap.size + 1) (#[.bool b.neg, .string (decB b.n), .int .i64 (b.s : Int)]) 23 ∧ Blk w14 (w.heap.size + 1 + 1) (#[.bool c.neg, .string (decB c.n), .int .i64 (c.s : Int)]) 23 ∧ Blk w14 (w6.heap.size) (#[.bool x.neg, .string (decB x.n), .int .i64 (x.s : Int)]) 23 ∧ Blk w14 (w13.heap.size) (#[.bool l.neg, .string (decB l.n), .int .i64 (l.s : Int)]) 23 := ⟨b_step hb14 (hT13.1), (hT13.2.1).below (hT13.2.1).lt hb14, (hT13.2.2.1).below (hT13.2.2.1).lt hb14, (hT13.2.2.2.1).below (hT13.2.2.2.1).lt hb14, (hT13.2.2.2.2.1).below (hT13.2.2.2.2.1).lt hb14, (hT13.2.2.2.2.2).below (hT13.2.2.2.2.2).lt hb14⟩
        have hz14 : v13.heap.size ≤ w14.heap.size := hb14.size
        clear hT13 hb14
        clear hv13
        obtain ⟨v14, hv14⟩ : ∃ v, w14.alloc (.cells #[.bool o.neg, .string (decB o.n), .int .i64 (o.s : Int)] 23) = v := ⟨_, rfl⟩
        have hT14 : RowKit.Below w.heap.size w v14 ∧ Blk v14 (w.heap.size) (#[.bool a.neg, .string (decB a.n), .int .i64 (a.s : Int)]) 23 ∧ Blk v14 (w.heap.size + 1) (#[.bool b.neg, .string (decB b.n), .int .i64 (b.s : Int)]) 23 ∧ Blk v14 (w.heap.size + 1 + 1) (#[.bool c.neg, .string (decB c.n), .int .i64 (c.s : Int)]) 23 ∧ Blk v14 (w6.heap.size) (#[.bool x.neg, .string (decB x.n), .int .i64 (x.s : Int)]) 23 ∧ Blk v14 (w13.heap.size) (#[.bool l.neg, .string (decB l.n), .int .i64 (l.s : Int)]) 23 ∧ Blk v14 (w14.heap.size) (#[.bool o.neg, .string (decB o.n), .int .i64 (o.s : Int)]) 23 := by rw [← hv14]; exact ⟨b_alloc (hS14.1), (hS14.2.1).alloc _, (hS14.2.2.1).alloc _, (hS14.2.2.2.1).alloc _, (hS14.2.2.2.2.1).alloc _, (hS14.2.2.2.2.2).alloc _, Blk.new w14 _ _⟩
        have hy14 : w14.heap.size < v14.heap.size := (hT14.2.2.2.2.2.2).lt
        clear hS14
        obtain ⟨b0, b1, b2, _, _, _⟩ := (hT14.2.2.1).three
        obtain ⟨c0, c1, c2, _, _, _⟩ := (hT14.2.2.2.1).three
        go_wp2_with (go_at_call 10; (with_reducible refine (HhL3.out _).mono ?_))
        first | rintro e15 w15 rfl hb15 | rintro e15 w15 ⟨rfl, hb15⟩
        clear b0 b1 b2 c0 c1 c2
        have hS15 : RowKit.Below w.heap.size w w15 ∧ Blk w15 (w.heap.size) (#[.bool a.neg, .string (decB a.n), .int .i64 (a.s : Int)]) 23 ∧ Blk w15 (w.heap.size + 1) (#[.bool b.neg, .string (decB b.n), .int .i64 (b.s : Int)]) 23 ∧ Blk w15 (w.heap.size + 1 + 1) (#[.bool c.neg, .string (decB c.n), .int .i64 (c.s : Int)]) 23 ∧ Blk w15 (w6.heap.size) (#[.bool x.neg, .string (decB x.n), .int .i64 (x.s : Int)]) 23 ∧ Blk w15 (w13.heap.size) (#[.bool l.neg, .string (decB l.n), .int .i64 (l.s : Int)]) 23 ∧ Blk w15 (w14.heap.size) (#[.bool o.neg, .string (decB o.n), .int .i64 (o.s : Int)]) 23 := ⟨b_step hb15 (hT14.1), (hT14.2.1).below (hT14.2.1).lt hb15, (hT14.2.2.1).below (hT14.2.2.1).lt hb15, (hT14.2.2.2.1).below (hT14.2.2.2.1).lt hb15, (hT14.2.2.2.2.1).below (hT14.2.2.2.2.1).lt hb15, (hT14.2.2.2.2.2.1).below (hT14.2.2.2.2.2.1).lt hb15, (hT14.2.2.2.2.2.2).below (hT14.2.2.2.2.2.2).lt hb15⟩
        have hz15 : v14.heap.size ≤ w15.heap.size := hb15.size
        clear hT14 hb15
        clear hv14
        have hT15 : RowKit.Below w.heap.size w (w15.alloc (.cells #[.bool false, .string ⟨#[]⟩, .int .i64 0] 23)) ∧ Blk (w15.alloc (.cells #[.bool false, .string ⟨#[]⟩, .int .i64 0] 23)) (w.heap.size) (#[.bool a.neg, .string (decB a.n), .int .i64 (a.s : Int)]) 23 ∧ Blk (w15.alloc (.cells #[.bool false, .string ⟨#[]⟩, .int .i64 0] 23)) (w.heap.size + 1) (#[.bool b.neg, .string (decB b.n), .int .i64 (b.s : Int)]) 23 ∧ Blk (w15.alloc (.cells #[.bool false, .string ⟨#[]⟩, .int .i64 0] 23)) (w.heap.size + 1 + 1) (#[.bool c.neg, .string (decB c.n), .int .i64 (c.s : Int)]) 23 ∧ Blk (w15.alloc (.cells #[.bool false, .string ⟨#[]⟩, .int .i64 0] 23)) (w6.heap.size) (#[.bool x.neg, .string (decB x.n), .int .i64 (x.s : Int)]) 23 ∧ Blk (w15.alloc (.cells #[.bool false, .string ⟨#[]⟩, .int .i64 0] 23)) (w13.heap.size) (#[.bool l.neg, .string (decB l.n), .int .i64 (l.s : Int)]) 23 ∧ Blk (w15.alloc (.cells #[.bool false, .string ⟨#[]⟩, .int .i64 0] 23)) (w14.heap.size) (#[.bool o.neg, .string (decB o.n), .int .i64 (o.s : Int)]) 23 ∧ Blk (w15.alloc (.cells #[.bool false, .string ⟨#[]⟩, .int .i64 0] 23)) (w15.heap.size) (#[.bool false, .string ⟨#[]⟩, .int .i64 0]) 23 := ⟨b_alloc (hS15.1), (hS15.2.1).alloc _, (hS15.2.2.1).alloc _, (hS15.2.2.2.1).alloc _, (hS15.2.2.2.2.1).alloc _, (hS15.2.2.2.2.2.1).alloc _, (hS15.2.2.2.2.2.2).alloc _, Blk.new w15 _ _⟩
        have hy15 : w15.heap.size < (w15.alloc (.cells #[.bool false, .string ⟨#[]⟩, .int .i64 0] 23)).heap.size := (hT15.2.2.2.2.2.2.2).lt
        clear hS15
        have hGG := HG.out.later (hT15.1)
        have HBz := Lib.hid (hT15.1)
        clear hT15
        go_wp2_with (go_at_call 6; refine (hSh _ hGG).mono ?_)
        first | rintro e16 w16 rfl hb16 | rintro e16 w16 ⟨rfl, hb16⟩
        have HBy := Lib.hid (b_step hb16 HBz.out)
        clear hb16
        go_wp2
        go_ret
        exact ⟨rfl, HBy.out⟩
    · skip
      simp only [e1, R.ok_val, err_val, V.d_val] at hL1
      have HhL1 := Lib.hid hL1
      clear hL1
      simp only [e2, R.ok_val, err_val, V.d_val] at hL2
      have HhL2 := Lib.hid hL2
      clear hL2
      obtain ⟨r2, hr2⟩ : ∃ r, mulS b c = r := ⟨_, rfl⟩
      simp only [hr2, R.val_eq] at hL3
      obtain ⟨q20, hq20⟩ : ∃ y, r2.d.neg = y := ⟨_, rfl⟩
      obtain ⟨q21, hq21⟩ : ∃ y, r2.d.s = y := ⟨_, rfl⟩
      obtain ⟨q22, hq22⟩ : ∃ y, r2.d.sc = y := ⟨_, rfl⟩
      obtain ⟨q23, hq23⟩ : ∃ y, r2.no = y := ⟨_, rfl⟩
      simp only [hq20, hq21, hq22, hq23] at hL3
      clear hr2 hq20 hq21 hq22 hq23
      have HhL3 := Lib.hid hL3
      clear hL3
      clear e1 e2 hc3 hl
      go_wp2_with (go_at_call 10; (with_reducible refine (HhL1.out _).mono ?_))
      first | rintro e13 w13 rfl hb13 | rintro e13 w13 ⟨rfl, hb13⟩
      clear a0 a1 a2 z0 z1 z2 x0 x1 x2 c0 c1 c2
      clear nA gA
      have hS13 : RowKit.Below w.heap.size w w13 ∧ Blk w13 (w.heap.size) (#[.bool a.neg, .string (decB a.n), .int .i64 (a.s : Int)]) 23 ∧ Blk w13 (w.heap.size + 1) (#[.bool b.neg, .string (decB b.n), .int .i64 (b.s : Int)]) 23 ∧ Blk w13 (w.heap.size + 1 + 1) (#[.bool c.neg, .string (decB c.n), .int .i64 (c.s : Int)]) 23 ∧ Blk w13 (w6.heap.size) (#[.bool x.neg, .string (decB x.n), .int .i64 (x.s : Int)]) 23 ∧ Blk w13 (w12.heap.size) (#[.bool a.neg, .string (decB a.n), .int .i64 (a.s : Int)]) 23 := ⟨b_step hb13 (hT12.1), (hT12.2.1).below (hT12.2.1).lt hb13, (hT12.2.2.1).below (hT12.2.2.1).lt hb13, (hT12.2.2.2.1).below (hT12.2.2.2.1).lt hb13, (hT12.2.2.2.2.1).below (hT12.2.2.2.2.1).lt hb13, (hT12.2.2.2.2.2).below (hT12.2.2.2.2.2).lt hb13⟩
      have hz13 : v12.heap.size ≤ w13.heap.size := hb13.size
      clear hT12 hb13
      clear hv12
      have khS13 : RowKit.Below w.heap.size w w13 ∧ Blk w13 (w.heap.size) (#[.bool a.neg, .string (decB a.n), .int .i64 (a.s : Int)]) 23 ∧ Blk w13 (w.heap.size + 1) (#[.bool b.neg, .string (decB b.n), .int .i64 (b.s : Int)]) 23 ∧ Blk w13 (w.heap.size + 1 + 1) (#[.bool c.neg, .string (decB c.n), .int .i64 (c.s : Int)]) 23 ∧ Blk w13 (w6.heap.size) (#[.bool x.neg, .string (decB x.n), .int .i64 (x.s : Int)]) 23 := ⟨(hS13.1), (hS13.2.1), (hS13.2.2.1), (hS13.2.2.2.1), (hS13.2.2.2.2.1)⟩
      clear hS13
      obtain ⟨v13, hv13⟩ : ∃ v, w13.alloc (.cells #[.bool l.neg, .string (decB l.n), .int .i64 (l.s : Int)] 23) = v := ⟨_, rfl⟩
      have hT13 : RowKit.Below w.heap.size w v13 ∧ Blk v13 (w.heap.size) (#[.bool a.neg, .string (decB a.n), .int .i64 (a.s : Int)]) 23 ∧ Blk v13 (w.heap.size + 1) (#[.bool b.neg, .string (decB b.n), .int .i64 (b.s : Int)]) 23 ∧ Blk v13 (w.heap.size + 1 + 1) (#[.bool c.neg, .string (decB c.n), .int .i64 (c.s : Int)]) 23 ∧ Blk v13 (w6.heap.size) (#[.bool x.neg, .string (decB x.n), .int .i64 (x.s : Int)]) 23 ∧ Blk v13 (w13.heap.size) (#[.bool l.neg, .string (decB l.n), .int .i64 (l.s : Int)]) 23 := by rw [← hv13]; exact ⟨b_alloc (khS13.1), (khS13.2.1).alloc _, (khS13.2.2.1).alloc _, (khS13.2.2.2.1).alloc _, (khS13.2.2.2.2).alloc _, Blk.new w13 _ _⟩
      have hy13 : w13.heap.size < v13.heap.size := (hT13.2.2.2.2.2).lt
      clear khS13
      obtain ⟨a0, a1, a2, _, _, _⟩ := (hT13.2.1).three
      obtain ⟨c0, c1, c2, _, _, _⟩ := (hT13.2.2.2.1).three
      go_wp2_with (go_at_call 10; (with_reducible refine (HhL2.out _).mono ?_))
      first | rintro e14 w14 rfl hb14 | rintro e14 w14 ⟨rfl, hb14⟩
      clear a0 a1 a2 c0 c1 c2
      have hS14 : RowKit.Below w.heap.size w w14 ∧ Blk w14 (w.heap.size) (#[.bool a.neg, .string (decB a.n), .int .i64 (a.s : Int)]) 23 ∧ Blk w14 (w.heap.size + 1) (#[.bool b.neg, .string (decB b.n), .int .i64 (b.s : Int)]) 23 ∧ Blk w14 (w.heap.size + 1 + 1) (#[.bool c.neg, .string (decB c.n), .int .i64 (c.s : Int)]) 23 ∧ Blk w14 (w6.heap.size) (#[.bool x.neg, .string (decB x.n), .int .i64 (x.s : Int)]) 23 ∧ Blk w14 (w13.heap.size) (#[.bool l.neg, .string (decB l.n), .int .i64 (l.s : Int)]) 23 := ⟨b_step hb14 (hT13.1), (hT13.2.1).below (hT13.2.1).lt hb14, (hT13.2.2.1).below (hT13.2.2.1).lt hb14, (hT13.2.2.2.1).below (hT13.2.2.2.1).lt hb14, (hT13.2.2.2.2.1).below (hT13.2.2.2.2.1).lt hb14, (hT13.2.2.2.2.2).below (hT13.2.2.2.2.2).lt hb14⟩
      have hz14 : v13.heap.size ≤ w14.heap.size := hb14.size
      clear hT13 hb14
      clear hv13
      have hT14 : RowKit.Below w.heap.size w (w14.alloc (.cells #[.bool false, .string ⟨#[]⟩, .int .i64 0] 23)) ∧ Blk (w14.alloc (.cells #[.bool false, .string ⟨#[]⟩, .int .i64 0] 23)) (w.heap.size) (#[.bool a.neg, .string (decB a.n), .int .i64 (a.s : Int)]) 23 ∧ Blk (w14.alloc (.cells #[.bool false, .string ⟨#[]⟩, .int .i64 0] 23)) (w.heap.size + 1) (#[.bool b.neg, .string (decB b.n), .int .i64 (b.s : Int)]) 23 ∧ Blk (w14.alloc (.cells #[.bool false, .string ⟨#[]⟩, .int .i64 0] 23)) (w.heap.size + 1 + 1) (#[.bool c.neg, .string (decB c.n), .int .i64 (c.s : Int)]) 23 ∧ Blk (w14.alloc (.cells #[.bool false, .string ⟨#[]⟩, .int .i64 0] 23)) (w6.heap.size) (#[.bool x.neg, .string (decB x.n), .int .i64 (x.s : Int)]) 23 ∧ Blk (w14.alloc (.cells #[.bool false, .string ⟨#[]⟩, .int .i64 0] 23)) (w13.heap.size) (#[.bool l.neg, .string (decB l.n), .int .i64 (l.s : Int)]) 23 ∧ Blk (w14.alloc (.cells #[.bool false, .string ⟨#[]⟩, .int .i64 0] 23)) (w14.heap.size) (#[.bool false, .string ⟨#[]⟩, .int .i64 0]) 23 := ⟨b_alloc (hS14.1), (hS14.2.1).alloc _, (hS14.2.2.1).alloc _, (hS14.2.2.2.1).alloc _, (hS14.2.2.2.2.1).alloc _, (hS14.2.2.2.2.2).alloc _, Blk.new w14 _ _⟩
      have hy14 : w14.heap.size < (w14.alloc (.cells #[.bool false, .string ⟨#[]⟩, .int .i64 0] 23)).heap.size := (hT14.2.2.2.2.2.2).lt
      clear hS14
      obtain ⟨b0, b1, b2, _, _, _⟩ := (hT14.2.2.1).three
      obtain ⟨c0, c1, c2, _, _, _⟩ := (hT14.2.2.2.1).three
      go_wp2_with (go_at_call 10; (with_reducible refine (HhL3.out _).mono ?_))
      first | rintro e15 w15 rfl hb15 | rintro e15 w15 ⟨rfl, hb15⟩
      clear b0 b1 b2 c0 c1 c2
      have hS15 : RowKit.Below w.heap.size w w15 ∧ Blk w15 (w.heap.size) (#[.bool a.neg, .string (decB a.n), .int .i64 (a.s : Int)]) 23 ∧ Blk w15 (w.heap.size + 1) (#[.bool b.neg, .string (decB b.n), .int .i64 (b.s : Int)]) 23 ∧ Blk w15 (w.heap.size + 1 + 1) (#[.bool c.neg, .string (decB c.n), .int .i64 (c.s : Int)]) 23 ∧ Blk w15 (w6.heap.size) (#[.bool x.neg, .string (decB x.n), .int .i64 (x.s : Int)]) 23 ∧ Blk w15 (w13.heap.size) (#[.bool l.neg, .string (decB l.n), .int .i64 (l.s : Int)]) 23 ∧ Blk w15 (w14.heap.size) (#[.bool false, .string ⟨#[]⟩, .int .i64 0]) 23 := ⟨b_step hb15 (hT14.1), (hT14.2.1).below (hT14.2.1).lt hb15, (hT14.2.2.1).below (hT14.2.2.1).lt hb15, (hT14.2.2.2.1).below (hT14.2.2.2.1).lt hb15, (hT14.2.2.2.2.1).below (hT14.2.2.2.2.1).lt hb15, (hT14.2.2.2.2.2.1).below (hT14.2.2.2.2.2.1).lt hb15, (hT14.2.2.2.2.2.2).below (hT14.2.2.2.2.2.2).lt hb15⟩
      have hz15 : (w14.alloc (.cells #[.bool false, .string ⟨#[]⟩, .int .i64 0] 23)).heap.size ≤ w15.heap.size := hb15.size
      clear hT14 hb15
      obtain ⟨v15, hv15⟩ : ∃ v, w15.alloc (.cells #[.bool q20, .string q21, .int .i64 q22] 23) = v := ⟨_, rfl⟩
      have hT15 : RowKit.Below w.heap.size w v15 ∧ Blk v15 (w.heap.size) (#[.bool a.neg, .string (decB a.n), .int .i64 (a.s : Int)]) 23 ∧ Blk v15 (w.heap.size + 1) (#[.bool b.neg, .string (decB b.n), .int .i64 (b.s : Int)]) 23 ∧ Blk v15 (w.heap.size + 1 + 1) (#[.bool c.neg, .string (decB c.n), .int .i64 (c.s : Int)]) 23 ∧ Blk v15 (w6.heap.size) (#[.bool x.neg, .string (decB x.n), .int .i64 (x.s : Int)]) 23 ∧ Blk v15 (w13.heap.size) (#[.bool l.neg, .string (decB l.n), .int .i64 (l.s : Int)]) 23 ∧ Blk v15 (w14.heap.size) (#[.bool false, .string ⟨#[]⟩, .int .i64 0]) 23 ∧ Blk v15 (w15.heap.size) (#[.bool q20, .string q21, .int .i64 q22]) 23 := by rw [← hv15]; exact ⟨b_alloc (hS15.1), (hS15.2.1).alloc _, (hS15.2.2.1).alloc _, (hS15.2.2.2.1).alloc _, (hS15.2.2.2.2.1).alloc _, (hS15.2.2.2.2.2.1).alloc _, (hS15.2.2.2.2.2.2).alloc _, Blk.new w15 _ _⟩
      have hy15 : w15.heap.size < v15.heap.size := (hT15.2.2.2.2.2.2.2).lt
      clear hS15
      have hGG := HG.out.later (hT15.1)
      have HBz := Lib.hid (hT15.1)
      clear hT15
      go_wp2_with (go_at_call 6; refine (hSh _ hGG).mono ?_)
      first | rintro e16 w16 rfl hb16 | rintro e16 w16 ⟨rfl, hb16⟩
      have HBy := Lib.hid (b_step hb16 HBz.out)
      clear hb16
      clear hv15
      go_wp2
      go_ret
      exact ⟨rfl, HBy.out⟩
  · skip
    simp only [e1, R.ok_val, err_val, V.d_val] at hL1
    have HhL1 := Lib.hid hL1
    clear hL1
    obtain ⟨r1, hr1⟩ : ∃ r, mulS a c = r := ⟨_, rfl⟩
    simp only [hr1, R.val_eq] at hL2
    obtain ⟨q10, hq10⟩ : ∃ y, r1.d.neg = y := ⟨_, rfl⟩
    obtain ⟨q11, hq11⟩ : ∃ y, r1.d.s = y := ⟨_, rfl⟩
    obtain ⟨q12, hq12⟩ : ∃ y, r1.d.sc = y := ⟨_, rfl⟩
    obtain ⟨q13, hq13⟩ : ∃ y, r1.no = y := ⟨_, rfl⟩
    simp only [hq10, hq11, hq12, hq13] at hL2
    clear hr1 hq10 hq11 hq12 hq13
    have HhL2 := Lib.hid hL2
    clear hL2
    obtain ⟨r2, hr2⟩ : ∃ r, mulS b c = r := ⟨_, rfl⟩
    simp only [hr2, R.val_eq] at hL3
    obtain ⟨q20, hq20⟩ : ∃ y, r2.d.neg = y := ⟨_, rfl⟩
    obtain ⟨q21, hq21⟩ : ∃ y, r2.d.s = y := ⟨_, rfl⟩
    obtain ⟨q22, hq22⟩ : ∃ y, r2.d.sc = y := ⟨_, rfl⟩
    obtain ⟨q23, hq23⟩ : ∃ y, r2.no = y := ⟨_, rfl⟩
    simp only [hq20, hq21, hq22, hq23] at hL3
    clear hr2 hq20 hq21 hq22 hq23
    have HhL3 := Lib.hid hL3
    clear hL3
    clear e1 hc2 hc3
    go_wp2_with (go_at_call 10; (with_reducible refine (HhL1.out _).mono ?_))
    first | rintro e13 w13 rfl hb13 | rintro e13 w13 ⟨rfl, hb13⟩
    clear a0 a1 a2 z0 z1 z2 x0 x1 x2 c0 c1 c2
    clear nA gA
    have hS13 : RowKit.Below w.heap.size w w13 ∧ Blk w13 (w.heap.size) (#[.bool a.neg, .string (decB a.n), .int .i64 (a.s : Int)]) 23 ∧ Blk w13 (w.heap.size + 1) (#[.bool b.neg, .string (decB b.n), .int .i64 (b.s : Int)]) 23 ∧ Blk w13 (w.heap.size + 1 + 1) (#[.bool c.neg, .string (decB c.n), .int .i64 (c.s : Int)]) 23 ∧ Blk w13 (w6.heap.size) (#[.bool x.neg, .string (decB x.n), .int .i64 (x.s : Int)]) 23 ∧ Blk w13 (w12.heap.size) (#[.bool a.neg, .string (decB a.n), .int .i64 (a.s : Int)]) 23 := ⟨b_step hb13 (hT12.1), (hT12.2.1).below (hT12.2.1).lt hb13, (hT12.2.2.1).below (hT12.2.2.1).lt hb13, (hT12.2.2.2.1).below (hT12.2.2.2.1).lt hb13, (hT12.2.2.2.2.1).below (hT12.2.2.2.2.1).lt hb13, (hT12.2.2.2.2.2).below (hT12.2.2.2.2.2).lt hb13⟩
    have hz13 : v12.heap.size ≤ w13.heap.size := hb13.size
    clear hT12 hb13
    clear hv12
    have khS13 : RowKit.Below w.heap.size w w13 ∧ Blk w13 (w.heap.size) (#[.bool a.neg, .string (decB a.n), .int .i64 (a.s : Int)]) 23 ∧ Blk w13 (w.heap.size + 1) (#[.bool b.neg, .string (decB b.n), .int .i64 (b.s : Int)]) 23 ∧ Blk w13 (w.heap.size + 1 + 1) (#[.bool c.neg, .string (decB c.n), .int .i64 (c.s : Int)]) 23 ∧ Blk w13 (w6.heap.size) (#[.bool x.neg, .string (decB x.n), .int .i64 (x.s : Int)]) 23 := ⟨(hS13.1), (hS13.2.1), (hS13.2.2.1), (hS13.2.2.2.1), (hS13.2.2.2.2.1)⟩
    clear hS13
    have hT13 : RowKit.Below w.heap.size w (w13.alloc (.cells #[.bool false, .string ⟨#[]⟩, .int .i64 0] 23)) ∧ Blk (w13.alloc (.cells #[.bool false, .string ⟨#[]⟩, .int .i64 0] 23)) (w.heap.size) (#[.bool a.neg, .string (decB a.n), .int .i64 (a.s : Int)]) 23 ∧ Blk (w13.alloc (.cells #[.bool false, .string ⟨#[]⟩, .int .i64 0] 23)) (w.heap.size + 1) (#[.bool b.neg, .string (decB b.n), .int .i64 (b.s : Int)]) 23 ∧ Blk (w13.alloc (.cells #[.bool false, .string ⟨#[]⟩, .int .i64 0] 23)) (w.heap.size + 1 + 1) (#[.bool c.neg, .string (decB c.n), .int .i64 (c.s : Int)]) 23 ∧ Blk (w13.alloc (.cells #[.bool false, .string ⟨#[]⟩, .int .i64 0] 23)) (w6.heap.size) (#[.bool x.neg, .string (decB x.n), .int .i64 (x.s : Int)]) 23 ∧ Blk (w13.alloc (.cells #[.bool false, .string ⟨#[]⟩, .int .i64 0] 23)) (w13.heap.size) (#[.bool false, .string ⟨#[]⟩, .int .i64 0]) 23 := ⟨b_alloc (khS13.1), (khS13.2.1).alloc _, (khS13.2.2.1).alloc _, (khS13.2.2.2.1).alloc _, (khS13.2.2.2.2).alloc _, Blk.new w13 _ _⟩
    have hy13 : w13.heap.size < (w13.alloc (.cells #[.bool false, .string ⟨#[]⟩, .int .i64 0] 23)).heap.size := (hT13.2.2.2.2.2).lt
    clear khS13
    obtain ⟨a0, a1, a2, _, _, _⟩ := (hT13.2.1).three
    obtain ⟨c0, c1, c2, _, _, _⟩ := (hT13.2.2.2.1).three
    go_wp2_with (go_at_call 10; (with_reducible refine (HhL2.out _).mono ?_))
    first | rintro e14 w14 rfl hb14 | rintro e14 w14 ⟨rfl, hb14⟩
    clear a0 a1 a2 c0 c1 c2
    have hS14 : RowKit.Below w.heap.size w w14 ∧ Blk w14 (w.heap.size) (#[.bool a.neg, .string (decB a.n), .int .i64 (a.s : Int)]) 23 ∧ Blk w14 (w.heap.size + 1) (#[.bool b.neg, .string (decB b.n), .int .i64 (b.s : Int)]) 23 ∧ Blk w14 (w.heap.size + 1 + 1) (#[.bool c.neg, .string (decB c.n), .int .i64 (c.s : Int)]) 23 ∧ Blk w14 (w6.heap.size) (#[.bool x.neg, .string (decB x.n), .int .i64 (x.s : Int)]) 23 ∧ Blk w14 (w13.heap.size) (#[.bool false, .string ⟨#[]⟩, .int .i64 0]) 23 := ⟨b_step hb14 (hT13.1), (hT13.2.1).below (hT13.2.1).lt hb14, (hT13.2.2.1).below (hT13.2.2.1).lt hb14, (hT13.2.2.2.1).below (hT13.2.2.2.1).lt hb14, (hT13.2.2.2.2.1).below (hT13.2.2.2.2.1).lt hb14, (hT13.2.2.2.2.2).below (hT13.2.2.2.2.2).lt hb14⟩
    have hz14 : (w13.alloc (.cells #[.bool false, .string ⟨#[]⟩, .int .i64 0] 23)).heap.size ≤ w14.heap.size := hb14.size
    clear hT13 hb14
    obtain ⟨v14, hv14⟩ : ∃ v, w14.alloc (.cells #[.bool q10, .string q11, .int .i64 q12] 23) = v := ⟨_, rfl⟩
    have hT14 : RowKit.Below w.heap.size w v14 ∧ Blk v14 (w.heap.size) (#[.bool a.neg, .string (decB a.n), .int .i64 (a.s : Int)]) 23 ∧ Blk v14 (w.heap.size + 1) (#[.bool b.neg, .string (decB b.n), .int .i64 (b.s : Int)]) 23 ∧ Blk v14 (w.heap.size + 1 + 1) (#[.bool c.neg, .string (decB c.n), .int .i64 (c.s : Int)]) 23 ∧ Blk v14 (w6.heap.size) (#[.bool x.neg, .string (decB x.n), .int .i64 (x.s : Int)]) 23 ∧ Blk v14 (w13.heap.size) (#[.bool false, .string ⟨#[]⟩, .int .i64 0]) 23 ∧ Blk v14 (w14.heap.size) (#[.bool q10, .string q11, .int .i64 q12]) 23 := by rw [← hv14]; exact ⟨b_alloc (hS14.1), (hS14.2.1).alloc _, (hS14.2.2.1).alloc _, (hS14.2.2.2.1).alloc _, (hS14.2.2.2.2.1).alloc _, (hS14.2.2.2.2.2).alloc _, Blk.new w14 _ _⟩
    have hy14 : w14.heap.size < v14.heap.size := (hT14.2.2.2.2.2.2).lt
    clear hS14
    obtain ⟨b0, b1, b2, _, _, _⟩ := (hT14.2.2.1).three
    obtain ⟨c0, c1, c2, _, _, _⟩ := (hT14.2.2.2.1).three
    go_wp2_with (go_at_call 10; (with_reducible refine (HhL3.out _).mono ?_))
    first | rintro e15 w15 rfl hb15 | rintro e15 w15 ⟨rfl, hb15⟩
    clear b0 b1 b2 c0 c1 c2
    have hS15 : RowKit.Below w.heap.size w w15 ∧ Blk w15 (w.heap.size) (#[.bool a.neg, .string (decB a.n), .int .i64 (a.s : Int)]) 23 ∧ Blk w15 (w.heap.size + 1) (#[.bool b.neg, .string (decB b.n), .int .i64 (b.s : Int)]) 23 ∧ Blk w15 (w.heap.size + 1 + 1) (#[.bool c.neg, .string (decB c.n), .int .i64 (c.s : Int)]) 23 ∧ Blk w15 (w6.heap.size) (#[.bool x.neg, .string (decB x.n), .int .i64 (x.s : Int)]) 23 ∧ Blk w15 (w13.heap.size) (#[.bool false, .string ⟨#[]⟩, .int .i64 0]) 23 ∧ Blk w15 (w14.heap.size) (#[.bool q10, .string q11, .int .i64 q12]) 23 := ⟨b_step hb15 (hT14.1), (hT14.2.1).below (hT14.2.1).lt hb15, (hT14.2.2.1).below (hT14.2.2.1).lt hb15, (hT14.2.2.2.1).below (hT14.2.2.2.1).lt hb15, (hT14.2.2.2.2.1).below (hT14.2.2.2.2.1).lt hb15, (hT14.2.2.2.2.2.1).below (hT14.2.2.2.2.2.1).lt hb15, (hT14.2.2.2.2.2.2).below (hT14.2.2.2.2.2.2).lt hb15⟩
    have hz15 : v14.heap.size ≤ w15.heap.size := hb15.size
    clear hT14 hb15
    clear hv14
    obtain ⟨v15, hv15⟩ : ∃ v, w15.alloc (.cells #[.bool q20, .string q21, .int .i64 q22] 23) = v := ⟨_, rfl⟩
    have hT15 : RowKit.Below w.heap.size w v15 ∧ Blk v15 (w.heap.size) (#[.bool a.neg, .string (decB a.n), .int .i64 (a.s : Int)]) 23 ∧ Blk v15 (w.heap.size + 1) (#[.bool b.neg, .string (decB b.n), .int .i64 (b.s : Int)]) 23 ∧ Blk v15 (w.heap.size + 1 + 1) (#[.bool c.neg, .string (decB c.n), .int .i64 (c.s : Int)]) 23 ∧ Blk v15 (w6.heap.size) (#[.bool x.neg, .string (decB x.n), .int .i64 (x.s : Int)]) 23 ∧ Blk v15 (w13.heap.size) (#[.bool false, .string ⟨#[]⟩, .int .i64 0]) 23 ∧ Blk v15 (w14.heap.size) (#[.bool q10, .string q11, .int .i64 q12]) 23 ∧ Blk v15 (w15.heap.size) (#[.bool q20, .string q21, .int .i64 q22]) 23 := by rw [← hv15]; exact ⟨b_alloc (hS15.1), (hS15.2.1).alloc _, (hS15.2.2.1).alloc _, (hS15.2.2.2.1).alloc _, (hS15.2.2.2.2.1).alloc _, (hS15.2.2.2.2.2.1).alloc _, (hS15.2.2.2.2.2.2).alloc _, Blk.new w15 _ _⟩
    have hy15 : w15.heap.size < v15.heap.size := (hT15.2.2.2.2.2.2.2).lt
    clear hS15
    have hGG := HG.out.later (hT15.1)
    have HBz := Lib.hid (hT15.1)
    clear hT15
    go_wp2_with (go_at_call 6; refine (hSh _ hGG).mono ?_)
    first | rintro e16 w16 rfl hb16 | rintro e16 w16 ⟨rfl, hb16⟩
    have HBy := Lib.hid (b_step hb16 HBz.out)
    clear hb16
    clear hv15
    go_wp2
    go_ret
    exact ⟨rfl, HBy.out⟩
set_option maxRecDepth 100000 in
set_option maxHeartbeats 16000000 in
theorem laws_oo (a b c : V) (ha : a.ok) (hb : b.ok) (hc : c.ok) (x : V) (hx : x.ok) (hA : addS a b = .ok x) (dd : V) (hdd : dd.ok) (hD : subS a b = .ok dd) (w : World) (hG : G w) :
    Calls Tryd.prog 3 #[a.d.val, b.d.val, c.d.val] w fun e w' => e = .returned (.bool true) ∧ RowKit.Below w.heap.size w w' := by
  have la := ha.len
  have lb := hb.len
  have lc := hc.len
  have la2 : (dec a.n).length ≤ 60 := by rw [← decB_size]; exact la
  have lb2 : (dec b.n).length ≤ 60 := by rw [← decB_size]; exact lb
  have lc2 : (dec c.n).length ≤ 60 := by rw [← decB_size]; exact lc
  have la3 : decide (400 < ((dec a.n).length : Int)) = false := decide_eq_false (by omega)
  have lb3 : decide (400 < ((dec b.n).length : Int)) = false := decide_eq_false (by omega)
  have lc3 : decide (400 < ((dec c.n).length : Int)) = false := decide_eq_false (by omega)
  have hC1 := fun W => Check_yes (V.check ha) (by show (decB a.n).size ≤ _; unfold maxLen; omega) W
  have hC2 := fun W => Check_yes (V.check hb) (by show (decB b.n).size ≤ _; unfold maxLen; omega) W
  have hC3 := fun W => Check_yes (V.check hc) (by show (decB c.n).size ≤ _; unfold maxLen; omega) W
  have hT := fun W => Text_ok a ha W
  have htl := text_len ha
  have hrt := read_text ha
  obtain ⟨t, ht⟩ : ∃ t : ByteArray, (⟨(textL a).toArray⟩ : ByteArray) = t := ⟨_, rfl⟩
  have htd : t.data.toList = textL a := by rw [← ht]
  rw [ht] at hT
  have hR := fun W hG => Read_any t (by rw [← size_list', htd]; omega) W hG
  rw [htd, hrt, R.ok_val] at hR
  have hA1 := fun W => Add_ok a b ha hb W
  have hA2 := fun W => Add_ok b a hb ha W
  rw [add_comm' b a] at hA2
  rw [hA] at hA1 hA2
  have hM1 := fun W => Mul_ok a b ha hb W
  have hM2 := fun W => Mul_ok b a hb ha W
  rw [mul_comm' b a] at hM2
  have hS1 := fun W => Sub_ok a b ha hb W
  rw [hD] at hS1
  have hK := fun W => Cmp_ok a b ha hb W
  have hXS := sub_cmp (d := dd) ha hb
  obtain ⟨k, hk⟩ : ∃ k, cmpS a b = k := ⟨_, rfl⟩
  rw [hk] at hK hXS
  obtain ⟨rM, hrM⟩ : ∃ r, mulS a b = r := ⟨_, rfl⟩
  rw [hrM] at hM1 hM2
  have hB := fun W => Sub_ok x b hx hb W
  rw [add_back ha hb hA] at hB
  have hL1 := fun W => Mul_ok x c hx hc W
  have hL2 := fun W => Mul_ok a c ha hc W
  have hL3 := fun W => Mul_ok b c hb hc W
  have hdis := fun (l o t : V) (hl : l.ok) (ho : o.ok) (ht : t.ok) h1 h2 h3 => distr ha hb hc hx hl ho ht hA h1 h2 h3
  have hL4 := fun (o t : V) (ho : o.ok) (ht : t.ok) W => Add_ok o t ho ht W
  have hc1 := mul_two x c
  have hc2 := mul_two a c
  have hc3 := mul_two b c
  simp only [R.val_eq] at hM1 hM2
  obtain ⟨m0, hm0⟩ : ∃ y, rM.d.neg = y := ⟨_, rfl⟩
  obtain ⟨m1, hm1⟩ : ∃ y, rM.d.s = y := ⟨_, rfl⟩
  obtain ⟨m2, hm2⟩ : ∃ y, rM.d.sc = y := ⟨_, rfl⟩
  obtain ⟨m3, hm3⟩ : ∃ y, rM.no = y := ⟨_, rfl⟩
  simp only [hm0, hm1, hm2, hm3] at hM1 hM2
  clear hm0 hm1 hm2 hm3
  simp only [R.ok_val, err_val, V.d_val] at hC1 hC2 hC3 hT hR hA1 hA2 hM1 hM2 hS1 hK hB hL1 hL2 hL3
  have hx1 := (hXS hD).1
  have hx2 := (hXS hD).2
  have hzz : (dec dd.n = [48]) ↔ dd.n = 0 := ⟨fun h => by have := congrArg dv h; rw [dv_dec] at this; exact this, fun h => by rw [h]; exact dec_zero⟩
  obtain ⟨hb0, h1, h2, h3⟩ := three_boxes w (.bool a.neg) (.string (decB a.n)) (.int .i64 (a.s : Int)) (.bool b.neg) (.string (decB b.n)) (.int .i64 (b.s : Int)) (.bool c.neg) (.string (decB c.n)) (.int .i64 (c.s : Int))
  obtain ⟨W0, hW0⟩ : ∃ W0, (((w.alloc (.cells #[.bool a.neg, .string (decB a.n), .int .i64 (a.s : Int)] 23)).alloc (.cells #[.bool b.neg, .string (decB b.n), .int .i64 (b.s : Int)] 23)).alloc (.cells #[.bool c.neg, .string (decB c.n), .int .i64 (c.s : Int)] 23)) = W0 := ⟨_, rfl⟩
  rw [hW0] at hb0 h1 h2 h3
  have hG0 := hG.later hb0
  have hSh := fun W hG => shown_any W hG
  have HB0 := Lib.hid hb0
  have HG := Lib.hid hG
  have HS0 : Hid (RowKit.Below w.heap.size w W0 ∧ Blk W0 (w.heap.size) (#[.bool a.neg, .string (decB a.n), .int .i64 (a.s : Int)]) 23 ∧ Blk W0 (w.heap.size + 1) (#[.bool b.neg, .string (decB b.n), .int .i64 (b.s : Int)]) 23 ∧ Blk W0 (w.heap.size + 1 + 1) (#[.bool c.neg, .string (decB c.n), .int .i64 (c.s : Int)]) 23) := ⟨hb0, h1, h2, h3⟩
  obtain ⟨a0, a1, a2, _, _, _⟩ := h1.three
  obtain ⟨b0, b1, b2, _, _, _⟩ := h2.three
  obtain ⟨c0, c1, c2, _, _, _⟩ := h3.three
  have hz0 : w.heap.size + 3 ≤ W0.heap.size := by have := h3.lt; omega
  clear hb0 h1 h2 h3 hG
  rw [V.d_val, V.d_val, V.d_val]
  obtain ⟨zb, hzb⟩ : ∃ z, decide (k = 0) = z := ⟨_, rfl⟩
  have hz1 : (dec dd.n == [48]) = zb := by rw [← hzb, Bool.eq_iff_iff, beq_iff_eq, decide_eq_true_iff, hzz]; exact hx2
  have hz2 : (k == 0) = zb := by rw [← hzb, Bool.eq_iff_iff, beq_iff_eq, decide_eq_true_iff]
  have hz3 : decide (dec dd.n = [48]) = zb := by rw [← hz1, Bool.eq_iff_iff, decide_eq_true_iff, beq_iff_eq]
  obtain ⟨nb, hnb⟩ : ∃ z, dd.neg = z := ⟨_, rfl⟩
  have hn1 : decide (k < 0) = nb := by rw [← hx1, hnb]
  have HF := Lib.hid (And.intro hz1 (And.intro hz2 (And.intro hz3 (And.intro hn1 (And.intro hzb hnb)))))
  clear hzb hz1 hz2 hz3 hn1 hnb hzz hx1 hx2 hdd
  have HhC1 := Lib.hid hC1
  have HhC2 := Lib.hid hC2
  have HhC3 := Lib.hid hC3
  have HhT := Lib.hid hT
  have HhR := Lib.hid hR
  have HhA1 := Lib.hid hA1
  have HhA2 := Lib.hid hA2
  have HhM1 := Lib.hid hM1
  have HhM2 := Lib.hid hM2
  have HhS1 := Lib.hid hS1
  have HhK := Lib.hid hK
  have HhB := Lib.hid hB
  have HhL1 := Lib.hid hL1
  have HhL2 := Lib.hid hL2
  have HhL3 := Lib.hid hL3
  have HhL4 := Lib.hid hL4
  have Hhdis := Lib.hid hdis
  have Hhc1 := Lib.hid hc1
  have Hhc2 := Lib.hid hc2
  have Hhc3 := Lib.hid hc3
  clear hC1 hC2 hC3 hT hR hA1 hA2 hM1 hM2 hS1 hK hB hL1 hL2 hL3 hL4 hdis hc1 hc2 hc3 hXS hk hrM htl hrt htd ht hA hD
  clear hG0
  go_enter Tryd.func3, Tryd.ntmps3
  go_wp2_with (go_at_call 5; (with_reducible refine (HhC1.out _).mono ?_))
  first | rintro e1 w1 rfl hb1 | rintro e1 w1 ⟨rfl, hb1⟩
  clear a0 a1 a2 b0 b1 b2 c0 c1 c2
  have hS1 : RowKit.Below w.heap.size w w1 ∧ Blk w1 (w.heap.size) (#[.bool a.neg, .string (decB a.n), .int .i64 (a.s : Int)]) 23 ∧ Blk w1 (w.heap.size + 1) (#[.bool b.neg, .string (decB b.n), .int .i64 (b.s : Int)]) 23 ∧ Blk w1 (w.heap.size + 1 + 1) (#[.bool c.neg, .string (decB c.n), .int .i64 (c.s : Int)]) 23 := ⟨b_step hb1 (HS0.out.1), (HS0.out.2.1).below (HS0.out.2.1).lt hb1, (HS0.out.2.2.1).below (HS0.out.2.2.1).lt hb1, (HS0.out.2.2.2).below (HS0.out.2.2.2).lt hb1⟩
  have hz1 : W0.heap.size ≤ w1.heap.size := hb1.size
  clear HS0 hb1
  clear hW0
  obtain ⟨b0, b1, b2, _, _, _⟩ := (hS1.2.2.1).three
  obtain ⟨c0, c1, c2, _, _, _⟩ := (hS1.2.2.2).three
  go_wp2_with (go_at_call 5; (with_reducible refine (HhC2.out _).mono ?_))
  first | rintro e2 w2 rfl hb2 | rintro e2 w2 ⟨rfl, hb2⟩
  clear b0 b1 b2 c0 c1 c2
  have hS2 : RowKit.Below w.heap.size w w2 ∧ Blk w2 (w.heap.size) (#[.bool a.neg, .string (decB a.n), .int .i64 (a.s : Int)]) 23 ∧ Blk w2 (w.heap.size + 1) (#[.bool b.neg, .string (decB b.n), .int .i64 (b.s : Int)]) 23 ∧ Blk w2 (w.heap.size + 1 + 1) (#[.bool c.neg, .string (decB c.n), .int .i64 (c.s : Int)]) 23 := ⟨b_step hb2 (hS1.1), (hS1.2.1).below (hS1.2.1).lt hb2, (hS1.2.2.1).below (hS1.2.2.1).lt hb2, (hS1.2.2.2).below (hS1.2.2.2).lt hb2⟩
  have hz2 : w1.heap.size ≤ w2.heap.size := hb2.size
  clear hS1 hb2
  obtain ⟨c0, c1, c2, _, _, _⟩ := (hS2.2.2.2).three
  go_wp2_with (go_at_call 5; (with_reducible refine (HhC3.out _).mono ?_))
  first | rintro e3 w3 rfl hb3 | rintro e3 w3 ⟨rfl, hb3⟩
  clear c0 c1 c2
  have hS3 : RowKit.Below w.heap.size w w3 ∧ Blk w3 (w.heap.size) (#[.bool a.neg, .string (decB a.n), .int .i64 (a.s : Int)]) 23 ∧ Blk w3 (w.heap.size + 1) (#[.bool b.neg, .string (decB b.n), .int .i64 (b.s : Int)]) 23 ∧ Blk w3 (w.heap.size + 1 + 1) (#[.bool c.neg, .string (decB c.n), .int .i64 (c.s : Int)]) 23 := ⟨b_step hb3 (hS2.1), (hS2.2.1).below (hS2.2.1).lt hb3, (hS2.2.2.1).below (hS2.2.2.1).lt hb3, (hS2.2.2.2).below (hS2.2.2.2).lt hb3⟩
  have hz3 : w2.heap.size ≤ w3.heap.size := hb3.size
  clear hS2 hb3
  obtain ⟨a0, a1, a2, _, _, _⟩ := (hS3.2.1).three
  go_wp2_with (go_at_call 7; (with_reducible refine (HhT.out _).mono ?_))
  first | rintro e4 w4 rfl hb4 | rintro e4 w4 ⟨rfl, hb4⟩
  clear a0 a1 a2
  have hS4 : RowKit.Below w.heap.size w w4 ∧ Blk w4 (w.heap.size) (#[.bool a.neg, .string (decB a.n), .int .i64 (a.s : Int)]) 23 ∧ Blk w4 (w.heap.size + 1) (#[.bool b.neg, .string (decB b.n), .int .i64 (b.s : Int)]) 23 ∧ Blk w4 (w.heap.size + 1 + 1) (#[.bool c.neg, .string (decB c.n), .int .i64 (c.s : Int)]) 23 := ⟨b_step hb4 (hS3.1), (hS3.2.1).below (hS3.2.1).lt hb4, (hS3.2.2.1).below (hS3.2.2.1).lt hb4, (hS3.2.2.2).below (hS3.2.2.2).lt hb4⟩
  have hz4 : w3.heap.size ≤ w4.heap.size := hb4.size
  clear hS3 hb4
  have hG4 := HG.out.later (hS4.1)
  go_wp2_with (go_at_call 8; (with_reducible refine (HhR.out _ hG4).mono ?_))
  first | rintro e5 w5 rfl hb5 | rintro e5 w5 ⟨rfl, hb5⟩
  clear hG4
  have hS5 : RowKit.Below w.heap.size w w5 ∧ Blk w5 (w.heap.size) (#[.bool a.neg, .string (decB a.n), .int .i64 (a.s : Int)]) 23 ∧ Blk w5 (w.heap.size + 1) (#[.bool b.neg, .string (decB b.n), .int .i64 (b.s : Int)]) 23 ∧ Blk w5 (w.heap.size + 1 + 1) (#[.bool c.neg, .string (decB c.n), .int .i64 (c.s : Int)]) 23 := ⟨b_step hb5 (hS4.1), (hS4.2.1).below (hS4.2.1).lt hb5, (hS4.2.2.1).below (hS4.2.2.1).lt hb5, (hS4.2.2.2).below (hS4.2.2.2).lt hb5⟩
  have hz5 : w4.heap.size ≤ w5.heap.size := hb5.size
  clear hS4 hb5
  obtain ⟨v5, hv5⟩ : ∃ v, w5.alloc (.cells #[.bool a.neg, .string (decB a.n), .int .i64 (a.s : Int)] 23) = v := ⟨_, rfl⟩
  have hT5 : RowKit.Below w.heap.size w v5 ∧ Blk v5 (w.heap.size) (#[.bool a.neg, .string (decB a.n), .int .i64 (a.s : Int)]) 23 ∧ Blk v5 (w.heap.size + 1) (#[.bool b.neg, .string (decB b.n), .int .i64 (b.s : Int)]) 23 ∧ Blk v5 (w.heap.size + 1 + 1) (#[.bool c.neg, .string (decB c.n), .int .i64 (c.s : Int)]) 23 ∧ Blk v5 (w5.heap.size) (#[.bool a.neg, .string (decB a.n), .int .i64 (a.s : Int)]) 23 := by rw [← hv5]; exact ⟨b_alloc (hS5.1), (hS5.2.1).alloc _, (hS5.2.2.1).alloc _, (hS5.2.2.2).alloc _, Blk.new w5 _ _⟩
  have hy5 : w5.heap.size < v5.heap.size := (hT5.2.2.2.2).lt
  clear hS5
  have nA := fun W => L_ne_self a.neg (decB a.n) (a.s : Int) W
  have gA := fun op px py W => L_guard op px py a.neg (decB a.n) (a.s : Int) a.neg (decB a.n) (a.s : Int) W
  obtain ⟨a0, a1, a2, _, _, _⟩ := (hT5.2.1).three
  obtain ⟨b0, b1, b2, _, _, _⟩ := (hT5.2.2.1).three
  obtain ⟨u0, u1, u2, _, _, _⟩ := (hT5.2.2.2.2).three
  go_wp2_with (go_at_call 9; (with_reducible refine (HhA1.out _).mono ?_))
  first | rintro e6 w6 rfl hb6 | rintro e6 w6 ⟨rfl, hb6⟩
  clear a0 a1 a2 b0 b1 b2 u0 u1 u2
  clear nA gA
  have hS6 : RowKit.Below w.heap.size w w6 ∧ Blk w6 (w.heap.size) (#[.bool a.neg, .string (decB a.n), .int .i64 (a.s : Int)]) 23 ∧ Blk w6 (w.heap.size + 1) (#[.bool b.neg, .string (decB b.n), .int .i64 (b.s : Int)]) 23 ∧ Blk w6 (w.heap.size + 1 + 1) (#[.bool c.neg, .string (decB c.n), .int .i64 (c.s : Int)]) 23 ∧ Blk w6 (w5.heap.size) (#[.bool a.neg, .string (decB a.n), .int .i64 (a.s : Int)]) 23 := ⟨b_step hb6 (hT5.1), (hT5.2.1).below (hT5.2.1).lt hb6, (hT5.2.2.1).below (hT5.2.2.1).lt hb6, (hT5.2.2.2.1).below (hT5.2.2.2.1).lt hb6, (hT5.2.2.2.2).below (hT5.2.2.2.2).lt hb6⟩
  have hz6 : v5.heap.size ≤ w6.heap.size := hb6.size
  clear hT5 hb6
  clear hv5
  have khS6 : RowKit.Below w.heap.size w w6 ∧ Blk w6 (w.heap.size) (#[.bool a.neg, .string (decB a.n), .int .i64 (a.s : Int)]) 23 ∧ Blk w6 (w.heap.size + 1) (#[.bool b.neg, .string (decB b.n), .int .i64 (b.s : Int)]) 23 ∧ Blk w6 (w.heap.size + 1 + 1) (#[.bool c.neg, .string (decB c.n), .int .i64 (c.s : Int)]) 23 := ⟨(hS6.1), (hS6.2.1), (hS6.2.2.1), (hS6.2.2.2.1)⟩
  clear hS6
  obtain ⟨v6, hv6⟩ : ∃ v, w6.alloc (.cells #[.bool x.neg, .string (decB x.n), .int .i64 (x.s : Int)] 23) = v := ⟨_, rfl⟩
  have hT6 : RowKit.Below w.heap.size w v6 ∧ Blk v6 (w.heap.size) (#[.bool a.neg, .string (decB a.n), .int .i64 (a.s : Int)]) 23 ∧ Blk v6 (w.heap.size + 1) (#[.bool b.neg, .string (decB b.n), .int .i64 (b.s : Int)]) 23 ∧ Blk v6 (w.heap.size + 1 + 1) (#[.bool c.neg, .string (decB c.n), .int .i64 (c.s : Int)]) 23 ∧ Blk v6 (w6.heap.size) (#[.bool x.neg, .string (decB x.n), .int .i64 (x.s : Int)]) 23 := by rw [← hv6]; exact ⟨b_alloc (khS6.1), (khS6.2.1).alloc _, (khS6.2.2.1).alloc _, (khS6.2.2.2).alloc _, Blk.new w6 _ _⟩
  have hy6 : w6.heap.size < v6.heap.size := (hT6.2.2.2.2).lt
  clear khS6
  obtain ⟨a0, a1, a2, _, _, _⟩ := (hT6.2.1).three
  obtain ⟨b0, b1, b2, _, _, _⟩ := (hT6.2.2.1).three
  go_wp2_with (go_at_call 9; (with_reducible refine (HhA2.out _).mono ?_))
  first | rintro e7 w7 rfl hb7 | rintro e7 w7 ⟨rfl, hb7⟩
  clear a0 a1 a2 b0 b1 b2
  have hS7 : RowKit.Below w.heap.size w w7 ∧ Blk w7 (w.heap.size) (#[.bool a.neg, .string (decB a.n), .int .i64 (a.s : Int)]) 23 ∧ Blk w7 (w.heap.size + 1) (#[.bool b.neg, .string (decB b.n), .int .i64 (b.s : Int)]) 23 ∧ Blk w7 (w.heap.size + 1 + 1) (#[.bool c.neg, .string (decB c.n), .int .i64 (c.s : Int)]) 23 ∧ Blk w7 (w6.heap.size) (#[.bool x.neg, .string (decB x.n), .int .i64 (x.s : Int)]) 23 := ⟨b_step hb7 (hT6.1), (hT6.2.1).below (hT6.2.1).lt hb7, (hT6.2.2.1).below (hT6.2.2.1).lt hb7, (hT6.2.2.2.1).below (hT6.2.2.2.1).lt hb7, (hT6.2.2.2.2).below (hT6.2.2.2.2).lt hb7⟩
  have hz7 : v6.heap.size ≤ w7.heap.size := hb7.size
  clear hT6 hb7
  clear hv6
  obtain ⟨v7, hv7⟩ : ∃ v, w7.alloc (.cells #[.bool x.neg, .string (decB x.n), .int .i64 (x.s : Int)] 23) = v := ⟨_, rfl⟩
  have hT7 : RowKit.Below w.heap.size w v7 ∧ Blk v7 (w.heap.size) (#[.bool a.neg, .string (decB a.n), .int .i64 (a.s : Int)]) 23 ∧ Blk v7 (w.heap.size + 1) (#[.bool b.neg, .string (decB b.n), .int .i64 (b.s : Int)]) 23 ∧ Blk v7 (w.heap.size + 1 + 1) (#[.bool c.neg, .string (decB c.n), .int .i64 (c.s : Int)]) 23 ∧ Blk v7 (w6.heap.size) (#[.bool x.neg, .string (decB x.n), .int .i64 (x.s : Int)]) 23 ∧ Blk v7 (w7.heap.size) (#[.bool x.neg, .string (decB x.n), .int .i64 (x.s : Int)]) 23 := by rw [← hv7]; exact ⟨b_alloc (hS7.1), (hS7.2.1).alloc _, (hS7.2.2.1).alloc _, (hS7.2.2.2.1).alloc _, (hS7.2.2.2.2).alloc _, Blk.new w7 _ _⟩
  have hy7 : w7.heap.size < v7.heap.size := (hT7.2.2.2.2.2).lt
  clear hS7
  obtain ⟨a0, a1, a2, _, _, _⟩ := (hT7.2.1).three
  obtain ⟨b0, b1, b2, _, _, _⟩ := (hT7.2.2.1).three
  go_wp2_with (go_at_call 10; (with_reducible refine (HhM1.out _).mono ?_))
  first | rintro e8 w8 rfl hb8 | rintro e8 w8 ⟨rfl, hb8⟩
  clear a0 a1 a2 b0 b1 b2
  have hS8 : RowKit.Below w.heap.size w w8 ∧ Blk w8 (w.heap.size) (#[.bool a.neg, .string (decB a.n), .int .i64 (a.s : Int)]) 23 ∧ Blk w8 (w.heap.size + 1) (#[.bool b.neg, .string (decB b.n), .int .i64 (b.s : Int)]) 23 ∧ Blk w8 (w.heap.size + 1 + 1) (#[.bool c.neg, .string (decB c.n), .int .i64 (c.s : Int)]) 23 ∧ Blk w8 (w6.heap.size) (#[.bool x.neg, .string (decB x.n), .int .i64 (x.s : Int)]) 23 ∧ Blk w8 (w7.heap.size) (#[.bool x.neg, .string (decB x.n), .int .i64 (x.s : Int)]) 23 := ⟨b_step hb8 (hT7.1), (hT7.2.1).below (hT7.2.1).lt hb8, (hT7.2.2.1).below (hT7.2.2.1).lt hb8, (hT7.2.2.2.1).below (hT7.2.2.2.1).lt hb8, (hT7.2.2.2.2.1).below (hT7.2.2.2.2.1).lt hb8, (hT7.2.2.2.2.2).below (hT7.2.2.2.2.2).lt hb8⟩
  have hz8 : v7.heap.size ≤ w8.heap.size := hb8.size
  clear hT7 hb8
  clear hv7
  obtain ⟨v8, hv8⟩ : ∃ v, w8.alloc (.cells #[.bool m0, .string m1, .int .i64 m2] 23) = v := ⟨_, rfl⟩
  have hT8 : RowKit.Below w.heap.size w v8 ∧ Blk v8 (w.heap.size) (#[.bool a.neg, .string (decB a.n), .int .i64 (a.s : Int)]) 23 ∧ Blk v8 (w.heap.size + 1) (#[.bool b.neg, .string (decB b.n), .int .i64 (b.s : Int)]) 23 ∧ Blk v8 (w.heap.size + 1 + 1) (#[.bool c.neg, .string (decB c.n), .int .i64 (c.s : Int)]) 23 ∧ Blk v8 (w6.heap.size) (#[.bool x.neg, .string (decB x.n), .int .i64 (x.s : Int)]) 23 ∧ Blk v8 (w7.heap.size) (#[.bool x.neg, .string (decB x.n), .int .i64 (x.s : Int)]) 23 ∧ Blk v8 (w8.heap.size) (#[.bool m0, .string m1, .int .i64 m2]) 23 := by rw [← hv8]; exact ⟨b_alloc (hS8.1), (hS8.2.1).alloc _, (hS8.2.2.1).alloc _, (hS8.2.2.2.1).alloc _, (hS8.2.2.2.2.1).alloc _, (hS8.2.2.2.2.2).alloc _, Blk.new w8 _ _⟩
  have hy8 : w8.heap.size < v8.heap.size := (hT8.2.2.2.2.2.2).lt
  clear hS8
  obtain ⟨a0, a1, a2, _, _, _⟩ := (hT8.2.1).three
  obtain ⟨b0, b1, b2, _, _, _⟩ := (hT8.2.2.1).three
  go_wp2_with (go_at_call 10; (with_reducible refine (HhM2.out _).mono ?_))
  first | rintro e9 w9 rfl hb9 | rintro e9 w9 ⟨rfl, hb9⟩
  clear a0 a1 a2 b0 b1 b2
  have hS9 : RowKit.Below w.heap.size w w9 ∧ Blk w9 (w.heap.size) (#[.bool a.neg, .string (decB a.n), .int .i64 (a.s : Int)]) 23 ∧ Blk w9 (w.heap.size + 1) (#[.bool b.neg, .string (decB b.n), .int .i64 (b.s : Int)]) 23 ∧ Blk w9 (w.heap.size + 1 + 1) (#[.bool c.neg, .string (decB c.n), .int .i64 (c.s : Int)]) 23 ∧ Blk w9 (w6.heap.size) (#[.bool x.neg, .string (decB x.n), .int .i64 (x.s : Int)]) 23 ∧ Blk w9 (w7.heap.size) (#[.bool x.neg, .string (decB x.n), .int .i64 (x.s : Int)]) 23 ∧ Blk w9 (w8.heap.size) (#[.bool m0, .string m1, .int .i64 m2]) 23 := ⟨b_step hb9 (hT8.1), (hT8.2.1).below (hT8.2.1).lt hb9, (hT8.2.2.1).below (hT8.2.2.1).lt hb9, (hT8.2.2.2.1).below (hT8.2.2.2.1).lt hb9, (hT8.2.2.2.2.1).below (hT8.2.2.2.2.1).lt hb9, (hT8.2.2.2.2.2.1).below (hT8.2.2.2.2.2.1).lt hb9, (hT8.2.2.2.2.2.2).below (hT8.2.2.2.2.2.2).lt hb9⟩
  have hz9 : v8.heap.size ≤ w9.heap.size := hb9.size
  clear hT8 hb9
  clear hv8
  obtain ⟨v9, hv9⟩ : ∃ v, w9.alloc (.cells #[.bool m0, .string m1, .int .i64 m2] 23) = v := ⟨_, rfl⟩
  have hT9 : RowKit.Below w.heap.size w v9 ∧ Blk v9 (w.heap.size) (#[.bool a.neg, .string (decB a.n), .int .i64 (a.s : Int)]) 23 ∧ Blk v9 (w.heap.size + 1) (#[.bool b.neg, .string (decB b.n), .int .i64 (b.s : Int)]) 23 ∧ Blk v9 (w.heap.size + 1 + 1) (#[.bool c.neg, .string (decB c.n), .int .i64 (c.s : Int)]) 23 ∧ Blk v9 (w6.heap.size) (#[.bool x.neg, .string (decB x.n), .int .i64 (x.s : Int)]) 23 ∧ Blk v9 (w7.heap.size) (#[.bool x.neg, .string (decB x.n), .int .i64 (x.s : Int)]) 23 ∧ Blk v9 (w8.heap.size) (#[.bool m0, .string m1, .int .i64 m2]) 23 ∧ Blk v9 (w9.heap.size) (#[.bool m0, .string m1, .int .i64 m2]) 23 := by rw [← hv9]; exact ⟨b_alloc (hS9.1), (hS9.2.1).alloc _, (hS9.2.2.1).alloc _, (hS9.2.2.2.1).alloc _, (hS9.2.2.2.2.1).alloc _, (hS9.2.2.2.2.2.1).alloc _, (hS9.2.2.2.2.2.2).alloc _, Blk.new w9 _ _⟩
  have hy9 : w9.heap.size < v9.heap.size := (hT9.2.2.2.2.2.2.2).lt
  clear hS9
  obtain ⟨a0, a1, a2, _, _, _⟩ := (hT9.2.1).three
  obtain ⟨b0, b1, b2, _, _, _⟩ := (hT9.2.2.1).three
  obtain ⟨x0, x1, x2, _, _, _⟩ := (hT9.2.2.2.2.1).three
  obtain ⟨y0, y1, y2, _, _, _⟩ := (hT9.2.2.2.2.2.1).three
  obtain ⟨p0, p1, p2, _, _, _⟩ := (hT9.2.2.2.2.2.2.1).three
  obtain ⟨q0, q1, q2, _, _, _⟩ := (hT9.2.2.2.2.2.2.2).three
  have nX := fun W => L_ne_self x.neg (decB x.n) (x.s : Int) W
  have gX := fun op px py W => L_guard op px py x.neg (decB x.n) (x.s : Int) x.neg (decB x.n) (x.s : Int) W
  have nM := fun W => L_ne_self m0 m1 m2 W
  have gM := fun op px py W => L_guard op px py m0 m1 m2 m0 m1 m2 W
  go_wp2_with (go_at_call 11; (with_reducible refine (HhS1.out _).mono ?_))
  first | rintro e10 w10 rfl hb10 | rintro e10 w10 ⟨rfl, hb10⟩
  clear a0 a1 a2 b0 b1 b2 x0 x1 x2 y0 y1 y2 p0 p1 p2 q0 q1 q2
  clear nX gX nM gM
  have hS10 : RowKit.Below w.heap.size w w10 ∧ Blk w10 (w.heap.size) (#[.bool a.neg, .string (decB a.n), .int .i64 (a.s : Int)]) 23 ∧ Blk w10 (w.heap.size + 1) (#[.bool b.neg, .string (decB b.n), .int .i64 (b.s : Int)]) 23 ∧ Blk w10 (w.heap.size + 1 + 1) (#[.bool c.neg, .string (decB c.n), .int .i64 (c.s : Int)]) 23 ∧ Blk w10 (w6.heap.size) (#[.bool x.neg, .string (decB x.n), .int .i64 (x.s : Int)]) 23 ∧ Blk w10 (w7.heap.size) (#[.bool x.neg, .string (decB x.n), .int .i64 (x.s : Int)]) 23 ∧ Blk w10 (w8.heap.size) (#[.bool m0, .string m1, .int .i64 m2]) 23 ∧ Blk w10 (w9.heap.size) (#[.bool m0, .string m1, .int .i64 m2]) 23 := ⟨b_step hb10 (hT9.1), (hT9.2.1).below (hT9.2.1).lt hb10, (hT9.2.2.1).below (hT9.2.2.1).lt hb10, (hT9.2.2.2.1).below (hT9.2.2.2.1).lt hb10, (hT9.2.2.2.2.1).below (hT9.2.2.2.2.1).lt hb10, (hT9.2.2.2.2.2.1).below (hT9.2.2.2.2.2.1).lt hb10, (hT9.2.2.2.2.2.2.1).below (hT9.2.2.2.2.2.2.1).lt hb10, (hT9.2.2.2.2.2.2.2).below (hT9.2.2.2.2.2.2.2).lt hb10⟩
  have hz10 : v9.heap.size ≤ w10.heap.size := hb10.size
  clear hT9 hb10
  clear hv9
  have khS10 : RowKit.Below w.heap.size w w10 ∧ Blk w10 (w.heap.size) (#[.bool a.neg, .string (decB a.n), .int .i64 (a.s : Int)]) 23 ∧ Blk w10 (w.heap.size + 1) (#[.bool b.neg, .string (decB b.n), .int .i64 (b.s : Int)]) 23 ∧ Blk w10 (w.heap.size + 1 + 1) (#[.bool c.neg, .string (decB c.n), .int .i64 (c.s : Int)]) 23 ∧ Blk w10 (w6.heap.size) (#[.bool x.neg, .string (decB x.n), .int .i64 (x.s : Int)]) 23 := ⟨(hS10.1), (hS10.2.1), (hS10.2.2.1), (hS10.2.2.2.1), (hS10.2.2.2.2.1)⟩
  clear hS10
  obtain ⟨v10, hv10⟩ : ∃ v, w10.alloc (.cells #[.bool dd.neg, .string (decB dd.n), .int .i64 (dd.s : Int)] 23) = v := ⟨_, rfl⟩
  have hT10 : RowKit.Below w.heap.size w v10 ∧ Blk v10 (w.heap.size) (#[.bool a.neg, .string (decB a.n), .int .i64 (a.s : Int)]) 23 ∧ Blk v10 (w.heap.size + 1) (#[.bool b.neg, .string (decB b.n), .int .i64 (b.s : Int)]) 23 ∧ Blk v10 (w.heap.size + 1 + 1) (#[.bool c.neg, .string (decB c.n), .int .i64 (c.s : Int)]) 23 ∧ Blk v10 (w6.heap.size) (#[.bool x.neg, .string (decB x.n), .int .i64 (x.s : Int)]) 23 ∧ Blk v10 (w10.heap.size) (#[.bool dd.neg, .string (decB dd.n), .int .i64 (dd.s : Int)]) 23 := by rw [← hv10]; exact ⟨b_alloc (khS10.1), (khS10.2.1).alloc _, (khS10.2.2.1).alloc _, (khS10.2.2.2.1).alloc _, (khS10.2.2.2.2).alloc _, Blk.new w10 _ _⟩
  have hy10 : w10.heap.size < v10.heap.size := (hT10.2.2.2.2.2).lt
  clear khS10
  obtain ⟨a0, a1, a2, _, _, _⟩ := (hT10.2.1).three
  obtain ⟨b0, b1, b2, _, _, _⟩ := (hT10.2.2.1).three
  go_wp2_with (go_at_call 12; (with_reducible refine (HhK.out _).mono ?_))
  first | rintro e11 w11 rfl hb11 | rintro e11 w11 ⟨rfl, hb11⟩
  clear a0 a1 a2 b0 b1 b2
  have hS11 : RowKit.Below w.heap.size w w11 ∧ Blk w11 (w.heap.size) (#[.bool a.neg, .string (decB a.n), .int .i64 (a.s : Int)]) 23 ∧ Blk w11 (w.heap.size + 1) (#[.bool b.neg, .string (decB b.n), .int .i64 (b.s : Int)]) 23 ∧ Blk w11 (w.heap.size + 1 + 1) (#[.bool c.neg, .string (decB c.n), .int .i64 (c.s : Int)]) 23 ∧ Blk w11 (w6.heap.size) (#[.bool x.neg, .string (decB x.n), .int .i64 (x.s : Int)]) 23 ∧ Blk w11 (w10.heap.size) (#[.bool dd.neg, .string (decB dd.n), .int .i64 (dd.s : Int)]) 23 := ⟨b_step hb11 (hT10.1), (hT10.2.1).below (hT10.2.1).lt hb11, (hT10.2.2.1).below (hT10.2.2.1).lt hb11, (hT10.2.2.2.1).below (hT10.2.2.2.1).lt hb11, (hT10.2.2.2.2.1).below (hT10.2.2.2.2.1).lt hb11, (hT10.2.2.2.2.2).below (hT10.2.2.2.2.2).lt hb11⟩
  have hz11 : v10.heap.size ≤ w11.heap.size := hb11.size
  clear hT10 hb11
  clear hv10
  obtain ⟨d0, d1, d2, _, _, _⟩ := (hS11.2.2.2.2.2).three
  obtain ⟨hz1, hz2, hz3, hn1, hzb, hnb⟩ := HF.out
  rw [hnb] at d0
  obtain ⟨x0, x1, x2, _, _, _⟩ := (hS11.2.2.2.2.1).three
  obtain ⟨b0, b1, b2, _, _, _⟩ := (hS11.2.2.1).three
  go_wp2_with (go_at_call 11; (with_reducible refine (HhB.out _).mono ?_))
  first | rintro e12 w12 rfl hb12 | rintro e12 w12 ⟨rfl, hb12⟩
  clear d0 d1 d2 x0 x1 x2 b0 b1 b2
  clear hz1 hz2 hz3 hn1 hzb hnb
  have hS12 : RowKit.Below w.heap.size w w12 ∧ Blk w12 (w.heap.size) (#[.bool a.neg, .string (decB a.n), .int .i64 (a.s : Int)]) 23 ∧ Blk w12 (w.heap.size + 1) (#[.bool b.neg, .string (decB b.n), .int .i64 (b.s : Int)]) 23 ∧ Blk w12 (w.heap.size + 1 + 1) (#[.bool c.neg, .string (decB c.n), .int .i64 (c.s : Int)]) 23 ∧ Blk w12 (w6.heap.size) (#[.bool x.neg, .string (decB x.n), .int .i64 (x.s : Int)]) 23 ∧ Blk w12 (w10.heap.size) (#[.bool dd.neg, .string (decB dd.n), .int .i64 (dd.s : Int)]) 23 := ⟨b_step hb12 (hS11.1), (hS11.2.1).below (hS11.2.1).lt hb12, (hS11.2.2.1).below (hS11.2.2.1).lt hb12, (hS11.2.2.2.1).below (hS11.2.2.2.1).lt hb12, (hS11.2.2.2.2.1).below (hS11.2.2.2.2.1).lt hb12, (hS11.2.2.2.2.2).below (hS11.2.2.2.2.2).lt hb12⟩
  have hz12 : w11.heap.size ≤ w12.heap.size := hb12.size
  clear hS11 hb12
  have khS12 : RowKit.Below w.heap.size w w12 ∧ Blk w12 (w.heap.size) (#[.bool a.neg, .string (decB a.n), .int .i64 (a.s : Int)]) 23 ∧ Blk w12 (w.heap.size + 1) (#[.bool b.neg, .string (decB b.n), .int .i64 (b.s : Int)]) 23 ∧ Blk w12 (w.heap.size + 1 + 1) (#[.bool c.neg, .string (decB c.n), .int .i64 (c.s : Int)]) 23 ∧ Blk w12 (w6.heap.size) (#[.bool x.neg, .string (decB x.n), .int .i64 (x.s : Int)]) 23 := ⟨(hS12.1), (hS12.2.1), (hS12.2.2.1), (hS12.2.2.2.1), (hS12.2.2.2.2.1)⟩
  clear hS12
  obtain ⟨v12, hv12⟩ : ∃ v, w12.alloc (.cells #[.bool a.neg, .string (decB a.n), .int .i64 (a.s : Int)] 23) = v := ⟨_, rfl⟩
  have hT12 : RowKit.Below w.heap.size w v12 ∧ Blk v12 (w.heap.size) (#[.bool a.neg, .string (decB a.n), .int .i64 (a.s : Int)]) 23 ∧ Blk v12 (w.heap.size + 1) (#[.bool b.neg, .string (decB b.n), .int .i64 (b.s : Int)]) 23 ∧ Blk v12 (w.heap.size + 1 + 1) (#[.bool c.neg, .string (decB c.n), .int .i64 (c.s : Int)]) 23 ∧ Blk v12 (w6.heap.size) (#[.bool x.neg, .string (decB x.n), .int .i64 (x.s : Int)]) 23 ∧ Blk v12 (w12.heap.size) (#[.bool a.neg, .string (decB a.n), .int .i64 (a.s : Int)]) 23 := by rw [← hv12]; exact ⟨b_alloc (khS12.1), (khS12.2.1).alloc _, (khS12.2.2.1).alloc _, (khS12.2.2.2.1).alloc _, (khS12.2.2.2.2).alloc _, Blk.new w12 _ _⟩
  have hy12 : w12.heap.size < v12.heap.size := (hT12.2.2.2.2.2).lt
  clear khS12
  have nA := fun W => L_ne_self a.neg (decB a.n) (a.s : Int) W
  have gA := fun op px py W => L_guard op px py a.neg (decB a.n) (a.s : Int) a.neg (decB a.n) (a.s : Int) W
  obtain ⟨a0, a1, a2, _, _, _⟩ := (hT12.2.1).three
  obtain ⟨z0, z1, z2, _, _, _⟩ := (hT12.2.2.2.2.2).three
  obtain ⟨x0, x1, x2, _, _, _⟩ := (hT12.2.2.2.2.1).three
  obtain ⟨c0, c1, c2, _, _, _⟩ := (hT12.2.2.2.1).three
  have hc1 := Hhc1.out
  have hc2 := Hhc2.out
  have hc3 := Hhc3.out
  have hL1 := HhL1.out
  have hL2 := HhL2.out
  have hL3 := HhL3.out
  clear Hhc1 Hhc2 Hhc3 HhL1 HhL2 HhL3
  rcases hc1 with ⟨l, hl, e1⟩ | e1
  · rcases hc2 with ⟨o, ho, e2⟩ | e2
    · rcases hc3 with ⟨t, ht, e3⟩ | e3
      · skip
        simp only [e1, R.ok_val, err_val, V.d_val] at hL1
        have HhL1 := Lib.hid hL1
        clear hL1
        simp only [e2, R.ok_val, err_val, V.d_val] at hL2
        have HhL2 := Lib.hid hL2
        clear hL2
        simp only [e3, R.ok_val, err_val, V.d_val] at hL3
        have HhL3 := Lib.hid hL3
        clear hL3
        have h4 := fun W => HhL4.out o t ho ht W
        rw [Hhdis.out l o t hl ho ht e1 e2 e3] at h4
        simp only [R.ok_val, V.d_val] at h4
        have H4 := Lib.hid h4
        clear h4
        clear e1 e2 e3 hl ho ht
        go_wp2_with (go_at_call 10; (with_reducible refine (HhL1.out _).mono ?_))
        first | rintro e13 w13 rfl hb13 | rintro e13 w13 ⟨rfl, hb13⟩
        clear a0 a1 a2 z0 z1 z2 x0 x1 x2 c0 c1 c2
        clear nA gA
        have hS13 : RowKit.Below w.heap.size w w13 ∧ Blk w13 (w.heap.size) (#[.bool a.neg, .string (decB a.n), .int .i64 (a.s : Int)]) 23 ∧ Blk w13 (w.heap.size + 1) (#[.bool b.neg, .string (decB b.n), .int .i64 (b.s : Int)]) 23 ∧ Blk w13 (w.heap.size + 1 + 1) (#[.bool c.neg, .string (decB c.n), .int .i64 (c.s : Int)]) 23 ∧ Blk w13 (w6.heap.size) (#[.bool x.neg, .string (decB x.n), .int .i64 (x.s : Int)]) 23 ∧ Blk w13 (w12.heap.size) (#[.bool a.neg, .string (decB a.n), .int .i64 (a.s : Int)]) 23 := ⟨b_step hb13 (hT12.1), (hT12.2.1).below (hT12.2.1).lt hb13, (hT12.2.2.1).below (hT12.2.2.1).lt hb13, (hT12.2.2.2.1).below (hT12.2.2.2.1).lt hb13, (hT12.2.2.2.2.1).below (hT12.2.2.2.2.1).lt hb13, (hT12.2.2.2.2.2).below (hT12.2.2.2.2.2).lt hb13⟩
        have hz13 : v12.heap.size ≤ w13.heap.size := hb13.size
        clear hT12 hb13
        clear hv12
        have khS13 : RowKit.Below w.heap.size w w13 ∧ Blk w13 (w.heap.size) (#[.bool a.neg, .string (decB a.n), .int .i64 (a.s : Int)]) 23 ∧ Blk w13 (w.heap.size + 1) (#[.bool b.neg, .string (decB b.n), .int .i64 (b.s : Int)]) 23 ∧ Blk w13 (w.heap.size + 1 + 1) (#[.bool c.neg, .string (decB c.n), .int .i64 (c.s : Int)]) 23 ∧ Blk w13 (w6.heap.size) (#[.bool x.neg, .string (decB x.n), .int .i64 (x.s : Int)]) 23 := ⟨(hS13.1), (hS13.2.1), (hS13.2.2.1), (hS13.2.2.2.1), (hS13.2.2.2.2.1)⟩
        clear hS13
        obtain ⟨v13, hv13⟩ : ∃ v, w13.alloc (.cells #[.bool l.neg, .string (decB l.n), .int .i64 (l.s : Int)] 23) = v := ⟨_, rfl⟩
        have hT13 : RowKit.Below w.heap.size w v13 ∧ Blk v13 (w.heap.size) (#[.bool a.neg, .string (decB a.n), .int .i64 (a.s : Int)]) 23 ∧ Blk v13 (w.heap.size + 1) (#[.bool b.neg, .string (decB b.n), .int .i64 (b.s : Int)]) 23 ∧ Blk v13 (w.heap.size + 1 + 1) (#[.bool c.neg, .string (decB c.n), .int .i64 (c.s : Int)]) 23 ∧ Blk v13 (w6.heap.size) (#[.bool x.neg, .string (decB x.n), .int .i64 (x.s : Int)]) 23 ∧ Blk v13 (w13.heap.size) (#[.bool l.neg, .string (decB l.n), .int .i64 (l.s : Int)]) 23 := by rw [← hv13]; exact ⟨b_alloc (khS13.1), (khS13.2.1).alloc _, (khS13.2.2.1).alloc _, (khS13.2.2.2.1).alloc _, (khS13.2.2.2.2).alloc _, Blk.new w13 _ _⟩
        have hy13 : w13.heap.size < v13.heap.size := (hT13.2.2.2.2.2).lt
        clear khS13
        obtain ⟨a0, a1, a2, _, _, _⟩ := (hT13.2.1).three
        obtain ⟨c0, c1, c2, _, _, _⟩ := (hT13.2.2.2.1).three
        go_wp2_with (go_at_call 10; (with_reducible refine (HhL2.out _).mono ?_))
        first | rintro e14 w14 rfl hb14 | rintro e14 w14 ⟨rfl, hb14⟩
        clear a0 a1 a2 c0 c1 c2
        have hS14 : RowKit.Below w.heap.size w w14 ∧ Blk w14 (w.heap.size) (#[.bool a.neg, .string (decB a.n), .int .i64 (a.s : Int)]) 23 ∧ Blk w14 (w.heap.size + 1) (#[.bool b.neg, .string (decB b.n), .int .i64 (b.s : Int)]) 23 ∧ Blk w14 (w.heap.size + 1 + 1) (#[.bool c.neg, .string (decB c.n), .int .i64 (c.s : Int)]) 23 ∧ Blk w14 (w6.heap.size) (#[.bool x.neg, .string (decB x.n), .int .i64 (x.s : Int)]) 23 ∧ Blk w14 (w13.heap.size) (#[.bool l.neg, .string (decB l.n), .int .i64 (l.s : Int)]) 23 := ⟨b_step hb14 (hT13.1), (hT13.2.1).below (hT13.2.1).lt hb14, (hT13.2.2.1).below (hT13.2.2.1).lt hb14, (hT13.2.2.2.1).below (hT13.2.2.2.1).lt hb14, (hT13.2.2.2.2.1).below (hT13.2.2.2.2.1).lt hb14, (hT13.2.2.2.2.2).below (hT13.2.2.2.2.2).lt hb14⟩
        have hz14 : v13.heap.size ≤ w14.heap.size := hb14.size
        clear hT13 hb14
        clear hv13
        obtain ⟨v14, hv14⟩ : ∃ v, w14.alloc (.cells #[.bool o.neg, .string (decB o.n), .int .i64 (o.s : Int)] 23) = v := ⟨_, rfl⟩
        have hT14 : RowKit.Below w.heap.size w v14 ∧ Blk v14 (w.heap.size) (#[.bool a.neg, .string (decB a.n), .int .i64 (a.s : Int)]) 23 ∧ Blk v14 (w.heap.size + 1) (#[.bool b.neg, .string (decB b.n), .int .i64 (b.s : Int)]) 23 ∧ Blk v14 (w.heap.size + 1 + 1) (#[.bool c.neg, .string (decB c.n), .int .i64 (c.s : Int)]) 23 ∧ Blk v14 (w6.heap.size) (#[.bool x.neg, .string (decB x.n), .int .i64 (x.s : Int)]) 23 ∧ Blk v14 (w13.heap.size) (#[.bool l.neg, .string (decB l.n), .int .i64 (l.s : Int)]) 23 ∧ Blk v14 (w14.heap.size) (#[.bool o.neg, .string (decB o.n), .int .i64 (o.s : Int)]) 23 := by rw [← hv14]; exact ⟨b_alloc (hS14.1), (hS14.2.1).alloc _, (hS14.2.2.1).alloc _, (hS14.2.2.2.1).alloc _, (hS14.2.2.2.2.1).alloc _, (hS14.2.2.2.2.2).alloc _, Blk.new w14 _ _⟩
        have hy14 : w14.heap.size < v14.heap.size := (hT14.2.2.2.2.2.2).lt
        clear hS14
        obtain ⟨b0, b1, b2, _, _, _⟩ := (hT14.2.2.1).three
        obtain ⟨c0, c1, c2, _, _, _⟩ := (hT14.2.2.2.1).three
        go_wp2_with (go_at_call 10; (with_reducible refine (HhL3.out _).mono ?_))
        first | rintro e15 w15 rfl hb15 | rintro e15 w15 ⟨rfl, hb15⟩
        clear b0 b1 b2 c0 c1 c2
        have hS15 : RowKit.Below w.heap.size w w15 ∧ Blk w15 (w.heap.size) (#[.bool a.neg, .string (decB a.n), .int .i64 (a.s : Int)]) 23 ∧ Blk w15 (w.heap.size + 1) (#[.bool b.neg, .string (decB b.n), .int .i64 (b.s : Int)]) 23 ∧ Blk w15 (w.heap.size + 1 + 1) (#[.bool c.neg, .string (decB c.n), .int .i64 (c.s : Int)]) 23 ∧ Blk w15 (w6.heap.size) (#[.bool x.neg, .string (decB x.n), .int .i64 (x.s : Int)]) 23 ∧ Blk w15 (w13.heap.size) (#[.bool l.neg, .string (decB l.n), .int .i64 (l.s : Int)]) 23 ∧ Blk w15 (w14.heap.size) (#[.bool o.neg, .string (decB o.n), .int .i64 (o.s : Int)]) 23 := ⟨b_step hb15 (hT14.1), (hT14.2.1).below (hT14.2.1).lt hb15, (hT14.2.2.1).below (hT14.2.2.1).lt hb15, (hT14.2.2.2.1).below (hT14.2.2.2.1).lt hb15, (hT14.2.2.2.2.1).below (hT14.2.2.2.2.1).lt hb15, (hT14.2.2.2.2.2.1).below (hT14.2.2.2.2.2.1).lt hb15, (hT14.2.2.2.2.2.2).below (hT14.2.2.2.2.2.2).lt hb15⟩
        have hz15 : v14.heap.size ≤ w15.heap.size := hb15.size
        clear hT14 hb15
        clear hv14
        obtain ⟨v15, hv15⟩ : ∃ v, w15.alloc (.cells #[.bool t.neg, .string (decB t.n), .int .i64 (t.s : Int)] 23) = v := ⟨_, rfl⟩
        have hT15 : RowKit.Below w.heap.size w v15 ∧ Blk v15 (w.heap.size) (#[.bool a.neg, .string (decB a.n), .int .i64 (a.s : Int)]) 23 ∧ Blk v15 (w.heap.size + 1) (#[.bool b.neg, .string (decB b.n), .int .i64 (b.s : Int)]) 23 ∧ Blk v15 (w.heap.size + 1 + 1) (#[.bool c.neg, .string (decB c.n), .int .i64 (c.s : Int)]) 23 ∧ Blk v15 (w6.heap.size) (#[.bool x.neg, .string (decB x.n), .int .i64 (x.s : Int)]) 23 ∧ Blk v15 (w13.heap.size) (#[.bool l.neg, .string (decB l.n), .int .i64 (l.s : Int)]) 23 ∧ Blk v15 (w14.heap.size) (#[.bool o.neg, .string (decB o.n), .int .i64 (o.s : Int)]) 23 ∧ Blk v15 (w15.heap.size) (#[.bool t.neg, .string (decB t.n), .int .i64 (t.s : Int)]) 23 := by rw [← hv15]; exact ⟨b_alloc (hS15.1), (hS15.2.1).alloc _, (hS15.2.2.1).alloc _, (hS15.2.2.2.1).alloc _, (hS15.2.2.2.2.1).alloc _, (hS15.2.2.2.2.2.1).alloc _, (hS15.2.2.2.2.2.2).alloc _, Blk.new w15 _ _⟩
        have hy15 : w15.heap.size < v15.heap.size := (hT15.2.2.2.2.2.2.2).lt
        clear hS15
        obtain ⟨o0, o1, o2, _, _, _⟩ := (hT15.2.2.2.2.2.2.1).three
        obtain ⟨t0, t1, t2, _, _, _⟩ := (hT15.2.2.2.2.2.2.2).three
        go_wp2_with (go_at_call 9; (with_reducible refine (H4.out _).mono ?_))
        first | rintro e16 w16 rfl hb16 | rintro e16 w16 ⟨rfl, hb16⟩
        clear o0 o1 o2 t0 t1 t2
        have hS16 : RowKit.Below w.heap.size w w16 ∧ Blk w16 (w.heap.size) (#[.bool a.neg, .string (decB a.n), .int .i64 (a.s : Int)]) 23 ∧ Blk w16 (w.heap.size + 1) (#[.bool b.neg, .string (decB b.n), .int .i64 (b.s : Int)]) 23 ∧ Blk w16 (w.heap.size + 1 + 1) (#[.bool c.neg, .string (decB c.n), .int .i64 (c.s : Int)]) 23 ∧ Blk w16 (w6.heap.size) (#[.bool x.neg, .string (decB x.n), .int .i64 (x.s : Int)]) 23 ∧ Blk w16 (w13.heap.size) (#[.bool l.neg, .string (decB l.n), .int .i64 (l.s : Int)]) 23 ∧ Blk w16 (w14.heap.size) (#[.bool o.neg, .string (decB o.n), .int .i64 (o.s : Int)]) 23 ∧ Blk w16 (w15.heap.size) (#[.bool t.neg, .string (decB t.n), .int .i64 (t.s : Int)]) 23 := ⟨b_step hb16 (hT15.1), (hT15.2.1).below (hT15.2.1).lt hb16, (hT15.2.2.1).below (hT15.2.2.1).lt hb16, (hT15.2.2.2.1).below (hT15.2.2.2.1).lt hb16, (hT15.2.2.2.2.1).below (hT15.2.2.2.2.1).lt hb16, (hT15.2.2.2.2.2.1).below (hT15.2.2.2.2.2.1).lt hb16, (hT15.2.2.2.2.2.2.1).below (hT15.2.2.2.2.2.2.1).lt hb16, (hT15.2.2.2.2.2.2.2).below (hT15.2.2.2.2.2.2.2).lt hb16⟩
        have hz16 : v15.heap.size ≤ w16.heap.size := hb16.size
        clear hT15 hb16
        clear hv15
        obtain ⟨v16, hv16⟩ : ∃ v, w16.alloc (.cells #[.bool l.neg, .string (decB l.n), .int .i64 (l.s : Int)] 23) = v := ⟨_, rfl⟩
        have hT16 : RowKit.Below w.heap.size w v16 ∧ Blk v16 (w.heap.size) (#[.bool a.neg, .string (decB a.n), .int .i64 (a.s : Int)]) 23 ∧ Blk v16 (w.heap.size + 1) (#[.bool b.neg, .string (decB b.n), .int .i64 (b.s : Int)]) 23 ∧ Blk v16 (w.heap.size + 1 + 1) (#[.bool c.neg, .string (decB c.n), .int .i64 (c.s : Int)]) 23 ∧ Blk v16 (w6.heap.size) (#[.bool x.neg, .string (decB x.n), .int .i64 (x.s : Int)]) 23 ∧ Blk v16 (w13.heap.size) (#[.bool l.neg, .string (decB l.n), .int .i64 (l.s : Int)]) 23 ∧ Blk v16 (w14.heap.size) (#[.bool o.neg, .string (decB o.n), .int .i64 (o.s : Int)]) 23 ∧ Blk v16 (w15.heap.size) (#[.bool t.neg, .string (decB t.n), .int .i64 (t.s : Int)]) 23 ∧ Blk v16 (w16.heap.size) (#[.bool l.neg, .string (decB l.n), .int .i64 (l.s : Int)]) 23 := by rw [← hv16]; exact ⟨b_alloc (hS16.1), (hS16.2.1).alloc _, (hS16.2.2.1).alloc _, (hS16.2.2.2.1).alloc _, (hS16.2.2.2.2.1).alloc _, (hS16.2.2.2.2.2.1).alloc _, (hS16.2.2.2.2.2.2.1).alloc _, (hS16.2.2.2.2.2.2.2).alloc _, Blk.new w16 _ _⟩
        have hy16 : w16.heap.size < v16.heap.size := (hT16.2.2.2.2.2.2.2.2).lt
        clear hS16
        have nL := fun W => L_ne_self l.neg (decB l.n) (l.s : Int) W
        have gL := fun op px py W => L_guard op px py l.neg (decB l.n) (l.s : Int) l.neg (decB l.n) (l.s : Int) W
        obtain ⟨l0, l1, l2, _, _, _⟩ := (hT16.2.2.2.2.2.1).three
        obtain ⟨r0, r1, r2, _, _, _⟩ := (hT16.2.2.2.2.2.2.2.2).three
        have hGG := HG.out.later (hT16.1)
        have HBz := Lib.hid (hT16.1)
        clear hT16
        go_wp2_with (go_at_call 6; refine (hSh _ hGG).mono ?_)
        first | rintro e17 w17 rfl hb17 | rintro e17 w17 ⟨rfl, hb17⟩
        have HBy := Lib.hid (b_step hb17 HBz.out)
        clear hb17 l0 l1 l2 r0 r1 r2
        clear hv16
        go_wp2
        go_ret
        exact ⟨rfl, HBy.out⟩
      · skip
        simp only [e1, R.ok_val, err_val, V.d_val] at hL1
        have HhL1 := Lib.hid hL1
        clear hL1
        simp only [e2, R.ok_val, err_val, V.d_val] at hL2
        have HhL2 := Lib.hid hL2
        clear hL2
        simp only [e3, R.ok_val, err_val, V.d_val] at hL3
        have HhL3 := Lib.hid hL3
        clear hL3
        clear e1 e2 e3 hl ho
        go_wp2_with (go_at_call 10; (with_reducible refine (HhL1.out _).mono ?_))
        first | rintro e13 w13 rfl hb13 | rintro e13 w13 ⟨rfl, hb13⟩
        clear a0 a1 a2 z0 z1 z2 x0 x1 x2 c0 c1 c2
        clear nA gA
        have hS13 : RowKit.Below w.heap.size w w13 ∧ Blk w13 (w.heap.size) (#[.bool a.neg, .string (decB a.n), .int .i64 (a.s : Int)]) 23 ∧ Blk w13 (w.heap.size + 1) (#[.bool b.neg, .string (decB b.n), .int .i64 (b.s : Int)]) 23 ∧ Blk w13 (w.heap.size + 1 + 1) (#[.bool c.neg, .string (decB c.n), .int .i64 (c.s : Int)]) 23 ∧ Blk w13 (w6.heap.size) (#[.bool x.neg, .string (decB x.n), .int .i64 (x.s : Int)]) 23 ∧ Blk w13 (w12.heap.size) (#[.bool a.neg, .string (decB a.n), .int .i64 (a.s : Int)]) 23 := ⟨b_step hb13 (hT12.1), (hT12.2.1).below (hT12.2.1).lt hb13, (hT12.2.2.1).below (hT12.2.2.1).lt hb13, (hT12.2.2.2.1).below (hT12.2.2.2.1).lt hb13, (hT12.2.2.2.2.1).below (hT12.2.2.2.2.1).lt hb13, (hT12.2.2.2.2.2).below (hT12.2.2.2.2.2).lt hb13⟩
        have hz13 : v12.heap.size ≤ w13.heap.size := hb13.size
        clear hT12 hb13
        clear hv12
        have khS13 : RowKit.Below w.heap.size w w13 ∧ Blk w13 (w.heap.size) (#[.bool a.neg, .string (decB a.n), .int .i64 (a.s : Int)]) 23 ∧ Blk w13 (w.heap.size + 1) (#[.bool b.neg, .string (decB b.n), .int .i64 (b.s : Int)]) 23 ∧ Blk w13 (w.heap.size + 1 + 1) (#[.bool c.neg, .string (decB c.n), .int .i64 (c.s : Int)]) 23 ∧ Blk w13 (w6.heap.size) (#[.bool x.neg, .string (decB x.n), .int .i64 (x.s : Int)]) 23 := ⟨(hS13.1), (hS13.2.1), (hS13.2.2.1), (hS13.2.2.2.1), (hS13.2.2.2.2.1)⟩
        clear hS13
        obtain ⟨v13, hv13⟩ : ∃ v, w13.alloc (.cells #[.bool l.neg, .string (decB l.n), .int .i64 (l.s : Int)] 23) = v := ⟨_, rfl⟩
        have hT13 : RowKit.Below w.heap.size w v13 ∧ Blk v13 (w.heap.size) (#[.bool a.neg, .string (decB a.n), .int .i64 (a.s : Int)]) 23 ∧ Blk v13 (w.heap.size + 1) (#[.bool b.neg, .string (decB b.n), .int .i64 (b.s : Int)]) 23 ∧ Blk v13 (w.heap.size + 1 + 1) (#[.bool c.neg, .string (decB c.n), .int .i64 (c.s : Int)]) 23 ∧ Blk v13 (w6.heap.size) (#[.bool x.neg, .string (decB x.n), .int .i64 (x.s : Int)]) 23 ∧ Blk v13 (w13.heap.size) (#[.bool l.neg, .string (decB l.n), .int .i64 (l.s : Int)]) 23 := by rw [← hv13]; exact ⟨b_alloc (khS13.1), (khS13.2.1).alloc _, (khS13.2.2.1).alloc _, (khS13.2.2.2.1).alloc _, (khS13.2.2.2.2).alloc _, Blk.new w13 _ _⟩
        have hy13 : w13.heap.size < v13.heap.size := (hT13.2.2.2.2.2).lt
        clear khS13
        obtain ⟨a0, a1, a2, _, _, _⟩ := (hT13.2.1).three
        obtain ⟨c0, c1, c2, _, _, _⟩ := (hT13.2.2.2.1).three
        go_wp2_with (go_at_call 10; (with_reducible refine (HhL2.out _).mono ?_))
        first | rintro e14 w14 rfl hb14 | rintro e14 w14 ⟨rfl, hb14⟩
        clear a0 a1 a2 c0 c1 c2
        have hS14 : RowKit.Below w.heap.size w w14 ∧ Blk w14 (w.heap.size) (#[.bool a.neg, .string (decB a.n), .int .i64 (a.s : Int)]) 23 ∧ Blk w14 (w.heap.size + 1) (#[.bool b.neg, .string (decB b.n), .int .i64 (b.s : Int)]) 23 ∧ Blk w14 (w.heap.size + 1 + 1) (#[.bool c.neg, .string (decB c.n), .int .i64 (c.s : Int)]) 23 ∧ Blk w14 (w6.heap.size) (#[.bool x.neg, .string (decB x.n), .int .i64 (x.s : Int)]) 23 ∧ Blk w14 (w13.heap.size) (#[.bool l.neg, .string (decB l.n), .int .i64 (l.s : Int)]) 23 := ⟨b_step hb14 (hT13.1), (hT13.2.1).below (hT13.2.1).lt hb14, (hT13.2.2.1).below (hT13.2.2.1).lt hb14, (hT13.2.2.2.1).below (hT13.2.2.2.1).lt hb14, (hT13.2.2.2.2.1).below (hT13.2.2.2.2.1).lt hb14, (hT13.2.2.2.2.2).below (hT13.2.2.2.2.2).lt hb14⟩
        have hz14 : v13.heap.size ≤ w14.heap.size := hb14.size
        clear hT13 hb14
        clear hv13
        obtain ⟨v14, hv14⟩ : ∃ v, w14.alloc (.cells #[.bool o.neg, .string (decB o.n), .int .i64 (o.s : Int)] 23) = v := ⟨_, rfl⟩
        have hT14 : RowKit.Below w.heap.size w v14 ∧ Blk v14 (w.heap.size) (#[.bool a.neg, .string (decB a.n), .int .i64 (a.s : Int)]) 23 ∧ Blk v14 (w.heap.size + 1) (#[.bool b.neg, .string (decB b.n), .int .i64 (b.s : Int)]) 23 ∧ Blk v14 (w.heap.size + 1 + 1) (#[.bool c.neg, .string (decB c.n), .int .i64 (c.s : Int)]) 23 ∧ Blk v14 (w6.heap.size) (#[.bool x.neg, .string (decB x.n), .int .i64 (x.s : Int)]) 23 ∧ Blk v14 (w13.heap.size) (#[.bool l.neg, .string (decB l.n), .int .i64 (l.s : Int)]) 23 ∧ Blk v14 (w14.heap.size) (#[.bool o.neg, .string (decB o.n), .int .i64 (o.s : Int)]) 23 := by rw [← hv14]; exact ⟨b_alloc (hS14.1), (hS14.2.1).alloc _, (hS14.2.2.1).alloc _, (hS14.2.2.2.1).alloc _, (hS14.2.2.2.2.1).alloc _, (hS14.2.2.2.2.2).alloc _, Blk.new w14 _ _⟩
        have hy14 : w14.heap.size < v14.heap.size := (hT14.2.2.2.2.2.2).lt
        clear hS14
        obtain ⟨b0, b1, b2, _, _, _⟩ := (hT14.2.2.1).three
        obtain ⟨c0, c1, c2, _, _, _⟩ := (hT14.2.2.2.1).three
        go_wp2_with (go_at_call 10; (with_reducible refine (HhL3.out _).mono ?_))
        first | rintro e15 w15 rfl hb15 | rintro e15 w15 ⟨rfl, hb15⟩
        clear b0 b1 b2 c0 c1 c2
        have hS15 : RowKit.Below w.heap.size w w15 ∧ Blk w15 (w.heap.size) (#[.bool a.neg, .string (decB a.n), .int .i64 (a.s : Int)]) 23 ∧ Blk w15 (w.heap.size + 1) (#[.bool b.neg, .string (decB b.n), .int .i64 (b.s : Int)]) 23 ∧ Blk w15 (w.heap.size + 1 + 1) (#[.bool c.neg, .string (decB c.n), .int .i64 (c.s : Int)]) 23 ∧ Blk w15 (w6.heap.size) (#[.bool x.neg, .string (decB x.n), .int .i64 (x.s : Int)]) 23 ∧ Blk w15 (w13.heap.size) (#[.bool l.neg, .string (decB l.n), .int .i64 (l.s : Int)]) 23 ∧ Blk w15 (w14.heap.size) (#[.bool o.neg, .string (decB o.n), .int .i64 (o.s : Int)]) 23 := ⟨b_step hb15 (hT14.1), (hT14.2.1).below (hT14.2.1).lt hb15, (hT14.2.2.1).below (hT14.2.2.1).lt hb15, (hT14.2.2.2.1).below (hT14.2.2.2.1).lt hb15, (hT14.2.2.2.2.1).below (hT14.2.2.2.2.1).lt hb15, (hT14.2.2.2.2.2.1).below (hT14.2.2.2.2.2.1).lt hb15, (hT14.2.2.2.2.2.2).below (hT14.2.2.2.2.2.2).lt hb15⟩
        have hz15 : v14.heap.size ≤ w15.heap.size := hb15.size
        clear hT14 hb15
        clear hv14
        have hT15 : RowKit.Below w.heap.size w (w15.alloc (.cells #[.bool false, .string ⟨#[]⟩, .int .i64 0] 23)) ∧ Blk (w15.alloc (.cells #[.bool false, .string ⟨#[]⟩, .int .i64 0] 23)) (w.heap.size) (#[.bool a.neg, .string (decB a.n), .int .i64 (a.s : Int)]) 23 ∧ Blk (w15.alloc (.cells #[.bool false, .string ⟨#[]⟩, .int .i64 0] 23)) (w.heap.size + 1) (#[.bool b.neg, .string (decB b.n), .int .i64 (b.s : Int)]) 23 ∧ Blk (w15.alloc (.cells #[.bool false, .string ⟨#[]⟩, .int .i64 0] 23)) (w.heap.size + 1 + 1) (#[.bool c.neg, .string (decB c.n), .int .i64 (c.s : Int)]) 23 ∧ Blk (w15.alloc (.cells #[.bool false, .string ⟨#[]⟩, .int .i64 0] 23)) (w6.heap.size) (#[.bool x.neg, .string (decB x.n), .int .i64 (x.s : Int)]) 23 ∧ Blk (w15.alloc (.cells #[.bool false, .string ⟨#[]⟩, .int .i64 0] 23)) (w13.heap.size) (#[.bool l.neg, .string (decB l.n), .int .i64 (l.s : Int)]) 23 ∧ Blk (w15.alloc (.cells #[.bool false, .string ⟨#[]⟩, .int .i64 0] 23)) (w14.heap.size) (#[.bool o.neg, .string (decB o.n), .int .i64 (o.s : Int)]) 23 ∧ Blk (w15.alloc (.cells #[.bool false, .string ⟨#[]⟩, .int .i64 0] 23)) (w15.heap.size) (#[.bool false, .string ⟨#[]⟩, .int .i64 0]) 23 := ⟨b_alloc (hS15.1), (hS15.2.1).alloc _, (hS15.2.2.1).alloc _, (hS15.2.2.2.1).alloc _, (hS15.2.2.2.2.1).alloc _, (hS15.2.2.2.2.2.1).alloc _, (hS15.2.2.2.2.2.2).alloc _, Blk.new w15 _ _⟩
        have hy15 : w15.heap.size < (w15.alloc (.cells #[.bool false, .string ⟨#[]⟩, .int .i64 0] 23)).heap.size := (hT15.2.2.2.2.2.2.2).lt
        clear hS15
        have hGG := HG.out.later (hT15.1)
        have HBz := Lib.hid (hT15.1)
        clear hT15
        go_wp2_with (go_at_call 6; refine (hSh _ hGG).mono ?_)
        first | rintro e16 w16 rfl hb16 | rintro e16 w16 ⟨rfl, hb16⟩
        have HBy := Lib.hid (b_step hb16 HBz.out)
        clear hb16
        go_wp2
        go_ret
        exact ⟨rfl, HBy.out⟩
    · skip
      simp only [e1, R.ok_val, err_val, V.d_val] at hL1
      have HhL1 := Lib.hid hL1
      clear hL1
      simp only [e2, R.ok_val, err_val, V.d_val] at hL2
      have HhL2 := Lib.hid hL2
      clear hL2
      obtain ⟨r2, hr2⟩ : ∃ r, mulS b c = r := ⟨_, rfl⟩
      simp only [hr2, R.val_eq] at hL3
      obtain ⟨q20, hq20⟩ : ∃ y, r2.d.neg = y := ⟨_, rfl⟩
      obtain ⟨q21, hq21⟩ : ∃ y, r2.d.s = y := ⟨_, rfl⟩
      obtain ⟨q22, hq22⟩ : ∃ y, r2.d.sc = y := ⟨_, rfl⟩
      obtain ⟨q23, hq23⟩ : ∃ y, r2.no = y := ⟨_, rfl⟩
      simp only [hq20, hq21, hq22, hq23] at hL3
      clear hr2 hq20 hq21 hq22 hq23
      have HhL3 := Lib.hid hL3
      clear hL3
      clear e1 e2 hc3 hl
      go_wp2_with (go_at_call 10; (with_reducible refine (HhL1.out _).mono ?_))
      first | rintro e13 w13 rfl hb13 | rintro e13 w13 ⟨rfl, hb13⟩
      clear a0 a1 a2 z0 z1 z2 x0 x1 x2 c0 c1 c2
      clear nA gA
      have hS13 : RowKit.Below w.heap.size w w13 ∧ Blk w13 (w.heap.size) (#[.bool a.neg, .string (decB a.n), .int .i64 (a.s : Int)]) 23 ∧ Blk w13 (w.heap.size + 1) (#[.bool b.neg, .string (decB b.n), .int .i64 (b.s : Int)]) 23 ∧ Blk w13 (w.heap.size + 1 + 1) (#[.bool c.neg, .string (decB c.n), .int .i64 (c.s : Int)]) 23 ∧ Blk w13 (w6.heap.size) (#[.bool x.neg, .string (decB x.n), .int .i64 (x.s : Int)]) 23 ∧ Blk w13 (w12.heap.size) (#[.bool a.neg, .string (decB a.n), .int .i64 (a.s : Int)]) 23 := ⟨b_step hb13 (hT12.1), (hT12.2.1).below (hT12.2.1).lt hb13, (hT12.2.2.1).below (hT12.2.2.1).lt hb13, (hT12.2.2.2.1).below (hT12.2.2.2.1).lt hb13, (hT12.2.2.2.2.1).below (hT12.2.2.2.2.1).lt hb13, (hT12.2.2.2.2.2).below (hT12.2.2.2.2.2).lt hb13⟩
      have hz13 : v12.heap.size ≤ w13.heap.size := hb13.size
      clear hT12 hb13
      clear hv12
      have khS13 : RowKit.Below w.heap.size w w13 ∧ Blk w13 (w.heap.size) (#[.bool a.neg, .string (decB a.n), .int .i64 (a.s : Int)]) 23 ∧ Blk w13 (w.heap.size + 1) (#[.bool b.neg, .string (decB b.n), .int .i64 (b.s : Int)]) 23 ∧ Blk w13 (w.heap.size + 1 + 1) (#[.bool c.neg, .string (decB c.n), .int .i64 (c.s : Int)]) 23 ∧ Blk w13 (w6.heap.size) (#[.bool x.neg, .string (decB x.n), .int .i64 (x.s : Int)]) 23 := ⟨(hS13.1), (hS13.2.1), (hS13.2.2.1), (hS13.2.2.2.1), (hS13.2.2.2.2.1)⟩
      clear hS13
      obtain ⟨v13, hv13⟩ : ∃ v, w13.alloc (.cells #[.bool l.neg, .string (decB l.n), .int .i64 (l.s : Int)] 23) = v := ⟨_, rfl⟩
      have hT13 : RowKit.Below w.heap.size w v13 ∧ Blk v13 (w.heap.size) (#[.bool a.neg, .string (decB a.n), .int .i64 (a.s : Int)]) 23 ∧ Blk v13 (w.heap.size + 1) (#[.bool b.neg, .string (decB b.n), .int .i64 (b.s : Int)]) 23 ∧ Blk v13 (w.heap.size + 1 + 1) (#[.bool c.neg, .string (decB c.n), .int .i64 (c.s : Int)]) 23 ∧ Blk v13 (w6.heap.size) (#[.bool x.neg, .string (decB x.n), .int .i64 (x.s : Int)]) 23 ∧ Blk v13 (w13.heap.size) (#[.bool l.neg, .string (decB l.n), .int .i64 (l.s : Int)]) 23 := by rw [← hv13]; exact ⟨b_alloc (khS13.1), (khS13.2.1).alloc _, (khS13.2.2.1).alloc _, (khS13.2.2.2.1).alloc _, (khS13.2.2.2.2).alloc _, Blk.new w13 _ _⟩
      have hy13 : w13.heap.size < v13.heap.size := (hT13.2.2.2.2.2).lt
      clear khS13
      obtain ⟨a0, a1, a2, _, _, _⟩ := (hT13.2.1).three
      obtain ⟨c0, c1, c2, _, _, _⟩ := (hT13.2.2.2.1).three
      go_wp2_with (go_at_call 10; (with_reducible refine (HhL2.out _).mono ?_))
      first | rintro e14 w14 rfl hb14 | rintro e14 w14 ⟨rfl, hb14⟩
      clear a0 a1 a2 c0 c1 c2
      have hS14 : RowKit.Below w.heap.size w w14 ∧ Blk w14 (w.heap.size) (#[.bool a.neg, .string (decB a.n), .int .i64 (a.s : Int)]) 23 ∧ Blk w14 (w.heap.size + 1) (#[.bool b.neg, .string (decB b.n), .int .i64 (b.s : Int)]) 23 ∧ Blk w14 (w.heap.size + 1 + 1) (#[.bool c.neg, .string (decB c.n), .int .i64 (c.s : Int)]) 23 ∧ Blk w14 (w6.heap.size) (#[.bool x.neg, .string (decB x.n), .int .i64 (x.s : Int)]) 23 ∧ Blk w14 (w13.heap.size) (#[.bool l.neg, .string (decB l.n), .int .i64 (l.s : Int)]) 23 := ⟨b_step hb14 (hT13.1), (hT13.2.1).below (hT13.2.1).lt hb14, (hT13.2.2.1).below (hT13.2.2.1).lt hb14, (hT13.2.2.2.1).below (hT13.2.2.2.1).lt hb14, (hT13.2.2.2.2.1).below (hT13.2.2.2.2.1).lt hb14, (hT13.2.2.2.2.2).below (hT13.2.2.2.2.2).lt hb14⟩
      have hz14 : v13.heap.size ≤ w14.heap.size := hb14.size
      clear hT13 hb14
      clear hv13
      have hT14 : RowKit.Below w.heap.size w (w14.alloc (.cells #[.bool false, .string ⟨#[]⟩, .int .i64 0] 23)) ∧ Blk (w14.alloc (.cells #[.bool false, .string ⟨#[]⟩, .int .i64 0] 23)) (w.heap.size) (#[.bool a.neg, .string (decB a.n), .int .i64 (a.s : Int)]) 23 ∧ Blk (w14.alloc (.cells #[.bool false, .string ⟨#[]⟩, .int .i64 0] 23)) (w.heap.size + 1) (#[.bool b.neg, .string (decB b.n), .int .i64 (b.s : Int)]) 23 ∧ Blk (w14.alloc (.cells #[.bool false, .string ⟨#[]⟩, .int .i64 0] 23)) (w.heap.size + 1 + 1) (#[.bool c.neg, .string (decB c.n), .int .i64 (c.s : Int)]) 23 ∧ Blk (w14.alloc (.cells #[.bool false, .string ⟨#[]⟩, .int .i64 0] 23)) (w6.heap.size) (#[.bool x.neg, .string (decB x.n), .int .i64 (x.s : Int)]) 23 ∧ Blk (w14.alloc (.cells #[.bool false, .string ⟨#[]⟩, .int .i64 0] 23)) (w13.heap.size) (#[.bool l.neg, .string (decB l.n), .int .i64 (l.s : Int)]) 23 ∧ Blk (w14.alloc (.cells #[.bool false, .string ⟨#[]⟩, .int .i64 0] 23)) (w14.heap.size) (#[.bool false, .string ⟨#[]⟩, .int .i64 0]) 23 := ⟨b_alloc (hS14.1), (hS14.2.1).alloc _, (hS14.2.2.1).alloc _, (hS14.2.2.2.1).alloc _, (hS14.2.2.2.2.1).alloc _, (hS14.2.2.2.2.2).alloc _, Blk.new w14 _ _⟩
      have hy14 : w14.heap.size < (w14.alloc (.cells #[.bool false, .string ⟨#[]⟩, .int .i64 0] 23)).heap.size := (hT14.2.2.2.2.2.2).lt
      clear hS14
      obtain ⟨b0, b1, b2, _, _, _⟩ := (hT14.2.2.1).three
      obtain ⟨c0, c1, c2, _, _, _⟩ := (hT14.2.2.2.1).three
      go_wp2_with (go_at_call 10; (with_reducible refine (HhL3.out _).mono ?_))
      first | rintro e15 w15 rfl hb15 | rintro e15 w15 ⟨rfl, hb15⟩
      clear b0 b1 b2 c0 c1 c2
      have hS15 : RowKit.Below w.heap.size w w15 ∧ Blk w15 (w.heap.size) (#[.bool a.neg, .string (decB a.n), .int .i64 (a.s : Int)]) 23 ∧ Blk w15 (w.heap.size + 1) (#[.bool b.neg, .string (decB b.n), .int .i64 (b.s : Int)]) 23 ∧ Blk w15 (w.heap.size + 1 + 1) (#[.bool c.neg, .string (decB c.n), .int .i64 (c.s : Int)]) 23 ∧ Blk w15 (w6.heap.size) (#[.bool x.neg, .string (decB x.n), .int .i64 (x.s : Int)]) 23 ∧ Blk w15 (w13.heap.size) (#[.bool l.neg, .string (decB l.n), .int .i64 (l.s : Int)]) 23 ∧ Blk w15 (w14.heap.size) (#[.bool false, .string ⟨#[]⟩, .int .i64 0]) 23 := ⟨b_step hb15 (hT14.1), (hT14.2.1).below (hT14.2.1).lt hb15, (hT14.2.2.1).below (hT14.2.2.1).lt hb15, (hT14.2.2.2.1).below (hT14.2.2.2.1).lt hb15, (hT14.2.2.2.2.1).below (hT14.2.2.2.2.1).lt hb15, (hT14.2.2.2.2.2.1).below (hT14.2.2.2.2.2.1).lt hb15, (hT14.2.2.2.2.2.2).below (hT14.2.2.2.2.2.2).lt hb15⟩
      have hz15 : (w14.alloc (.cells #[.bool false, .string ⟨#[]⟩, .int .i64 0] 23)).heap.size ≤ w15.heap.size := hb15.size
      clear hT14 hb15
      obtain ⟨v15, hv15⟩ : ∃ v, w15.alloc (.cells #[.bool q20, .string q21, .int .i64 q22] 23) = v := ⟨_, rfl⟩
      have hT15 : RowKit.Below w.heap.size w v15 ∧ Blk v15 (w.heap.size) (#[.bool a.neg, .string (decB a.n), .int .i64 (a.s : Int)]) 23 ∧ Blk v15 (w.heap.size + 1) (#[.bool b.neg, .string (decB b.n), .int .i64 (b.s : Int)]) 23 ∧ Blk v15 (w.heap.size + 1 + 1) (#[.bool c.neg, .string (decB c.n), .int .i64 (c.s : Int)]) 23 ∧ Blk v15 (w6.heap.size) (#[.bool x.neg, .string (decB x.n), .int .i64 (x.s : Int)]) 23 ∧ Blk v15 (w13.heap.size) (#[.bool l.neg, .string (decB l.n), .int .i64 (l.s : Int)]) 23 ∧ Blk v15 (w14.heap.size) (#[.bool false, .string ⟨#[]⟩, .int .i64 0]) 23 ∧ Blk v15 (w15.heap.size) (#[.bool q20, .string q21, .int .i64 q22]) 23 := by rw [← hv15]; exact ⟨b_alloc (hS15.1), (hS15.2.1).alloc _, (hS15.2.2.1).alloc _, (hS15.2.2.2.1).alloc _, (hS15.2.2.2.2.1).alloc _, (hS15.2.2.2.2.2.1).alloc _, (hS15.2.2.2.2.2.2).alloc _, Blk.new w15 _ _⟩
      have hy15 : w15.heap.size < v15.heap.size := (hT15.2.2.2.2.2.2.2).lt
      clear hS15
      have hGG := HG.out.later (hT15.1)
      have HBz := Lib.hid (hT15.1)
      clear hT15
      go_wp2_with (go_at_call 6; refine (hSh _ hGG).mono ?_)
      first | rintro e16 w16 rfl hb16 | rintro e16 w16 ⟨rfl, hb16⟩
      have HBy := Lib.hid (b_step hb16 HBz.out)
      clear hb16
      clear hv15
      go_wp2
      go_ret
      exact ⟨rfl, HBy.out⟩
  · skip
    simp only [e1, R.ok_val, err_val, V.d_val] at hL1
    have HhL1 := Lib.hid hL1
    clear hL1
    obtain ⟨r1, hr1⟩ : ∃ r, mulS a c = r := ⟨_, rfl⟩
    simp only [hr1, R.val_eq] at hL2
    obtain ⟨q10, hq10⟩ : ∃ y, r1.d.neg = y := ⟨_, rfl⟩
    obtain ⟨q11, hq11⟩ : ∃ y, r1.d.s = y := ⟨_, rfl⟩
    obtain ⟨q12, hq12⟩ : ∃ y, r1.d.sc = y := ⟨_, rfl⟩
    obtain ⟨q13, hq13⟩ : ∃ y, r1.no = y := ⟨_, rfl⟩
    simp only [hq10, hq11, hq12, hq13] at hL2
    clear hr1 hq10 hq11 hq12 hq13
    have HhL2 := Lib.hid hL2
    clear hL2
    obtain ⟨r2, hr2⟩ : ∃ r, mulS b c = r := ⟨_, rfl⟩
    simp only [hr2, R.val_eq] at hL3
    obtain ⟨q20, hq20⟩ : ∃ y, r2.d.neg = y := ⟨_, rfl⟩
    obtain ⟨q21, hq21⟩ : ∃ y, r2.d.s = y := ⟨_, rfl⟩
    obtain ⟨q22, hq22⟩ : ∃ y, r2.d.sc = y := ⟨_, rfl⟩
    obtain ⟨q23, hq23⟩ : ∃ y, r2.no = y := ⟨_, rfl⟩
    simp only [hq20, hq21, hq22, hq23] at hL3
    clear hr2 hq20 hq21 hq22 hq23
    have HhL3 := Lib.hid hL3
    clear hL3
    clear e1 hc2 hc3
    go_wp2_with (go_at_call 10; (with_reducible refine (HhL1.out _).mono ?_))
    first | rintro e13 w13 rfl hb13 | rintro e13 w13 ⟨rfl, hb13⟩
    clear a0 a1 a2 z0 z1 z2 x0 x1 x2 c0 c1 c2
    clear nA gA
    have hS13 : RowKit.Below w.heap.size w w13 ∧ Blk w13 (w.heap.size) (#[.bool a.neg, .string (decB a.n), .int .i64 (a.s : Int)]) 23 ∧ Blk w13 (w.heap.size + 1) (#[.bool b.neg, .string (decB b.n), .int .i64 (b.s : Int)]) 23 ∧ Blk w13 (w.heap.size + 1 + 1) (#[.bool c.neg, .string (decB c.n), .int .i64 (c.s : Int)]) 23 ∧ Blk w13 (w6.heap.size) (#[.bool x.neg, .string (decB x.n), .int .i64 (x.s : Int)]) 23 ∧ Blk w13 (w12.heap.size) (#[.bool a.neg, .string (decB a.n), .int .i64 (a.s : Int)]) 23 := ⟨b_step hb13 (hT12.1), (hT12.2.1).below (hT12.2.1).lt hb13, (hT12.2.2.1).below (hT12.2.2.1).lt hb13, (hT12.2.2.2.1).below (hT12.2.2.2.1).lt hb13, (hT12.2.2.2.2.1).below (hT12.2.2.2.2.1).lt hb13, (hT12.2.2.2.2.2).below (hT12.2.2.2.2.2).lt hb13⟩
    have hz13 : v12.heap.size ≤ w13.heap.size := hb13.size
    clear hT12 hb13
    clear hv12
    have khS13 : RowKit.Below w.heap.size w w13 ∧ Blk w13 (w.heap.size) (#[.bool a.neg, .string (decB a.n), .int .i64 (a.s : Int)]) 23 ∧ Blk w13 (w.heap.size + 1) (#[.bool b.neg, .string (decB b.n), .int .i64 (b.s : Int)]) 23 ∧ Blk w13 (w.heap.size + 1 + 1) (#[.bool c.neg, .string (decB c.n), .int .i64 (c.s : Int)]) 23 ∧ Blk w13 (w6.heap.size) (#[.bool x.neg, .string (decB x.n), .int .i64 (x.s : Int)]) 23 := ⟨(hS13.1), (hS13.2.1), (hS13.2.2.1), (hS13.2.2.2.1), (hS13.2.2.2.2.1)⟩
    clear hS13
    have hT13 : RowKit.Below w.heap.size w (w13.alloc (.cells #[.bool false, .string ⟨#[]⟩, .int .i64 0] 23)) ∧ Blk (w13.alloc (.cells #[.bool false, .string ⟨#[]⟩, .int .i64 0] 23)) (w.heap.size) (#[.bool a.neg, .string (decB a.n), .int .i64 (a.s : Int)]) 23 ∧ Blk (w13.alloc (.cells #[.bool false, .string ⟨#[]⟩, .int .i64 0] 23)) (w.heap.size + 1) (#[.bool b.neg, .string (decB b.n), .int .i64 (b.s : Int)]) 23 ∧ Blk (w13.alloc (.cells #[.bool false, .string ⟨#[]⟩, .int .i64 0] 23)) (w.heap.size + 1 + 1) (#[.bool c.neg, .string (decB c.n), .int .i64 (c.s : Int)]) 23 ∧ Blk (w13.alloc (.cells #[.bool false, .string ⟨#[]⟩, .int .i64 0] 23)) (w6.heap.size) (#[.bool x.neg, .string (decB x.n), .int .i64 (x.s : Int)]) 23 ∧ Blk (w13.alloc (.cells #[.bool false, .string ⟨#[]⟩, .int .i64 0] 23)) (w13.heap.size) (#[.bool false, .string ⟨#[]⟩, .int .i64 0]) 23 := ⟨b_alloc (khS13.1), (khS13.2.1).alloc _, (khS13.2.2.1).alloc _, (khS13.2.2.2.1).alloc _, (khS13.2.2.2.2).alloc _, Blk.new w13 _ _⟩
    have hy13 : w13.heap.size < (w13.alloc (.cells #[.bool false, .string ⟨#[]⟩, .int .i64 0] 23)).heap.size := (hT13.2.2.2.2.2).lt
    clear khS13
    obtain ⟨a0, a1, a2, _, _, _⟩ := (hT13.2.1).three
    obtain ⟨c0, c1, c2, _, _, _⟩ := (hT13.2.2.2.1).three
    go_wp2_with (go_at_call 10; (with_reducible refine (HhL2.out _).mono ?_))
    first | rintro e14 w14 rfl hb14 | rintro e14 w14 ⟨rfl, hb14⟩
    clear a0 a1 a2 c0 c1 c2
    have hS14 : RowKit.Below w.heap.size w w14 ∧ Blk w14 (w.heap.size) (#[.bool a.neg, .string (decB a.n), .int .i64 (a.s : Int)]) 23 ∧ Blk w14 (w.heap.size + 1) (#[.bool b.neg, .string (decB b.n), .int .i64 (b.s : Int)]) 23 ∧ Blk w14 (w.heap.size + 1 + 1) (#[.bool c.neg, .string (decB c.n), .int .i64 (c.s : Int)]) 23 ∧ Blk w14 (w6.heap.size) (#[.bool x.neg, .string (decB x.n), .int .i64 (x.s : Int)]) 23 ∧ Blk w14 (w13.heap.size) (#[.bool false, .string ⟨#[]⟩, .int .i64 0]) 23 := ⟨b_step hb14 (hT13.1), (hT13.2.1).below (hT13.2.1).lt hb14, (hT13.2.2.1).below (hT13.2.2.1).lt hb14, (hT13.2.2.2.1).below (hT13.2.2.2.1).lt hb14, (hT13.2.2.2.2.1).below (hT13.2.2.2.2.1).lt hb14, (hT13.2.2.2.2.2).below (hT13.2.2.2.2.2).lt hb14⟩
    have hz14 : (w13.alloc (.cells #[.bool false, .string ⟨#[]⟩, .int .i64 0] 23)).heap.size ≤ w14.heap.size := hb14.size
    clear hT13 hb14
    obtain ⟨v14, hv14⟩ : ∃ v, w14.alloc (.cells #[.bool q10, .string q11, .int .i64 q12] 23) = v := ⟨_, rfl⟩
    have hT14 : RowKit.Below w.heap.size w v14 ∧ Blk v14 (w.heap.size) (#[.bool a.neg, .string (decB a.n), .int .i64 (a.s : Int)]) 23 ∧ Blk v14 (w.heap.size + 1) (#[.bool b.neg, .string (decB b.n), .int .i64 (b.s : Int)]) 23 ∧ Blk v14 (w.heap.size + 1 + 1) (#[.bool c.neg, .string (decB c.n), .int .i64 (c.s : Int)]) 23 ∧ Blk v14 (w6.heap.size) (#[.bool x.neg, .string (decB x.n), .int .i64 (x.s : Int)]) 23 ∧ Blk v14 (w13.heap.size) (#[.bool false, .string ⟨#[]⟩, .int .i64 0]) 23 ∧ Blk v14 (w14.heap.size) (#[.bool q10, .string q11, .int .i64 q12]) 23 := by rw [← hv14]; exact ⟨b_alloc (hS14.1), (hS14.2.1).alloc _, (hS14.2.2.1).alloc _, (hS14.2.2.2.1).alloc _, (hS14.2.2.2.2.1).alloc _, (hS14.2.2.2.2.2).alloc _, Blk.new w14 _ _⟩
    have hy14 : w14.heap.size < v14.heap.size := (hT14.2.2.2.2.2.2).lt
    clear hS14
    obtain ⟨b0, b1, b2, _, _, _⟩ := (hT14.2.2.1).three
    obtain ⟨c0, c1, c2, _, _, _⟩ := (hT14.2.2.2.1).three
    go_wp2_with (go_at_call 10; (with_reducible refine (HhL3.out _).mono ?_))
    first | rintro e15 w15 rfl hb15 | rintro e15 w15 ⟨rfl, hb15⟩
    clear b0 b1 b2 c0 c1 c2
    have hS15 : RowKit.Below w.heap.size w w15 ∧ Blk w15 (w.heap.size) (#[.bool a.neg, .string (decB a.n), .int .i64 (a.s : Int)]) 23 ∧ Blk w15 (w.heap.size + 1) (#[.bool b.neg, .string (decB b.n), .int .i64 (b.s : Int)]) 23 ∧ Blk w15 (w.heap.size + 1 + 1) (#[.bool c.neg, .string (decB c.n), .int .i64 (c.s : Int)]) 23 ∧ Blk w15 (w6.heap.size) (#[.bool x.neg, .string (decB x.n), .int .i64 (x.s : Int)]) 23 ∧ Blk w15 (w13.heap.size) (#[.bool false, .string ⟨#[]⟩, .int .i64 0]) 23 ∧ Blk w15 (w14.heap.size) (#[.bool q10, .string q11, .int .i64 q12]) 23 := ⟨b_step hb15 (hT14.1), (hT14.2.1).below (hT14.2.1).lt hb15, (hT14.2.2.1).below (hT14.2.2.1).lt hb15, (hT14.2.2.2.1).below (hT14.2.2.2.1).lt hb15, (hT14.2.2.2.2.1).below (hT14.2.2.2.2.1).lt hb15, (hT14.2.2.2.2.2.1).below (hT14.2.2.2.2.2.1).lt hb15, (hT14.2.2.2.2.2.2).below (hT14.2.2.2.2.2.2).lt hb15⟩
    have hz15 : v14.heap.size ≤ w15.heap.size := hb15.size
    clear hT14 hb15
    clear hv14
    obtain ⟨v15, hv15⟩ : ∃ v, w15.alloc (.cells #[.bool q20, .string q21, .int .i64 q22] 23) = v := ⟨_, rfl⟩
    have hT15 : RowKit.Below w.heap.size w v15 ∧ Blk v15 (w.heap.size) (#[.bool a.neg, .string (decB a.n), .int .i64 (a.s : Int)]) 23 ∧ Blk v15 (w.heap.size + 1) (#[.bool b.neg, .string (decB b.n), .int .i64 (b.s : Int)]) 23 ∧ Blk v15 (w.heap.size + 1 + 1) (#[.bool c.neg, .string (decB c.n), .int .i64 (c.s : Int)]) 23 ∧ Blk v15 (w6.heap.size) (#[.bool x.neg, .string (decB x.n), .int .i64 (x.s : Int)]) 23 ∧ Blk v15 (w13.heap.size) (#[.bool false, .string ⟨#[]⟩, .int .i64 0]) 23 ∧ Blk v15 (w14.heap.size) (#[.bool q10, .string q11, .int .i64 q12]) 23 ∧ Blk v15 (w15.heap.size) (#[.bool q20, .string q21, .int .i64 q22]) 23 := by rw [← hv15]; exact ⟨b_alloc (hS15.1), (hS15.2.1).alloc _, (hS15.2.2.1).alloc _, (hS15.2.2.2.1).alloc _, (hS15.2.2.2.2.1).alloc _, (hS15.2.2.2.2.2.1).alloc _, (hS15.2.2.2.2.2.2).alloc _, Blk.new w15 _ _⟩
    have hy15 : w15.heap.size < v15.heap.size := (hT15.2.2.2.2.2.2.2).lt
    clear hS15
    have hGG := HG.out.later (hT15.1)
    have HBz := Lib.hid (hT15.1)
    clear hT15
    go_wp2_with (go_at_call 6; refine (hSh _ hGG).mono ?_)
    first | rintro e16 w16 rfl hb16 | rintro e16 w16 ⟨rfl, hb16⟩
    have HBy := Lib.hid (b_step hb16 HBz.out)
    clear hb16
    clear hv15
    go_wp2
    go_ret
    exact ⟨rfl, HBy.out⟩
set_option maxRecDepth 100000 in
set_option maxHeartbeats 16000000 in
theorem DecimalLaws_any (d x y : D) (hd : d.s.size ≤ maxLen) (hx : x.s.size ≤ maxLen) (hy : y.s.size ≤ maxLen) (w : World) (hG : G w) :
    Calls Tryd.prog 3 #[d.val, x.val, y.val] w fun e w' => e = .returned (.bool true) ∧ RowKit.Below w.heap.size w w' := by
  by_cases hall : d.check = true ∧ x.check = true ∧ y.check = true
  · obtain ⟨a, ha, rfl⟩ := D.of_check hall.1
    obtain ⟨b, hb, rfl⟩ := D.of_check hall.2.1
    obtain ⟨c, hc, rfl⟩ := D.of_check hall.2.2
    rcases add_two a b with ⟨x, hx, hA⟩ | hA
    · rcases sub_two a b with ⟨z, hz, hD⟩ | hD
      · exact laws_oo a b c ha hb hc x hx hA z hz hD w hG
      · exact laws_oe a b c ha hb hc x hx hA hD w hG
    · rcases sub_two a b with ⟨z, hz, hD⟩ | hD
      · exact laws_eo a b c ha hb hc hA z hz hD w hG
      · exact laws_ee a b c ha hb hc hA hD w hG
  have hC1 := fun W => Check_any d hd W
  have hC2 := fun W => Check_any x hx W
  have hC3 := fun W => Check_any y hy W
  unfold maxLen at hd hx hy
  obtain ⟨hb0, h1, h2, h3⟩ := three_boxes w (.bool d.neg) (.string d.s) (.int .i64 d.sc) (.bool x.neg) (.string x.s) (.int .i64 x.sc) (.bool y.neg) (.string y.s) (.int .i64 y.sc)
  obtain ⟨W0, hW0⟩ : ∃ W0, (((w.alloc (.cells #[.bool d.neg, .string d.s, .int .i64 d.sc] 23)).alloc (.cells #[.bool x.neg, .string x.s, .int .i64 x.sc] 23)).alloc (.cells #[.bool y.neg, .string y.s, .int .i64 y.sc] 23)) = W0 := ⟨_, rfl⟩
  rw [hW0] at hb0 h1 h2 h3
  have hG0 := hG.later hb0
  have hSh := fun W hG => shown_any W hG
  have HB0 := Lib.hid hb0
  have HG := Lib.hid hG
  have HS0 : Hid (RowKit.Below w.heap.size w W0 ∧ Blk W0 (w.heap.size) (#[.bool d.neg, .string d.s, .int .i64 d.sc]) 23 ∧ Blk W0 (w.heap.size + 1) (#[.bool x.neg, .string x.s, .int .i64 x.sc]) 23 ∧ Blk W0 (w.heap.size + 1 + 1) (#[.bool y.neg, .string y.s, .int .i64 y.sc]) 23) := ⟨hb0, h1, h2, h3⟩
  obtain ⟨a0, a1, a2, _, _, _⟩ := h1.three
  obtain ⟨b0, b1, b2, _, _, _⟩ := h2.three
  obtain ⟨c0, c1, c2, _, _, _⟩ := h3.three
  have hz0 : w.heap.size + 3 ≤ W0.heap.size := by have := h3.lt; omega
  clear hb0 h1 h2 h3 hG
  rw [d_box] at hC1
  simp only [d_box x, d_box y] at hC2 hC3
  rw [d_box, d_box, d_box]
  by_cases hbig0 : 400 < d.s.size
  · have g0 : decide (400 < (d.s.size : Int)) = true := decide_eq_true (by omega)
    clear hC1 hC2 hC3 hz0 HS0 hall hbig0
    go_enter Tryd.func3, Tryd.ntmps3
    go_wp2_with (go_at_call 6; refine (hSh _ hG0).mono ?_)
    first | rintro e W1 rfl hb1 | rintro e W1 ⟨rfl, hb1⟩
    have HB1 := Lib.hid (b_step hb1 HB0.out)
    clear hb1
    go_wp2
    go_ret
    exact ⟨rfl, HB1.out⟩
  have g0 : decide (400 < (d.s.size : Int)) = false := decide_eq_false (by omega)
  by_cases hbig1 : 400 < x.s.size
  · have g1 : decide (400 < (x.s.size : Int)) = true := decide_eq_true (by omega)
    clear hC1 hC2 hC3 hz0 HS0 hall hbig0 hbig1
    go_enter Tryd.func3, Tryd.ntmps3
    go_wp2_with (go_at_call 6; refine (hSh _ hG0).mono ?_)
    first | rintro e W1 rfl hb1 | rintro e W1 ⟨rfl, hb1⟩
    have HB1 := Lib.hid (b_step hb1 HB0.out)
    clear hb1
    go_wp2
    go_ret
    exact ⟨rfl, HB1.out⟩
  have g1 : decide (400 < (x.s.size : Int)) = false := decide_eq_false (by omega)
  by_cases hbig2 : 400 < y.s.size
  · have g2 : decide (400 < (y.s.size : Int)) = true := decide_eq_true (by omega)
    clear hC1 hC2 hC3 hz0 HS0 hall hbig0 hbig1 hbig2
    go_enter Tryd.func3, Tryd.ntmps3
    go_wp2_with (go_at_call 6; refine (hSh _ hG0).mono ?_)
    first | rintro e W1 rfl hb1 | rintro e W1 ⟨rfl, hb1⟩
    have HB1 := Lib.hid (b_step hb1 HB0.out)
    clear hb1
    go_wp2
    go_ret
    exact ⟨rfl, HB1.out⟩
  have g2 : decide (400 < (y.s.size : Int)) = false := decide_eq_false (by omega)
  clear hbig0 hbig1 hbig2 hG0
  cases hc1 : d.check with
  | false =>
    rw [hc1, if_neg Bool.false_ne_true] at hC1
    clear hall hC2 hC3 hc1
    go_enter Tryd.func3, Tryd.ntmps3
    go_wp2_with (go_at_call 5; (with_reducible refine (hC1 _).mono ?_))
    first | rintro e1 w1 rfl hb1 | rintro e1 w1 ⟨rfl, hb1⟩
    clear a0 a1 a2 b0 b1 b2 c0 c1 c2
    have hS1 : RowKit.Below w.heap.size w w1 ∧ Blk w1 (w.heap.size) (#[.bool d.neg, .string d.s, .int .i64 d.sc]) 23 ∧ Blk w1 (w.heap.size + 1) (#[.bool x.neg, .string x.s, .int .i64 x.sc]) 23 ∧ Blk w1 (w.heap.size + 1 + 1) (#[.bool y.neg, .string y.s, .int .i64 y.sc]) 23 := ⟨b_step hb1 (HS0.out.1), (HS0.out.2.1).below (HS0.out.2.1).lt hb1, (HS0.out.2.2.1).below (HS0.out.2.2.1).lt hb1, (HS0.out.2.2.2).below (HS0.out.2.2.2).lt hb1⟩
    have hz1 : W0.heap.size ≤ w1.heap.size := hb1.size
    clear HS0 hb1
    clear hW0
    obtain ⟨b0, b1, b2, _, _, _⟩ := (hS1.2.2.1).three
    obtain ⟨c0, c1, c2, _, _, _⟩ := (hS1.2.2.2).three
    have hGG := HG.out.later (hS1.1)
    have HBz := Lib.hid (hS1.1)
    clear hS1
    go_wp2_with (go_at_call 6; refine (hSh _ hGG).mono ?_)
    first | rintro e9 w9 rfl hb9 | rintro e9 w9 ⟨rfl, hb9⟩
    have HBy := Lib.hid (b_step hb9 HBz.out)
    clear hb9 b0 b1 b2 c0 c1 c2
    go_wp2
    go_ret
    exact ⟨rfl, HBy.out⟩
  | true =>
  rw [hc1, if_pos rfl] at hC1
  cases hc2 : x.check with
  | false =>
    rw [hc2, if_neg Bool.false_ne_true] at hC2
    clear hall hC3 hc1 hc2
    go_enter Tryd.func3, Tryd.ntmps3
    go_wp2_with (go_at_call 5; (with_reducible refine (hC1 _).mono ?_))
    first | rintro e1 w1 rfl hb1 | rintro e1 w1 ⟨rfl, hb1⟩
    clear a0 a1 a2 b0 b1 b2 c0 c1 c2
    have hS1 : RowKit.Below w.heap.size w w1 ∧ Blk w1 (w.heap.size) (#[.bool d.neg, .string d.s, .int .i64 d.sc]) 23 ∧ Blk w1 (w.heap.size + 1) (#[.bool x.neg, .string x.s, .int .i64 x.sc]) 23 ∧ Blk w1 (w.heap.size + 1 + 1) (#[.bool y.neg, .string y.s, .int .i64 y.sc]) 23 := ⟨b_step hb1 (HS0.out.1), (HS0.out.2.1).below (HS0.out.2.1).lt hb1, (HS0.out.2.2.1).below (HS0.out.2.2.1).lt hb1, (HS0.out.2.2.2).below (HS0.out.2.2.2).lt hb1⟩
    have hz1 : W0.heap.size ≤ w1.heap.size := hb1.size
    clear HS0 hb1
    clear hW0
    obtain ⟨b0, b1, b2, _, _, _⟩ := (hS1.2.2.1).three
    obtain ⟨c0, c1, c2, _, _, _⟩ := (hS1.2.2.2).three
    go_wp2_with (go_at_call 5; (with_reducible refine (hC2 _).mono ?_))
    first | rintro e2 w2 rfl hb2 | rintro e2 w2 ⟨rfl, hb2⟩
    clear b0 b1 b2 c0 c1 c2
    have hS2 : RowKit.Below w.heap.size w w2 ∧ Blk w2 (w.heap.size) (#[.bool d.neg, .string d.s, .int .i64 d.sc]) 23 ∧ Blk w2 (w.heap.size + 1) (#[.bool x.neg, .string x.s, .int .i64 x.sc]) 23 ∧ Blk w2 (w.heap.size + 1 + 1) (#[.bool y.neg, .string y.s, .int .i64 y.sc]) 23 := ⟨b_step hb2 (hS1.1), (hS1.2.1).below (hS1.2.1).lt hb2, (hS1.2.2.1).below (hS1.2.2.1).lt hb2, (hS1.2.2.2).below (hS1.2.2.2).lt hb2⟩
    have hz2 : w1.heap.size ≤ w2.heap.size := hb2.size
    clear hS1 hb2
    obtain ⟨b0, b1, b2, _, _, _⟩ := (hS2.2.2.1).three
    obtain ⟨c0, c1, c2, _, _, _⟩ := (hS2.2.2.2).three
    have hGG := HG.out.later (hS2.1)
    have HBz := Lib.hid (hS2.1)
    clear hS2
    go_wp2_with (go_at_call 6; refine (hSh _ hGG).mono ?_)
    first | rintro e9 w9 rfl hb9 | rintro e9 w9 ⟨rfl, hb9⟩
    have HBy := Lib.hid (b_step hb9 HBz.out)
    clear hb9 b0 b1 b2 c0 c1 c2
    go_wp2
    go_ret
    exact ⟨rfl, HBy.out⟩
  | true =>
  rw [hc2, if_pos rfl] at hC2
  cases hc3 : y.check with
  | false =>
    rw [hc3, if_neg Bool.false_ne_true] at hC3
    clear hall hc1 hc2 hc3
    go_enter Tryd.func3, Tryd.ntmps3
    go_wp2_with (go_at_call 5; (with_reducible refine (hC1 _).mono ?_))
    first | rintro e1 w1 rfl hb1 | rintro e1 w1 ⟨rfl, hb1⟩
    clear a0 a1 a2 b0 b1 b2 c0 c1 c2
    have hS1 : RowKit.Below w.heap.size w w1 ∧ Blk w1 (w.heap.size) (#[.bool d.neg, .string d.s, .int .i64 d.sc]) 23 ∧ Blk w1 (w.heap.size + 1) (#[.bool x.neg, .string x.s, .int .i64 x.sc]) 23 ∧ Blk w1 (w.heap.size + 1 + 1) (#[.bool y.neg, .string y.s, .int .i64 y.sc]) 23 := ⟨b_step hb1 (HS0.out.1), (HS0.out.2.1).below (HS0.out.2.1).lt hb1, (HS0.out.2.2.1).below (HS0.out.2.2.1).lt hb1, (HS0.out.2.2.2).below (HS0.out.2.2.2).lt hb1⟩
    have hz1 : W0.heap.size ≤ w1.heap.size := hb1.size
    clear HS0 hb1
    clear hW0
    obtain ⟨b0, b1, b2, _, _, _⟩ := (hS1.2.2.1).three
    obtain ⟨c0, c1, c2, _, _, _⟩ := (hS1.2.2.2).three
    go_wp2_with (go_at_call 5; (with_reducible refine (hC2 _).mono ?_))
    first | rintro e2 w2 rfl hb2 | rintro e2 w2 ⟨rfl, hb2⟩
    clear b0 b1 b2 c0 c1 c2
    have hS2 : RowKit.Below w.heap.size w w2 ∧ Blk w2 (w.heap.size) (#[.bool d.neg, .string d.s, .int .i64 d.sc]) 23 ∧ Blk w2 (w.heap.size + 1) (#[.bool x.neg, .string x.s, .int .i64 x.sc]) 23 ∧ Blk w2 (w.heap.size + 1 + 1) (#[.bool y.neg, .string y.s, .int .i64 y.sc]) 23 := ⟨b_step hb2 (hS1.1), (hS1.2.1).below (hS1.2.1).lt hb2, (hS1.2.2.1).below (hS1.2.2.1).lt hb2, (hS1.2.2.2).below (hS1.2.2.2).lt hb2⟩
    have hz2 : w1.heap.size ≤ w2.heap.size := hb2.size
    clear hS1 hb2
    obtain ⟨b0, b1, b2, _, _, _⟩ := (hS2.2.2.1).three
    obtain ⟨c0, c1, c2, _, _, _⟩ := (hS2.2.2.2).three
    go_wp2_with (go_at_call 5; (with_reducible refine (hC3 _).mono ?_))
    first | rintro e3 w3 rfl hb3 | rintro e3 w3 ⟨rfl, hb3⟩
    clear b0 b1 b2 c0 c1 c2
    have hS3 : RowKit.Below w.heap.size w w3 ∧ Blk w3 (w.heap.size) (#[.bool d.neg, .string d.s, .int .i64 d.sc]) 23 ∧ Blk w3 (w.heap.size + 1) (#[.bool x.neg, .string x.s, .int .i64 x.sc]) 23 ∧ Blk w3 (w.heap.size + 1 + 1) (#[.bool y.neg, .string y.s, .int .i64 y.sc]) 23 := ⟨b_step hb3 (hS2.1), (hS2.2.1).below (hS2.2.1).lt hb3, (hS2.2.2.1).below (hS2.2.2.1).lt hb3, (hS2.2.2.2).below (hS2.2.2.2).lt hb3⟩
    have hz3 : w2.heap.size ≤ w3.heap.size := hb3.size
    clear hS2 hb3
    obtain ⟨b0, b1, b2, _, _, _⟩ := (hS3.2.2.1).three
    obtain ⟨c0, c1, c2, _, _, _⟩ := (hS3.2.2.2).three
    have hGG := HG.out.later (hS3.1)
    have HBz := Lib.hid (hS3.1)
    clear hS3
    go_wp2_with (go_at_call 6; refine (hSh _ hGG).mono ?_)
    first | rintro e9 w9 rfl hb9 | rintro e9 w9 ⟨rfl, hb9⟩
    have HBy := Lib.hid (b_step hb9 HBz.out)
    clear hb9 b0 b1 b2 c0 c1 c2
    go_wp2
    go_ret
    exact ⟨rfl, HBy.out⟩
  | true =>
  rw [hc3, if_pos rfl] at hC3
  exact absurd ⟨hc1, hc2, hc3⟩ hall
end Dc
end Go.Proofs.YthnpbkplcboejaaDoor
