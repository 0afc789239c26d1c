/- Decimal: DecimalTexts. -/
import Derived.Test.YthnpbkplcboejaaGreatDoorFb
import Derived.Test.YthnpbkplcboejaaGreatDoorEf
import Derived.Deep.RegionHeld3
set_option linter.unusedSimpArgs false
set_option linter.unusedVariables false
namespace Go.Proofs.YthnpbkplcboejaaGreatDoor
open Go.RowKit Go.Shelf Go.Lib Go.Sort
namespace Dc
theorem ba_inj' {a b : ByteArray} : a = b ↔ a.toList = b.toList := by
  constructor
  · rintro rfl; rfl
  · intro h
    rw [ByteArray.toList_eq, ByteArray.toList_eq] at h
    exact bytes_eq h
set_option maxHeartbeats 2000000 in
theorem eqD_self (a : Bool) (b : ByteArray) (c : Int) (w : World) : (binOp .eql 23 (.agg #[.bool a, .string b, .int .i64 c]) (.agg #[.bool a, .string b, .int .i64 c])).run Tryz.prog w = .ok (.bool true) w := by
  have hS : Tryz.prog.underlying 23 = some (.struct (Tryz.prog.fieldsOf 23)) := by kernel_rfl
  have hp : Tryz.prog.stoodInHeld 23 = false := by kernel_rfl
  have u3 := Tryz.underlying9
  have a3 := Tryz.isAgg9
  have z3 := Tryz.sizeOf9
  have u4 := Tryz.underlying4
  have a4 := Tryz.isAgg4
  have z4 := Tryz.sizeOf4
  have u5 := Tryz.underlying3
  have a5 := Tryz.isAgg3
  have z5 := Tryz.sizeOf3
  rw [run_eql_struct, show (10000 : Nat) = 9999 + 1 from rfl, run_equalIn_agg w 9999 23 _ _ hS hp]
  simp only [Program.fieldsOf, Tryz.underlying23]
  go_simp
theorem guardD (op : BinOp) (x y : Operand) (a : Bool) (b : ByteArray) (c : Int) (a' : Bool) (b' : ByteArray) (c' : Int) (w : World) : (eqGuard op 23 x y (.agg #[.bool a, .string b, .int .i64 c]) (.agg #[.bool a', .string b', .int .i64 c'])).run Tryz.prog w = .ok () w := run_eqGuard_agg w op 23 x y _ _ (by kernel_rfl)
/-- What Text says, of the program and of the reference. -/
theorem texts_any (d : D) (hs : d.s.size ≤ maxLen) : ∃ (t : ByteArray) (k : Int),
    (∀ W, Calls Tryz.prog 9 #[d.val] W fun e w' => e = .returned (.tuple #[.string t, .int .i64 k]) ∧ RowKit.Below W.heap.size W w') ∧
    (∀ W, Calls Tryz.prog 10 #[d.val] W fun e w' => e = .returned (.tuple #[.string t, .int .i64 k]) ∧ RowKit.Below W.heap.size W w') := by
  cases hc : d.check with
  | false => exact ⟨⟨#[]⟩, 2, fun W => Text_no d hs hc W, fun W => rText_no d hs hc W⟩
  | true =>
    obtain ⟨v, hv, rfl⟩ := D.of_check hc
    exact ⟨_, 0, fun W => Text_ok v hv W, fun W => rText_ok v hv W⟩
set_option maxRecDepth 100000 in
set_option maxHeartbeats 8000000 in
theorem DecimalTexts_any (d : D) (s : ByteArray) (n : Int) (hd : d.s.size ≤ maxLen) (hs : s.size ≤ maxLen) (h0 : -9223372036854775808 ≤ n) (h1 : n ≤ 9223372036854775807) (w : World) (hG : G w) :
    Calls Tryz.prog 3 #[d.val, .string s, .int .i64 n] w fun e w' => e = .returned (.bool true) ∧ RowKit.Below w.heap.size w w' := by
  obtain ⟨t, k, hT1, hT2⟩ := texts_any d hd
  have hC1 := fun W => Check_any d hd W
  have hC2 := fun W => rCheck_any d hd W
  obtain ⟨ck, hck⟩ : ∃ c : Int, (if d.check = true then (0 : Int) else 2) = c := ⟨_, rfl⟩
  rw [hck] at hC1 hC2
  clear hck
  obtain ⟨neg, ds, sc⟩ := d
  have hd' : ds.size ≤ maxLen := hd
  clear hd
  rw [d_box] at hT1 hT2 hC1 hC2 ⊢
  have hO1 := fun W hG => Of_any n h0 h1 W hG
  have hO2 := fun W => rOf_any n h0 h1 W
  obtain ⟨o, ho⟩ : ∃ o : V, V.mk (decide (n < 0)) n.natAbs 0 = o := ⟨_, rfl⟩
  rw [ho] at hO1 hO2
  clear ho
  rw [V.d_val] at hO1 hO2
  obtain ⟨W0, hW0⟩ : ∃ W0, w.alloc (.cells #[.bool neg, .string ds, .int .i64 sc] 23) = W0 := ⟨_, rfl⟩
  have hb0 : RowKit.Below w.heap.size w W0 := by rw [← hW0]; exact (Below.refl _ w).alloc (Nat.le_refl _) _
  have hB0 : Blk W0 w.heap.size #[.bool neg, .string ds, .int .i64 sc] 23 := by rw [← hW0]; exact Blk.new w _ _
  have hG0 := hG.later hb0
  have hSh := fun W hG => shown_any W hG
  have HB0 := Lib.hid hb0
  have HBl0 := Lib.hid hB0
  have HG := Lib.hid hG
  obtain ⟨a0, a1, a2, _, _, _⟩ := hB0.three
  unfold maxLen at hs hd'
  clear hb0 hB0 hG
  by_cases hbig : 400 < s.size
  · have g0 : decide (400 < (s.size : Int)) = true := decide_eq_true (by omega)
    clear hT1 hT2 hC1 hC2 hO1 hO2 hbig
    go_enter Tryz.func3, Tryz.ntmps3
    go_wp2_with (go_at_call 6; refine (hSh _ hG0).mono ?_)
    first | rintro e W1 rfl hb1 | rintro e W1 ⟨rfl, hb1⟩
    have HB1 := Lib.hid (b_step hb1 HB0.out)
    clear hb1
    go_wp2
    go_ret
    exact ⟨rfl, HB1.out⟩
  · have g0 : decide (400 < (s.size : Int)) = false := decide_eq_false (by omega)
    by_cases hbig2 : 400 < ds.size
    · have g1 : decide (400 < (ds.size : Int)) = true := decide_eq_true (by omega)
      clear hT1 hT2 hC1 hC2 hO1 hO2 hbig hbig2
      go_enter Tryz.func3, Tryz.ntmps3
      go_wp2_with (go_at_call 6; refine (hSh _ hG0).mono ?_)
      first | rintro e W1 rfl hb1 | rintro e W1 ⟨rfl, hb1⟩
      have HB1 := Lib.hid (b_step hb1 HB0.out)
      clear hb1
      go_wp2
      go_ret
      exact ⟨rfl, HB1.out⟩
    · have g1 : decide (400 < (ds.size : Int)) = false := decide_eq_false (by omega)
      have hR1 := fun W hG => Read_any s (by omega) W hG
      have hR2 := fun W => rRead_any s (by omega) W
      obtain ⟨r, hr⟩ : ∃ r, readS s.data.toList = r := ⟨_, rfl⟩
      rw [hr, R.val_eq] at hR1
      simp only [hr, R.val_eq] at hR2
      clear hr hbig hbig2
      obtain ⟨r0, hr0⟩ : ∃ x, r.d.neg = x := ⟨_, rfl⟩
      obtain ⟨r1, hr1⟩ : ∃ x, r.d.s = x := ⟨_, rfl⟩
      obtain ⟨r2, hr2⟩ : ∃ x, r.d.sc = x := ⟨_, rfl⟩
      obtain ⟨r3, hr3⟩ : ∃ x, r.no = x := ⟨_, rfl⟩
      simp only [hr0, hr1, hr2, hr3] at hR1 hR2
      clear hr0 hr1 hr2 hr3
      go_enter Tryz.func3, Tryz.ntmps3
      go_wp2_with (go_at_call 7; refine (hR1 _ hG0).mono ?_)
      first | rintro e W1 rfl hb1 | rintro e W1 ⟨rfl, hb1⟩
      have hB1 := HBl0.out.below HBl0.out.lt hb1
      have hbw1 := b_step hb1 HB0.out
      have hn1 := Blk.new W1 #[.bool r0, .string r1, .int .i64 r2] 23
      have hB1' := hB1.alloc (.cells #[.bool r0, .string r1, .int .i64 r2] 23)
      have hbw1' := b_alloc (o := .cells #[.bool r0, .string r1, .int .i64 r2] 23) hbw1
      have HS1 := Lib.hid (And.intro hbw1' (And.intro hB1' hn1))
      clear a0 a1 a2 hW0 hb1 hB1 hbw1 hn1 hB1' hbw1'
      go_wp2_with (go_at_call 8; refine (hR2 _).mono ?_)
      first | rintro e W2 rfl hb2 | rintro e W2 ⟨rfl, hb2⟩
      have hb2' := b_step hb2 HS1.out.1
      have hX2 := HS1.out.2.1.below HS1.out.2.1.lt hb2
      have hY2 := HS1.out.2.2.below HS1.out.2.2.lt hb2
      have hn2 := Blk.new W2 #[.bool r0, .string r1, .int .i64 r2] 23
      have hX2' := hX2.alloc (.cells #[.bool r0, .string r1, .int .i64 r2] 23)
      have hY2' := hY2.alloc (.cells #[.bool r0, .string r1, .int .i64 r2] 23)
      have hb2'' := b_alloc (o := .cells #[.bool r0, .string r1, .int .i64 r2] 23) hb2'
      obtain ⟨W3, hW3⟩ : ∃ W3, W2.alloc (.cells #[.bool r0, .string r1, .int .i64 r2] 23) = W3 := ⟨_, rfl⟩
      rw [hW3] at hn2 hX2' hY2' hb2''
      obtain ⟨y, hy⟩ : ∃ y, W1.heap.size = y := ⟨_, rfl⟩
      obtain ⟨z, hz⟩ : ∃ z, W2.heap.size = z := ⟨_, rfl⟩
      rw [hy] at hY2'
      rw [hz] at hn2
      have HS3 := Lib.hid (And.intro hb2'' (And.intro hX2' (And.intro hY2' hn2)))
      obtain ⟨a0, a1, a2, _, _, _⟩ := hX2'.three
      have HYZ := Lib.hid (And.intro hy hz)
      clear HS1 hb2 hb2' hX2 hY2 hn2 hX2' hY2' hb2'' hR1 hR2
      go_wp2_with (go_at_call 9; refine (hT1 _).mono ?_)
      first | rintro e W4 rfl hb4 | rintro e W4 ⟨rfl, hb4⟩
      have hb4' := b_step hb4 HS3.out.1
      have hX4 := HS3.out.2.1.below HS3.out.2.1.lt hb4
      have hY4 := HS3.out.2.2.1.below HS3.out.2.2.1.lt hb4
      have hZ4 := HS3.out.2.2.2.below HS3.out.2.2.2.lt hb4
      have HS4 := Lib.hid (And.intro hb4' (And.intro hX4 (And.intro hY4 hZ4)))
      clear a0 a1 a2 HS3 hW3
      obtain ⟨a0, a1, a2, _, _, _⟩ := hX4.three
      clear hb4' hX4 hY4 hZ4 hb4 hT1
      go_wp2_with (go_at_call 10; refine (hT2 _).mono ?_)
      first | rintro e W5 rfl hb5 | rintro e W5 ⟨rfl, hb5⟩
      have hb5' := b_step hb5 HS4.out.1
      have hX5 := HS4.out.2.1.below HS4.out.2.1.lt hb5
      have hY5 := HS4.out.2.2.1.below HS4.out.2.2.1.lt hb5
      have hZ5 := HS4.out.2.2.2.below HS4.out.2.2.2.lt hb5
      have hG5 := HG.out.later hb5'
      clear a0 a1 a2 HS4 hb5 hT2
      have q00 := fun w' (h : RowKit.Below W5.heap.size W5 w') => (h.cell (p := ⟨w.heap.size, 0, none⟩) hX5.lt).trans (hX5.cell 0)
      have q01 := fun w' (h : RowKit.Below W5.heap.size W5 w') => (h.cell (p := ⟨w.heap.size, 1, none⟩) hX5.lt).trans (hX5.cell 1)
      have q02 := fun w' (h : RowKit.Below W5.heap.size W5 w') => (h.cell (p := ⟨w.heap.size, 2, none⟩) hX5.lt).trans (hX5.cell 2)
      have q10 := fun w' (h : RowKit.Below W5.heap.size W5 w') => (h.cell (p := ⟨y, 0, none⟩) hY5.lt).trans (hY5.cell 0)
      have q11 := fun w' (h : RowKit.Below W5.heap.size W5 w') => (h.cell (p := ⟨y, 1, none⟩) hY5.lt).trans (hY5.cell 1)
      have q12 := fun w' (h : RowKit.Below W5.heap.size W5 w') => (h.cell (p := ⟨y, 2, none⟩) hY5.lt).trans (hY5.cell 2)
      have q20 := fun w' (h : RowKit.Below W5.heap.size W5 w') => (h.cell (p := ⟨z, 0, none⟩) hZ5.lt).trans (hZ5.cell 0)
      have q21 := fun w' (h : RowKit.Below W5.heap.size W5 w') => (h.cell (p := ⟨z, 1, none⟩) hZ5.lt).trans (hZ5.cell 1)
      have q22 := fun w' (h : RowKit.Below W5.heap.size W5 w') => (h.cell (p := ⟨z, 2, none⟩) hZ5.lt).trans (hZ5.cell 2)
      simp only [List.getElem?_toArray, List.getElem?_cons_zero, List.getElem?_cons_succ] at q00 q01 q02 q10 q11 q12 q20 q21 q22
      obtain ⟨oN, hoN⟩ : ∃ x, o.neg = x := ⟨_, rfl⟩
      obtain ⟨oD, hoD⟩ : ∃ x, decB o.n = x := ⟨_, rfl⟩
      obtain ⟨oS, hoS⟩ : ∃ x : Int, (o.s : Int) = x := ⟨_, rfl⟩
      simp only [hoN, hoD, hoS] at hO1 hO2
      clear hoN hoD hoS
      have eR := fun W => eqD_self r0 r1 r2 W
      have gR := fun op x y W => guardD op x y r0 r1 r2 r0 r1 r2 W
      have eO := fun W => eqD_self oN oD oS W
      have gO := fun op x y W => guardD op x y oN oD oS oN oD oS W
      have hbD : RowKit.Below W5.heap.size W5 W5.drew := b_drew (Below.refl _ _)
      have HB5 := Lib.hid hb5'
      have HG5 := Lib.hid hG5
      clear hX5 hY5 hZ5 hb5' hG5 HBl0 HB0 hG0 HYZ hs hd'
      go_upto_region 7 with fail
      go_region_held3 (fun w' => RowKit.Below W5.heap.size W5 w') (first | assumption | exact hbD | exact b_step hb6 hbD | exact b_step hb7 (b_step hb6 hbD) | exact b_step hb8 (b_step hb7 (b_step hb6 hbD)) | exact b_step hb9 (b_step hb8 (b_step hb7 (b_step hb6 hbD))) | exact b_step hb10 (b_step hb9 (b_step hb8 (b_step hb7 (b_step hb6 hbD)))))
        (first
          | (go_at_call 11; (with_reducible refine (hC1 _).mono ?_); rintro e w6 ⟨rfl, hb6⟩)
          | (go_at_call 12; (with_reducible refine (hC2 _).mono ?_); rintro e w7 ⟨rfl, hb7⟩)
          | (go_at_call 13; (with_reducible refine (hO1 _ (HG5.out.later (b_step hb7 (b_step hb6 hbD)))).mono ?_); rintro e w8 ⟨rfl, hb8⟩)
          | (go_at_call 14; (with_reducible refine (hO2 _).mono ?_); rintro e w9 ⟨rfl, hb9⟩)
          | (go_at_call 6; (with_reducible refine (hSh _ (HG5.out.later (b_step hb9 (b_step hb8 (b_step hb7 (b_step hb6 hbD)))))).mono ?_); rintro e w10 ⟨rfl, hb10⟩))
      go_wp2
      go_ret
      exact ⟨rfl, b_step hb10 (b_step hb9 (b_step hb8 (b_step hb7 (b_step hb6 (b_drew HB5.out)))))⟩
end Dc
end Go.Proofs.YthnpbkplcboejaaGreatDoor
