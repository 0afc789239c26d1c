/- Decimal: sum. -/
import Derived.Test.YthnpbkplcboejaaDoorDq
import Derived.Test.YthnpbkplcboejaaDoorDi
set_option linter.unusedSimpArgs false
set_option linter.unusedVariables false
namespace Go.Proofs.YthnpbkplcboejaaDoor
open Go.RowKit Go.Shelf Go.Lib Go.Sort
namespace Dc
theorem made_num (neg : Bool) (n m : Nat) (hn : n < 10 ^ 180) (hm : m ≤ 1000) (w : World) :
    Calls Tryd.prog 27 #[.bool neg, .string (txtB n), .int .i64 (m : Int)] w fun e w' => e = .returned (mk neg n m).val ∧ RowKit.Below w.heap.size w w' := by
  have h := made_any neg (txtB n) m (digs_txt n 180) (by rw [txtB_size]; decide) (by omega) w
  rw [show (txtB n).data.toList = txt n 180 from rfl, dv_txt, Nat.mod_eq_of_lt hn] at h
  exact h
theorem dec_one (a : Bool) (b : ByteArray) (c : Int) : (#[.bool a, .string b, .int .i64 c] : Array Value).all (·.oneCell') = true := by simp [Value.oneCell']
theorem ord_lt (a b : Nat) : decide (ord a b < 0) = decide (a < b) := by
  unfold ord
  by_cases h : a < b
  · rw [if_pos h]; simp [h]
  · rw [if_neg h]; split <;> simp [h]
/-- Two boxes of decimals and one for the result. -/
theorem three_start (w : World) (A0 A1 A2 B0 B1 B2 : Value) : RowKit.Below w.heap.size w (((w.alloc (.cells #[A0, A1, A2] 23)).alloc (.cells #[B0, B1, B2] 23)).alloc (.cells #[.bool false, .string ⟨#[]⟩, .int .i64 0] 23)) ∧
    Blk (((w.alloc (.cells #[A0, A1, A2] 23)).alloc (.cells #[B0, B1, B2] 23)).alloc (.cells #[.bool false, .string ⟨#[]⟩, .int .i64 0] 23)) w.heap.size #[A0, A1, A2] 23 ∧
    Blk (((w.alloc (.cells #[A0, A1, A2] 23)).alloc (.cells #[B0, B1, B2] 23)).alloc (.cells #[.bool false, .string ⟨#[]⟩, .int .i64 0] 23)) (w.heap.size + 1) #[B0, B1, B2] 23 ∧
    Blk (((w.alloc (.cells #[A0, A1, A2] 23)).alloc (.cells #[B0, B1, B2] 23)).alloc (.cells #[.bool false, .string ⟨#[]⟩, .int .i64 0] 23)) (w.heap.size + 2) #[.bool false, .string ⟨#[]⟩, .int .i64 0] 23 := by
  have h1 := Blk.new w #[A0, A1, A2] 23
  have h2 := Blk.new (w.alloc (.cells #[A0, A1, A2] 23)) #[B0, B1, B2] 23
  have h3 := Blk.new ((w.alloc (.cells #[A0, A1, A2] 23)).alloc (.cells #[B0, B1, B2] 23)) #[.bool false, .string ⟨#[]⟩, .int .i64 0] 23
  simp only [World.size_alloc, Nat.add_assoc, Nat.reduceAdd] at h2 h3
  exact ⟨b_alloc (b_alloc ((Below.refl _ w).alloc (Nat.le_refl _) _)), (h1.alloc _).alloc _, h2.alloc _, h3⟩
/-- The sum as the program makes it. -/
def sumS (a b : V) (neg : Bool) : R := if a.neg = neg then mk neg (al a b + al b a) (max a.s b.s) else if al a b < al b a then mk neg (al b a - al a b) (max a.s b.s) else mk a.neg (al a b - al b a) (max a.s b.s)
set_option maxRecDepth 100000 in
set_option maxHeartbeats 2000000 in
theorem sum_no (d x : D) (neg : Bool) (hs0 : d.s.size ≤ maxLen) (hs1 : x.s.size ≤ maxLen) (hc : (d.check && x.check) = false) (w : World) :
    Calls Tryd.prog 28 #[d.val, x.val, .bool neg] w fun e w' => e = .returned (R.err 2).val ∧ RowKit.Below w.heap.size w w' := by
  obtain ⟨hb0, h1, h2, h3⟩ := three_start w (.bool d.neg) (.string d.s) (.int .i64 d.sc) (.bool x.neg) (.string x.s) (.int .i64 x.sc)
  obtain ⟨W0, hW0⟩ : ∃ W0, (((w.alloc (.cells #[.bool d.neg, .string d.s, .int .i64 d.sc] 23)).alloc (.cells #[.bool x.neg, .string x.s, .int .i64 x.sc] 23)).alloc (.cells #[.bool false, .string ⟨#[]⟩, .int .i64 0] 23)) = W0 := ⟨_, rfl⟩
  rw [hW0] at hb0 h1 h2 h3
  obtain ⟨W1, hW1⟩ : ∃ W1, W0.alloc (.cells #[.bool d.neg, .string d.s, .int .i64 d.sc, .bool x.neg, .string x.s, .int .i64 x.sc] 23) = W1 := ⟨_, rfl⟩
  have hb1 := b_alloc (o := .cells #[.bool d.neg, .string d.s, .int .i64 d.sc, .bool x.neg, .string x.s, .int .i64 x.sc] 23) hb0
  have hn := Blk.new W0 #[.bool d.neg, .string d.s, .int .i64 d.sc, .bool x.neg, .string x.s, .int .i64 x.sc] 23
  have h3' := h3.alloc (.cells #[.bool d.neg, .string d.s, .int .i64 d.sc, .bool x.neg, .string x.s, .int .i64 x.sc] 23)
  rw [hW1] at hb1 hn h3'
  have hV := valid2_any d x hs0 hs1 W0.heap.size W1 hn
  rw [hc] at hV
  obtain ⟨a0, a1, a2, _, _, _⟩ := h1.three
  obtain ⟨b0, b1, b2, _, _, _⟩ := h2.three
  rw [d_box, d_box]
  have HB := Lib.hid hb1
  have HN := Lib.hid h3'
  clear hc hs0 hs1 hn hb1 hb0 h1 h2 h3 h3'
  go_enter Tryd.func28, Tryd.ntmps28
  go_wp2_with (go_at_call 23; refine hV.mono ?_)
  first | rintro e5 w5 rfl hb5 | rintro e5 w5 ⟨rfl, hb5⟩
  have hB5 := HN.out.below HN.out.lt hb5
  obtain ⟨c0, c1, c2, f0, f1, f2⟩ := hB5.three
  have HB5 := Lib.hid (b_step hb5 HB.out)
  clear a0 a1 a2 b0 b1 b2 hb5 hW0 hW1 hV
  go_wp2
  refine bodyPost_ret (v := (R.err 2).val) (results_row_slot (by rfl) _ _ _ _ _ _ (by rfl) (hB5.set3 _ _ _) (by rfl)) rfl ⟨rfl, b_set3 HB5.out (by omega) _ _ _⟩
set_option maxRecDepth 100000 in
set_option maxHeartbeats 8000000 in
theorem sum_ok (a b : V) (ha : a.ok) (hb : b.ok) (neg : Bool) (w : World) :
    Calls Tryd.prog 28 #[a.d.val, b.d.val, .bool neg] w fun e w' => e = .returned (sumS a b neg).val ∧ RowKit.Below w.heap.size w w' := by
  have hAl := fun W => aligned_any a b ha hb W
  have hX := al_lt ha hb
  have hY := al_lt hb ha
  have hms : max a.s b.s ≤ 60 := by have := ha.s; have := hb.s; omega
  obtain ⟨m, hm⟩ : ∃ m, max a.s b.s = m := ⟨_, rfl⟩
  obtain ⟨X, hXe⟩ : ∃ X, al a b = X := ⟨_, rfl⟩
  obtain ⟨Y, hYe⟩ : ∃ Y, al b a = Y := ⟨_, rfl⟩
  rw [hXe] at hX
  rw [hYe] at hY
  rw [hm] at hms
  rw [hXe, hYe, hm] at hAl
  rw [V.d_val, V.d_val] at hAl
  have h120 : 10 ^ 120 + 10 ^ 120 < 10 ^ 180 := by decide
  have hpw : pw 20 = 10 ^ 180 := pw20
  have hPl := fun W => plus_any X Y (by omega) W
  have hCm := fun W => compare_any X Y (by omega) (by omega) W
  have hDg := fun n W => digits_any n W
  have hM1 := fun W => made_num neg (X + Y) m (by omega) (by omega) W
  have hM2 := fun W => made_num neg (Y - X) m (by omega) (by omega) W
  have hM3 := fun W => made_num a.neg (X - Y) m (by omega) (by omega) W
  have hMi1 : Y < X ∨ X = Y ∨ X < Y := by omega
  have hmi := fun (h : X ≤ Y) W => minus_any Y X h (by omega) W
  have hmi2 := fun (h : Y ≤ X) W => minus_any X Y h (by omega) W
  have hord := ord_lt X Y
  have hrs : sumS a b neg = if a.neg = neg then mk neg (X + Y) m else if X < Y then mk neg (Y - X) m else mk a.neg (X - Y) m := by unfold sumS; rw [hXe, hYe, hm]
  obtain ⟨r, hr⟩ : ∃ r, sumS a b neg = r := ⟨_, rfl⟩
  rw [hr] at hrs ⊢
  have HR := Lib.hid hrs
  have hz := zeroNum
  have HAl := Lib.hid hAl
  have HPl := Lib.hid hPl
  have HCm := Lib.hid hCm
  have HM1 := Lib.hid hM1
  have HM2 := Lib.hid hM2
  have HM3 := Lib.hid hM3
  have Hmi := Lib.hid hmi
  have Hmi2 := Lib.hid hmi2
  have HO := Lib.hid hord
  clear hAl hPl hCm hDg hM1 hM2 hM3 hmi hmi2 hMi1 hX hY hms hXe hYe hm h120 hpw hord hrs hr
  obtain ⟨hb0, h1, h2, h3⟩ := three_start w (.bool a.neg) (.string (decB a.n)) (.int .i64 (a.s : Int)) (.bool b.neg) (.string (decB b.n)) (.int .i64 (b.s : Int))
  obtain ⟨W0, hW0⟩ : ∃ W0, (((w.alloc (.cells #[.bool a.neg, .string (decB a.n), .int .i64 (a.s : Int)] 23)).alloc (.cells #[.bool b.neg, .string (decB b.n), .int .i64 (b.s : Int)] 23)).alloc (.cells #[.bool false, .string ⟨#[]⟩, .int .i64 0] 23)) = W0 := ⟨_, rfl⟩
  rw [hW0] at hb0 h1 h2 h3
  obtain ⟨W1, hW1⟩ : ∃ W1, W0.alloc (.cells #[.bool a.neg, .string (decB a.n), .int .i64 (a.s : Int), .bool b.neg, .string (decB b.n), .int .i64 (b.s : Int)] 23) = W1 := ⟨_, rfl⟩
  have hb1 := b_alloc (o := .cells #[.bool a.neg, .string (decB a.n), .int .i64 (a.s : Int), .bool b.neg, .string (decB b.n), .int .i64 (b.s : Int)] 23) hb0
  have hn := Blk.new W0 #[.bool a.neg, .string (decB a.n), .int .i64 (a.s : Int), .bool b.neg, .string (decB b.n), .int .i64 (b.s : Int)] 23
  have h1' := h1.alloc (.cells #[.bool a.neg, .string (decB a.n), .int .i64 (a.s : Int), .bool b.neg, .string (decB b.n), .int .i64 (b.s : Int)] 23)
  have h2' := h2.alloc (.cells #[.bool a.neg, .string (decB a.n), .int .i64 (a.s : Int), .bool b.neg, .string (decB b.n), .int .i64 (b.s : Int)] 23)
  have h3' := h3.alloc (.cells #[.bool a.neg, .string (decB a.n), .int .i64 (a.s : Int), .bool b.neg, .string (decB b.n), .int .i64 (b.s : Int)] 23)
  rw [hW1] at hb1 hn h1' h2' h3'
  have hV := valid2_any a.d b.d (by have := ha.len; show (decB a.n).size ≤ _; unfold maxLen; omega) (by have := hb.len; show (decB b.n).size ≤ _; unfold maxLen; omega) W0.heap.size W1 hn
  rw [V.check ha, V.check hb] at hV
  have hsz0 : w.heap.size + 3 ≤ W1.heap.size := by have := h3'.lt; omega
  obtain ⟨a0, a1, a2, _, _, _⟩ := h1.three
  obtain ⟨b0, b1, b2, _, _, _⟩ := h2.three
  rw [V.d_val, V.d_val]
  have HS1 : Hid (RowKit.Below w.heap.size w W1 ∧ Blk W1 (w.heap.size) (#[.bool a.neg, .string (decB a.n), .int .i64 (a.s : Int)]) 23 ∧ Blk W1 (w.heap.size + 1) (#[.bool b.neg, .string (decB b.n), .int .i64 (b.s : Int)]) 23 ∧ Blk W1 (w.heap.size + 2) (#[.bool false, .string ⟨#[]⟩, .int .i64 0]) 23) := ⟨hb1, h1', h2', h3'⟩
  clear hn hb1 hb0 h1 h2 h3 h1' h2' h3' ha hb
  go_enter Tryd.func28, Tryd.ntmps28
  go_wp2_with (go_at_call 23; refine hV.mono ?_)
  first | rintro e5 w5 rfl hb5 | rintro e5 w5 ⟨rfl, hb5⟩
  have hS5 : RowKit.Below w.heap.size w w5 ∧ Blk w5 (w.heap.size) (#[.bool a.neg, .string (decB a.n), .int .i64 (a.s : Int)]) 23 ∧ Blk w5 (w.heap.size + 1) (#[.bool b.neg, .string (decB b.n), .int .i64 (b.s : Int)]) 23 ∧ Blk w5 (w.heap.size + 2) (#[.bool false, .string ⟨#[]⟩, .int .i64 0]) 23 := ⟨b_step hb5 (HS1.out.1), (HS1.out.2.1).below (HS1.out.2.1).lt hb5, (HS1.out.2.2.1).below (HS1.out.2.2.1).lt hb5, (HS1.out.2.2.2).below (HS1.out.2.2.2).lt hb5⟩
  have hsz5 : w.heap.size + 3 ≤ w5.heap.size := Nat.le_trans hsz0 hb5.size
  clear a0 a1 a2 b0 b1 b2 hb5 hW0 hW1 hV HS1 hsz0
  obtain ⟨a0, a1, a2, _, _, _⟩ := hS5.2.1.three
  obtain ⟨b0, b1, b2, _, _, _⟩ := hS5.2.2.1.three
  go_wp2_with (go_at_call 32; refine (HAl.out _).mono ?_)
  first | rintro e6 w6 rfl hb6 | rintro e6 w6 ⟨rfl, hb6⟩
  have hS6 : RowKit.Below w.heap.size w w6 ∧ Blk w6 (w.heap.size) (#[.bool a.neg, .string (decB a.n), .int .i64 (a.s : Int)]) 23 ∧ Blk w6 (w.heap.size + 1) (#[.bool b.neg, .string (decB b.n), .int .i64 (b.s : Int)]) 23 ∧ Blk w6 (w.heap.size + 2) (#[.bool false, .string ⟨#[]⟩, .int .i64 0]) 23 := ⟨b_step hb6 (hS5.1), (hS5.2.1).below (hS5.2.1).lt hb6, (hS5.2.2.1).below (hS5.2.2.1).lt hb6, (hS5.2.2.2).below (hS5.2.2.2).lt hb6⟩
  have hsz6 : w.heap.size + 3 ≤ w6.heap.size := Nat.le_trans hsz5 hb6.size
  clear a0 a1 a2 b0 b1 b2 hb6 hS5
  obtain ⟨W7, hW7⟩ : ∃ W7, (w6.alloc (.cells (arr fun _ => 0) 56)).alloc (.cells (arr fun _ => 0) 56) = W7 := ⟨_, rfl⟩
  obtain ⟨bx, hbx⟩ : ∃ bx, w6.heap.size = bx := ⟨_, rfl⟩
  have hx0 : Blk W7 bx (arr fun _ => 0) 56 := by rw [← hW7, ← hbx]; exact (Blk.new w6 _ _).alloc _
  have hy0 : Blk W7 (bx + 1) (arr fun _ => 0) 56 := by
    rw [← hW7, ← hbx]
    have := Blk.new (w6.alloc (.cells (arr fun _ => 0) 56)) (arr fun _ => 0) 56
    rw [World.size_alloc] at this; exact this
  have hb7 : RowKit.Below w6.heap.size w6 W7 := by rw [← hW7]; exact b_alloc ((Below.refl _ w6).alloc (Nat.le_refl _) _)
  have hS7 : RowKit.Below w.heap.size w W7 ∧ Blk W7 (w.heap.size) (#[.bool a.neg, .string (decB a.n), .int .i64 (a.s : Int)]) 23 ∧ Blk W7 (w.heap.size + 1) (#[.bool b.neg, .string (decB b.n), .int .i64 (b.s : Int)]) 23 ∧ Blk W7 (w.heap.size + 2) (#[.bool false, .string ⟨#[]⟩, .int .i64 0]) 23 := ⟨b_step hb7 (hS6.1), (hS6.2.1).below (hS6.2.1).lt hb7, (hS6.2.2.1).below (hS6.2.2.1).lt hb7, (hS6.2.2.2).below (hS6.2.2.2).lt hb7⟩
  have hy1 : Blk (W7.setRow bx (arr (numF X))) (bx + 1) (arr fun _ => 0) 56 := hy0.row_other (by omega)
  rw [hbx] at hsz6
  have hS8 : RowKit.Below w.heap.size w ((W7.setRow bx (arr (numF X))).setRow (bx + 1) (arr (numF Y))) ∧ Blk ((W7.setRow bx (arr (numF X))).setRow (bx + 1) (arr (numF Y))) (w.heap.size) (#[.bool a.neg, .string (decB a.n), .int .i64 (a.s : Int)]) 23 ∧ Blk ((W7.setRow bx (arr (numF X))).setRow (bx + 1) (arr (numF Y))) (w.heap.size + 1) (#[.bool b.neg, .string (decB b.n), .int .i64 (b.s : Int)]) 23 ∧ Blk ((W7.setRow bx (arr (numF X))).setRow (bx + 1) (arr (numF Y))) (w.heap.size + 2) (#[.bool false, .string ⟨#[]⟩, .int .i64 0]) 23 ∧ Blk ((W7.setRow bx (arr (numF X))).setRow (bx + 1) (arr (numF Y))) (bx) (arr (numF X)) 56 ∧ Blk ((W7.setRow bx (arr (numF X))).setRow (bx + 1) (arr (numF Y))) (bx + 1) (arr (numF Y)) 56 :=
    ⟨b_row (b_row hS7.1 (by omega)) (by omega), (hS7.2.1.row_other (by omega)).row_other (by omega), (hS7.2.2.1.row_other (by omega)).row_other (by omega), (hS7.2.2.2.row_other (by omega)).row_other (by omega), (hx0.row _).row_other (by omega), hy1.row _⟩
  obtain ⟨W8, hW8⟩ : ∃ W8, ((W7.setRow bx (arr (numF X))).setRow (bx + 1) (arr (numF Y))) = W8 := ⟨_, rfl⟩
  rw [hW8] at hS8
  clear hS6 hS7 hb7
  obtain ⟨a0, a1, a2, _, _, _⟩ := hS8.2.1.three
  obtain ⟨b0, b1, b2, _, _, _⟩ := hS8.2.2.1.three
  by_cases he : a.neg = neg
  · have g1 : (a.neg == neg) = true := by rw [beq_iff_eq]; exact he
    have hr : r = mk neg (X + Y) m := by rw [HR.out, if_pos he]
    clear he
    have hM := HM1.out
    rw [← hr] at hM
    rw [R.val_eq] at hM
    have HM := Lib.hid hM
    clear hM hr
    go_wp2_with (first | refine wpList_store_row rfl _ _ _ rfl _ _ rfl rfl _ _ hx0 (sizeNum _) (by rw [arr_size, arr_size]) (arr_one _) ?_ | refine wpList_store_row rfl _ _ _ rfl _ _ rfl rfl _ _ hy1 (sizeNum _) (by rw [arr_size, arr_size]) (arr_one _) ?_ | refine wpList_load_row rfl _ _ rfl _ rfl _ _ _ _ (hS8.2.2.2.2.1) underNum rfl (sizeNum _) ?_ | refine wpList_load_row rfl _ _ rfl _ rfl _ _ _ _ (hS8.2.2.2.2.2) underNum rfl (sizeNum _) ?_ | (go_at_call 36; refine (HPl.out _).mono ?_))
    first | rintro e9 w9 rfl hb9 | rintro e9 w9 ⟨rfl, hb9⟩
    have hS9 : RowKit.Below w.heap.size w w9 ∧ Blk w9 (w.heap.size) (#[.bool a.neg, .string (decB a.n), .int .i64 (a.s : Int)]) 23 ∧ Blk w9 (w.heap.size + 1) (#[.bool b.neg, .string (decB b.n), .int .i64 (b.s : Int)]) 23 ∧ Blk w9 (w.heap.size + 2) (#[.bool false, .string ⟨#[]⟩, .int .i64 0]) 23 ∧ Blk w9 (bx) (arr (numF X)) 56 ∧ Blk w9 (bx + 1) (arr (numF Y)) 56 := ⟨b_step hb9 (hS8.1), (hS8.2.1).below (hS8.2.1).lt hb9, (hS8.2.2.1).below (hS8.2.2.1).lt hb9, (hS8.2.2.2.1).below (hS8.2.2.2.1).lt hb9, (hS8.2.2.2.2.1).below (hS8.2.2.2.2.1).lt hb9, (hS8.2.2.2.2.2).below (hS8.2.2.2.2.2).lt hb9⟩
    clear hb9 hS8
    go_wp2_with (first | (go_at_call 31; refine (digits_any _ _).mono ?_))
    first | rintro e10 w10 rfl hb10 | rintro e10 w10 ⟨rfl, hb10⟩
    have hS10 : RowKit.Below w.heap.size w w10 ∧ Blk w10 (w.heap.size) (#[.bool a.neg, .string (decB a.n), .int .i64 (a.s : Int)]) 23 ∧ Blk w10 (w.heap.size + 1) (#[.bool b.neg, .string (decB b.n), .int .i64 (b.s : Int)]) 23 ∧ Blk w10 (w.heap.size + 2) (#[.bool false, .string ⟨#[]⟩, .int .i64 0]) 23 ∧ Blk w10 (bx) (arr (numF X)) 56 ∧ Blk w10 (bx + 1) (arr (numF Y)) 56 := ⟨b_step hb10 (hS9.1), (hS9.2.1).below (hS9.2.1).lt hb10, (hS9.2.2.1).below (hS9.2.2.1).lt hb10, (hS9.2.2.2.1).below (hS9.2.2.2.1).lt hb10, (hS9.2.2.2.2.1).below (hS9.2.2.2.2.1).lt hb10, (hS9.2.2.2.2.2).below (hS9.2.2.2.2.2).lt hb10⟩
    clear hb10 hS9
    go_wp2_with (first | (go_at_call 27; refine (HM.out _).mono ?_))
    first | rintro e11 w11 rfl hb11 | rintro e11 w11 ⟨rfl, hb11⟩
    have hS11 : RowKit.Below w.heap.size w w11 ∧ Blk w11 (w.heap.size) (#[.bool a.neg, .string (decB a.n), .int .i64 (a.s : Int)]) 23 ∧ Blk w11 (w.heap.size + 1) (#[.bool b.neg, .string (decB b.n), .int .i64 (b.s : Int)]) 23 ∧ Blk w11 (w.heap.size + 2) (#[.bool false, .string ⟨#[]⟩, .int .i64 0]) 23 ∧ Blk w11 (bx) (arr (numF X)) 56 ∧ Blk w11 (bx + 1) (arr (numF Y)) 56 := ⟨b_step hb11 (hS10.1), (hS10.2.1).below (hS10.2.1).lt hb11, (hS10.2.2.1).below (hS10.2.2.1).lt hb11, (hS10.2.2.2.1).below (hS10.2.2.2.1).lt hb11, (hS10.2.2.2.2.1).below (hS10.2.2.2.2.1).lt hb11, (hS10.2.2.2.2.2).below (hS10.2.2.2.2.2).lt hb11⟩
    clear hb11 hS10
    obtain ⟨q0, q1, q2, f0, f1, f2⟩ := (hS11.2.2.2.1).three
    have HSk := Lib.hid hS11
    clear hS11
    go_wp2
    refine bodyPost_ret (v := r.val) (results_row_slot (by rfl) _ _ _ _ _ _ (by rfl) ((HSk.out.2.2.2.1).set3 _ _ _) (by rfl)) rfl ⟨rfl, b_set3 (HSk.out.1) (by omega) _ _ _⟩
  · have g1 : (a.neg == neg) = false := by rw [beq_eq_false_iff_ne]; exact he
    have hr : r = if X < Y then mk neg (Y - X) m else mk a.neg (X - Y) m := by rw [HR.out, if_neg he]
    have HR2 := Lib.hid hr
    clear he hr
    have HS8 := Lib.hid hS8
    go_wp2_with (first | refine wpList_store_row rfl _ _ _ rfl _ _ rfl rfl _ _ hx0 (sizeNum _) (by rw [arr_size, arr_size]) (arr_one _) ?_ | refine wpList_store_row rfl _ _ _ rfl _ _ rfl rfl _ _ hy1 (sizeNum _) (by rw [arr_size, arr_size]) (arr_one _) ?_ | refine wpList_load_row rfl _ _ rfl _ rfl _ _ _ _ (hS8.2.2.2.2.1) underNum rfl (sizeNum _) ?_ | refine wpList_load_row rfl _ _ rfl _ rfl _ _ _ _ (hS8.2.2.2.2.2) underNum rfl (sizeNum _) ?_ | (go_at_call 33; refine (HCm.out _).mono ?_))
    first | rintro e12 w12 rfl hb12 | rintro e12 w12 ⟨rfl, hb12⟩
    have hS12 : RowKit.Below w.heap.size w w12 ∧ Blk w12 (w.heap.size) (#[.bool a.neg, .string (decB a.n), .int .i64 (a.s : Int)]) 23 ∧ Blk w12 (w.heap.size + 1) (#[.bool b.neg, .string (decB b.n), .int .i64 (b.s : Int)]) 23 ∧ Blk w12 (w.heap.size + 2) (#[.bool false, .string ⟨#[]⟩, .int .i64 0]) 23 ∧ Blk w12 (bx) (arr (numF X)) 56 ∧ Blk w12 (bx + 1) (arr (numF Y)) 56 := ⟨b_step hb12 (hS8.1), (hS8.2.1).below (hS8.2.1).lt hb12, (hS8.2.2.1).below (hS8.2.2.1).lt hb12, (hS8.2.2.2.1).below (hS8.2.2.2.1).lt hb12, (hS8.2.2.2.2.1).below (hS8.2.2.2.2.1).lt hb12, (hS8.2.2.2.2.2).below (hS8.2.2.2.2.2).lt hb12⟩
    clear hb12 hS8
    by_cases hlt : X < Y
    · have g2 : decide (ord X Y < 0) = true := by rw [HO.out]; exact decide_eq_true hlt
      have hr : r = mk neg (Y - X) m := by rw [HR2.out, if_pos hlt]
      have hmi := Hmi.out (by omega)
      have Hm3 := Lib.hid hmi
      clear hlt hmi
      have hM := HM2.out
      rw [← hr] at hM
      rw [R.val_eq] at hM
      have HM := Lib.hid hM
      clear hM hr
      go_wp2_with (first | refine wpList_load_row rfl _ _ rfl _ rfl _ _ _ _ (hS12.2.2.2.2.1) underNum rfl (sizeNum _) ?_ | refine wpList_load_row rfl _ _ rfl _ rfl _ _ _ _ (hS12.2.2.2.2.2) underNum rfl (sizeNum _) ?_ | (go_at_call 50; refine (Hm3.out _).mono ?_))
      first | rintro e9 w9 rfl hb9 | rintro e9 w9 ⟨rfl, hb9⟩
      have hS9 : RowKit.Below w.heap.size w w9 ∧ Blk w9 (w.heap.size) (#[.bool a.neg, .string (decB a.n), .int .i64 (a.s : Int)]) 23 ∧ Blk w9 (w.heap.size + 1) (#[.bool b.neg, .string (decB b.n), .int .i64 (b.s : Int)]) 23 ∧ Blk w9 (w.heap.size + 2) (#[.bool false, .string ⟨#[]⟩, .int .i64 0]) 23 ∧ Blk w9 (bx) (arr (numF X)) 56 ∧ Blk w9 (bx + 1) (arr (numF Y)) 56 := ⟨b_step hb9 (hS12.1), (hS12.2.1).below (hS12.2.1).lt hb9, (hS12.2.2.1).below (hS12.2.2.1).lt hb9, (hS12.2.2.2.1).below (hS12.2.2.2.1).lt hb9, (hS12.2.2.2.2.1).below (hS12.2.2.2.2.1).lt hb9, (hS12.2.2.2.2.2).below (hS12.2.2.2.2.2).lt hb9⟩
      clear hb9 hS12
      go_wp2_with (first | (go_at_call 31; refine (digits_any _ _).mono ?_))
      first | rintro e10 w10 rfl hb10 | rintro e10 w10 ⟨rfl, hb10⟩
      have hS10 : RowKit.Below w.heap.size w w10 ∧ Blk w10 (w.heap.size) (#[.bool a.neg, .string (decB a.n), .int .i64 (a.s : Int)]) 23 ∧ Blk w10 (w.heap.size + 1) (#[.bool b.neg, .string (decB b.n), .int .i64 (b.s : Int)]) 23 ∧ Blk w10 (w.heap.size + 2) (#[.bool false, .string ⟨#[]⟩, .int .i64 0]) 23 ∧ Blk w10 (bx) (arr (numF X)) 56 ∧ Blk w10 (bx + 1) (arr (numF Y)) 56 := ⟨b_step hb10 (hS9.1), (hS9.2.1).below (hS9.2.1).lt hb10, (hS9.2.2.1).below (hS9.2.2.1).lt hb10, (hS9.2.2.2.1).below (hS9.2.2.2.1).lt hb10, (hS9.2.2.2.2.1).below (hS9.2.2.2.2.1).lt hb10, (hS9.2.2.2.2.2).below (hS9.2.2.2.2.2).lt hb10⟩
      clear hb10 hS9
      go_wp2_with (first | (go_at_call 27; refine (HM.out _).mono ?_))
      first | rintro e11 w11 rfl hb11 | rintro e11 w11 ⟨rfl, hb11⟩
      have hS11 : RowKit.Below w.heap.size w w11 ∧ Blk w11 (w.heap.size) (#[.bool a.neg, .string (decB a.n), .int .i64 (a.s : Int)]) 23 ∧ Blk w11 (w.heap.size + 1) (#[.bool b.neg, .string (decB b.n), .int .i64 (b.s : Int)]) 23 ∧ Blk w11 (w.heap.size + 2) (#[.bool false, .string ⟨#[]⟩, .int .i64 0]) 23 ∧ Blk w11 (bx) (arr (numF X)) 56 ∧ Blk w11 (bx + 1) (arr (numF Y)) 56 := ⟨b_step hb11 (hS10.1), (hS10.2.1).below (hS10.2.1).lt hb11, (hS10.2.2.1).below (hS10.2.2.1).lt hb11, (hS10.2.2.2.1).below (hS10.2.2.2.1).lt hb11, (hS10.2.2.2.2.1).below (hS10.2.2.2.2.1).lt hb11, (hS10.2.2.2.2.2).below (hS10.2.2.2.2.2).lt hb11⟩
      clear hb11 hS10
      obtain ⟨q0, q1, q2, f0, f1, f2⟩ := (hS11.2.2.2.1).three
      have HSk := Lib.hid hS11
      clear hS11
      go_wp2
      refine bodyPost_ret (v := r.val) (results_row_slot (by rfl) _ _ _ _ _ _ (by rfl) ((HSk.out.2.2.2.1).set3 _ _ _) (by rfl)) rfl ⟨rfl, b_set3 (HSk.out.1) (by omega) _ _ _⟩
    · have g2 : decide (ord X Y < 0) = false := by rw [HO.out]; exact decide_eq_false hlt
      have hr : r = mk a.neg (X - Y) m := by rw [HR2.out, if_neg hlt]
      have hmi := Hmi2.out (by omega)
      have Hm3 := Lib.hid hmi
      clear hlt hmi
      have hM := HM3.out
      rw [← hr] at hM
      rw [R.val_eq] at hM
      have HM := Lib.hid hM
      clear hM hr a0 a1 a2 b0 b1 b2 HS8
      go_wp2
      simp only [Nat.add_assoc, Nat.reduceAdd]
      have hC0 : RowKit.Below w.heap.size w w12.drew ∧ Blk w12.drew (w.heap.size) (#[.bool a.neg, .string (decB a.n), .int .i64 (a.s : Int)]) 23 ∧ Blk w12.drew (w.heap.size + 1) (#[.bool b.neg, .string (decB b.n), .int .i64 (b.s : Int)]) 23 ∧ Blk w12.drew (w.heap.size + 2) (#[.bool false, .string ⟨#[]⟩, .int .i64 0]) 23 ∧ Blk w12.drew (bx) (arr (numF X)) 56 ∧ Blk w12.drew (bx + 1) (arr (numF Y)) 56 := ⟨b_drew (hS12.1), (hS12.2.1), (hS12.2.2.1), (hS12.2.2.2.1), (hS12.2.2.2.2.1), (hS12.2.2.2.2.2)⟩
      clear hS12
      refine region_inv (fun ls a' w' => ∃ (l0 l1 l2 l3 l4 l5 l6 l7 l8 l9 l10 l11 : Bool) (t52 t53 t54 t55 t56 t57 t58 t59 t60 t61 t7 : Value), ls = [l0, l1, l2, l3, l4, l5, l6, l7, l8, l9, l10, l11] ∧ a' = { tmps := #[Value.agg #[.bool a.neg, .string (decB a.n), .int .i64 (a.s : Int)], Value.agg #[.bool b.neg, .string (decB b.n), .int .i64 (b.s : Int)], Value.bool neg, Value.pointer (some ⟨w.heap.size, 0, none⟩), Value.pointer (some ⟨w.heap.size + 1, 0, none⟩), undef, Value.pointer (some ⟨w.heap.size + 2, 0, none⟩), t7, Value.pointer (some ⟨bx, 0, none⟩), Value.pointer (some ⟨bx + 1, 0, none⟩), Value.int .i64 (m : Int), Value.agg #[.bool a.neg, .string (decB a.n), .int .i64 (a.s : Int)], Value.agg #[.bool b.neg, .string (decB b.n), .int .i64 (b.s : Int)], Value.slice (some ⟨W0.heap.size, 0, none⟩) 2 2, Value.bool true, Value.bool false, undef, Value.tuple #[Value.agg (arr (numF X)), Value.agg (arr (numF Y)), Value.int .i64 (m : Int)], Value.agg #[.bool a.neg, .string (decB a.n), .int .i64 (a.s : Int)], Value.agg #[.bool b.neg, .string (decB b.n), .int .i64 (b.s : Int)], Value.tuple #[Value.agg (arr (numF X)), Value.agg (arr (numF Y)), Value.int .i64 (m : Int)], Value.agg (arr (numF X)), Value.agg (arr (numF Y)), Value.int .i64 (m : Int), Value.bool false, Value.pointer (some ⟨w.heap.size, 0, none⟩), Value.bool a.neg, Value.bool neg, Value.bool false, undef, undef, undef, undef, undef, undef, undef, undef, undef, Value.bool false, Value.agg (arr (numF X)), Value.agg (arr (numF Y)), Value.int .i64 (ord X Y), Value.bool false, undef, undef, undef, undef, undef, undef, undef, undef, undef, t52, t53, t54, t55, t56, t57, t58, t59, t60, t61], defers := [] } ∧ (l0 = true → t52 = Value.pointer (some ⟨w.heap.size, 0, none⟩)) ∧ (l1 = true → t53 = Value.bool a.neg) ∧ (l2 = true → t54 = Value.agg (arr (numF X))) ∧ (l3 = true → t55 = Value.agg (arr (numF Y))) ∧ (l4 = true → t56 = Value.agg (arr (numF (X - Y)))) ∧ (l5 = true → t57 = Value.string (txtB (X - Y))) ∧ (l6 = true → t58 = Value.int .i64 (m : Int)) ∧ (l7 = true → t59 = Value.tuple #[Value.agg #[.bool r.d.neg, .string r.d.s, .int .i64 r.d.sc], .int .i64 r.no]) ∧ (l8 = true → t60 = Value.agg #[.bool r.d.neg, .string r.d.s, .int .i64 r.d.sc]) ∧ (l9 = true → t61 = Value.int .i64 r.no) ∧ (l11 = true → t7 = Value.int .i64 r.no) ∧ (l10 = false → RowKit.Below w.heap.size w w' ∧ Blk w' (w.heap.size) (#[.bool a.neg, .string (decB a.n), .int .i64 (a.s : Int)]) 23 ∧ Blk w' (w.heap.size + 1) (#[.bool b.neg, .string (decB b.n), .int .i64 (b.s : Int)]) 23 ∧ Blk w' (w.heap.size + 2) (#[.bool false, .string ⟨#[]⟩, .int .i64 0]) 23 ∧ Blk w' (bx) (arr (numF X)) 56 ∧ Blk w' (bx + 1) (arr (numF Y)) 56) ∧ (l10 = true → RowKit.Below w.heap.size w w' ∧ Blk w' (w.heap.size) (#[.bool a.neg, .string (decB a.n), .int .i64 (a.s : Int)]) 23 ∧ Blk w' (w.heap.size + 1) (#[.bool b.neg, .string (decB b.n), .int .i64 (b.s : Int)]) 23 ∧ Blk w' (w.heap.size + 2) (#[.bool r.d.neg, .string r.d.s, .int .i64 r.d.sc]) 23 ∧ Blk w' (bx) (arr (numF X)) 56 ∧ Blk w' (bx + 1) (arr (numF Y)) 56)) (by kernel_rfl) (by kernel_rfl) ?rlen8 ?rdone8 ?rh08 ?rstep8
      case rlen8 => rintro ls a' w' ⟨l0, l1, l2, l3, l4, l5, l6, l7, l8, l9, l10, l11, t52, t53, t54, t55, t56, t57, t58, t59, t60, t61, t7, rfl, _⟩; rfl
      case rh08 => exact ⟨false, false, false, false, false, false, false, false, false, false, false, false, undef, undef, undef, undef, undef, undef, undef, undef, undef, undef, Value.int .i64 0, rfl, rfl, by simp, by simp, by simp, by simp, by simp, by simp, by simp, by simp, by simp, by simp, by simp, fun _ => hC0, by simp⟩
      case rdone8 =>
        rintro ls a' w' ⟨l0, l1, l2, l3, l4, l5, l6, l7, l8, l9, l10, l11, t52, t53, t54, t55, t56, t57, t58, t59, t60, t61, t7, rfl, rfl, h52, h53, h54, h55, h56, h57, h58, h59, h60, h61, h7, hC, hP⟩ hl
        obtain rfl := h7 (by simpa using hl 11)
        have hP := hP (by simpa using hl 10)
        clear h52 h53 h54 h55 h56 h57 h58 h59 h60 h61 hl hC
        go_wp2
        refine bodyPost_ret (v := r.val) (results_row_slot (by rfl) _ _ _ _ _ _ (by rfl) (hP.2.2.2.1) (by rfl)) rfl ⟨rfl, (hP.1)⟩
      case rstep8 =>
        rintro i o ho ls a' w' ⟨l0, l1, l2, l3, l4, l5, l6, l7, l8, l9, l10, l11, t52, t53, t54, t55, t56, t57, t58, t59, t60, t61, t7, rfl, rfl, h52, h53, h54, h55, h56, h57, h58, h59, h60, h61, h7, hC, hP⟩ hcl hu hd K hK
        rcases i with _ | _ | _ | _ | _ | _ | _ | _ | _ | _ | _ | _ | i <;> simp only [List.getElem?_cons_zero, List.getElem?_cons_succ, List.getElem?_nil, Option.some.injEq, reduceCtorEq] at ho
        all_goals subst ho
        · have hu : l0 = false := hu
          have hls : l10 = false := Bool.eq_false_iff.2 fun e => by have h : l0 = true := hcl 10 _ rfl e 0 (by decide +kernel); rw [hu] at h; cases h
          subst hls
          have hC := hC rfl
          clear hcl
          go_simp
          exact hK _ _ ⟨true, l1, l2, l3, l4, l5, l6, l7, l8, l9, false, l11, _, t53, t54, t55, t56, t57, t58, t59, t60, t61, t7, rfl, rfl, fun _ => rfl, h53, h54, h55, h56, h57, h58, h59, h60, h61, h7, fun _ => hC, by simp⟩
        · have hu : l1 = false := hu
          have hls : l10 = false := Bool.eq_false_iff.2 fun e => by have h : l1 = true := hcl 10 _ rfl e 1 (by decide +kernel); rw [hu] at h; cases h
          subst hls
          have hC := hC rfl
          clear hcl
          have y52 := h52 (hd 0 (by decide +kernel))
          subst y52
          obtain ⟨c0, c1, c2, _, _, _⟩ := (hC.2.1).three
          go_simp
          exact hK _ _ ⟨l0, true, l2, l3, l4, l5, l6, l7, l8, l9, false, l11, _, _, t54, t55, t56, t57, t58, t59, t60, t61, t7, rfl, rfl, fun _ => rfl, fun _ => rfl, h54, h55, h56, h57, h58, h59, h60, h61, h7, fun _ => hC, by simp⟩
        · have hu : l2 = false := hu
          have hls : l10 = false := Bool.eq_false_iff.2 fun e => by have h : l2 = true := hcl 10 _ rfl e 2 (by decide +kernel); rw [hu] at h; cases h
          subst hls
          have hC := hC rfl
          clear hcl
          rw [if_pos (by rfl)]
          refine wp_load_row _ _ rfl _ rfl _ _ _ _ (hC.2.2.2.2.1) underNum rfl (sizeNum _) ?_
          exact hK _ _ ⟨l0, l1, true, l3, l4, l5, l6, l7, l8, l9, false, l11, t52, t53, _, t55, t56, t57, t58, t59, t60, t61, t7, rfl, rfl, h52, h53, fun _ => rfl, h55, h56, h57, h58, h59, h60, h61, h7, fun _ => hC, by simp⟩
        · have hu : l3 = false := hu
          have hls : l10 = false := Bool.eq_false_iff.2 fun e => by have h : l3 = true := hcl 10 _ rfl e 3 (by decide +kernel); rw [hu] at h; cases h
          subst hls
          have hC := hC rfl
          clear hcl
          rw [if_pos (by rfl)]
          refine wp_load_row _ _ rfl _ rfl _ _ _ _ (hC.2.2.2.2.2) underNum rfl (sizeNum _) ?_
          exact hK _ _ ⟨l0, l1, l2, true, l4, l5, l6, l7, l8, l9, false, l11, t52, t53, t54, _, t56, t57, t58, t59, t60, t61, t7, rfl, rfl, h52, h53, h54, fun _ => rfl, h56, h57, h58, h59, h60, h61, h7, fun _ => hC, by simp⟩
        · have hu : l4 = false := hu
          have hls : l10 = false := Bool.eq_false_iff.2 fun e => by have h : l4 = true := hcl 10 _ rfl e 4 (by decide +kernel); rw [hu] at h; cases h
          subst hls
          have hC := hC rfl
          clear hcl
          have y54 := h54 (hd 2 (by decide +kernel))
          subst y54
          have y55 := h55 (hd 3 (by decide +kernel))
          subst y55
          have hK5 := Hm3.out w'
          go_simp
          refine hK5.mono ?_
          rintro e w5 ⟨rfl, hb5⟩
          exact hK _ _ ⟨l0, l1, l2, l3, true, l5, l6, l7, l8, l9, false, l11, t52, t53, _, _, _, t57, t58, t59, t60, t61, t7, rfl, rfl, h52, h53, fun _ => rfl, fun _ => rfl, fun _ => rfl, h57, h58, h59, h60, h61, h7, fun _ => ⟨b_step hb5 (hC.1), (hC.2.1).below (hC.2.1).lt hb5, (hC.2.2.1).below (hC.2.2.1).lt hb5, (hC.2.2.2.1).below (hC.2.2.2.1).lt hb5, (hC.2.2.2.2.1).below (hC.2.2.2.2.1).lt hb5, (hC.2.2.2.2.2).below (hC.2.2.2.2.2).lt hb5⟩, by simp⟩
        · have hu : l5 = false := hu
          have hls : l10 = false := Bool.eq_false_iff.2 fun e => by have h : l5 = true := hcl 10 _ rfl e 5 (by decide +kernel); rw [hu] at h; cases h
          subst hls
          have hC := hC rfl
          clear hcl
          have y56 := h56 (hd 4 (by decide +kernel))
          subst y56
          have hK5 := digits_any (X - Y) w'
          go_simp
          refine hK5.mono ?_
          rintro e w5 ⟨rfl, hb5⟩
          exact hK _ _ ⟨l0, l1, l2, l3, l4, true, l6, l7, l8, l9, false, l11, t52, t53, t54, t55, _, _, t58, t59, t60, t61, t7, rfl, rfl, h52, h53, h54, h55, fun _ => rfl, fun _ => rfl, h58, h59, h60, h61, h7, fun _ => ⟨b_step hb5 (hC.1), (hC.2.1).below (hC.2.1).lt hb5, (hC.2.2.1).below (hC.2.2.1).lt hb5, (hC.2.2.2.1).below (hC.2.2.2.1).lt hb5, (hC.2.2.2.2.1).below (hC.2.2.2.2.1).lt hb5, (hC.2.2.2.2.2).below (hC.2.2.2.2.2).lt hb5⟩, by simp⟩
        · have hu : l6 = false := hu
          have hls : l10 = false := Bool.eq_false_iff.2 fun e => by have h : l6 = true := hcl 10 _ rfl e 6 (by decide +kernel); rw [hu] at h; cases h
          subst hls
          have hC := hC rfl
          clear hcl
          go_simp
          exact hK _ _ ⟨l0, l1, l2, l3, l4, l5, true, l7, l8, l9, false, l11, t52, t53, t54, t55, t56, t57, _, t59, t60, t61, t7, rfl, rfl, h52, h53, h54, h55, h56, h57, fun _ => rfl, h59, h60, h61, h7, fun _ => hC, by simp⟩
        · have hu : l7 = false := hu
          have hls : l10 = false := Bool.eq_false_iff.2 fun e => by have h : l7 = true := hcl 10 _ rfl e 7 (by decide +kernel); rw [hu] at h; cases h
          subst hls
          have hC := hC rfl
          clear hcl
          have y53 := h53 (hd 1 (by decide +kernel))
          subst y53
          have y57 := h57 (hd 5 (by decide +kernel))
          subst y57
          have y58 := h58 (hd 6 (by decide +kernel))
          subst y58
          have hK5 := HM.out w'
          go_simp
          refine hK5.mono ?_
          rintro e w5 ⟨rfl, hb5⟩
          exact hK _ _ ⟨l0, l1, l2, l3, l4, l5, l6, true, l8, l9, false, l11, t52, _, t54, t55, t56, _, _, _, t60, t61, t7, rfl, rfl, h52, fun _ => rfl, h54, h55, h56, fun _ => rfl, fun _ => rfl, fun _ => rfl, h60, h61, h7, fun _ => ⟨b_step hb5 (hC.1), (hC.2.1).below (hC.2.1).lt hb5, (hC.2.2.1).below (hC.2.2.1).lt hb5, (hC.2.2.2.1).below (hC.2.2.2.1).lt hb5, (hC.2.2.2.2.1).below (hC.2.2.2.2.1).lt hb5, (hC.2.2.2.2.2).below (hC.2.2.2.2.2).lt hb5⟩, by simp⟩
        · have hu : l8 = false := hu
          have hls : l10 = false := Bool.eq_false_iff.2 fun e => by have h : l8 = true := hcl 10 _ rfl e 8 (by decide +kernel); rw [hu] at h; cases h
          subst hls
          have hC := hC rfl
          clear hcl
          have y59 := h59 (hd 7 (by decide +kernel))
          subst y59
          go_simp
          exact hK _ _ ⟨l0, l1, l2, l3, l4, l5, l6, l7, true, l9, false, l11, t52, t53, t54, t55, t56, t57, t58, _, _, t61, t7, rfl, rfl, h52, h53, h54, h55, h56, h57, h58, fun _ => rfl, fun _ => rfl, h61, h7, fun _ => hC, by simp⟩
        · have hu : l9 = false := hu
          have hls : l10 = false := Bool.eq_false_iff.2 fun e => by have h : l9 = true := hcl 10 _ rfl e 9 (by decide +kernel); rw [hu] at h; cases h
          subst hls
          have hC := hC rfl
          clear hcl
          have y59 := h59 (hd 7 (by decide +kernel))
          subst y59
          go_simp
          exact hK _ _ ⟨l0, l1, l2, l3, l4, l5, l6, l7, l8, true, false, l11, t52, t53, t54, t55, t56, t57, t58, _, t60, _, t7, rfl, rfl, h52, h53, h54, h55, h56, h57, h58, fun _ => rfl, h60, fun _ => rfl, h7, fun _ => hC, by simp⟩
        · have hu : l10 = false := hu
          subst hu
          have hC := hC rfl
          clear hcl
          have y60 := h60 (hd 8 (by decide +kernel))
          subst y60
          rw [if_pos (by rfl)]
          refine wp_store_row _ _ _ rfl _ _ rfl rfl _ _ (hC.2.2.2.1) sizeDec rfl (dec_one _ _ _) ?_
          exact hK _ _ ⟨l0, l1, l2, l3, l4, l5, l6, l7, l8, l9, true, l11, t52, t53, t54, t55, t56, t57, t58, t59, _, t61, t7, rfl, rfl, h52, h53, h54, h55, h56, h57, h58, h59, fun _ => rfl, h61, h7, by simp, fun _ => ⟨b_row (hC.1) (by omega), (hC.2.1).row_other (by omega), (hC.2.2.1).row_other (by omega), (hC.2.2.2.1).row _, (hC.2.2.2.2.1).row_other (by omega), (hC.2.2.2.2.2).row_other (by omega)⟩⟩
        · have hu : l11 = false := hu
          clear hcl
          have y61 := h61 (hd 9 (by decide +kernel))
          subst y61
          go_simp
          exact hK _ _ ⟨l0, l1, l2, l3, l4, l5, l6, l7, l8, l9, l10, true, t52, t53, t54, t55, t56, t57, t58, t59, t60, _, _, rfl, rfl, h52, h53, h54, h55, h56, h57, h58, h59, h60, fun _ => rfl, fun _ => rfl, hC, hP⟩
end Dc
end Go.Proofs.YthnpbkplcboejaaDoor
