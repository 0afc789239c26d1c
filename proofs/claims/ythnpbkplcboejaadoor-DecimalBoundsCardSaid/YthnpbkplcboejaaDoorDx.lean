/- Decimal: Cmp, Digits. -/
import Derived.Test.YthnpbkplcboejaaDoorDs
set_option linter.unusedSimpArgs false
set_option linter.unusedVariables false
namespace Go.Proofs.YthnpbkplcboejaaDoor
open Go.RowKit Go.Shelf Go.Lib Go.Sort
namespace Dc
def cmpS (a b : V) : Int := if a.neg = true then (if b.neg = true then ord (al b a) (al a b) else -1) else (if b.neg = true then 1 else ord (al a b) (al b a))
theorem two_start (w : World) (A0 A1 A2 B0 B1 B2 : Value) : RowKit.Below w.heap.size w ((w.alloc (.cells #[A0, A1, A2] 23)).alloc (.cells #[B0, B1, B2] 23)) ∧
    Blk ((w.alloc (.cells #[A0, A1, A2] 23)).alloc (.cells #[B0, B1, B2] 23)) w.heap.size #[A0, A1, A2] 23 ∧
    Blk ((w.alloc (.cells #[A0, A1, A2] 23)).alloc (.cells #[B0, B1, B2] 23)) (w.heap.size + 1) #[B0, B1, B2] 23 := by
  have h1 := Blk.new w #[A0, A1, A2] 23
  have h2 := Blk.new (w.alloc (.cells #[A0, A1, A2] 23)) #[B0, B1, B2] 23
  simp only [World.size_alloc, Nat.add_assoc, Nat.reduceAdd] at h2
  exact ⟨b_alloc ((Below.refl _ w).alloc (Nat.le_refl _) _), h1.alloc _, h2⟩
set_option maxRecDepth 100000 in
set_option maxHeartbeats 2000000 in
theorem Cmp_no (d x : D) (hs0 : d.s.size ≤ maxLen) (hs1 : x.s.size ≤ maxLen) (hc : (d.check && x.check) = false) (w : World) :
    Calls Tryd.prog 12 #[d.val, x.val] w fun e w' => e = .returned (.tuple #[.int .i64 0, .int .i64 2]) ∧ RowKit.Below w.heap.size w w' := by
  obtain ⟨hb0, h1, h2⟩ := two_start w (.bool d.neg) (.string d.s) (.int .i64 d.sc) (.bool x.neg) (.string x.s) (.int .i64 x.sc)
  obtain ⟨W0, hW0⟩ : ∃ W0, ((w.alloc (.cells #[.bool d.neg, .string d.s, .int .i64 d.sc] 23)).alloc (.cells #[.bool x.neg, .string x.s, .int .i64 x.sc] 23)) = W0 := ⟨_, rfl⟩
  rw [hW0] at hb0 h1 h2
  obtain ⟨W1, hW1⟩ : ∃ W1, W0.alloc (.cells #[.bool d.neg, .string d.s, .int .i64 d.sc, .bool x.neg, .string x.s, .int .i64 x.sc] 23) = W1 := ⟨_, rfl⟩
  have hb1 := b_alloc (o := .cells #[.bool d.neg, .string d.s, .int .i64 d.sc, .bool x.neg, .string x.s, .int .i64 x.sc] 23) hb0
  have hn := Blk.new W0 #[.bool d.neg, .string d.s, .int .i64 d.sc, .bool x.neg, .string x.s, .int .i64 x.sc] 23
  rw [hW1] at hb1 hn
  have hV := valid2_any d x hs0 hs1 W0.heap.size W1 hn
  rw [hc] at hV
  obtain ⟨a0, a1, a2, _, _, _⟩ := h1.three
  obtain ⟨b0, b1, b2, _, _, _⟩ := h2.three
  rw [d_box, d_box]
  have HB := Lib.hid hb1
  clear hc hs0 hs1 hn hb1 hb0 h1 h2
  go_enter Tryd.func12, Tryd.ntmps12
  go_wp2_with (go_at_call 23; refine hV.mono ?_; first | rintro e5 w5 rfl hb5 | rintro e5 w5 ⟨rfl, hb5⟩)
  go_ret2
  exact ⟨rfl, b_step hb5 HB.out⟩
set_option maxRecDepth 100000 in
set_option maxHeartbeats 8000000 in
theorem Cmp_ok (a b : V) (ha : a.ok) (hb : b.ok) (w : World) :
    Calls Tryd.prog 12 #[a.d.val, b.d.val] w fun e w' => e = .returned (.tuple #[.int .i64 (cmpS a b), .int .i64 0]) ∧ RowKit.Below w.heap.size w w' := by
  have hAl := fun W => aligned_any a b ha hb W
  have hX := al_lt ha hb
  have hY := al_lt hb ha
  have hms : max a.s b.s ≤ 60 := by have := ha.s; have := hb.s; omega
  obtain ⟨m, hm⟩ : ∃ m, max a.s b.s = m := ⟨_, rfl⟩
  obtain ⟨X, hXe⟩ : ∃ X, al a b = X := ⟨_, rfl⟩
  obtain ⟨Y, hYe⟩ : ∃ Y, al b a = Y := ⟨_, rfl⟩
  rw [hXe] at hX
  rw [hYe] at hY
  rw [hm] at hms
  rw [hXe, hYe, hm] at hAl
  rw [V.d_val, V.d_val] at hAl
  have h120 : 10 ^ 120 + 10 ^ 120 < 10 ^ 180 := by decide
  have hpw : pw 20 = 10 ^ 180 := pw20
  have hC1 := fun W => compare_any X Y (by omega) (by omega) W
  have hC2 := fun W => compare_any Y X (by omega) (by omega) W
  have hrs : cmpS a b = if a.neg = true then (if b.neg = true then ord Y X else -1) else (if b.neg = true then 1 else ord X Y) := by unfold cmpS; rw [hXe, hYe]
  obtain ⟨r, hr⟩ : ∃ r, cmpS a b = r := ⟨_, rfl⟩
  rw [hr] at hrs ⊢
  have HR := Lib.hid hrs
  have hz := zeroNum
  have HAl := Lib.hid hAl
  have HC1 := Lib.hid hC1
  have HC2 := Lib.hid hC2
  clear hAl hC1 hC2 hX hY hms hXe hYe hm h120 hpw hrs hr
  obtain ⟨hb0, h1, h2⟩ := two_start w (.bool a.neg) (.string (decB a.n)) (.int .i64 (a.s : Int)) (.bool b.neg) (.string (decB b.n)) (.int .i64 (b.s : Int))
  obtain ⟨W0, hW0⟩ : ∃ W0, ((w.alloc (.cells #[.bool a.neg, .string (decB a.n), .int .i64 (a.s : Int)] 23)).alloc (.cells #[.bool b.neg, .string (decB b.n), .int .i64 (b.s : Int)] 23)) = W0 := ⟨_, rfl⟩
  rw [hW0] at hb0 h1 h2
  obtain ⟨W1, hW1⟩ : ∃ W1, W0.alloc (.cells #[.bool a.neg, .string (decB a.n), .int .i64 (a.s : Int), .bool b.neg, .string (decB b.n), .int .i64 (b.s : Int)] 23) = W1 := ⟨_, rfl⟩
  have hb1 := b_alloc (o := .cells #[.bool a.neg, .string (decB a.n), .int .i64 (a.s : Int), .bool b.neg, .string (decB b.n), .int .i64 (b.s : Int)] 23) hb0
  have hn := Blk.new W0 #[.bool a.neg, .string (decB a.n), .int .i64 (a.s : Int), .bool b.neg, .string (decB b.n), .int .i64 (b.s : Int)] 23
  have h1' := h1.alloc (.cells #[.bool a.neg, .string (decB a.n), .int .i64 (a.s : Int), .bool b.neg, .string (decB b.n), .int .i64 (b.s : Int)] 23)
  have h2' := h2.alloc (.cells #[.bool a.neg, .string (decB a.n), .int .i64 (a.s : Int), .bool b.neg, .string (decB b.n), .int .i64 (b.s : Int)] 23)
  rw [hW1] at hb1 hn h1' h2'
  have hV := valid2_any a.d b.d (by have := ha.len; show (decB a.n).size ≤ _; unfold maxLen; omega) (by have := hb.len; show (decB b.n).size ≤ _; unfold maxLen; omega) W0.heap.size W1 hn
  rw [V.check ha, V.check hb] at hV
  have hsz0 : w.heap.size + 2 ≤ W1.heap.size := by have := h2'.lt; omega
  obtain ⟨a0, a1, a2, _, _, _⟩ := h1.three
  obtain ⟨b0, b1, b2, _, _, _⟩ := h2.three
  rw [V.d_val, V.d_val]
  have HS1 : Hid (RowKit.Below w.heap.size w W1 ∧ Blk W1 (w.heap.size) (#[.bool a.neg, .string (decB a.n), .int .i64 (a.s : Int)]) 23 ∧ Blk W1 (w.heap.size + 1) (#[.bool b.neg, .string (decB b.n), .int .i64 (b.s : Int)]) 23) := ⟨hb1, h1', h2'⟩
  clear hn hb1 hb0 h1 h2 h1' h2' ha hb
  go_enter Tryd.func12, Tryd.ntmps12
  go_wp2_with (go_at_call 23; refine hV.mono ?_)
  first | rintro e5 w5 rfl hb5 | rintro e5 w5 ⟨rfl, hb5⟩
  have hS5 : RowKit.Below w.heap.size w w5 ∧ Blk w5 (w.heap.size) (#[.bool a.neg, .string (decB a.n), .int .i64 (a.s : Int)]) 23 ∧ Blk w5 (w.heap.size + 1) (#[.bool b.neg, .string (decB b.n), .int .i64 (b.s : Int)]) 23 := ⟨b_step hb5 (HS1.out.1), (HS1.out.2.1).below (HS1.out.2.1).lt hb5, (HS1.out.2.2).below (HS1.out.2.2).lt hb5⟩
  have hsz5 : w.heap.size + 2 ≤ w5.heap.size := Nat.le_trans hsz0 hb5.size
  clear a0 a1 a2 b0 b1 b2 hb5 hW0 hW1 hV HS1 hsz0
  obtain ⟨a0, a1, a2, _, _, _⟩ := hS5.2.1.three
  obtain ⟨b0, b1, b2, _, _, _⟩ := hS5.2.2.three
  go_wp2_with (go_at_call 32; refine (HAl.out _).mono ?_)
  first | rintro e6 w6 rfl hb6 | rintro e6 w6 ⟨rfl, hb6⟩
  have hS6 : RowKit.Below w.heap.size w w6 ∧ Blk w6 (w.heap.size) (#[.bool a.neg, .string (decB a.n), .int .i64 (a.s : Int)]) 23 ∧ Blk w6 (w.heap.size + 1) (#[.bool b.neg, .string (decB b.n), .int .i64 (b.s : Int)]) 23 := ⟨b_step hb6 (hS5.1), (hS5.2.1).below (hS5.2.1).lt hb6, (hS5.2.2).below (hS5.2.2).lt hb6⟩
  have hsz6 : w.heap.size + 2 ≤ w6.heap.size := Nat.le_trans hsz5 hb6.size
  clear a0 a1 a2 b0 b1 b2 hb6 hS5
  obtain ⟨W7, hW7⟩ : ∃ W7, (w6.alloc (.cells (arr fun _ => 0) 56)).alloc (.cells (arr fun _ => 0) 56) = W7 := ⟨_, rfl⟩
  obtain ⟨bx, hbx⟩ : ∃ bx, w6.heap.size = bx := ⟨_, rfl⟩
  have hx0 : Blk W7 bx (arr fun _ => 0) 56 := by rw [← hW7, ← hbx]; exact (Blk.new w6 _ _).alloc _
  have hy0 : Blk W7 (bx + 1) (arr fun _ => 0) 56 := by
    rw [← hW7, ← hbx]
    have := Blk.new (w6.alloc (.cells (arr fun _ => 0) 56)) (arr fun _ => 0) 56
    rw [World.size_alloc] at this; exact this
  have hb7 : RowKit.Below w6.heap.size w6 W7 := by rw [← hW7]; exact b_alloc ((Below.refl _ w6).alloc (Nat.le_refl _) _)
  have hS7 : RowKit.Below w.heap.size w W7 ∧ Blk W7 (w.heap.size) (#[.bool a.neg, .string (decB a.n), .int .i64 (a.s : Int)]) 23 ∧ Blk W7 (w.heap.size + 1) (#[.bool b.neg, .string (decB b.n), .int .i64 (b.s : Int)]) 23 := ⟨b_step hb7 (hS6.1), (hS6.2.1).below (hS6.2.1).lt hb7, (hS6.2.2).below (hS6.2.2).lt hb7⟩
  have hy1 : Blk (W7.setRow bx (arr (numF X))) (bx + 1) (arr fun _ => 0) 56 := hy0.row_other (by omega)
  rw [hbx] at hsz6
  have hS8 : RowKit.Below w.heap.size w ((W7.setRow bx (arr (numF X))).setRow (bx + 1) (arr (numF Y))) ∧ Blk ((W7.setRow bx (arr (numF X))).setRow (bx + 1) (arr (numF Y))) (w.heap.size) (#[.bool a.neg, .string (decB a.n), .int .i64 (a.s : Int)]) 23 ∧ Blk ((W7.setRow bx (arr (numF X))).setRow (bx + 1) (arr (numF Y))) (w.heap.size + 1) (#[.bool b.neg, .string (decB b.n), .int .i64 (b.s : Int)]) 23 ∧ Blk ((W7.setRow bx (arr (numF X))).setRow (bx + 1) (arr (numF Y))) (bx) (arr (numF X)) 56 ∧ Blk ((W7.setRow bx (arr (numF X))).setRow (bx + 1) (arr (numF Y))) (bx + 1) (arr (numF Y)) 56 :=
    ⟨b_row (b_row hS7.1 (by omega)) (by omega), (hS7.2.1.row_other (by omega)).row_other (by omega), (hS7.2.2.row_other (by omega)).row_other (by omega), (hx0.row _).row_other (by omega), hy1.row _⟩
  obtain ⟨W8, hW8⟩ : ∃ W8, ((W7.setRow bx (arr (numF X))).setRow (bx + 1) (arr (numF Y))) = W8 := ⟨_, rfl⟩
  rw [hW8] at hS8
  clear hS6 hS7 hb7
  obtain ⟨a0, a1, a2, _, _, _⟩ := hS8.2.1.three
  obtain ⟨b0, b1, b2, _, _, _⟩ := hS8.2.2.1.three
  have HB8 := Lib.hid hS8.1
  have hX8 := hS8.2.2.2.1
  have hY8 := hS8.2.2.2.2
  clear hS8
  cases han : a.neg
  · rw [han] at a0
    cases hbn : b.neg
    · rw [hbn] at b0
      have hr2 : Hid (r = ord X Y) := by show _ = _; rw [HR.out, han, hbn]; rfl
      clear han hbn
      clear HR
      go_wp2_with (first | refine wpList_store_row rfl _ _ _ rfl _ _ rfl rfl _ _ hx0 (sizeNum _) (by rw [arr_size, arr_size]) (arr_one _) ?_ | refine wpList_store_row rfl _ _ _ rfl _ _ rfl rfl _ _ hy1 (sizeNum _) (by rw [arr_size, arr_size]) (arr_one _) ?_ | refine wpList_load_row rfl _ _ rfl _ rfl _ _ _ _ hX8 underNum rfl (sizeNum _) ?_ | refine wpList_load_row rfl _ _ rfl _ rfl _ _ _ _ hY8 underNum rfl (sizeNum _) ?_ | (go_at_call 33; refine (HC1.out _).mono ?_; first | rintro e9 w9 rfl hb9 | rintro e9 w9 ⟨rfl, hb9⟩))
      go_ret2
      exact ⟨by rw [hr2.out]; rfl, b_step hb9 HB8.out⟩
    · rw [hbn] at b0
      have hr2 : Hid (r = 1) := by show _ = _; rw [HR.out, han, hbn]; rfl
      clear han hbn
      clear HR
      go_wp2_with (first | refine wpList_store_row rfl _ _ _ rfl _ _ rfl rfl _ _ hx0 (sizeNum _) (by rw [arr_size, arr_size]) (arr_one _) ?_ | refine wpList_store_row rfl _ _ _ rfl _ _ rfl rfl _ _ hy1 (sizeNum _) (by rw [arr_size, arr_size]) (arr_one _) ?_ | refine wpList_load_row rfl _ _ rfl _ rfl _ _ _ _ hX8 underNum rfl (sizeNum _) ?_ | refine wpList_load_row rfl _ _ rfl _ rfl _ _ _ _ hY8 underNum rfl (sizeNum _) ?_)
      go_ret2
      exact ⟨by rw [hr2.out]; rfl, HB8.out⟩
  · rw [han] at a0
    cases hbn : b.neg
    · rw [hbn] at b0
      have hr2 : Hid (r = -1) := by show _ = _; rw [HR.out, han, hbn]; rfl
      clear han hbn
      clear HR
      go_wp2_with (first | refine wpList_store_row rfl _ _ _ rfl _ _ rfl rfl _ _ hx0 (sizeNum _) (by rw [arr_size, arr_size]) (arr_one _) ?_ | refine wpList_store_row rfl _ _ _ rfl _ _ rfl rfl _ _ hy1 (sizeNum _) (by rw [arr_size, arr_size]) (arr_one _) ?_ | refine wpList_load_row rfl _ _ rfl _ rfl _ _ _ _ hX8 underNum rfl (sizeNum _) ?_ | refine wpList_load_row rfl _ _ rfl _ rfl _ _ _ _ hY8 underNum rfl (sizeNum _) ?_)
      go_ret2
      exact ⟨by rw [hr2.out]; rfl, HB8.out⟩
    · rw [hbn] at b0
      have hr2 : Hid (r = ord Y X) := by show _ = _; rw [HR.out, han, hbn]; rfl
      clear han hbn
      clear HR
      go_wp2_with (first | refine wpList_store_row rfl _ _ _ rfl _ _ rfl rfl _ _ hx0 (sizeNum _) (by rw [arr_size, arr_size]) (arr_one _) ?_ | refine wpList_store_row rfl _ _ _ rfl _ _ rfl rfl _ _ hy1 (sizeNum _) (by rw [arr_size, arr_size]) (arr_one _) ?_ | refine wpList_load_row rfl _ _ rfl _ rfl _ _ _ _ hX8 underNum rfl (sizeNum _) ?_ | refine wpList_load_row rfl _ _ rfl _ rfl _ _ _ _ hY8 underNum rfl (sizeNum _) ?_ | (go_at_call 33; refine (HC2.out _).mono ?_; first | rintro e9 w9 rfl hb9 | rintro e9 w9 ⟨rfl, hb9⟩))
      go_ret2
      exact ⟨by rw [hr2.out]; rfl, b_step hb9 HB8.out⟩
set_option maxRecDepth 100000 in
set_option maxHeartbeats 2000000 in
theorem Digits_no (d : D) (hs : d.s.size ≤ maxLen) (hc : d.check = false) (w : World) :
    Calls Tryd.prog 20 #[d.val] w fun e w' => e = .returned (.tuple #[.int .i64 0, .int .i64 0, .int .i64 2]) ∧ RowKit.Below w.heap.size w w' := by
  obtain ⟨W1, hW1⟩ : ∃ W1, (w.alloc (.cells #[.bool d.neg, .string d.s, .int .i64 d.sc] 23)).alloc (.cells #[.bool d.neg, .string d.s, .int .i64 d.sc] 23) = W1 := ⟨_, rfl⟩
  obtain ⟨hb1, _, hB1⟩ := two_start w (.bool d.neg) (.string d.s) (.int .i64 d.sc) (.bool d.neg) (.string d.s) (.int .i64 d.sc)
  rw [hW1] at hb1 hB1
  have hV := valid1_any d hs _ W1 hB1
  rw [hc] at hV
  rw [d_box]
  have HB := Lib.hid hb1
  clear hc hs hB1 hb1
  go_enter Tryd.func20, Tryd.ntmps20
  go_wp2_with (go_at_call 23; refine hV.mono ?_; first | rintro e5 w5 rfl hb5 | rintro e5 w5 ⟨rfl, hb5⟩)
  go_ret3
  exact ⟨rfl, b_step hb5 HB.out⟩
set_option maxRecDepth 100000 in
set_option maxHeartbeats 2000000 in
theorem Digits_ok (v : V) (hv : v.ok) (w : World) :
    Calls Tryd.prog 20 #[v.d.val] w fun e w' => e = .returned (.tuple #[.int .i64 ((max v.s (dec v.n).length : Nat) : Int), .int .i64 (v.s : Int), .int .i64 0]) ∧ RowKit.Below w.heap.size w w' := by
  have hlen := hv.len
  have hlen2 : (decB v.n).size = (dec v.n).length := decB_size _
  obtain ⟨W1, hW1⟩ : ∃ W1, (w.alloc (.cells #[.bool v.neg, .string (decB v.n), .int .i64 (v.s : Int)] 23)).alloc (.cells #[.bool v.neg, .string (decB v.n), .int .i64 (v.s : Int)] 23) = W1 := ⟨_, rfl⟩
  obtain ⟨hb1, hB0, hB1⟩ := two_start w (.bool v.neg) (.string (decB v.n)) (.int .i64 (v.s : Int)) (.bool v.neg) (.string (decB v.n)) (.int .i64 (v.s : Int))
  rw [hW1] at hb1 hB0 hB1
  have hV := valid1_any v.d (by show (decB v.n).size ≤ _; unfold maxLen; omega) _ W1 hB1
  rw [V.check hv] at hV
  rw [V.d_val]
  obtain ⟨dg, hdg⟩ : ∃ dg, decB v.n = dg := ⟨_, rfl⟩
  rw [hdg] at hW1 hB0 hlen hlen2 ⊢
  obtain ⟨m, hm⟩ : ∃ m, max v.s dg.size = m := ⟨_, rfl⟩
  have hmx : max (v.s : Int) (dg.size : Int) = (m : Int) := by omega
  have hres : Hid (max v.s (dec v.n).length = m) := by show _ = _; rw [← hlen2]; exact hm
  have HB := Lib.hid hb1
  have HBl := Lib.hid hB0
  clear hv hlen hlen2 hB1 hb1 hB0 hdg hm
  go_enter Tryd.func20, Tryd.ntmps20
  go_wp2_with (go_at_call 23; refine hV.mono ?_)
  first | rintro e5 w5 rfl hb5 | rintro e5 w5 ⟨rfl, hb5⟩
  have hB5 := HBl.out.below HBl.out.lt hb5
  obtain ⟨c0, c1, c2, f0, f1, f2⟩ := hB5.three
  have HB5 := Lib.hid (b_step hb5 HB.out)
  clear hb5 hW1 hV
  go_wp2
  go_region
  all_goals
    go_wp2
    go_ret3
    exact ⟨by rw [hres.out]; rfl, b_drew HB5.out⟩
end Dc
end Go.Proofs.YthnpbkplcboejaaDoor
