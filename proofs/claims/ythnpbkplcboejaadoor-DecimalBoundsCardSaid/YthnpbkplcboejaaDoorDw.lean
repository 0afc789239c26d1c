/- Decimal: Round. -/
import Derived.Test.YthnpbkplcboejaaDoorDx
import Derived.Deep.DeepCutAuto
set_option linter.unusedSimpArgs false
set_option linter.unusedVariables false
namespace Go.Proofs.YthnpbkplcboejaaDoor
open Go.RowKit Go.Shelf Go.Lib Go.Sort
namespace Dc
/-- Is a quotient rounded up? -/
def upB (q l u : Nat) : Bool := decide (u < l + l) || (decide (l + l = u) && decide (q % 2 = 1))
def roundS (a : V) (sc : Nat) : R :=
  if a.s ≤ sc then .ok a else mk a.neg (a.n / 10 ^ (a.s - sc) + (if upB (a.n / 10 ^ (a.s - sc)) (a.n % 10 ^ (a.s - sc)) (10 ^ (a.s - sc)) = true then 1 else 0)) sc
theorem isScale_yes (sc : Nat) (h : sc ≤ 60) (W : World) : Calls Tryd.prog 18 #[.int .i64 (sc : Int)] W fun e w' => e = .returned (.bool true) ∧ W = w' := by
  have h2 := isScale_any (sc : Int) W
  have e : scB (sc : Int) = true := by unfold scB; simp; omega
  rw [e] at h2; exact h2
set_option maxRecDepth 100000 in
set_option maxHeartbeats 40000000 in
theorem Round_same (a : V) (ha : a.ok) (sc : Nat) (hsc : sc ≤ 60) (hle : a.s ≤ sc) (w : World) :
    Calls Tryd.prog 16 #[a.d.val, .int .i64 (sc : Int)] w fun e w' => e = .returned (R.ok a).val ∧ RowKit.Below w.heap.size w w' := by
  have hSc := isScale_yes sc hsc
  have has := ha.s
  obtain ⟨hb0, h1, h2⟩ := two_start w (.bool a.neg) (.string (decB a.n)) (.int .i64 (a.s : Int)) (.bool false) (.string ⟨#[]⟩) (.int .i64 0)
  obtain ⟨W0, hW0⟩ : ∃ W0, ((w.alloc (.cells #[.bool a.neg, .string (decB a.n), .int .i64 (a.s : Int)] 23)).alloc (.cells #[.bool false, .string ⟨#[]⟩, .int .i64 0] 23)) = W0 := ⟨_, rfl⟩
  rw [hW0] at hb0 h1 h2
  obtain ⟨W1, hW1⟩ : ∃ W1, W0.alloc (.cells #[.bool a.neg, .string (decB a.n), .int .i64 (a.s : Int)] 23) = W1 := ⟨_, rfl⟩
  have hb1 := b_alloc (o := .cells #[.bool a.neg, .string (decB a.n), .int .i64 (a.s : Int)] 23) hb0
  have hn := Blk.new W0 #[.bool a.neg, .string (decB a.n), .int .i64 (a.s : Int)] 23
  have h1' := h1.alloc (.cells #[.bool a.neg, .string (decB a.n), .int .i64 (a.s : Int)] 23)
  have h2' := h2.alloc (.cells #[.bool a.neg, .string (decB a.n), .int .i64 (a.s : Int)] 23)
  rw [hW1] at hb1 hn h1' h2'
  have hV := valid1_any a.d (by have := ha.len; show (decB a.n).size ≤ _; unfold maxLen; omega) W0.heap.size W1 hn
  rw [V.check ha] at hV
  have hsz0 : w.heap.size + 2 ≤ W1.heap.size := by have := h2'.lt; omega
  obtain ⟨a0, a1, a2, _, _, _⟩ := h1.three
  rw [V.d_val]
  have HS1 : Hid (RowKit.Below w.heap.size w W1 ∧ Blk W1 (w.heap.size) (#[.bool a.neg, .string (decB a.n), .int .i64 (a.s : Int)]) 23 ∧ Blk W1 (w.heap.size + 1) (#[.bool false, .string ⟨#[]⟩, .int .i64 0]) 23) := ⟨hb1, h1', h2'⟩
  clear hn hb1 hb0 h1 h2 h1' h2' ha
  go_enter Tryd.func16, Tryd.ntmps16
  go_wp2_with (go_at_call 23; refine hV.mono ?_)
  first | rintro e5 w5 rfl hb5 | rintro e5 w5 ⟨rfl, hb5⟩
  have hS5 : RowKit.Below w.heap.size w w5 ∧ Blk w5 (w.heap.size) (#[.bool a.neg, .string (decB a.n), .int .i64 (a.s : Int)]) 23 ∧ Blk w5 (w.heap.size + 1) (#[.bool false, .string ⟨#[]⟩, .int .i64 0]) 23 := ⟨b_step hb5 (HS1.out.1), (HS1.out.2.1).below (HS1.out.2.1).lt hb5, (HS1.out.2.2).below (HS1.out.2.2).lt hb5⟩
  have hsz5 : w.heap.size + 2 ≤ w5.heap.size := Nat.le_trans hsz0 hb5.size
  clear a0 a1 a2 hb5 hW0 hW1 hV HS1 hsz0
  obtain ⟨a0, a1, a2, _, _, _⟩ := hS5.2.1.three
  obtain ⟨r0, r1, r2, f0, f1, f2⟩ := hS5.2.2.three
  have hge : (a.s : Int) ≤ (sc : Int) := by omega
  have HB := Lib.hid hS5.1
  have HBl := Lib.hid hS5.2.2
  clear hS5
  go_wp2_with (go_at_call 18; refine (hSc _).mono ?_; rintro e w' ⟨rfl, rfl⟩)
  refine bodyPost_ret (v := (R.ok a).val) (results_row_slot (by rfl) _ _ _ _ _ _ (by rfl) (HBl.out.set3 _ _ _) (by rfl)) rfl ⟨rfl, b_set3 HB.out (by omega) _ _ _⟩
set_option maxRecDepth 100000 in
set_option maxHeartbeats 40000000 in
theorem Round_ok (a : V) (ha : a.ok) (sc : Nat) (hsc : sc ≤ 60) (hle : ¬ a.s ≤ sc) (w : World) :
    Calls Tryd.prog 16 #[a.d.val, .int .i64 (sc : Int)] w fun e w' => e = .returned (roundS a sc).val ∧ RowKit.Below w.heap.size w w' := by
  have hSc := isScale_yes sc hsc
  have has := ha.s
  obtain ⟨hb0, h1, h2⟩ := two_start w (.bool a.neg) (.string (decB a.n)) (.int .i64 (a.s : Int)) (.bool false) (.string ⟨#[]⟩) (.int .i64 0)
  obtain ⟨W0, hW0⟩ : ∃ W0, ((w.alloc (.cells #[.bool a.neg, .string (decB a.n), .int .i64 (a.s : Int)] 23)).alloc (.cells #[.bool false, .string ⟨#[]⟩, .int .i64 0] 23)) = W0 := ⟨_, rfl⟩
  rw [hW0] at hb0 h1 h2
  obtain ⟨W1, hW1⟩ : ∃ W1, W0.alloc (.cells #[.bool a.neg, .string (decB a.n), .int .i64 (a.s : Int)] 23) = W1 := ⟨_, rfl⟩
  have hb1 := b_alloc (o := .cells #[.bool a.neg, .string (decB a.n), .int .i64 (a.s : Int)] 23) hb0
  have hn := Blk.new W0 #[.bool a.neg, .string (decB a.n), .int .i64 (a.s : Int)] 23
  have h1' := h1.alloc (.cells #[.bool a.neg, .string (decB a.n), .int .i64 (a.s : Int)] 23)
  have h2' := h2.alloc (.cells #[.bool a.neg, .string (decB a.n), .int .i64 (a.s : Int)] 23)
  rw [hW1] at hb1 hn h1' h2'
  have hV := valid1_any a.d (by have := ha.len; show (decB a.n).size ≤ _; unfold maxLen; omega) W0.heap.size W1 hn
  rw [V.check ha] at hV
  have hsz0 : w.heap.size + 2 ≤ W1.heap.size := by have := h2'.lt; omega
  obtain ⟨a0, a1, a2, _, _, _⟩ := h1.three
  have hpw : pw 20 = 10 ^ 180 := pw20
  obtain ⟨k, hk⟩ : ∃ k, a.s - sc = k := ⟨_, rfl⟩
  have hkk : (a.s : Int) - (sc : Int) = (k : Int) := by omega
  have hu60 : 10 ^ k ≤ 10 ^ 60 := Nat.pow_le_pow_right (by decide) (by omega)
  have hup : 0 < 10 ^ k := Nat.pow_pos (by decide)
  have hrs : roundS a sc = mk a.neg (a.n / 10 ^ k + (if upB (a.n / 10 ^ k) (a.n % 10 ^ k) (10 ^ k) = true then 1 else 0)) sc := by unfold roundS; rw [if_neg hle, hk]
  have n1 := fun W => numberOf_dec a.n ha.n W
  have p1 := fun W => power_any k (by omega) W
  have hn60 := ha.n
  obtain ⟨u, hu⟩ : ∃ u, 10 ^ k = u := ⟨_, rfl⟩
  rw [hu] at hrs hu60 hup p1
  have hpg : 10 ^ 60 < pw 20 := by rw [hpw]; decide
  have hpg2 : 1000000000 * 10 ^ 60 < pw 20 := by rw [hpw]; decide
  have hpg3 : 10 ^ 60 + 10 ^ 60 + 1 < pw 20 := by rw [hpw]; decide
  have o1 := fun W => over_any a.n u (by omega) hup (by omega) W
  obtain ⟨q, hq⟩ : ∃ q, a.n / u = q := ⟨_, rfl⟩
  obtain ⟨l, hl⟩ : ∃ l, a.n % u = l := ⟨_, rfl⟩
  have hql : q ≤ a.n := by rw [← hq]; exact Nat.div_le_self _ _
  have hll : l < u := by rw [← hl]; exact Nat.mod_lt _ hup
  rw [hq, hl] at hrs o1
  have l1 := fun W => plus_any l l (by omega) W
  have c1 := fun W => compare_any (l + l) u (by omega) (by omega) W
  have q1 := fun W => plus_any q 1 (by omega) W
  obtain ⟨up, hupe⟩ : ∃ up, upB q l u = up := ⟨_, rfl⟩
  rw [hupe] at hrs
  obtain ⟨Rq, hRq⟩ : ∃ Rq, q + (if up = true then 1 else 0) = Rq := ⟨_, rfl⟩
  rw [hRq] at hrs
  have hRq1 : Rq ≤ q + 1 := by rw [← hRq]; split <;> omega
  have m1 := fun W => made_num a.neg Rq sc (by rw [← hpw]; omega) (by omega) W
  obtain ⟨r, hr⟩ : ∃ r, roundS a sc = r := ⟨_, rfl⟩
  rw [← hrs, hr] at m1
  rw [hr]
  rw [R.val_eq] at m1
  obtain ⟨hf, hhf⟩ : ∃ hf, ord (l + l) u = hf := ⟨_, rfl⟩
  rw [hhf] at c1
  obtain ⟨L2, hL2⟩ : ∃ L2, l + l = L2 := ⟨_, rfl⟩
  rw [hL2] at l1 c1
  have hlt0 : (a.s : Int) ≤ (sc : Int) ↔ False := by constructor; intro h; omega; intro h; cases h
  have hlt1 : ¬ (a.s : Int) ≤ (sc : Int) := by omega
  have N1 := Lib.hid n1
  have P1 := Lib.hid p1
  have O1 := Lib.hid o1
  have L1 := Lib.hid l1
  have C1 := Lib.hid c1
  have Q1 := Lib.hid q1
  have M1 := Lib.hid m1
  have HF := Lib.hid hhf
  have HU := Lib.hid hupe
  have HRQ := Lib.hid hRq
  have HL2 := Lib.hid hL2
  have hz := zeroNum
  clear hpw hk hu60 hup hrs n1 p1 hn60 hu hpg hpg2 hpg3 o1 hq hl hql hll l1 c1 q1 hupe hRq hRq1 m1 hr hhf hL2 hlt0 hle
  rw [V.d_val]
  have HS1 : Hid (RowKit.Below w.heap.size w W1 ∧ Blk W1 (w.heap.size) (#[.bool a.neg, .string (decB a.n), .int .i64 (a.s : Int)]) 23 ∧ Blk W1 (w.heap.size + 1) (#[.bool false, .string ⟨#[]⟩, .int .i64 0]) 23) := ⟨hb1, h1', h2'⟩
  clear hn hb1 hb0 h1 h2 h1' h2' ha
  go_enter Tryd.func16, Tryd.ntmps16
  go_wp2_with (go_at_call 23; refine hV.mono ?_)
  first | rintro e5 w5 rfl hb5 | rintro e5 w5 ⟨rfl, hb5⟩
  have hS5 : RowKit.Below w.heap.size w w5 ∧ Blk w5 (w.heap.size) (#[.bool a.neg, .string (decB a.n), .int .i64 (a.s : Int)]) 23 ∧ Blk w5 (w.heap.size + 1) (#[.bool false, .string ⟨#[]⟩, .int .i64 0]) 23 := ⟨b_step hb5 (HS1.out.1), (HS1.out.2.1).below (HS1.out.2.1).lt hb5, (HS1.out.2.2).below (HS1.out.2.2).lt hb5⟩
  have hsz5 : w.heap.size + 2 ≤ w5.heap.size := Nat.le_trans hsz0 hb5.size
  clear a0 a1 a2 hb5 hW0 hW1 hV HS1 hsz0
  obtain ⟨a0, a1, a2, _, _, _⟩ := hS5.2.1.three
  go_wp2_with (first | (go_at_call 18; refine (hSc _).mono ?_; rintro e w' ⟨rfl, rfl⟩) | (go_at_call 34; refine (P1.out _).mono ?_))
  first | rintro e6 w6 rfl hb6 | rintro e6 w6 ⟨rfl, hb6⟩
  have hS6 : RowKit.Below w.heap.size w w6 ∧ Blk w6 (w.heap.size) (#[.bool a.neg, .string (decB a.n), .int .i64 (a.s : Int)]) 23 ∧ Blk w6 (w.heap.size + 1) (#[.bool false, .string ⟨#[]⟩, .int .i64 0]) 23 := ⟨b_step hb6 (hS5.1), (hS5.2.1).below (hS5.2.1).lt hb6, (hS5.2.2).below (hS5.2.2).lt hb6⟩
  have hsz6 : w.heap.size + 2 ≤ w6.heap.size := Nat.le_trans hsz5 hb6.size
  clear a0 a1 a2 hb6 hS5
  obtain ⟨W7, hW7⟩ : ∃ W7, w6.alloc (.cells (arr fun _ => 0) 56) = W7 := ⟨_, rfl⟩
  obtain ⟨bu, hbu⟩ : ∃ bu, w6.heap.size = bu := ⟨_, rfl⟩
  have hx0 : Blk W7 bu (arr fun _ => 0) 56 := by rw [← hW7, ← hbu]; exact Blk.new w6 _ _
  have hb7 : RowKit.Below w6.heap.size w6 W7 := by rw [← hW7]; exact (Below.refl _ w6).alloc (Nat.le_refl _) _
  have hS7 : RowKit.Below w.heap.size w W7 ∧ Blk W7 (w.heap.size) (#[.bool a.neg, .string (decB a.n), .int .i64 (a.s : Int)]) 23 ∧ Blk W7 (w.heap.size + 1) (#[.bool false, .string ⟨#[]⟩, .int .i64 0]) 23 := ⟨b_step hb7 (hS6.1), (hS6.2.1).below (hS6.2.1).lt hb7, (hS6.2.2).below (hS6.2.2).lt hb7⟩
  rw [hbu] at hsz6
  obtain ⟨W8, hW8⟩ : ∃ W8, W7.setRow bu (arr (numF u)) = W8 := ⟨_, rfl⟩
  obtain ⟨hB0, G0, G1, G2⟩ : RowKit.Below w.heap.size w W8.drew ∧ Blk W8.drew w.heap.size (#[.bool a.neg, .string (decB a.n), .int .i64 (a.s : Int)]) 23 ∧ Blk W8.drew (w.heap.size + 1) (#[.bool false, .string ⟨#[]⟩, .int .i64 0]) 23 ∧ Blk W8.drew bu (arr (numF u)) 56 := by
    rw [← hW8]; exact ⟨b_drew (b_row hS7.1 (by omega)), hS7.2.1.row_other (by omega), hS7.2.2.row_other (by omega), hx0.row _⟩
  clear hS6 hS7 hb7
  go_wp2_with (refine wpList_store_row rfl _ _ _ rfl _ _ rfl rfl _ _ hx0 (sizeNum _) (by rw [arr_size, arr_size]) (arr_one _) ?_)
  simp only [hW8, Act.put, Nat.add_assoc, Nat.reduceAdd]
  clear hx0 hW7 hW8 hz
  refine region_inv (fun ls a' w' => ∃ (l0 l1 l2 l3 l4 l5 l6 l7 l8 l9 l10 l11 : Bool) (t31 t32 t33 t34 t35 t30 t36 t37 t7 t8 : Value), ∃ (bq bl : Nat), ls = [l0, l1, l2, l3, l4, l5, l6, l7, l8, l9, l10, l11] ∧ a' = { tmps := #[Value.agg #[Value.bool a.neg, Value.string (decB a.n), Value.int IntKind.i64 ↑a.s], Value.int IntKind.i64 ↑sc, Value.pointer (some { block := w.heap.size, off := 0 }), undef, Value.pointer (some { block := w.heap.size + 1, off := 0 }), Value.int IntKind.i64 0, Value.pointer (some { block := bu, off := 0 }), t7, t8, undef, Value.agg #[Value.bool a.neg, Value.string (decB a.n), Value.int IntKind.i64 ↑a.s], Value.slice (some { block := W0.heap.size, off := 0 }) 1 1, Value.bool true, Value.bool false, Value.bool false, Value.int IntKind.i64 ↑sc, Value.bool true, Value.bool false, Value.bool false, undef, Value.int IntKind.i64 ↑sc, Value.pointer (some { block := w.heap.size, off := 2 }), Value.int IntKind.i64 ↑a.s, Value.bool false, undef, Value.pointer (some { block := w.heap.size, off := 2 }), Value.int IntKind.i64 ↑a.s, Value.int IntKind.i64 ↑sc, Value.int IntKind.i64 ↑k, Value.agg (arr (numF u)), t30, t31, t32, t33, t34, t35, t36, t37, undef, undef, undef, undef, undef, undef, undef, undef, undef, undef, undef, undef, undef, undef, undef, undef, undef, undef, undef, undef, undef, undef, undef, undef, undef, undef, undef, undef], defers := [] } ∧ (l0 = true → t31 = Value.pointer (some ⟨w.heap.size, 1, none⟩)) ∧ (l1 = true → t32 = Value.string (decB a.n)) ∧ (l2 = true → t33 = Value.agg (arr (numF a.n))) ∧ (l3 = true → t34 = Value.agg (arr (numF u))) ∧ (l4 = true → t35 = Value.tuple #[.agg (arr (numF q)), .agg (arr (numF l))]) ∧ (l5 = true → t30 = Value.tuple #[.agg (arr (numF q)), .agg (arr (numF l))]) ∧ (l6 = true → t36 = Value.agg (arr (numF q))) ∧ (l7 = true → t37 = Value.agg (arr (numF l))) ∧ RowKit.Below w.heap.size w w' ∧ Blk w' (w.heap.size) (#[.bool a.neg, .string (decB a.n), .int .i64 (a.s : Int)]) (23) ∧ Blk w' (w.heap.size + 1) (#[.bool false, .string ⟨#[]⟩, .int .i64 0]) (23) ∧ Blk w' (bu) (arr (numF u)) (56) ∧ (l8 = true → t7 = Value.pointer (some ⟨bq, 0, none⟩) ∧ bu + 1 ≤ bq ∧ Blk w' bq (cond l10 (arr (numF q)) (arr fun _ => 0)) (56)) ∧ (l9 = true → t8 = Value.pointer (some ⟨bl, 0, none⟩) ∧ bu + 1 ≤ bl ∧ Blk w' bl (cond l11 (arr (numF l)) (arr fun _ => 0)) (56)) ∧ (l8 = true → l9 = true → bq ≠ bl)) (by kernel_rfl) (by kernel_rfl) ?rlen6 ?rdone6 ?rh06 ?rstep6
  case rlen6 => rintro ls a' w' ⟨l0, l1, l2, l3, l4, l5, l6, l7, l8, l9, l10, l11, t31, t32, t33, t34, t35, t30, t36, t37, t7, t8, bq, bl, rfl, _⟩; rfl
  case rh06 => exact ⟨false, false, false, false, false, false, false, false, false, false, false, false, undef, undef, undef, undef, undef, undef, undef, undef, undef, undef, 0, 0, rfl, rfl, by simp, by simp, by simp, by simp, by simp, by simp, by simp, by simp, hB0, G0, G1, G2, by simp, by simp, by simp⟩
  case rdone6 =>
    rintro ls a' w' ⟨l0, l1, l2, l3, l4, l5, l6, l7, l8, l9, l10, l11, t31, t32, t33, t34, t35, t30, t36, t37, t7, t8, bq, bl, rfl, rfl, h31, h32, h33, h34, h35, h30, h36, h37, hB, F0, F1, F2, D0, D1, E01⟩ hl
    obtain rfl : l0 = true := by simpa using hl 0
    obtain rfl : l1 = true := by simpa using hl 1
    obtain rfl : l2 = true := by simpa using hl 2
    obtain rfl : l3 = true := by simpa using hl 3
    obtain rfl : l4 = true := by simpa using hl 4
    obtain rfl : l5 = true := by simpa using hl 5
    obtain rfl : l6 = true := by simpa using hl 6
    obtain rfl : l7 = true := by simpa using hl 7
    obtain rfl : l8 = true := by simpa using hl 8
    obtain rfl : l9 = true := by simpa using hl 9
    obtain rfl : l10 = true := by simpa using hl 10
    obtain rfl : l11 = true := by simpa using hl 11
    obtain ⟨rfl, hn_bq, hk_bq⟩ := D0 rfl
    obtain ⟨rfl, hn_bl, hk_bl⟩ := D1 rfl
    clear hl h31 h32 h33 h34 h35 h30 h36 h37
    go_wp2
    obtain ⟨hB0, G0, G1, G2, G3, G4⟩ : RowKit.Below w.heap.size w w'.drew ∧ Blk w'.drew (w.heap.size) (#[.bool a.neg, .string (decB a.n), .int .i64 (a.s : Int)]) 23 ∧ Blk w'.drew (w.heap.size + 1) (#[.bool false, .string ⟨#[]⟩, .int .i64 0]) 23 ∧ Blk w'.drew (bu) (arr (numF u)) 56 ∧ Blk w'.drew (bq) (arr (numF q)) 56 ∧ Blk w'.drew (bl) (arr (numF l)) 56 := ⟨b_drew hB, F0, F1, F2, hk_bq, hk_bl⟩
    clear hB F0 F1 F2 hk_bq hk_bl
    refine region_inv (fun ls a' w' => ∃ (l0 l1 l2 l3 l4 l5 : Bool) (t38 t39 t40 t41 t42 t9 : Value), ls = [l0, l1, l2, l3, l4, l5] ∧ a' = { tmps := #[Value.agg #[Value.bool a.neg, Value.string (decB a.n), Value.int IntKind.i64 ↑a.s], Value.int IntKind.i64 ↑sc, Value.pointer (some { block := w.heap.size, off := 0 }), undef, Value.pointer (some { block := w.heap.size + 1, off := 0 }), Value.int IntKind.i64 0, Value.pointer (some { block := bu, off := 0 }), Value.pointer (some { block := bq, off := 0 }), Value.pointer (some { block := bl, off := 0 }), t9, Value.agg #[Value.bool a.neg, Value.string (decB a.n), Value.int IntKind.i64 ↑a.s], Value.slice (some { block := W0.heap.size, off := 0 }) 1 1, Value.bool true, Value.bool false, Value.bool false, Value.int IntKind.i64 ↑sc, Value.bool true, Value.bool false, Value.bool false, undef, Value.int IntKind.i64 ↑sc, Value.pointer (some { block := w.heap.size, off := 2 }), Value.int IntKind.i64 ↑a.s, Value.bool false, undef, Value.pointer (some { block := w.heap.size, off := 2 }), Value.int IntKind.i64 ↑a.s, Value.int IntKind.i64 ↑sc, Value.int IntKind.i64 ↑k, Value.agg (arr (numF u)), t30, t31, t32, t33, t34, t35, t36, t37, t38, t39, t40, t41, t42, undef, undef, undef, undef, undef, undef, undef, undef, undef, undef, undef, undef, undef, undef, undef, undef, undef, undef, undef, undef, undef, undef, undef], defers := [] } ∧ (l0 = true → t38 = Value.agg (arr (numF l))) ∧ (l1 = true → t39 = Value.agg (arr (numF l))) ∧ (l2 = true → t40 = Value.agg (arr (numF L2))) ∧ (l3 = true → t41 = Value.agg (arr (numF u))) ∧ (l4 = true → t42 = Value.int .i64 hf) ∧ (l5 = true → t9 = Value.int .i64 hf) ∧ RowKit.Below w.heap.size w w' ∧ Blk w' (w.heap.size) (#[.bool a.neg, .string (decB a.n), .int .i64 (a.s : Int)]) (23) ∧ Blk w' (w.heap.size + 1) (#[.bool false, .string ⟨#[]⟩, .int .i64 0]) (23) ∧ Blk w' (bu) (arr (numF u)) (56) ∧ Blk w' (bq) (arr (numF q)) (56) ∧ Blk w' (bl) (arr (numF l)) (56)) (by kernel_rfl) (by kernel_rfl) ?rlen7 ?rdone7 ?rh07 ?rstep7
    case rlen7 => rintro ls a' w' ⟨l0, l1, l2, l3, l4, l5, t38, t39, t40, t41, t42, t9, rfl, _⟩; rfl
    case rh07 => exact ⟨false, false, false, false, false, false, undef, undef, undef, undef, undef, undef, rfl, rfl, by simp, by simp, by simp, by simp, by simp, by simp, hB0, G0, G1, G2, G3, G4⟩
    case rdone7 =>
      rintro ls a' w' ⟨l0, l1, l2, l3, l4, l5, t38, t39, t40, t41, t42, t9, rfl, rfl, h38, h39, h40, h41, h42, h9, hB, F0, F1, F2, F3, F4⟩ hl
      obtain rfl : l0 = true := by simpa using hl 0
      obtain rfl : l1 = true := by simpa using hl 1
      obtain rfl : l2 = true := by simpa using hl 2
      obtain rfl : l3 = true := by simpa using hl 3
      obtain rfl : l4 = true := by simpa using hl 4
      obtain rfl : l5 = true := by simpa using hl 5
      obtain rfl := h9 rfl
      clear hl h38 h39 h40 h41 h42
      obtain ⟨V8, hV8⟩ : ∃ V8, w' = V8 := ⟨_, rfl⟩
      rw [hV8] at hB F0 F1 F2 F3 F4
      have c0 := F3.cell 0
      rw [arr_get _ (by decide)] at c0
      obtain ⟨cq, hcq⟩ : ∃ cq : Nat, lim q 0 = cq := ⟨_, rfl⟩
      rw [show numF q 0 = (cq : Int) by unfold numF; rw [hcq]] at c0
      have hcq2 : cq % 2 = q % 2 := by rw [← hcq]; unfold lim; rw [pw_zero]; omega
      have HCQ := Lib.hid hcq2
      have HFx := Lib.hid (show RowKit.Below w.heap.size w V8 ∧ Blk V8 (w.heap.size) (#[.bool a.neg, .string (decB a.n), .int .i64 (a.s : Int)]) 23 ∧ Blk V8 (w.heap.size + 1) (#[.bool false, .string ⟨#[]⟩, .int .i64 0]) 23 ∧ Blk V8 (bq) (arr (numF q)) 56 from ⟨hB, F0, F1, F3⟩)
      have hq3 := F3
      have hle8 : w.heap.size + 2 ≤ bq := by have := F1.lt; omega
      subst hV8
      clear hcq hcq2 F0 F1 F2 F3 F4 hB
      go_upto_region 8 with fail
      go_cut [54] (fun s54 wx => w' = wx ∧ s54 = .bool up)
      case first =>
        by_cases h1 : u < L2
        · have e : hf = 1 := by rw [← HF.out, HL2.out]; unfold ord; rw [if_neg (by omega), if_pos h1]
          have eu : Hid (up = true) := by show _ = _; rw [← HU.out]; unfold upB; rw [HL2.out, decide_eq_true h1]; rfl
          subst e
          clear h1
          go_wp2
          go_meet
          exact ⟨rfl, by rw [eu.out]⟩
        · by_cases h2 : L2 = u
          · have e : hf = 0 := by rw [← HF.out, HL2.out]; unfold ord; rw [if_neg (by omega), if_neg h1]
            by_cases h3 : cq % 2 = 1
            · have eu : Hid (up = true) := by show _ = _; rw [← HU.out]; unfold upB; rw [HL2.out, decide_eq_true h2, ← HCQ.out, decide_eq_true h3]; simp
              have g3 : ((cq : Int) % 2 == 1) = true := by rw [beq_iff_eq]; omega
              subst e
              clear h1 h2 h3
              go_wp2
              go_meet
              exact ⟨rfl, by rw [eu.out]⟩
            · have eu : Hid (up = false) := by show _ = _; rw [← HU.out]; unfold upB; rw [HL2.out, decide_eq_false h1, ← HCQ.out, decide_eq_false h3]; simp
              have g3 : ((cq : Int) % 2 == 1) = false := by rw [beq_eq_false_iff_ne]; omega
              subst e
              clear h1 h2 h3
              go_wp2
              go_meet
              exact ⟨rfl, by rw [eu.out]⟩
          · have e : hf = -1 := by rw [← HF.out, HL2.out]; unfold ord; rw [if_pos (by omega)]
            have eu : Hid (up = false) := by show _ = _; rw [← HU.out]; unfold upB; rw [HL2.out, decide_eq_false h1, decide_eq_false h2]; rfl
            subst e
            clear h1 h2
            go_wp2
            go_meet
            exact ⟨rfl, by rw [eu.out]⟩
      case rest =>
        obtain ⟨rfl, rfl⟩ := hcut
        clear c0
        go_upto_if 54 with fail
        go_cut [] (fun wx => RowKit.Below w.heap.size w wx ∧ Blk wx (w.heap.size) (#[.bool a.neg, .string (decB a.n), .int .i64 (a.s : Int)]) 23 ∧ Blk wx (w.heap.size + 1) (#[.bool false, .string ⟨#[]⟩, .int .i64 0]) 23 ∧ Blk wx (bq) (arr (numF Rq)) 56)
        case first =>
          cases up with
          | true =>
            have hB1 := built_nat 1
            have hQ1 := Q1.out
            rw [← one_num (show 1 < 1000000000 by decide)] at hQ1
            have e : q + 1 = Rq := by rw [← HRQ.out]; rfl
            rw [e] at hQ1
            go_wp2_with (first | refine wpList_load_row rfl _ _ rfl _ rfl _ _ _ _ hq3 underNum rfl (sizeNum _) ?_ | (go_at_call 36; refine (hQ1 _).mono ?_))
            first | rintro e9 w9 rfl hb9 | rintro e9 w9 ⟨rfl, hb9⟩
            have hq9 := hq3.below hq3.lt hb9
            have hx9 : RowKit.Below w.heap.size w (w9.setRow bq (arr (numF Rq))) ∧ Blk (w9.setRow bq (arr (numF Rq))) (w.heap.size) (#[.bool a.neg, .string (decB a.n), .int .i64 (a.s : Int)]) 23 ∧ Blk (w9.setRow bq (arr (numF Rq))) (w.heap.size + 1) (#[.bool false, .string ⟨#[]⟩, .int .i64 0]) 23 ∧ Blk (w9.setRow bq (arr (numF Rq))) (bq) (arr (numF Rq)) 56 := ⟨b_row (b_step hb9 HFx.out.1) (by omega), (HFx.out.2.1.below HFx.out.2.1.lt hb9).row_other (by omega), (HFx.out.2.2.1.below HFx.out.2.2.1.lt hb9).row_other (by omega), hq9.row _⟩
            have HX9 := Lib.hid hx9
            clear hx9 hb9 hq3
            go_wp2_with (refine wpList_store_row rfl _ _ _ rfl _ _ rfl rfl _ _ hq9 (sizeNum _) (by rw [arr_size, arr_size]) (arr_one _) ?_)
            go_meet
            exact HX9.out
          | false =>
            have e : q = Rq := by rw [← HRQ.out]; rfl
            go_wp2
            go_meet
            rw [← e]
            exact HFx.out
        case rest =>
          obtain ⟨hB0, G0, K0, G1⟩ := hcut
          have hB0 := b_drew hB0
          go_upto_region 10 with fail
          refine region_inv (fun ls a' w' => ∃ (l0 l1 l2 l3 l4 l5 l6 l7 l8 l9 : Bool) (t58 t59 t60 t61 t62 t63 t64 t65 t5 : Value), ls = [l0, l1, l2, l3, l4, l5, l6, l7, l8, l9] ∧ a' = { tmps := #[Value.agg #[Value.bool a.neg, Value.string (decB a.n), Value.int IntKind.i64 ↑a.s], Value.int IntKind.i64 ↑sc, Value.pointer (some { block := w.heap.size, off := 0 }), undef, Value.pointer (some { block := w.heap.size + 1, off := 0 }), t5, Value.pointer (some { block := bu, off := 0 }), Value.pointer (some { block := bq, off := 0 }), Value.pointer (some { block := bl, off := 0 }), Value.int IntKind.i64 hf, u10, u11, u12, u13, u14, u15, u16, u17, u18, u19, u20, u21, u22, u23, u24, u25, u26, u27, u28, u29, u30, u31, u32, u33, u34, u35, u36, u37, u38, u39, u40, u41, u42, u43, u44, u45, u46, u47, u48, u49, u50, u51, u52, u53, u54, u55, u56, u57, t58, t59, t60, t61, t62, t63, t64, t65], defers := [] } ∧ (l0 = true → t58 = Value.pointer (some ⟨w.heap.size, 0, none⟩)) ∧ (l1 = true → t59 = Value.bool a.neg) ∧ (l2 = true → t60 = Value.agg (arr (numF Rq))) ∧ (l3 = true → t61 = Value.string (txtB Rq)) ∧ (l4 = true → t62 = Value.int .i64 (sc : Int)) ∧ (l5 = true → t63 = Value.tuple #[Value.agg #[.bool r.d.neg, .string r.d.s, .int .i64 r.d.sc], .int .i64 r.no]) ∧ (l6 = true → t64 = Value.agg #[.bool r.d.neg, .string r.d.s, .int .i64 r.d.sc]) ∧ (l7 = true → t65 = Value.int .i64 r.no) ∧ (l9 = true → t5 = Value.int .i64 r.no) ∧ RowKit.Below w.heap.size w w' ∧ Blk w' (w.heap.size) (#[.bool a.neg, .string (decB a.n), .int .i64 (a.s : Int)]) (23) ∧ Blk w' (bq) (arr (numF Rq)) (56) ∧ Blk w' (w.heap.size + 1) (cond l8 (#[.bool r.d.neg, .string r.d.s, .int .i64 r.d.sc]) (#[.bool false, .string ⟨#[]⟩, .int .i64 0])) (23)) (by kernel_rfl) (by kernel_rfl) ?rlen10 ?rdone10 ?rh010 ?rstep10
          case rlen10 => rintro ls a' w' ⟨l0, l1, l2, l3, l4, l5, l6, l7, l8, l9, t58, t59, t60, t61, t62, t63, t64, t65, t5, rfl, _⟩; rfl
          case rh010 => exact ⟨false, false, false, false, false, false, false, false, false, false, u58, u59, u60, u61, u62, u63, u64, u65, Value.int IntKind.i64 0, rfl, rfl, by simp, by simp, by simp, by simp, by simp, by simp, by simp, by simp, by simp, hB0, G0, G1, K0⟩
          case rdone10 =>
            rintro ls a' w' ⟨l0, l1, l2, l3, l4, l5, l6, l7, l8, l9, t58, t59, t60, t61, t62, t63, t64, t65, t5, rfl, rfl, h58, h59, h60, h61, h62, h63, h64, h65, h5, hB, F0, F1, C0⟩ hl
            obtain rfl : l0 = true := by simpa using hl 0
            obtain rfl : l1 = true := by simpa using hl 1
            obtain rfl : l2 = true := by simpa using hl 2
            obtain rfl : l3 = true := by simpa using hl 3
            obtain rfl : l4 = true := by simpa using hl 4
            obtain rfl : l5 = true := by simpa using hl 5
            obtain rfl : l6 = true := by simpa using hl 6
            obtain rfl : l7 = true := by simpa using hl 7
            obtain rfl : l8 = true := by simpa using hl 8
            obtain rfl : l9 = true := by simpa using hl 9
            obtain rfl := h5 rfl
            clear hl h58 h59 h60 h61 h62 h63 h64 h65
            go_wp2
            refine bodyPost_ret (v := r.val) (results_row_slot (by rfl) _ _ _ _ _ _ (by rfl) C0 (by rfl)) rfl ⟨rfl, hB⟩
          case rstep10 =>
            rintro i o ho ls a' w' ⟨l0, l1, l2, l3, l4, l5, l6, l7, l8, l9, t58, t59, t60, t61, t62, t63, t64, t65, t5, rfl, rfl, h58, h59, h60, h61, h62, h63, h64, h65, h5, hB, F0, F1, C0⟩ hcl hu hd K hK
            rcases i with _ | _ | _ | _ | _ | _ | _ | _ | _ | _ | i <;> simp only [List.getElem?_cons_zero, List.getElem?_cons_succ, List.getElem?_nil, Option.some.injEq, reduceCtorEq] at ho
            all_goals subst ho
            · have hu : l0 = false := hu
              clear hcl
              go_simp
              exact hK _ _ ⟨true, l1, l2, l3, l4, l5, l6, l7, l8, l9, _, t59, t60, t61, t62, t63, t64, t65, t5, rfl, rfl, fun _ => rfl, h59, h60, h61, h62, h63, h64, h65, h5, hB, F0, F1, C0⟩
            · have hu : l1 = false := hu
              clear hcl
              have y58 := h58 (hd 0 (by decide +kernel))
              subst y58
              obtain ⟨c0, c1, c2, _, _, _⟩ := F0.three
              go_simp
              exact hK _ _ ⟨l0, true, l2, l3, l4, l5, l6, l7, l8, l9, _, _, t60, t61, t62, t63, t64, t65, t5, rfl, rfl, fun _ => rfl, fun _ => rfl, h60, h61, h62, h63, h64, h65, h5, hB, F0, F1, C0⟩
            · have hu : l2 = false := hu
              clear hcl
              rw [if_pos (by rfl)]
              refine wp_load_row _ _ rfl _ rfl _ _ _ _ F1 underNum rfl (sizeNum _) ?_
              exact hK _ _ ⟨l0, l1, true, l3, l4, l5, l6, l7, l8, l9, t58, t59, _, t61, t62, t63, t64, t65, t5, rfl, rfl, h58, h59, fun _ => rfl, h61, h62, h63, h64, h65, h5, hB, F0, F1, C0⟩
            · have hu : l3 = false := hu
              clear hcl
              have y60 := h60 (hd 2 (by decide +kernel))
              subst y60
              have hK5 := digits_any Rq w'
              go_simp
              refine hK5.mono ?_
              rintro e w5 ⟨rfl, hb5⟩
              exact hK _ _ ⟨l0, l1, l2, true, l4, l5, l6, l7, l8, l9, t58, t59, _, _, t62, t63, t64, t65, t5, rfl, rfl, h58, h59, fun _ => rfl, fun _ => rfl, h62, h63, h64, h65, h5, b_step hb5 hB, F0.below F0.lt hb5, F1.below F1.lt hb5, C0.below C0.lt hb5⟩
            · have hu : l4 = false := hu
              clear hcl
              go_simp
              exact hK _ _ ⟨l0, l1, l2, l3, true, l5, l6, l7, l8, l9, t58, t59, t60, t61, _, t63, t64, t65, t5, rfl, rfl, h58, h59, h60, h61, fun _ => rfl, h63, h64, h65, h5, hB, F0, F1, C0⟩
            · have hu : l5 = false := hu
              clear hcl
              have y59 := h59 (hd 1 (by decide +kernel))
              subst y59
              have y61 := h61 (hd 3 (by decide +kernel))
              subst y61
              have y62 := h62 (hd 4 (by decide +kernel))
              subst y62
              have hK5 := M1.out w'
              go_simp
              refine hK5.mono ?_
              rintro e w5 ⟨rfl, hb5⟩
              exact hK _ _ ⟨l0, l1, l2, l3, l4, true, l6, l7, l8, l9, t58, _, t60, _, _, _, t64, t65, t5, rfl, rfl, h58, fun _ => rfl, h60, fun _ => rfl, fun _ => rfl, fun _ => rfl, h64, h65, h5, b_step hb5 hB, F0.below F0.lt hb5, F1.below F1.lt hb5, C0.below C0.lt hb5⟩
            · have hu : l6 = false := hu
              clear hcl
              have y63 := h63 (hd 5 (by decide +kernel))
              subst y63
              go_simp
              exact hK _ _ ⟨l0, l1, l2, l3, l4, l5, true, l7, l8, l9, t58, t59, t60, t61, t62, _, _, t65, t5, rfl, rfl, h58, h59, h60, h61, h62, fun _ => rfl, fun _ => rfl, h65, h5, hB, F0, F1, C0⟩
            · have hu : l7 = false := hu
              clear hcl
              have y63 := h63 (hd 5 (by decide +kernel))
              subst y63
              go_simp
              exact hK _ _ ⟨l0, l1, l2, l3, l4, l5, l6, true, l8, l9, t58, t59, t60, t61, t62, _, t64, _, t5, rfl, rfl, h58, h59, h60, h61, h62, fun _ => rfl, h64, fun _ => rfl, h5, hB, F0, F1, C0⟩
            · have hu : l8 = false := hu
              subst hu
              clear hcl
              have y64 := h64 (hd 6 (by decide +kernel))
              subst y64
              rw [if_pos (by rfl)]
              refine wp_store_row _ _ _ rfl _ _ rfl rfl _ _ C0 sizeDec rfl (dec_one _ _ _) ?_
              exact hK _ _ ⟨l0, l1, l2, l3, l4, l5, l6, l7, true, l9, t58, t59, t60, t61, t62, t63, _, t65, t5, rfl, rfl, h58, h59, h60, h61, h62, h63, fun _ => rfl, h65, h5, b_row hB (by omega), F0.row_other (by omega), F1.row_other (by omega), C0.row _⟩
            · have hu : l9 = false := hu
              clear hcl
              have y65 := h65 (hd 7 (by decide +kernel))
              subst y65
              go_simp
              exact hK _ _ ⟨l0, l1, l2, l3, l4, l5, l6, l7, l8, true, t58, t59, t60, t61, t62, t63, t64, _, _, rfl, rfl, h58, h59, h60, h61, h62, h63, h64, fun _ => rfl, fun _ => rfl, hB, F0, F1, C0⟩
    case rstep7 =>
      rintro i o ho ls a' w' ⟨l0, l1, l2, l3, l4, l5, t38, t39, t40, t41, t42, t9, rfl, rfl, h38, h39, h40, h41, h42, h9, hB, F0, F1, F2, F3, F4⟩ hcl hu hd K hK
      rcases i with _ | _ | _ | _ | _ | _ | i <;> simp only [List.getElem?_cons_zero, List.getElem?_cons_succ, List.getElem?_nil, Option.some.injEq, reduceCtorEq] at ho
      all_goals subst ho
      · have hu : l0 = false := hu
        clear hcl
        rw [if_pos (by rfl)]
        refine wp_load_row _ _ rfl _ rfl _ _ _ _ F4 underNum rfl (sizeNum _) ?_
        exact hK _ _ ⟨true, l1, l2, l3, l4, l5, _, t39, t40, t41, t42, t9, rfl, rfl, fun _ => rfl, h39, h40, h41, h42, h9, hB, F0, F1, F2, F3, F4⟩
      · have hu : l1 = false := hu
        clear hcl
        rw [if_pos (by rfl)]
        refine wp_load_row _ _ rfl _ rfl _ _ _ _ F4 underNum rfl (sizeNum _) ?_
        exact hK _ _ ⟨l0, true, l2, l3, l4, l5, t38, _, t40, t41, t42, t9, rfl, rfl, h38, fun _ => rfl, h40, h41, h42, h9, hB, F0, F1, F2, F3, F4⟩
      · have hu : l2 = false := hu
        clear hcl
        have y38 := h38 (hd 0 (by decide +kernel))
        subst y38
        have y39 := h39 (hd 1 (by decide +kernel))
        subst y39
        have hK5 := L1.out w'
        go_simp
        refine hK5.mono ?_
        rintro e w5 ⟨rfl, hb5⟩
        exact hK _ _ ⟨l0, l1, true, l3, l4, l5, _, _, _, t41, t42, t9, rfl, rfl, fun _ => rfl, fun _ => rfl, fun _ => rfl, h41, h42, h9, b_step hb5 hB, F0.below F0.lt hb5, F1.below F1.lt hb5, F2.below F2.lt hb5, F3.below F3.lt hb5, F4.below F4.lt hb5⟩
      · have hu : l3 = false := hu
        clear hcl
        rw [if_pos (by rfl)]
        refine wp_load_row _ _ rfl _ rfl _ _ _ _ F2 underNum rfl (sizeNum _) ?_
        exact hK _ _ ⟨l0, l1, l2, true, l4, l5, t38, t39, t40, _, t42, t9, rfl, rfl, h38, h39, h40, fun _ => rfl, h42, h9, hB, F0, F1, F2, F3, F4⟩
      · have hu : l4 = false := hu
        clear hcl
        have y40 := h40 (hd 2 (by decide +kernel))
        subst y40
        have y41 := h41 (hd 3 (by decide +kernel))
        subst y41
        have hK5 := C1.out w'
        go_simp
        refine hK5.mono ?_
        rintro e w5 ⟨rfl, hb5⟩
        exact hK _ _ ⟨l0, l1, l2, l3, true, l5, t38, t39, _, _, _, t9, rfl, rfl, h38, h39, fun _ => rfl, fun _ => rfl, fun _ => rfl, h9, b_step hb5 hB, F0.below F0.lt hb5, F1.below F1.lt hb5, F2.below F2.lt hb5, F3.below F3.lt hb5, F4.below F4.lt hb5⟩
      · have hu : l5 = false := hu
        clear hcl
        have y42 := h42 (hd 4 (by decide +kernel))
        subst y42
        go_simp
        exact hK _ _ ⟨l0, l1, l2, l3, l4, true, t38, t39, t40, t41, _, _, rfl, rfl, h38, h39, h40, h41, fun _ => rfl, fun _ => rfl, hB, F0, F1, F2, F3, F4⟩
  case rstep6 =>
    rintro i o ho ls a' w' ⟨l0, l1, l2, l3, l4, l5, l6, l7, l8, l9, l10, l11, t31, t32, t33, t34, t35, t30, t36, t37, t7, t8, bq, bl, rfl, rfl, h31, h32, h33, h34, h35, h30, h36, h37, hB, F0, F1, F2, D0, D1, E01⟩ hcl hu hd K hK
    rcases i with _ | _ | _ | _ | _ | _ | _ | _ | _ | _ | _ | _ | i <;> simp only [List.getElem?_cons_zero, List.getElem?_cons_succ, List.getElem?_nil, Option.some.injEq, reduceCtorEq] at ho
    all_goals subst ho
    · have hu : l0 = false := hu
      clear hcl
      go_simp
      exact hK _ _ ⟨true, l1, l2, l3, l4, l5, l6, l7, l8, l9, l10, l11, _, t32, t33, t34, t35, t30, t36, t37, t7, t8, bq, bl, rfl, rfl, fun _ => rfl, h32, h33, h34, h35, h30, h36, h37, hB, F0, F1, F2, D0, D1, E01⟩
    · have hu : l1 = false := hu
      clear hcl
      have y31 := h31 (hd 0 (by decide +kernel))
      subst y31
      obtain ⟨c0, c1, c2, _, _, _⟩ := F0.three
      go_simp
      exact hK _ _ ⟨l0, true, l2, l3, l4, l5, l6, l7, l8, l9, l10, l11, _, _, t33, t34, t35, t30, t36, t37, t7, t8, bq, bl, rfl, rfl, fun _ => rfl, fun _ => rfl, h33, h34, h35, h30, h36, h37, hB, F0, F1, F2, D0, D1, E01⟩
    · have hu : l2 = false := hu
      clear hcl
      have y32 := h32 (hd 1 (by decide +kernel))
      subst y32
      have hK5 := N1.out w'
      go_simp
      refine hK5.mono ?_
      rintro e w5 ⟨rfl, hb5⟩
      exact hK _ _ ⟨l0, l1, true, l3, l4, l5, l6, l7, l8, l9, l10, l11, t31, _, _, t34, t35, t30, t36, t37, t7, t8, bq, bl, rfl, rfl, h31, fun _ => rfl, fun _ => rfl, h34, h35, h30, h36, h37, b_step hb5 hB, F0.below F0.lt hb5, F1.below F1.lt hb5, F2.below F2.lt hb5, fun h => ⟨(D0 h).1, (D0 h).2.1, (D0 h).2.2.below (D0 h).2.2.lt hb5⟩, fun h => ⟨(D1 h).1, (D1 h).2.1, (D1 h).2.2.below (D1 h).2.2.lt hb5⟩, E01⟩
    · have hu : l3 = false := hu
      clear hcl
      rw [if_pos (by rfl)]
      refine wp_load_row _ _ rfl _ rfl _ _ _ _ F2 underNum rfl (sizeNum _) ?_
      exact hK _ _ ⟨l0, l1, l2, true, l4, l5, l6, l7, l8, l9, l10, l11, t31, t32, t33, _, t35, t30, t36, t37, t7, t8, bq, bl, rfl, rfl, h31, h32, h33, fun _ => rfl, h35, h30, h36, h37, hB, F0, F1, F2, D0, D1, E01⟩
    · have hu : l4 = false := hu
      clear hcl
      have y33 := h33 (hd 2 (by decide +kernel))
      subst y33
      have y34 := h34 (hd 3 (by decide +kernel))
      subst y34
      have hK5 := O1.out w'
      go_simp
      refine hK5.mono ?_
      rintro e w5 ⟨rfl, hb5⟩
      exact hK _ _ ⟨l0, l1, l2, l3, true, l5, l6, l7, l8, l9, l10, l11, t31, t32, _, _, _, t30, t36, t37, t7, t8, bq, bl, rfl, rfl, h31, h32, fun _ => rfl, fun _ => rfl, fun _ => rfl, h30, h36, h37, b_step hb5 hB, F0.below F0.lt hb5, F1.below F1.lt hb5, F2.below F2.lt hb5, fun h => ⟨(D0 h).1, (D0 h).2.1, (D0 h).2.2.below (D0 h).2.2.lt hb5⟩, fun h => ⟨(D1 h).1, (D1 h).2.1, (D1 h).2.2.below (D1 h).2.2.lt hb5⟩, E01⟩
    · have hu : l5 = false := hu
      clear hcl
      have y35 := h35 (hd 4 (by decide +kernel))
      subst y35
      go_simp
      exact hK _ _ ⟨l0, l1, l2, l3, l4, true, l6, l7, l8, l9, l10, l11, t31, t32, t33, t34, _, _, t36, t37, t7, t8, bq, bl, rfl, rfl, h31, h32, h33, h34, fun _ => rfl, fun _ => rfl, h36, h37, hB, F0, F1, F2, D0, D1, E01⟩
    · have hu : l6 = false := hu
      clear hcl
      have y30 := h30 (hd 5 (by decide +kernel))
      subst y30
      go_simp
      exact hK _ _ ⟨l0, l1, l2, l3, l4, l5, true, l7, l8, l9, l10, l11, t31, t32, t33, t34, t35, _, _, t37, t7, t8, bq, bl, rfl, rfl, h31, h32, h33, h34, h35, fun _ => rfl, fun _ => rfl, h37, hB, F0, F1, F2, D0, D1, E01⟩
    · have hu : l7 = false := hu
      clear hcl
      have y30 := h30 (hd 5 (by decide +kernel))
      subst y30
      go_simp
      exact hK _ _ ⟨l0, l1, l2, l3, l4, l5, l6, true, l8, l9, l10, l11, t31, t32, t33, t34, t35, _, t36, _, t7, t8, bq, bl, rfl, rfl, h31, h32, h33, h34, h35, fun _ => rfl, h36, fun _ => rfl, hB, F0, F1, F2, D0, D1, E01⟩
    · have hu : l8 = false := hu
      have hls : l10 = false := Bool.eq_false_iff.2 fun e => by have h : l8 = true := hcl 10 _ rfl e 8 (by decide +kernel); rw [hu] at h; cases h
      subst hls
      clear hcl
      have hz5 := zeroNum
      go_simp
      exact hK _ _ ⟨l0, l1, l2, l3, l4, l5, l6, l7, true, l9, false, l11, t31, t32, t33, t34, t35, t30, t36, t37, _, t8, w'.heap.size, bl, rfl, rfl, h31, h32, h33, h34, h35, h30, h36, h37, b_alloc hB, F0.alloc _, F1.alloc _, F2.alloc _, fun _ => ⟨rfl, (by have := F2.lt; omega), Blk.new w' _ _⟩, fun h => ⟨(D1 h).1, (D1 h).2.1, (D1 h).2.2.alloc _⟩, fun _ h => Nat.ne_of_gt (D1 h).2.2.lt⟩
    · have hu : l9 = false := hu
      have hls : l11 = false := Bool.eq_false_iff.2 fun e => by have h : l9 = true := hcl 11 _ rfl e 9 (by decide +kernel); rw [hu] at h; cases h
      subst hls
      clear hcl
      have hz5 := zeroNum
      go_simp
      exact hK _ _ ⟨l0, l1, l2, l3, l4, l5, l6, l7, l8, true, l10, false, t31, t32, t33, t34, t35, t30, t36, t37, t7, _, bq, w'.heap.size, rfl, rfl, h31, h32, h33, h34, h35, h30, h36, h37, b_alloc hB, F0.alloc _, F1.alloc _, F2.alloc _, fun h => ⟨(D0 h).1, (D0 h).2.1, (D0 h).2.2.alloc _⟩, fun _ => ⟨rfl, (by have := F2.lt; omega), Blk.new w' _ _⟩, fun h _ => Nat.ne_of_lt (D0 h).2.2.lt⟩
    · have hu : l10 = false := hu
      subst hu
      clear hcl
      have y36 := h36 (hd 6 (by decide +kernel))
      subst y36
      have hA : l8 = true := hd 8 (by decide +kernel)
      obtain ⟨yd, hn, hk⟩ := D0 hA
      subst yd
      rw [if_pos (by rfl)]
      refine wp_store_row _ _ _ rfl _ _ rfl rfl _ _ hk (sizeNum _) (by simp only [Bool.cond_false, arr_size]) (arr_one _) ?_
      exact hK _ _ ⟨l0, l1, l2, l3, l4, l5, l6, l7, l8, l9, true, l11, t31, t32, t33, t34, t35, t30, _, t37, _, t8, bq, bl, rfl, rfl, h31, h32, h33, h34, h35, h30, fun _ => rfl, h37, b_row hB (by omega), F0.row_other (by omega), F1.row_other (by omega), F2.row_other (by omega), fun _ => ⟨rfl, hn, hk.row _⟩, fun h => ⟨(D1 h).1, (D1 h).2.1, (D1 h).2.2.row_other (E01 hA h).symm⟩, E01⟩
    · have hu : l11 = false := hu
      subst hu
      clear hcl
      have y37 := h37 (hd 7 (by decide +kernel))
      subst y37
      have hA : l9 = true := hd 9 (by decide +kernel)
      obtain ⟨yd, hn, hk⟩ := D1 hA
      subst yd
      rw [if_pos (by rfl)]
      refine wp_store_row _ _ _ rfl _ _ rfl rfl _ _ hk (sizeNum _) (by simp only [Bool.cond_false, arr_size]) (arr_one _) ?_
      exact hK _ _ ⟨l0, l1, l2, l3, l4, l5, l6, l7, l8, l9, l10, true, t31, t32, t33, t34, t35, t30, t36, _, t7, _, bq, bl, rfl, rfl, h31, h32, h33, h34, h35, h30, h36, fun _ => rfl, b_row hB (by omega), F0.row_other (by omega), F1.row_other (by omega), F2.row_other (by omega), fun h => ⟨(D0 h).1, (D0 h).2.1, (D0 h).2.2.row_other (E01 h hA)⟩, fun _ => ⟨rfl, hn, hk.row _⟩, E01⟩
end Dc
end Go.Proofs.YthnpbkplcboejaaDoor
