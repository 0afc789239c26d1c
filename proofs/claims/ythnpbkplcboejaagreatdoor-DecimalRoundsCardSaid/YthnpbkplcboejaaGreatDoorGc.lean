/- Decimal, the reference: Neg, Cmp, Digits. -/
import Derived.Test.YthnpbkplcboejaaGreatDoorGb
set_option linter.unusedSimpArgs false
set_option linter.unusedVariables false
namespace Go.Proofs.YthnpbkplcboejaaGreatDoor
open Go.RowKit Go.Shelf Go.Lib Go.Sort
namespace Dc
set_option maxRecDepth 100000 in
set_option maxHeartbeats 2000000 in
theorem rNeg_no (d : D) (hs : d.s.size ≤ maxLen) (hc : d.check = false) (w : World) :
    Calls Tryz.prog 22 #[d.val] w fun e w' => e = .returned (R.err 2).val ∧ RowKit.Below w.heap.size w w' := by
  have hC1 := fun W => rCheck_any d hs W
  rw [hc, if_neg Bool.false_ne_true, d_box] at hC1
  obtain ⟨hb0, h1, h2⟩ := two_start w (.bool d.neg) (.string d.s) (.int .i64 d.sc) (.bool false) (.string ⟨#[]⟩) (.int .i64 0)
  obtain ⟨W0, hW0⟩ : ∃ W0, ((w.alloc (.cells #[.bool d.neg, .string d.s, .int .i64 d.sc] 23)).alloc (.cells #[.bool false, .string ⟨#[]⟩, .int .i64 0] 23)) = W0 := ⟨_, rfl⟩
  rw [hW0] at hb0 h1 h2
  obtain ⟨a0, a1, a2, _, _, _⟩ := h1.three
  have HS0 : Hid (RowKit.Below w.heap.size w W0 ∧ Blk W0 (w.heap.size) (#[.bool d.neg, .string d.s, .int .i64 d.sc]) 23 ∧ Blk W0 (w.heap.size + 1) (#[.bool false, .string ⟨#[]⟩, .int .i64 0]) 23) := ⟨hb0, h1, h2⟩
  have hsz0 : w.heap.size + 2 ≤ W0.heap.size := by have := h2.lt; omega
  clear hb0 h1 h2
  rw [d_box]
  clear hs hc
  go_enter Tryz.func22, Tryz.ntmps22
  go_wp2_with (go_at_call 12; refine (hC1 _).mono ?_)
  first | rintro e5 w5 rfl hb5 | rintro e5 w5 ⟨rfl, hb5⟩
  have hS5 : RowKit.Below w.heap.size w w5 ∧ Blk w5 (w.heap.size) (#[.bool d.neg, .string d.s, .int .i64 d.sc]) 23 ∧ Blk w5 (w.heap.size + 1) (#[.bool false, .string ⟨#[]⟩, .int .i64 0]) 23 := ⟨b_step hb5 (HS0.out.1), (HS0.out.2.1).below (HS0.out.2.1).lt hb5, (HS0.out.2.2).below (HS0.out.2.2).lt hb5⟩
  clear a0 a1 a2 hb5
  clear HS0 hW0 hC1 hsz0
  obtain ⟨q0, q1, q2, f0, f1, f2⟩ := (hS5.2.2).three
  have HSk := Lib.hid hS5
  clear hS5
  go_wp2
  refine bodyPost_ret (v := (R.err 2).val) (results_row_slot (by rfl) _ _ _ _ _ _ (by rfl) ((HSk.out.2.2).set3 _ _ _) (by rfl)) rfl ⟨rfl, b_set3 (HSk.out.1) (by omega) _ _ _⟩
set_option maxRecDepth 100000 in
set_option maxHeartbeats 2000000 in
theorem rNeg_ok (a : V) (ha : a.ok) (w : World) :
    Calls Tryz.prog 22 #[a.d.val] w fun e w' => e = .returned (R.ok a.opp).val ∧ RowKit.Below w.heap.size w w' := by
  have hla := ha.len
  have hC1 := fun W => rCheck_any a.d (by show (decB a.n).size ≤ _; unfold maxLen; omega) W
  rw [V.check ha, if_pos rfl, V.d_val] at hC1
  have hO := fun W => ropp_any a W
  obtain ⟨r, hr⟩ : ∃ r, R.ok a.opp = r := ⟨_, rfl⟩
  have hv : a.opp.d.val = .agg #[.bool r.d.neg, .string r.d.s, .int .i64 r.d.sc] := by rw [← hr]; rfl
  have hno : r.no = 0 := by rw [← hr]; rfl
  simp only [V.d_val] at hv hO
  simp only [hv] at hO
  have hrv : r.val = .tuple #[.agg #[.bool r.d.neg, .string r.d.s, .int .i64 r.d.sc], .int .i64 0] := by rw [R.val_eq, hno]
  rw [hr, V.d_val]
  have HRV := Lib.hid hrv
  obtain ⟨hb0, h1, h2⟩ := two_start w (.bool a.neg) (.string (decB a.n)) (.int .i64 (a.s : Int)) (.bool false) (.string ⟨#[]⟩) (.int .i64 0)
  obtain ⟨W0, hW0⟩ : ∃ W0, ((w.alloc (.cells #[.bool a.neg, .string (decB a.n), .int .i64 (a.s : Int)] 23)).alloc (.cells #[.bool false, .string ⟨#[]⟩, .int .i64 0] 23)) = W0 := ⟨_, rfl⟩
  rw [hW0] at hb0 h1 h2
  obtain ⟨a0, a1, a2, _, _, _⟩ := h1.three
  have HS0 : Hid (RowKit.Below w.heap.size w W0 ∧ Blk W0 (w.heap.size) (#[.bool a.neg, .string (decB a.n), .int .i64 (a.s : Int)]) 23 ∧ Blk W0 (w.heap.size + 1) (#[.bool false, .string ⟨#[]⟩, .int .i64 0]) 23) := ⟨hb0, h1, h2⟩
  have hsz0 : w.heap.size + 2 ≤ W0.heap.size := by have := h2.lt; omega
  clear hb0 h1 h2
  clear ha hla hr hv hno hrv
  go_enter Tryz.func22, Tryz.ntmps22
  go_wp2_with (go_at_call 12; refine (hC1 _).mono ?_)
  first | rintro e5 w5 rfl hb5 | rintro e5 w5 ⟨rfl, hb5⟩
  have hS5 : RowKit.Below w.heap.size w w5 ∧ Blk w5 (w.heap.size) (#[.bool a.neg, .string (decB a.n), .int .i64 (a.s : Int)]) 23 ∧ Blk w5 (w.heap.size + 1) (#[.bool false, .string ⟨#[]⟩, .int .i64 0]) 23 := ⟨b_step hb5 (HS0.out.1), (HS0.out.2.1).below (HS0.out.2.1).lt hb5, (HS0.out.2.2).below (HS0.out.2.2).lt hb5⟩
  clear a0 a1 a2 hb5
  clear HS0 hW0 hC1 hsz0
  obtain ⟨a0, a1, a2, _, _, _⟩ := (hS5.2.1).three
  go_wp2_with (go_at_call 46; refine (hO _).mono ?_)
  first | rintro e7 w7 rfl hb7 | rintro e7 w7 ⟨rfl, hb7⟩
  have hS7 : RowKit.Below w.heap.size w w7 ∧ Blk w7 (w.heap.size) (#[.bool a.neg, .string (decB a.n), .int .i64 (a.s : Int)]) 23 ∧ Blk w7 (w.heap.size + 1) (#[.bool false, .string ⟨#[]⟩, .int .i64 0]) 23 := ⟨b_step hb7 (hS5.1), (hS5.2.1).below (hS5.2.1).lt hb7, (hS5.2.2).below (hS5.2.2).lt hb7⟩
  clear a0 a1 a2 hb7 hS5 hO
  obtain ⟨q0, q1, q2, f0, f1, f2⟩ := (hS7.2.2).three
  have HSk := Lib.hid hS7
  clear hS7
  go_wp2
  refine bodyPost_ret (v := r.val) (by rw [HRV.out]; exact results_row_slot (by rfl) _ _ _ _ _ _ (by rfl) ((HSk.out.2.2).set3 _ _ _) (by rfl)) rfl ⟨rfl, b_set3 (HSk.out.1) (by omega) _ _ _⟩
set_option maxRecDepth 100000 in
set_option maxHeartbeats 2000000 in
theorem rCmp_no (d x : D) (hs0 : d.s.size ≤ maxLen) (hs1 : x.s.size ≤ maxLen) (hc : (d.check && x.check) = false) (w : World) :
    Calls Tryz.prog 24 #[d.val, x.val] w fun e w' => e = .returned (.tuple #[.int .i64 0, .int .i64 2]) ∧ RowKit.Below w.heap.size w w' := by
  have hC1 := fun W => rCheck_any d hs0 W
  have hC2 := fun W => rCheck_any x hs1 W
  obtain ⟨hb0, h1, h2⟩ := two_start w (.bool d.neg) (.string d.s) (.int .i64 d.sc) (.bool x.neg) (.string x.s) (.int .i64 x.sc)
  obtain ⟨W0, hW0⟩ : ∃ W0, ((w.alloc (.cells #[.bool d.neg, .string d.s, .int .i64 d.sc] 23)).alloc (.cells #[.bool x.neg, .string x.s, .int .i64 x.sc] 23)) = W0 := ⟨_, rfl⟩
  rw [hW0] at hb0 h1 h2
  obtain ⟨a0, a1, a2, _, _, _⟩ := h1.three
  obtain ⟨b0, b1, b2, _, _, _⟩ := h2.three
  have HS0 : Hid (RowKit.Below w.heap.size w W0 ∧ Blk W0 (w.heap.size) (#[.bool d.neg, .string d.s, .int .i64 d.sc]) 23 ∧ Blk W0 (w.heap.size + 1) (#[.bool x.neg, .string x.s, .int .i64 x.sc]) 23) := ⟨hb0, h1, h2⟩
  clear hb0 h1 h2
  rw [d_box] at hC1 hC2
  rw [d_box, d_box]
  cases hd : d.check with
  | false =>
    rw [hd, if_neg Bool.false_ne_true] at hC1
    clear hd hc hs0 hs1 hC2
    go_enter Tryz.func24, Tryz.ntmps24
    go_wp2_with (go_at_call 12; refine (hC1 _).mono ?_)
    first | rintro e5 w5 rfl hb5 | rintro e5 w5 ⟨rfl, hb5⟩
    have hS5 : RowKit.Below w.heap.size w w5 ∧ Blk w5 (w.heap.size) (#[.bool d.neg, .string d.s, .int .i64 d.sc]) 23 ∧ Blk w5 (w.heap.size + 1) (#[.bool x.neg, .string x.s, .int .i64 x.sc]) 23 := ⟨b_step hb5 (HS0.out.1), (HS0.out.2.1).below (HS0.out.2.1).lt hb5, (HS0.out.2.2).below (HS0.out.2.2).lt hb5⟩
    clear a0 a1 a2 b0 b1 b2 hb5
    have HB := Lib.hid (hS5.1)
    clear HS0 hW0 hC1 hS5
    go_wp2
    go_ret2
    exact ⟨rfl, HB.out⟩
  | true =>
    have hx : x.check = false := by rw [hd, Bool.true_and] at hc; exact hc
    rw [hd, if_pos rfl] at hC1
    rw [hx, if_neg Bool.false_ne_true] at hC2
    clear hd hx hc hs0 hs1
    go_enter Tryz.func24, Tryz.ntmps24
    go_wp2_with (go_at_call 12; refine (hC1 _).mono ?_)
    first | rintro e5 w5 rfl hb5 | rintro e5 w5 ⟨rfl, hb5⟩
    have hS5 : RowKit.Below w.heap.size w w5 ∧ Blk w5 (w.heap.size) (#[.bool d.neg, .string d.s, .int .i64 d.sc]) 23 ∧ Blk w5 (w.heap.size + 1) (#[.bool x.neg, .string x.s, .int .i64 x.sc]) 23 := ⟨b_step hb5 (HS0.out.1), (HS0.out.2.1).below (HS0.out.2.1).lt hb5, (HS0.out.2.2).below (HS0.out.2.2).lt hb5⟩
    clear a0 a1 a2 b0 b1 b2 hb5
    clear HS0 hW0
    obtain ⟨a0, a1, a2, _, _, _⟩ := (hS5.2.1).three
    obtain ⟨b0, b1, b2, _, _, _⟩ := (hS5.2.2).three
    go_wp2_with (go_at_call 12; refine (hC2 _).mono ?_)
    first | rintro e6 w6 rfl hb6 | rintro e6 w6 ⟨rfl, hb6⟩
    have hS6 : RowKit.Below w.heap.size w w6 ∧ Blk w6 (w.heap.size) (#[.bool d.neg, .string d.s, .int .i64 d.sc]) 23 ∧ Blk w6 (w.heap.size + 1) (#[.bool x.neg, .string x.s, .int .i64 x.sc]) 23 := ⟨b_step hb6 (hS5.1), (hS5.2.1).below (hS5.2.1).lt hb6, (hS5.2.2).below (hS5.2.2).lt hb6⟩
    clear a0 a1 a2 b0 b1 b2 hb6 hS5
    have HB := Lib.hid (hS6.1)
    clear hC1 hC2 hS6
    go_wp2
    go_ret2
    exact ⟨rfl, HB.out⟩
set_option maxRecDepth 100000 in
set_option maxHeartbeats 8000000 in
theorem rCmp_ok (a b : V) (ha : a.ok) (hb : b.ok) (w : World) :
    Calls Tryz.prog 24 #[a.d.val, b.d.val] w fun e w' => e = .returned (.tuple #[.int .i64 (cmpS a b), .int .i64 0]) ∧ RowKit.Below w.heap.size w w' := by
  have hla := ha.len
  have hlb := hb.len
  have hC1 := fun W => rCheck_any a.d (by show (decB a.n).size ≤ _; unfold maxLen; omega) W
  have hC2 := fun W => rCheck_any b.d (by show (decB b.n).size ≤ _; unfold maxLen; omega) W
  rw [V.check ha, if_pos rfl, V.d_val] at hC1
  rw [V.check hb, if_pos rfl, V.d_val] at hC2
  have hrs := cmp_eq ha hb
  obtain ⟨r, hr⟩ : ∃ r, cmpS a b = r := ⟨_, rfl⟩
  rw [hr] at hrs ⊢
  have hSm := fun W => rsame_any a b ha hb W
  obtain ⟨p1, q1⟩ := alB_size a b ha hb
  obtain ⟨p2, q2⟩ := alB_size b a hb ha
  have u1 := alB_dv a b
  have u2 := alB_dv b a
  have v1 := alB_digs a b
  have v2 := alB_digs b a
  rw [show a.n * 10 ^ (max a.s b.s - a.s) = al a b from rfl] at u1
  rw [show b.n * 10 ^ (max b.s a.s - b.s) = al b a from rfl] at u2
  obtain ⟨m, hm⟩ : ∃ m, max a.s b.s = m := ⟨_, rfl⟩
  obtain ⟨xs, hxs⟩ : ∃ x, alB a b = x := ⟨_, rfl⟩
  obtain ⟨ys, hys⟩ : ∃ x, alB b a = x := ⟨_, rfl⟩
  rw [hxs] at p1 q1 u1 v1
  rw [hys] at p2 q2 u2 v2
  rw [hxs, hys, hm, V.d_val, V.d_val] at hSm
  have hLs := fun W => (rless_any xs ys v1 v2 p1 p2 (by omega) (by omega) W).mono (R' := fun e w' => e = .returned (.bool (decide (al a b < al b a))) ∧ w' = W) fun e w' h => ⟨by rw [h.1, u1, u2], h.2.symm⟩
  obtain ⟨lt, hlt⟩ : ∃ l, decide (al a b < al b a) = l := ⟨_, rfl⟩
  rw [hlt] at hLs
  have hlow : lowB a b = (a.neg && !b.neg || a.neg == b.neg && lt != a.neg) := by unfold lowB; rw [hlt]
  have eO := fun W => eqD_any a.neg (decB a.n) (a.s : Int) b.neg (decB b.n) (b.s : Int) W
  have gO := fun op x y W => guardD op x y a.neg (decB a.n) (a.s : Int) b.neg (decB b.n) (b.s : Int) W
  have hE : decide (D.mk a.neg (decB a.n) (a.s : Int) = D.mk b.neg (decB b.n) (b.s : Int)) = decide (a = b) := by
    show decide (a.d = b.d) = _
    rw [Bool.eq_iff_iff, decide_eq_true_iff, decide_eq_true_iff]
    exact ⟨d_inj, fun h => by rw [h]⟩
  simp only [hE] at eO
  obtain ⟨hb0, h1, h2⟩ := two_start w (.bool a.neg) (.string (decB a.n)) (.int .i64 (a.s : Int)) (.bool b.neg) (.string (decB b.n)) (.int .i64 (b.s : Int))
  obtain ⟨W0, hW0⟩ : ∃ W0, ((w.alloc (.cells #[.bool a.neg, .string (decB a.n), .int .i64 (a.s : Int)] 23)).alloc (.cells #[.bool b.neg, .string (decB b.n), .int .i64 (b.s : Int)] 23)) = W0 := ⟨_, rfl⟩
  rw [hW0] at hb0 h1 h2
  obtain ⟨a0, a1, a2, _, _, _⟩ := h1.three
  obtain ⟨b0, b1, b2, _, _, _⟩ := h2.three
  have HS0 : Hid (RowKit.Below w.heap.size w W0 ∧ Blk W0 (w.heap.size) (#[.bool a.neg, .string (decB a.n), .int .i64 (a.s : Int)]) 23 ∧ Blk W0 (w.heap.size + 1) (#[.bool b.neg, .string (decB b.n), .int .i64 (b.s : Int)]) 23) := ⟨hb0, h1, h2⟩
  clear hb0 h1 h2
  rw [V.d_val, V.d_val]
  have HR := Lib.hid hrs
  have HL := Lib.hid hlow
  clear ha hb hla hlb hr hrs p1 p2 q1 q2 u1 u2 v1 v2 hm hxs hys hlt hlow hE
  go_enter Tryz.func24, Tryz.ntmps24
  go_wp2_with (go_at_call 12; refine (hC1 _).mono ?_)
  first | rintro e5 w5 rfl hb5 | rintro e5 w5 ⟨rfl, hb5⟩
  have hS5 : RowKit.Below w.heap.size w w5 ∧ Blk w5 (w.heap.size) (#[.bool a.neg, .string (decB a.n), .int .i64 (a.s : Int)]) 23 ∧ Blk w5 (w.heap.size + 1) (#[.bool b.neg, .string (decB b.n), .int .i64 (b.s : Int)]) 23 := ⟨b_step hb5 (HS0.out.1), (HS0.out.2.1).below (HS0.out.2.1).lt hb5, (HS0.out.2.2).below (HS0.out.2.2).lt hb5⟩
  clear a0 a1 a2 b0 b1 b2 hb5
  clear HS0 hW0
  obtain ⟨a0, a1, a2, _, _, _⟩ := (hS5.2.1).three
  obtain ⟨b0, b1, b2, _, _, _⟩ := (hS5.2.2).three
  go_wp2_with (go_at_call 12; refine (hC2 _).mono ?_)
  first | rintro e6 w6 rfl hb6 | rintro e6 w6 ⟨rfl, hb6⟩
  have hS6 : RowKit.Below w.heap.size w w6 ∧ Blk w6 (w.heap.size) (#[.bool a.neg, .string (decB a.n), .int .i64 (a.s : Int)]) 23 ∧ Blk w6 (w.heap.size + 1) (#[.bool b.neg, .string (decB b.n), .int .i64 (b.s : Int)]) 23 := ⟨b_step hb6 (hS5.1), (hS5.2.1).below (hS5.2.1).lt hb6, (hS5.2.2).below (hS5.2.2).lt hb6⟩
  clear a0 a1 a2 b0 b1 b2 hb6 hS5
  clear hC1 hC2
  obtain ⟨a0, a1, a2, _, _, _⟩ := (hS6.2.1).three
  obtain ⟨b0, b1, b2, _, _, _⟩ := (hS6.2.2).three
  by_cases hab : a = b
  · have hr : r = 0 := by rw [HR.out, if_pos hab]
    rw [decide_eq_true hab] at eO
    have HB := Lib.hid (hS6.1)
    subst hr
    clear hab HR HL hS6
    go_wp2
    go_ret2
    exact ⟨rfl, HB.out⟩
  · have hr : r = if lowB a b = true then -1 else 1 := by rw [HR.out, if_neg hab]
    rw [decide_eq_false hab] at eO
    rw [HL.out] at hr
    have HR2 := Lib.hid hr
    clear hab HR HL hr
    go_wp2_with (go_at_call 53; refine (hSm _).mono ?_)
    first | rintro e7 w7 rfl hb7 | rintro e7 w7 ⟨rfl, hb7⟩
    have hS7 : RowKit.Below w.heap.size w w7 ∧ Blk w7 (w.heap.size) (#[.bool a.neg, .string (decB a.n), .int .i64 (a.s : Int)]) 23 ∧ Blk w7 (w.heap.size + 1) (#[.bool b.neg, .string (decB b.n), .int .i64 (b.s : Int)]) 23 := ⟨b_step hb7 (hS6.1), (hS6.2.1).below (hS6.2.1).lt hb7, (hS6.2.2).below (hS6.2.2).lt hb7⟩
    clear a0 a1 a2 b0 b1 b2 hb7 hS6 hSm eO gO
    obtain ⟨a0, a1, a2, _, _, _⟩ := (hS7.2.1).three
    obtain ⟨b0, b1, b2, _, _, _⟩ := (hS7.2.2).three
    have HB := Lib.hid (hS7.1)
    clear hS7
    cases han : a.neg
    · rw [han] at a0
      cases hbn : b.neg
      · rw [hbn] at b0
        rw [han, hbn] at HR2
        have hr := HR2.out
        clear HR2 han hbn
        cases lt
        · have hr2 : r = 1 := hr
          subst hr2
          clear hr
          go_upto_region 6 with fail
          go_quiet ((go_at_call 54; with_reducible exact Calls.quiet_of_same (hLs _)))
          go_wp2
          go_ret2
          exact ⟨rfl, b_step (b_drewN _) HB.out⟩
        · have hr2 : r = -1 := hr
          subst hr2
          clear hr
          go_upto_region 6 with fail
          go_quiet ((go_at_call 54; with_reducible exact Calls.quiet_of_same (hLs _)))
          go_wp2
          go_ret2
          exact ⟨rfl, b_step (b_drewN _) HB.out⟩
      · rw [hbn] at b0
        rw [han, hbn] at HR2
        have hr := HR2.out
        clear HR2 han hbn
        have hr2 : r = 1 := hr
        subst hr2
        clear hr
        go_upto_region 6 with fail
        go_quiet (fail)
        go_wp2
        go_ret2
        exact ⟨rfl, b_step (b_drewN _) HB.out⟩
    · rw [han] at a0
      cases hbn : b.neg
      · rw [hbn] at b0
        rw [han, hbn] at HR2
        have hr := HR2.out
        clear HR2 han hbn
        have hr2 : r = -1 := hr
        subst hr2
        clear hr
        go_upto_region 6 with fail
        go_quiet (fail)
        go_wp2
        go_ret2
        exact ⟨rfl, b_step (b_drewN _) HB.out⟩
      · rw [hbn] at b0
        rw [han, hbn] at HR2
        have hr := HR2.out
        clear HR2 han hbn
        cases lt
        · have hr2 : r = -1 := hr
          subst hr2
          clear hr
          go_upto_region 6 with fail
          go_quiet ((go_at_call 54; with_reducible exact Calls.quiet_of_same (hLs _)))
          go_wp2
          go_ret2
          exact ⟨rfl, b_step (b_drewN _) HB.out⟩
        · have hr2 : r = 1 := hr
          subst hr2
          clear hr
          go_upto_region 6 with fail
          go_quiet ((go_at_call 54; with_reducible exact Calls.quiet_of_same (hLs _)))
          go_wp2
          go_ret2
          exact ⟨rfl, b_step (b_drewN _) HB.out⟩
theorem one_start (w : World) (A0 A1 A2 : Value) : RowKit.Below w.heap.size w (w.alloc (.cells #[A0, A1, A2] 23)) ∧ Blk (w.alloc (.cells #[A0, A1, A2] 23)) w.heap.size #[A0, A1, A2] 23 :=
  ⟨(Below.refl _ w).alloc (Nat.le_refl _) _, Blk.new w _ _⟩
set_option maxRecDepth 100000 in
set_option maxHeartbeats 2000000 in
theorem rDigits_no (d : D) (hs : d.s.size ≤ maxLen) (hc : d.check = false) (w : World) :
    Calls Tryz.prog 30 #[d.val] w fun e w' => e = .returned (.tuple #[.int .i64 0, .int .i64 0, .int .i64 2]) ∧ RowKit.Below w.heap.size w w' := by
  have hC1 := fun W => rCheck_any d hs W
  rw [hc, if_neg Bool.false_ne_true, d_box] at hC1
  obtain ⟨hb0, h1⟩ := one_start w (.bool d.neg) (.string d.s) (.int .i64 d.sc)
  obtain ⟨W0, hW0⟩ : ∃ W0, w.alloc (.cells #[.bool d.neg, .string d.s, .int .i64 d.sc] 23) = W0 := ⟨_, rfl⟩
  rw [hW0] at hb0 h1
  obtain ⟨a0, a1, a2, _, _, _⟩ := h1.three
  have HB := Lib.hid hb0
  rw [d_box]
  clear hs hc hb0 h1
  go_enter Tryz.func30, Tryz.ntmps30
  go_wp2_with (go_at_call 12; refine (hC1 _).mono ?_; first | rintro e5 w5 rfl hb5 | rintro e5 w5 ⟨rfl, hb5⟩)
  go_ret3
  exact ⟨rfl, b_step hb5 HB.out⟩
set_option maxRecDepth 100000 in
set_option maxHeartbeats 2000000 in
theorem rDigits_ok (v : V) (hv : v.ok) (w : World) :
    Calls Tryz.prog 30 #[v.d.val] w fun e w' => e = .returned (.tuple #[.int .i64 ((max v.s (dec v.n).length : Nat) : Int), .int .i64 (v.s : Int), .int .i64 0]) ∧ RowKit.Below w.heap.size w w' := by
  have hlv := hv.len
  have hC1 := fun W => rCheck_any v.d (by show (decB v.n).size ≤ _; unfold maxLen; omega) W
  rw [V.check hv, if_pos rfl, V.d_val] at hC1
  obtain ⟨hb0, h1⟩ := one_start w (.bool v.neg) (.string (decB v.n)) (.int .i64 (v.s : Int))
  have hsz := decB_size' v.n
  obtain ⟨dg, hdg⟩ : ∃ x, decB v.n = x := ⟨_, rfl⟩
  rw [V.d_val]
  rw [hdg] at hsz h1 hb0 hlv hC1 ⊢
  obtain ⟨t, ht⟩ : ∃ t : Int, ((max v.s (dec v.n).length : Nat) : Int) = t := ⟨_, rfl⟩
  have hmax : max (dg.size : Int) (v.s : Int) = t := by omega
  rw [ht]
  obtain ⟨W0, hW0⟩ : ∃ W0, w.alloc (.cells #[.bool v.neg, .string dg, .int .i64 (v.s : Int)] 23) = W0 := ⟨_, rfl⟩
  rw [hW0] at hb0 h1
  obtain ⟨a0, a1, a2, _, _, _⟩ := h1.three
  have HB := Lib.hid hb0
  have HX := Lib.hid h1
  clear hv hb0 h1 hdg hsz ht
  go_enter Tryz.func30, Tryz.ntmps30
  go_wp2_with (go_at_call 12; refine (hC1 _).mono ?_)
  first | rintro e5 w5 rfl hb5 | rintro e5 w5 ⟨rfl, hb5⟩
  have hX5 := HX.out.below HX.out.lt hb5
  have HB5 := Lib.hid (b_step hb5 HB.out)
  clear a0 a1 a2 hb5 HX hW0 hC1 HB
  obtain ⟨a0, a1, a2, _, _, _⟩ := hX5.three
  clear hX5
  go_upto_region 3 with fail
  go_region
  all_goals
    go_wp2
    go_ret3
    exact ⟨rfl, b_drew HB5.out⟩
end Dc
end Go.Proofs.YthnpbkplcboejaaGreatDoor
