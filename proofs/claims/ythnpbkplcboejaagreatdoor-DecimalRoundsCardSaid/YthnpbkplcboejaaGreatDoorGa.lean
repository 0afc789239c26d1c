/- Decimal, the reference: sum. -/
import Derived.Test.YthnpbkplcboejaaGreatDoorFm
import Derived.Test.YthnpbkplcboejaaGreatDoorDj
import Derived.Test.YthnpbkplcboejaaGreatDoorFh
import Derived.Test.YthnpbkplcboejaaGreatDoorDr
set_option linter.unusedSimpArgs false
set_option linter.unusedVariables false
namespace Go.Proofs.YthnpbkplcboejaaGreatDoor
open Go.RowKit Go.Shelf Go.Lib Go.Sort
namespace Dc
theorem rmade_num (neg : Bool) (n m : Nat) (hn : n < 10 ^ 200) (hm : m ≤ 1000) (w : World) :
    Calls Tryz.prog 38 #[.bool neg, .string (decB n), .int .i64 (m : Int)] w fun e w' => e = .returned (mk neg n m).val ∧ RowKit.Below w.heap.size w w' := by
  have h := rmade_any neg (decB n) m (decB_digs n) (decB_pos n) (Nat.le_trans (decB_le (k := 200) (by decide) hn) (by decide)) hm w
  rw [decB_dv] at h
  exact h
set_option maxRecDepth 100000 in
set_option maxHeartbeats 8000000 in
theorem rsum_any (a b : V) (ha : a.ok) (hb : b.ok) (w : World) :
    Calls Tryz.prog 45 #[a.d.val, b.d.val] w fun e w' => e = .returned (addS a b).val ∧ RowKit.Below w.heap.size w w' := by
  have hSm := fun W => rsame_any a b ha hb W
  obtain ⟨p1, q1⟩ := alB_size a b ha hb
  obtain ⟨p2, q2⟩ := alB_size b a hb ha
  have u1 := alB_dv a b
  have u2 := alB_dv b a
  have v1 := alB_digs a b
  have v2 := alB_digs b a
  have hX := al_lt ha hb
  have hY := al_lt hb ha
  have hms : max a.s b.s ≤ 60 := by have := ha.s; have := hb.s; omega
  have hmm : max b.s a.s = max a.s b.s := Nat.max_comm _ _
  rw [show a.n * 10 ^ (max a.s b.s - a.s) = al a b from rfl] at u1
  rw [show b.n * 10 ^ (max b.s a.s - b.s) = al b a from rfl] at u2
  have hrs : addS a b = if a.neg = b.neg then mk a.neg (al a b + al b a) (max a.s b.s) else if al a b < al b a then mk b.neg (al b a - al a b) (max a.s b.s) else mk a.neg (al a b - al b a) (max a.s b.s) := by
    unfold addS sumS
    by_cases e : a.neg = b.neg
    · rw [if_pos e, if_pos e, e]
    · rw [if_neg e, if_neg e]
  obtain ⟨m, hm⟩ : ∃ m, max a.s b.s = m := ⟨_, rfl⟩
  obtain ⟨X, hXe⟩ : ∃ X, al a b = X := ⟨_, rfl⟩
  obtain ⟨Y, hYe⟩ : ∃ Y, al b a = Y := ⟨_, rfl⟩
  obtain ⟨xs, hxs⟩ : ∃ x, alB a b = x := ⟨_, rfl⟩
  obtain ⟨ys, hys⟩ : ∃ x, alB b a = x := ⟨_, rfl⟩
  rw [hXe] at hX u1 hrs
  rw [hYe] at hY u2 hrs
  rw [hxs] at p1 q1 u1 v1
  rw [hys] at p2 q2 u2 v2
  rw [hm] at hms hrs
  rw [hxs, hys, hm, V.d_val, V.d_val] at hSm
  have h120 : 10 ^ 120 + 10 ^ 120 < 10 ^ 200 := by decide
  have hPl := fun W => rplus_any xs ys v1 v2 p1 p2 (by omega) (by omega) W
  have hLs := fun W => rless_any xs ys v1 v2 p1 p2 (by omega) (by omega) W
  have hMi1 := fun (h : X ≤ Y) W => rminus_any ys xs v2 v1 p2 p1 (by omega) (by omega) (by omega) W
  have hMi2 := fun (h : Y ≤ X) W => rminus_any xs ys v1 v2 p1 p2 (by omega) (by omega) (by omega) W
  rw [u1, u2] at hPl hLs
  simp only [u1, u2] at hMi1 hMi2
  have hM1 := fun W => rmade_num a.neg (X + Y) m (by omega) (by omega) W
  have hM2 := fun W => rmade_num b.neg (Y - X) m (by omega) (by omega) W
  have hM3 := fun W => rmade_num a.neg (X - Y) m (by omega) (by omega) W
  obtain ⟨r, hr⟩ : ∃ r, addS a b = r := ⟨_, rfl⟩
  rw [hr] at hrs ⊢
  obtain ⟨hb0, h1, h2, h3⟩ := three_start w (.bool a.neg) (.string (decB a.n)) (.int .i64 (a.s : Int)) (.bool b.neg) (.string (decB b.n)) (.int .i64 (b.s : Int))
  obtain ⟨W0, hW0⟩ : ∃ W0, (((w.alloc (.cells #[.bool a.neg, .string (decB a.n), .int .i64 (a.s : Int)] 23)).alloc (.cells #[.bool b.neg, .string (decB b.n), .int .i64 (b.s : Int)] 23)).alloc (.cells #[.bool false, .string ⟨#[]⟩, .int .i64 0] 23)) = W0 := ⟨_, rfl⟩
  rw [hW0] at hb0 h1 h2 h3
  obtain ⟨a0, a1, a2, _, _, _⟩ := h1.three
  obtain ⟨b0, b1, b2, _, _, _⟩ := h2.three
  rw [V.d_val, V.d_val]
  have HS0 : Hid (RowKit.Below w.heap.size w W0 ∧ Blk W0 (w.heap.size) (#[.bool a.neg, .string (decB a.n), .int .i64 (a.s : Int)]) 23 ∧ Blk W0 (w.heap.size + 1) (#[.bool b.neg, .string (decB b.n), .int .i64 (b.s : Int)]) 23 ∧ Blk W0 (w.heap.size + 2) (#[.bool false, .string ⟨#[]⟩, .int .i64 0]) 23) := ⟨hb0, h1, h2, h3⟩
  have hsz0 : w.heap.size + 3 ≤ W0.heap.size := by have := h3.lt; omega
  have HR := Lib.hid hrs
  have HPl := Lib.hid hPl
  have HLs := Lib.hid hLs
  have HMi1 := Lib.hid hMi1
  have HMi2 := Lib.hid hMi2
  have HM1 := Lib.hid hM1
  have HM2 := Lib.hid hM2
  have HM3 := Lib.hid hM3
  clear p1 q1 p2 q2 u1 u2 v1 v2 hX hY hms hmm hrs hXe hYe hxs hys hm h120 hPl hLs hMi1 hMi2 hM1 hM2 hM3 hr hb0 h1 h2 h3 ha hb
  go_enter Tryz.func45, Tryz.ntmps45
  go_wp2_with (go_at_call 53; refine (hSm _).mono ?_)
  first | rintro e5 w5 rfl hb5 | rintro e5 w5 ⟨rfl, hb5⟩
  have hS5 : RowKit.Below w.heap.size w w5 ∧ Blk w5 (w.heap.size) (#[.bool a.neg, .string (decB a.n), .int .i64 (a.s : Int)]) 23 ∧ Blk w5 (w.heap.size + 1) (#[.bool b.neg, .string (decB b.n), .int .i64 (b.s : Int)]) 23 ∧ Blk w5 (w.heap.size + 2) (#[.bool false, .string ⟨#[]⟩, .int .i64 0]) 23 := ⟨b_step hb5 (HS0.out.1), (HS0.out.2.1).below (HS0.out.2.1).lt hb5, (HS0.out.2.2.1).below (HS0.out.2.2.1).lt hb5, (HS0.out.2.2.2).below (HS0.out.2.2.2).lt hb5⟩
  have hsz5 : w.heap.size + 3 ≤ w5.heap.size := Nat.le_trans hsz0 hb5.size
  clear a0 a1 a2 b0 b1 b2 hb5 hW0 hSm HS0 hsz0
  obtain ⟨a0, a1, a2, _, _, _⟩ := hS5.2.1.three
  obtain ⟨b0, b1, b2, _, _, _⟩ := hS5.2.2.1.three
  by_cases he : a.neg = b.neg
  · have g1 : (a.neg == b.neg) = true := by rw [beq_iff_eq]; exact he
    have hr : r = mk a.neg (X + Y) m := by rw [HR.out, if_pos he]
    have HrH := Lib.hid hr
    clear he hr HR
    go_wp2
    have hr := HrH.out
    clear HrH
    have hM := HM1.out
    rw [← hr] at hM
    rw [R.val_eq] at hM
    have HM := Lib.hid hM
    clear hM hr a0 a1 a2 b0 b1 b2
    simp only [Nat.add_assoc, Nat.reduceAdd]
    have hC0 : RowKit.Below w.heap.size w w5.drew ∧ Blk w5.drew (w.heap.size) (#[.bool a.neg, .string (decB a.n), .int .i64 (a.s : Int)]) 23 ∧ Blk w5.drew (w.heap.size + 1) (#[.bool b.neg, .string (decB b.n), .int .i64 (b.s : Int)]) 23 ∧ Blk w5.drew (w.heap.size + 2) (#[.bool false, .string ⟨#[]⟩, .int .i64 0]) 23 := ⟨b_drew (hS5.1), (hS5.2.1), (hS5.2.2.1), (hS5.2.2.2)⟩
    clear hS5
    refine region_inv (fun ls a' w' => ∃ (l0 l1 l2 l3 l4 l5 l6 l7 l8 l9 l10 : Bool) (t21 t22 t23 t24 t25 t26 t27 t28 t29 t5 : Value), ls = [l0, l1, l2, l3, l4, l5, l6, l7, l8, l9, l10] ∧ a' = { tmps := #[Value.agg #[Value.bool a.neg, Value.string (decB a.n), Value.int IntKind.i64 ↑a.s], Value.agg #[Value.bool b.neg, Value.string (decB b.n), Value.int IntKind.i64 ↑b.s], Value.pointer (some { block := w.heap.size, off := 0 }), Value.pointer (some { block := w.heap.size + 1, off := 0 }), Value.pointer (some { block := w.heap.size + 2, off := 0 }), t5, Value.string xs, Value.string ys, Value.int IntKind.i64 ↑m, Value.tuple #[Value.string xs, Value.string ys, Value.int IntKind.i64 ↑m], Value.agg #[Value.bool a.neg, Value.string (decB a.n), Value.int IntKind.i64 ↑a.s], Value.agg #[Value.bool b.neg, Value.string (decB b.n), Value.int IntKind.i64 ↑b.s], Value.tuple #[Value.string xs, Value.string ys, Value.int IntKind.i64 ↑m], Value.string xs, Value.string ys, Value.int IntKind.i64 ↑m, Value.pointer (some { block := w.heap.size, off := 0 }), Value.bool a.neg, Value.pointer (some { block := w.heap.size + 1, off := 0 }), Value.bool b.neg, Value.bool true, t21, t22, t23, t24, t25, t26, t27, t28, t29, undef, undef, undef, undef, undef, undef, undef, undef, undef, undef, undef, undef, undef, undef, undef, undef, undef, undef, undef, undef, undef], defers := [] } ∧ (l0 = true → t21 = Value.pointer (some ⟨w.heap.size, 0, none⟩)) ∧ (l1 = true → t22 = Value.bool a.neg) ∧ (l2 = true → t23 = Value.string xs) ∧ (l3 = true → t24 = Value.string ys) ∧ (l4 = true → t25 = Value.string (decB (X + Y))) ∧ (l5 = true → t26 = Value.int .i64 (m : Int)) ∧ (l6 = true → t27 = Value.tuple #[Value.agg #[.bool r.d.neg, .string r.d.s, .int .i64 r.d.sc], .int .i64 r.no]) ∧ (l7 = true → t28 = Value.agg #[.bool r.d.neg, .string r.d.s, .int .i64 r.d.sc]) ∧ (l8 = true → t29 = Value.int .i64 r.no) ∧ (l10 = true → t5 = Value.int .i64 r.no) ∧ (l9 = false → RowKit.Below w.heap.size w w' ∧ Blk w' (w.heap.size) (#[.bool a.neg, .string (decB a.n), .int .i64 (a.s : Int)]) 23 ∧ Blk w' (w.heap.size + 1) (#[.bool b.neg, .string (decB b.n), .int .i64 (b.s : Int)]) 23 ∧ Blk w' (w.heap.size + 2) (#[.bool false, .string ⟨#[]⟩, .int .i64 0]) 23) ∧ (l9 = true → RowKit.Below w.heap.size w w' ∧ Blk w' (w.heap.size) (#[.bool a.neg, .string (decB a.n), .int .i64 (a.s : Int)]) 23 ∧ Blk w' (w.heap.size + 1) (#[.bool b.neg, .string (decB b.n), .int .i64 (b.s : Int)]) 23 ∧ Blk w' (w.heap.size + 2) (#[.bool r.d.neg, .string r.d.s, .int .i64 r.d.sc]) 23)) (by kernel_rfl) (by kernel_rfl) ?rlen3 ?rdone3 ?rh03 ?rstep3
    case rlen3 => rintro ls a' w' ⟨l0, l1, l2, l3, l4, l5, l6, l7, l8, l9, l10, t21, t22, t23, t24, t25, t26, t27, t28, t29, t5, rfl, _⟩; rfl
    case rh03 => exact ⟨false, false, false, false, false, false, false, false, false, false, false, undef, undef, undef, undef, undef, undef, undef, undef, undef, Value.int IntKind.i64 0, rfl, rfl, by simp, by simp, by simp, by simp, by simp, by simp, by simp, by simp, by simp, by simp, fun _ => hC0, by simp⟩
    case rdone3 =>
      rintro ls a' w' ⟨l0, l1, l2, l3, l4, l5, l6, l7, l8, l9, l10, t21, t22, t23, t24, t25, t26, t27, t28, t29, t5, rfl, rfl, h21, h22, h23, h24, h25, h26, h27, h28, h29, h5, hC, hP⟩ hl
      obtain rfl := h5 (by simpa using hl 10)
      have hP := hP (by simpa using hl 9)
      clear h21 h22 h23 h24 h25 h26 h27 h28 h29 hl hC
      go_wp2
      refine bodyPost_ret (v := r.val) (results_row_slot (by rfl) _ _ _ _ _ _ (by rfl) (hP.2.2.2) (by rfl)) rfl ⟨rfl, (hP.1)⟩
    case rstep3 =>
      rintro i o ho ls a' w' ⟨l0, l1, l2, l3, l4, l5, l6, l7, l8, l9, l10, t21, t22, t23, t24, t25, t26, t27, t28, t29, t5, rfl, rfl, h21, h22, h23, h24, h25, h26, h27, h28, h29, h5, hC, hP⟩ hcl hu hd K hK
      rcases i with _ | _ | _ | _ | _ | _ | _ | _ | _ | _ | _ | i <;> simp only [List.getElem?_cons_zero, List.getElem?_cons_succ, List.getElem?_nil, Option.some.injEq, reduceCtorEq] at ho
      all_goals subst ho
      · have hu : l0 = false := hu
        have hls : l9 = false := Bool.eq_false_iff.2 fun e => by have h : l0 = true := hcl 9 _ rfl e 0 (by decide +kernel); rw [hu] at h; cases h
        subst hls
        have hC := hC rfl
        clear hcl
        go_simp
        exact hK _ _ ⟨true, l1, l2, l3, l4, l5, l6, l7, l8, false, l10, _, t22, t23, t24, t25, t26, t27, t28, t29, t5, rfl, rfl, fun _ => rfl, h22, h23, h24, h25, h26, h27, h28, h29, h5, fun _ => hC, by simp⟩
      · have hu : l1 = false := hu
        have hls : l9 = false := Bool.eq_false_iff.2 fun e => by have h : l1 = true := hcl 9 _ rfl e 1 (by decide +kernel); rw [hu] at h; cases h
        subst hls
        have hC := hC rfl
        clear hcl
        have y21 := h21 (hd 0 (by decide +kernel))
        subst y21
        obtain ⟨c0, c1, c2, _, _, _⟩ := (hC.2.1).three
        go_simp
        exact hK _ _ ⟨l0, true, l2, l3, l4, l5, l6, l7, l8, false, l10, _, _, t23, t24, t25, t26, t27, t28, t29, t5, rfl, rfl, fun _ => rfl, fun _ => rfl, h23, h24, h25, h26, h27, h28, h29, h5, fun _ => hC, by simp⟩
      · have hu : l2 = false := hu
        have hls : l9 = false := Bool.eq_false_iff.2 fun e => by have h : l2 = true := hcl 9 _ rfl e 2 (by decide +kernel); rw [hu] at h; cases h
        subst hls
        have hC := hC rfl
        clear hcl
        go_simp
        exact hK _ _ ⟨l0, l1, true, l3, l4, l5, l6, l7, l8, false, l10, t21, t22, _, t24, t25, t26, t27, t28, t29, t5, rfl, rfl, h21, h22, fun _ => rfl, h24, h25, h26, h27, h28, h29, h5, fun _ => hC, by simp⟩
      · have hu : l3 = false := hu
        have hls : l9 = false := Bool.eq_false_iff.2 fun e => by have h : l3 = true := hcl 9 _ rfl e 3 (by decide +kernel); rw [hu] at h; cases h
        subst hls
        have hC := hC rfl
        clear hcl
        go_simp
        exact hK _ _ ⟨l0, l1, l2, true, l4, l5, l6, l7, l8, false, l10, t21, t22, t23, _, t25, t26, t27, t28, t29, t5, rfl, rfl, h21, h22, h23, fun _ => rfl, h25, h26, h27, h28, h29, h5, fun _ => hC, by simp⟩
      · have hu : l4 = false := hu
        have hls : l9 = false := Bool.eq_false_iff.2 fun e => by have h : l4 = true := hcl 9 _ rfl e 4 (by decide +kernel); rw [hu] at h; cases h
        subst hls
        have hC := hC rfl
        clear hcl
        have y23 := h23 (hd 2 (by decide +kernel))
        subst y23
        have y24 := h24 (hd 3 (by decide +kernel))
        subst y24
        have hK5 := HPl.out w'
        go_simp
        refine hK5.mono ?_
        rintro e w5 ⟨rfl, hb5⟩
        exact hK _ _ ⟨l0, l1, l2, l3, true, l5, l6, l7, l8, false, l10, t21, t22, _, _, _, t26, t27, t28, t29, t5, rfl, rfl, h21, h22, fun _ => rfl, fun _ => rfl, fun _ => rfl, h26, h27, h28, h29, h5, fun _ => ⟨b_step hb5 (hC.1), (hC.2.1).below (hC.2.1).lt hb5, (hC.2.2.1).below (hC.2.2.1).lt hb5, (hC.2.2.2).below (hC.2.2.2).lt hb5⟩, by simp⟩
      · have hu : l5 = false := hu
        have hls : l9 = false := Bool.eq_false_iff.2 fun e => by have h : l5 = true := hcl 9 _ rfl e 5 (by decide +kernel); rw [hu] at h; cases h
        subst hls
        have hC := hC rfl
        clear hcl
        go_simp
        exact hK _ _ ⟨l0, l1, l2, l3, l4, true, l6, l7, l8, false, l10, t21, t22, t23, t24, t25, _, t27, t28, t29, t5, rfl, rfl, h21, h22, h23, h24, h25, fun _ => rfl, h27, h28, h29, h5, fun _ => hC, by simp⟩
      · have hu : l6 = false := hu
        have hls : l9 = false := Bool.eq_false_iff.2 fun e => by have h : l6 = true := hcl 9 _ rfl e 6 (by decide +kernel); rw [hu] at h; cases h
        subst hls
        have hC := hC rfl
        clear hcl
        have y22 := h22 (hd 1 (by decide +kernel))
        subst y22
        have y25 := h25 (hd 4 (by decide +kernel))
        subst y25
        have y26 := h26 (hd 5 (by decide +kernel))
        subst y26
        have hK5 := HM.out w'
        go_simp
        refine hK5.mono ?_
        rintro e w5 ⟨rfl, hb5⟩
        exact hK _ _ ⟨l0, l1, l2, l3, l4, l5, true, l7, l8, false, l10, t21, _, t23, t24, _, _, _, t28, t29, t5, rfl, rfl, h21, fun _ => rfl, h23, h24, fun _ => rfl, fun _ => rfl, fun _ => rfl, h28, h29, h5, fun _ => ⟨b_step hb5 (hC.1), (hC.2.1).below (hC.2.1).lt hb5, (hC.2.2.1).below (hC.2.2.1).lt hb5, (hC.2.2.2).below (hC.2.2.2).lt hb5⟩, by simp⟩
      · have hu : l7 = false := hu
        have hls : l9 = false := Bool.eq_false_iff.2 fun e => by have h : l7 = true := hcl 9 _ rfl e 7 (by decide +kernel); rw [hu] at h; cases h
        subst hls
        have hC := hC rfl
        clear hcl
        have y27 := h27 (hd 6 (by decide +kernel))
        subst y27
        go_simp
        exact hK _ _ ⟨l0, l1, l2, l3, l4, l5, l6, true, l8, false, l10, t21, t22, t23, t24, t25, t26, _, _, t29, t5, rfl, rfl, h21, h22, h23, h24, h25, h26, fun _ => rfl, fun _ => rfl, h29, h5, fun _ => hC, by simp⟩
      · have hu : l8 = false := hu
        have hls : l9 = false := Bool.eq_false_iff.2 fun e => by have h : l8 = true := hcl 9 _ rfl e 8 (by decide +kernel); rw [hu] at h; cases h
        subst hls
        have hC := hC rfl
        clear hcl
        have y27 := h27 (hd 6 (by decide +kernel))
        subst y27
        go_simp
        exact hK _ _ ⟨l0, l1, l2, l3, l4, l5, l6, l7, true, false, l10, t21, t22, t23, t24, t25, t26, _, t28, _, t5, rfl, rfl, h21, h22, h23, h24, h25, h26, fun _ => rfl, h28, fun _ => rfl, h5, fun _ => hC, by simp⟩
      · have hu : l9 = false := hu
        subst hu
        have hC := hC rfl
        clear hcl
        have y28 := h28 (hd 7 (by decide +kernel))
        subst y28
        rw [if_pos (by rfl)]
        refine wp_store_row _ _ _ rfl _ _ rfl rfl _ _ (hC.2.2.2) sizeDec rfl (dec_one _ _ _) ?_
        exact hK _ _ ⟨l0, l1, l2, l3, l4, l5, l6, l7, l8, true, l10, t21, t22, t23, t24, t25, t26, t27, _, t29, t5, rfl, rfl, h21, h22, h23, h24, h25, h26, h27, fun _ => rfl, h29, h5, by simp, fun _ => ⟨b_row (hC.1) (by omega), (hC.2.1).row_other (by omega), (hC.2.2.1).row_other (by omega), (hC.2.2.2).row _⟩⟩
      · have hu : l10 = false := hu
        clear hcl
        have y29 := h29 (hd 8 (by decide +kernel))
        subst y29
        go_simp
        exact hK _ _ ⟨l0, l1, l2, l3, l4, l5, l6, l7, l8, l9, true, t21, t22, t23, t24, t25, t26, t27, t28, _, _, rfl, rfl, h21, h22, h23, h24, h25, h26, h27, h28, fun _ => rfl, fun _ => rfl, hC, hP⟩
  · have g1 : (a.neg == b.neg) = false := by rw [beq_eq_false_iff_ne]; exact he
    have hr : r = if X < Y then mk b.neg (Y - X) m else mk a.neg (X - Y) m := by rw [HR.out, if_neg he]
    have HR2 := Lib.hid hr
    have hLs := HLs.out
    clear he hr HR
    by_cases hlt : X < Y
    · have hr : r = mk b.neg (Y - X) m := by rw [HR2.out, if_pos hlt]
      have HrH := Lib.hid hr
      have hmi := HMi1.out (by omega)
      have Hm3 := Lib.hid hmi
      rw [decide_eq_true hlt] at hLs
      clear hlt hmi hr HR2
      go_wp2_with (go_at_call 54; refine (hLs _).mono ?_; rintro e w' ⟨rfl, rfl⟩)
      have hr := HrH.out
      clear HrH
      have hM := HM2.out
      rw [← hr] at hM
      rw [R.val_eq] at hM
      have HM := Lib.hid hM
      clear hM hr a0 a1 a2 b0 b1 b2
      simp only [Nat.add_assoc, Nat.reduceAdd]
      have hC0 : RowKit.Below w.heap.size w w5.drew ∧ Blk w5.drew (w.heap.size) (#[.bool a.neg, .string (decB a.n), .int .i64 (a.s : Int)]) 23 ∧ Blk w5.drew (w.heap.size + 1) (#[.bool b.neg, .string (decB b.n), .int .i64 (b.s : Int)]) 23 ∧ Blk w5.drew (w.heap.size + 2) (#[.bool false, .string ⟨#[]⟩, .int .i64 0]) 23 := ⟨b_drew (hS5.1), (hS5.2.1), (hS5.2.2.1), (hS5.2.2.2)⟩
      clear hS5
      refine region_inv (fun ls a' w' => ∃ (l0 l1 l2 l3 l4 l5 l6 l7 l8 l9 l10 : Bool) (t33 t34 t35 t36 t37 t38 t39 t40 t41 t5 : Value), ls = [l0, l1, l2, l3, l4, l5, l6, l7, l8, l9, l10] ∧ a' = { tmps := #[Value.agg #[Value.bool a.neg, Value.string (decB a.n), Value.int IntKind.i64 ↑a.s], Value.agg #[Value.bool b.neg, Value.string (decB b.n), Value.int IntKind.i64 ↑b.s], Value.pointer (some { block := w.heap.size, off := 0 }), Value.pointer (some { block := w.heap.size + 1, off := 0 }), Value.pointer (some { block := w.heap.size + 2, off := 0 }), t5, Value.string xs, Value.string ys, Value.int IntKind.i64 ↑m, Value.tuple #[Value.string xs, Value.string ys, Value.int IntKind.i64 ↑m], Value.agg #[Value.bool a.neg, Value.string (decB a.n), Value.int IntKind.i64 ↑a.s], Value.agg #[Value.bool b.neg, Value.string (decB b.n), Value.int IntKind.i64 ↑b.s], Value.tuple #[Value.string xs, Value.string ys, Value.int IntKind.i64 ↑m], Value.string xs, Value.string ys, Value.int IntKind.i64 ↑m, Value.pointer (some { block := w.heap.size, off := 0 }), Value.bool a.neg, Value.pointer (some { block := w.heap.size + 1, off := 0 }), Value.bool b.neg, Value.bool false, undef, undef, undef, undef, undef, undef, undef, undef, undef, Value.string xs, Value.string ys, Value.bool true, t33, t34, t35, t36, t37, t38, t39, t40, t41, undef, undef, undef, undef, undef, undef, undef, undef, undef], defers := [] } ∧ (l0 = true → t33 = Value.pointer (some ⟨w.heap.size + 1, 0, none⟩)) ∧ (l1 = true → t34 = Value.bool b.neg) ∧ (l2 = true → t35 = Value.string ys) ∧ (l3 = true → t36 = Value.string xs) ∧ (l4 = true → t37 = Value.string (decB (Y - X))) ∧ (l5 = true → t38 = Value.int .i64 (m : Int)) ∧ (l6 = true → t39 = Value.tuple #[Value.agg #[.bool r.d.neg, .string r.d.s, .int .i64 r.d.sc], .int .i64 r.no]) ∧ (l7 = true → t40 = Value.agg #[.bool r.d.neg, .string r.d.s, .int .i64 r.d.sc]) ∧ (l8 = true → t41 = Value.int .i64 r.no) ∧ (l10 = true → t5 = Value.int .i64 r.no) ∧ (l9 = false → RowKit.Below w.heap.size w w' ∧ Blk w' (w.heap.size) (#[.bool a.neg, .string (decB a.n), .int .i64 (a.s : Int)]) 23 ∧ Blk w' (w.heap.size + 1) (#[.bool b.neg, .string (decB b.n), .int .i64 (b.s : Int)]) 23 ∧ Blk w' (w.heap.size + 2) (#[.bool false, .string ⟨#[]⟩, .int .i64 0]) 23) ∧ (l9 = true → RowKit.Below w.heap.size w w' ∧ Blk w' (w.heap.size) (#[.bool a.neg, .string (decB a.n), .int .i64 (a.s : Int)]) 23 ∧ Blk w' (w.heap.size + 1) (#[.bool b.neg, .string (decB b.n), .int .i64 (b.s : Int)]) 23 ∧ Blk w' (w.heap.size + 2) (#[.bool r.d.neg, .string r.d.s, .int .i64 r.d.sc]) 23)) (by kernel_rfl) (by kernel_rfl) ?rlen5 ?rdone5 ?rh05 ?rstep5
      case rlen5 => rintro ls a' w' ⟨l0, l1, l2, l3, l4, l5, l6, l7, l8, l9, l10, t33, t34, t35, t36, t37, t38, t39, t40, t41, t5, rfl, _⟩; rfl
      case rh05 => exact ⟨false, false, false, false, false, false, false, false, false, false, false, undef, undef, undef, undef, undef, undef, undef, undef, undef, Value.int IntKind.i64 0, rfl, rfl, by simp, by simp, by simp, by simp, by simp, by simp, by simp, by simp, by simp, by simp, fun _ => hC0, by simp⟩
      case rdone5 =>
        rintro ls a' w' ⟨l0, l1, l2, l3, l4, l5, l6, l7, l8, l9, l10, t33, t34, t35, t36, t37, t38, t39, t40, t41, t5, rfl, rfl, h33, h34, h35, h36, h37, h38, h39, h40, h41, h5, hC, hP⟩ hl
        obtain rfl := h5 (by simpa using hl 10)
        have hP := hP (by simpa using hl 9)
        clear h33 h34 h35 h36 h37 h38 h39 h40 h41 hl hC
        go_wp2
        refine bodyPost_ret (v := r.val) (results_row_slot (by rfl) _ _ _ _ _ _ (by rfl) (hP.2.2.2) (by rfl)) rfl ⟨rfl, (hP.1)⟩
      case rstep5 =>
        rintro i o ho ls a' w' ⟨l0, l1, l2, l3, l4, l5, l6, l7, l8, l9, l10, t33, t34, t35, t36, t37, t38, t39, t40, t41, t5, rfl, rfl, h33, h34, h35, h36, h37, h38, h39, h40, h41, h5, hC, hP⟩ hcl hu hd K hK
        rcases i with _ | _ | _ | _ | _ | _ | _ | _ | _ | _ | _ | i <;> simp only [List.getElem?_cons_zero, List.getElem?_cons_succ, List.getElem?_nil, Option.some.injEq, reduceCtorEq] at ho
        all_goals subst ho
        · have hu : l0 = false := hu
          have hls : l9 = false := Bool.eq_false_iff.2 fun e => by have h : l0 = true := hcl 9 _ rfl e 0 (by decide +kernel); rw [hu] at h; cases h
          subst hls
          have hC := hC rfl
          clear hcl
          go_simp
          exact hK _ _ ⟨true, l1, l2, l3, l4, l5, l6, l7, l8, false, l10, _, t34, t35, t36, t37, t38, t39, t40, t41, t5, rfl, rfl, fun _ => rfl, h34, h35, h36, h37, h38, h39, h40, h41, h5, fun _ => hC, by simp⟩
        · have hu : l1 = false := hu
          have hls : l9 = false := Bool.eq_false_iff.2 fun e => by have h : l1 = true := hcl 9 _ rfl e 1 (by decide +kernel); rw [hu] at h; cases h
          subst hls
          have hC := hC rfl
          clear hcl
          have y33 := h33 (hd 0 (by decide +kernel))
          subst y33
          obtain ⟨c0, c1, c2, _, _, _⟩ := (hC.2.2.1).three
          go_simp
          exact hK _ _ ⟨l0, true, l2, l3, l4, l5, l6, l7, l8, false, l10, _, _, t35, t36, t37, t38, t39, t40, t41, t5, rfl, rfl, fun _ => rfl, fun _ => rfl, h35, h36, h37, h38, h39, h40, h41, h5, fun _ => hC, by simp⟩
        · have hu : l2 = false := hu
          have hls : l9 = false := Bool.eq_false_iff.2 fun e => by have h : l2 = true := hcl 9 _ rfl e 2 (by decide +kernel); rw [hu] at h; cases h
          subst hls
          have hC := hC rfl
          clear hcl
          go_simp
          exact hK _ _ ⟨l0, l1, true, l3, l4, l5, l6, l7, l8, false, l10, t33, t34, _, t36, t37, t38, t39, t40, t41, t5, rfl, rfl, h33, h34, fun _ => rfl, h36, h37, h38, h39, h40, h41, h5, fun _ => hC, by simp⟩
        · have hu : l3 = false := hu
          have hls : l9 = false := Bool.eq_false_iff.2 fun e => by have h : l3 = true := hcl 9 _ rfl e 3 (by decide +kernel); rw [hu] at h; cases h
          subst hls
          have hC := hC rfl
          clear hcl
          go_simp
          exact hK _ _ ⟨l0, l1, l2, true, l4, l5, l6, l7, l8, false, l10, t33, t34, t35, _, t37, t38, t39, t40, t41, t5, rfl, rfl, h33, h34, h35, fun _ => rfl, h37, h38, h39, h40, h41, h5, fun _ => hC, by simp⟩
        · have hu : l4 = false := hu
          have hls : l9 = false := Bool.eq_false_iff.2 fun e => by have h : l4 = true := hcl 9 _ rfl e 4 (by decide +kernel); rw [hu] at h; cases h
          subst hls
          have hC := hC rfl
          clear hcl
          have y35 := h35 (hd 2 (by decide +kernel))
          subst y35
          have y36 := h36 (hd 3 (by decide +kernel))
          subst y36
          have hK5 := Hm3.out w'
          go_simp
          refine hK5.mono ?_
          rintro e w5 ⟨rfl, hb5⟩
          exact hK _ _ ⟨l0, l1, l2, l3, true, l5, l6, l7, l8, false, l10, t33, t34, _, _, _, t38, t39, t40, t41, t5, rfl, rfl, h33, h34, fun _ => rfl, fun _ => rfl, fun _ => rfl, h38, h39, h40, h41, h5, fun _ => ⟨b_step hb5 (hC.1), (hC.2.1).below (hC.2.1).lt hb5, (hC.2.2.1).below (hC.2.2.1).lt hb5, (hC.2.2.2).below (hC.2.2.2).lt hb5⟩, by simp⟩
        · have hu : l5 = false := hu
          have hls : l9 = false := Bool.eq_false_iff.2 fun e => by have h : l5 = true := hcl 9 _ rfl e 5 (by decide +kernel); rw [hu] at h; cases h
          subst hls
          have hC := hC rfl
          clear hcl
          go_simp
          exact hK _ _ ⟨l0, l1, l2, l3, l4, true, l6, l7, l8, false, l10, t33, t34, t35, t36, t37, _, t39, t40, t41, t5, rfl, rfl, h33, h34, h35, h36, h37, fun _ => rfl, h39, h40, h41, h5, fun _ => hC, by simp⟩
        · have hu : l6 = false := hu
          have hls : l9 = false := Bool.eq_false_iff.2 fun e => by have h : l6 = true := hcl 9 _ rfl e 6 (by decide +kernel); rw [hu] at h; cases h
          subst hls
          have hC := hC rfl
          clear hcl
          have y34 := h34 (hd 1 (by decide +kernel))
          subst y34
          have y37 := h37 (hd 4 (by decide +kernel))
          subst y37
          have y38 := h38 (hd 5 (by decide +kernel))
          subst y38
          have hK5 := HM.out w'
          go_simp
          refine hK5.mono ?_
          rintro e w5 ⟨rfl, hb5⟩
          exact hK _ _ ⟨l0, l1, l2, l3, l4, l5, true, l7, l8, false, l10, t33, _, t35, t36, _, _, _, t40, t41, t5, rfl, rfl, h33, fun _ => rfl, h35, h36, fun _ => rfl, fun _ => rfl, fun _ => rfl, h40, h41, h5, fun _ => ⟨b_step hb5 (hC.1), (hC.2.1).below (hC.2.1).lt hb5, (hC.2.2.1).below (hC.2.2.1).lt hb5, (hC.2.2.2).below (hC.2.2.2).lt hb5⟩, by simp⟩
        · have hu : l7 = false := hu
          have hls : l9 = false := Bool.eq_false_iff.2 fun e => by have h : l7 = true := hcl 9 _ rfl e 7 (by decide +kernel); rw [hu] at h; cases h
          subst hls
          have hC := hC rfl
          clear hcl
          have y39 := h39 (hd 6 (by decide +kernel))
          subst y39
          go_simp
          exact hK _ _ ⟨l0, l1, l2, l3, l4, l5, l6, true, l8, false, l10, t33, t34, t35, t36, t37, t38, _, _, t41, t5, rfl, rfl, h33, h34, h35, h36, h37, h38, fun _ => rfl, fun _ => rfl, h41, h5, fun _ => hC, by simp⟩
        · have hu : l8 = false := hu
          have hls : l9 = false := Bool.eq_false_iff.2 fun e => by have h : l8 = true := hcl 9 _ rfl e 8 (by decide +kernel); rw [hu] at h; cases h
          subst hls
          have hC := hC rfl
          clear hcl
          have y39 := h39 (hd 6 (by decide +kernel))
          subst y39
          go_simp
          exact hK _ _ ⟨l0, l1, l2, l3, l4, l5, l6, l7, true, false, l10, t33, t34, t35, t36, t37, t38, _, t40, _, t5, rfl, rfl, h33, h34, h35, h36, h37, h38, fun _ => rfl, h40, fun _ => rfl, h5, fun _ => hC, by simp⟩
        · have hu : l9 = false := hu
          subst hu
          have hC := hC rfl
          clear hcl
          have y40 := h40 (hd 7 (by decide +kernel))
          subst y40
          rw [if_pos (by rfl)]
          refine wp_store_row _ _ _ rfl _ _ rfl rfl _ _ (hC.2.2.2) sizeDec rfl (dec_one _ _ _) ?_
          exact hK _ _ ⟨l0, l1, l2, l3, l4, l5, l6, l7, l8, true, l10, t33, t34, t35, t36, t37, t38, t39, _, t41, t5, rfl, rfl, h33, h34, h35, h36, h37, h38, h39, fun _ => rfl, h41, h5, by simp, fun _ => ⟨b_row (hC.1) (by omega), (hC.2.1).row_other (by omega), (hC.2.2.1).row_other (by omega), (hC.2.2.2).row _⟩⟩
        · have hu : l10 = false := hu
          clear hcl
          have y41 := h41 (hd 8 (by decide +kernel))
          subst y41
          go_simp
          exact hK _ _ ⟨l0, l1, l2, l3, l4, l5, l6, l7, l8, l9, true, t33, t34, t35, t36, t37, t38, t39, t40, _, _, rfl, rfl, h33, h34, h35, h36, h37, h38, h39, h40, fun _ => rfl, fun _ => rfl, hC, hP⟩
    · have hr : r = mk a.neg (X - Y) m := by rw [HR2.out, if_neg hlt]
      have HrH := Lib.hid hr
      have hmi := HMi2.out (by omega)
      have Hm3 := Lib.hid hmi
      rw [decide_eq_false hlt] at hLs
      clear hlt hmi hr HR2
      go_wp2_with (go_at_call 54; refine (hLs _).mono ?_; rintro e w' ⟨rfl, rfl⟩)
      have hr := HrH.out
      clear HrH
      have hM := HM3.out
      rw [← hr] at hM
      rw [R.val_eq] at hM
      have HM := Lib.hid hM
      clear hM hr a0 a1 a2 b0 b1 b2
      simp only [Nat.add_assoc, Nat.reduceAdd]
      have hC0 : RowKit.Below w.heap.size w w5.drew ∧ Blk w5.drew (w.heap.size) (#[.bool a.neg, .string (decB a.n), .int .i64 (a.s : Int)]) 23 ∧ Blk w5.drew (w.heap.size + 1) (#[.bool b.neg, .string (decB b.n), .int .i64 (b.s : Int)]) 23 ∧ Blk w5.drew (w.heap.size + 2) (#[.bool false, .string ⟨#[]⟩, .int .i64 0]) 23 := ⟨b_drew (hS5.1), (hS5.2.1), (hS5.2.2.1), (hS5.2.2.2)⟩
      clear hS5
      refine region_inv (fun ls a' w' => ∃ (l0 l1 l2 l3 l4 l5 l6 l7 l8 l9 l10 : Bool) (t42 t43 t44 t45 t46 t47 t48 t49 t50 t5 : Value), ls = [l0, l1, l2, l3, l4, l5, l6, l7, l8, l9, l10] ∧ a' = { tmps := #[Value.agg #[Value.bool a.neg, Value.string (decB a.n), Value.int IntKind.i64 ↑a.s], Value.agg #[Value.bool b.neg, Value.string (decB b.n), Value.int IntKind.i64 ↑b.s], Value.pointer (some { block := w.heap.size, off := 0 }), Value.pointer (some { block := w.heap.size + 1, off := 0 }), Value.pointer (some { block := w.heap.size + 2, off := 0 }), t5, Value.string xs, Value.string ys, Value.int IntKind.i64 ↑m, Value.tuple #[Value.string xs, Value.string ys, Value.int IntKind.i64 ↑m], Value.agg #[Value.bool a.neg, Value.string (decB a.n), Value.int IntKind.i64 ↑a.s], Value.agg #[Value.bool b.neg, Value.string (decB b.n), Value.int IntKind.i64 ↑b.s], Value.tuple #[Value.string xs, Value.string ys, Value.int IntKind.i64 ↑m], Value.string xs, Value.string ys, Value.int IntKind.i64 ↑m, Value.pointer (some { block := w.heap.size, off := 0 }), Value.bool a.neg, Value.pointer (some { block := w.heap.size + 1, off := 0 }), Value.bool b.neg, Value.bool false, undef, undef, undef, undef, undef, undef, undef, undef, undef, Value.string xs, Value.string ys, Value.bool false, undef, undef, undef, undef, undef, undef, undef, undef, undef, t42, t43, t44, t45, t46, t47, t48, t49, t50], defers := [] } ∧ (l0 = true → t42 = Value.pointer (some ⟨w.heap.size, 0, none⟩)) ∧ (l1 = true → t43 = Value.bool a.neg) ∧ (l2 = true → t44 = Value.string xs) ∧ (l3 = true → t45 = Value.string ys) ∧ (l4 = true → t46 = Value.string (decB (X - Y))) ∧ (l5 = true → t47 = Value.int .i64 (m : Int)) ∧ (l6 = true → t48 = Value.tuple #[Value.agg #[.bool r.d.neg, .string r.d.s, .int .i64 r.d.sc], .int .i64 r.no]) ∧ (l7 = true → t49 = Value.agg #[.bool r.d.neg, .string r.d.s, .int .i64 r.d.sc]) ∧ (l8 = true → t50 = Value.int .i64 r.no) ∧ (l10 = true → t5 = Value.int .i64 r.no) ∧ (l9 = false → RowKit.Below w.heap.size w w' ∧ Blk w' (w.heap.size) (#[.bool a.neg, .string (decB a.n), .int .i64 (a.s : Int)]) 23 ∧ Blk w' (w.heap.size + 1) (#[.bool b.neg, .string (decB b.n), .int .i64 (b.s : Int)]) 23 ∧ Blk w' (w.heap.size + 2) (#[.bool false, .string ⟨#[]⟩, .int .i64 0]) 23) ∧ (l9 = true → RowKit.Below w.heap.size w w' ∧ Blk w' (w.heap.size) (#[.bool a.neg, .string (decB a.n), .int .i64 (a.s : Int)]) 23 ∧ Blk w' (w.heap.size + 1) (#[.bool b.neg, .string (decB b.n), .int .i64 (b.s : Int)]) 23 ∧ Blk w' (w.heap.size + 2) (#[.bool r.d.neg, .string r.d.s, .int .i64 r.d.sc]) 23)) (by kernel_rfl) (by kernel_rfl) ?rlen6 ?rdone6 ?rh06 ?rstep6
      case rlen6 => rintro ls a' w' ⟨l0, l1, l2, l3, l4, l5, l6, l7, l8, l9, l10, t42, t43, t44, t45, t46, t47, t48, t49, t50, t5, rfl, _⟩; rfl
      case rh06 => exact ⟨false, false, false, false, false, false, false, false, false, false, false, undef, undef, undef, undef, undef, undef, undef, undef, undef, Value.int IntKind.i64 0, rfl, rfl, by simp, by simp, by simp, by simp, by simp, by simp, by simp, by simp, by simp, by simp, fun _ => hC0, by simp⟩
      case rdone6 =>
        rintro ls a' w' ⟨l0, l1, l2, l3, l4, l5, l6, l7, l8, l9, l10, t42, t43, t44, t45, t46, t47, t48, t49, t50, t5, rfl, rfl, h42, h43, h44, h45, h46, h47, h48, h49, h50, h5, hC, hP⟩ hl
        obtain rfl := h5 (by simpa using hl 10)
        have hP := hP (by simpa using hl 9)
        clear h42 h43 h44 h45 h46 h47 h48 h49 h50 hl hC
        go_wp2
        refine bodyPost_ret (v := r.val) (results_row_slot (by rfl) _ _ _ _ _ _ (by rfl) (hP.2.2.2) (by rfl)) rfl ⟨rfl, (hP.1)⟩
      case rstep6 =>
        rintro i o ho ls a' w' ⟨l0, l1, l2, l3, l4, l5, l6, l7, l8, l9, l10, t42, t43, t44, t45, t46, t47, t48, t49, t50, t5, rfl, rfl, h42, h43, h44, h45, h46, h47, h48, h49, h50, h5, hC, hP⟩ hcl hu hd K hK
        rcases i with _ | _ | _ | _ | _ | _ | _ | _ | _ | _ | _ | i <;> simp only [List.getElem?_cons_zero, List.getElem?_cons_succ, List.getElem?_nil, Option.some.injEq, reduceCtorEq] at ho
        all_goals subst ho
        · have hu : l0 = false := hu
          have hls : l9 = false := Bool.eq_false_iff.2 fun e => by have h : l0 = true := hcl 9 _ rfl e 0 (by decide +kernel); rw [hu] at h; cases h
          subst hls
          have hC := hC rfl
          clear hcl
          go_simp
          exact hK _ _ ⟨true, l1, l2, l3, l4, l5, l6, l7, l8, false, l10, _, t43, t44, t45, t46, t47, t48, t49, t50, t5, rfl, rfl, fun _ => rfl, h43, h44, h45, h46, h47, h48, h49, h50, h5, fun _ => hC, by simp⟩
        · have hu : l1 = false := hu
          have hls : l9 = false := Bool.eq_false_iff.2 fun e => by have h : l1 = true := hcl 9 _ rfl e 1 (by decide +kernel); rw [hu] at h; cases h
          subst hls
          have hC := hC rfl
          clear hcl
          have y42 := h42 (hd 0 (by decide +kernel))
          subst y42
          obtain ⟨c0, c1, c2, _, _, _⟩ := (hC.2.1).three
          go_simp
          exact hK _ _ ⟨l0, true, l2, l3, l4, l5, l6, l7, l8, false, l10, _, _, t44, t45, t46, t47, t48, t49, t50, t5, rfl, rfl, fun _ => rfl, fun _ => rfl, h44, h45, h46, h47, h48, h49, h50, h5, fun _ => hC, by simp⟩
        · have hu : l2 = false := hu
          have hls : l9 = false := Bool.eq_false_iff.2 fun e => by have h : l2 = true := hcl 9 _ rfl e 2 (by decide +kernel); rw [hu] at h; cases h
          subst hls
          have hC := hC rfl
          clear hcl
          go_simp
          exact hK _ _ ⟨l0, l1, true, l3, l4, l5, l6, l7, l8, false, l10, t42, t43, _, t45, t46, t47, t48, t49, t50, t5, rfl, rfl, h42, h43, fun _ => rfl, h45, h46, h47, h48, h49, h50, h5, fun _ => hC, by simp⟩
        · have hu : l3 = false := hu
          have hls : l9 = false := Bool.eq_false_iff.2 fun e => by have h : l3 = true := hcl 9 _ rfl e 3 (by decide +kernel); rw [hu] at h; cases h
          subst hls
          have hC := hC rfl
          clear hcl
          go_simp
          exact hK _ _ ⟨l0, l1, l2, true, l4, l5, l6, l7, l8, false, l10, t42, t43, t44, _, t46, t47, t48, t49, t50, t5, rfl, rfl, h42, h43, h44, fun _ => rfl, h46, h47, h48, h49, h50, h5, fun _ => hC, by simp⟩
        · have hu : l4 = false := hu
          have hls : l9 = false := Bool.eq_false_iff.2 fun e => by have h : l4 = true := hcl 9 _ rfl e 4 (by decide +kernel); rw [hu] at h; cases h
          subst hls
          have hC := hC rfl
          clear hcl
          have y44 := h44 (hd 2 (by decide +kernel))
          subst y44
          have y45 := h45 (hd 3 (by decide +kernel))
          subst y45
          have hK5 := Hm3.out w'
          go_simp
          refine hK5.mono ?_
          rintro e w5 ⟨rfl, hb5⟩
          exact hK _ _ ⟨l0, l1, l2, l3, true, l5, l6, l7, l8, false, l10, t42, t43, _, _, _, t47, t48, t49, t50, t5, rfl, rfl, h42, h43, fun _ => rfl, fun _ => rfl, fun _ => rfl, h47, h48, h49, h50, h5, fun _ => ⟨b_step hb5 (hC.1), (hC.2.1).below (hC.2.1).lt hb5, (hC.2.2.1).below (hC.2.2.1).lt hb5, (hC.2.2.2).below (hC.2.2.2).lt hb5⟩, by simp⟩
        · have hu : l5 = false := hu
          have hls : l9 = false := Bool.eq_false_iff.2 fun e => by have h : l5 = true := hcl 9 _ rfl e 5 (by decide +kernel); rw [hu] at h; cases h
          subst hls
          have hC := hC rfl
          clear hcl
          go_simp
          exact hK _ _ ⟨l0, l1, l2, l3, l4, true, l6, l7, l8, false, l10, t42, t43, t44, t45, t46, _, t48, t49, t50, t5, rfl, rfl, h42, h43, h44, h45, h46, fun _ => rfl, h48, h49, h50, h5, fun _ => hC, by simp⟩
        · have hu : l6 = false := hu
          have hls : l9 = false := Bool.eq_false_iff.2 fun e => by have h : l6 = true := hcl 9 _ rfl e 6 (by decide +kernel); rw [hu] at h; cases h
          subst hls
          have hC := hC rfl
          clear hcl
          have y43 := h43 (hd 1 (by decide +kernel))
          subst y43
          have y46 := h46 (hd 4 (by decide +kernel))
          subst y46
          have y47 := h47 (hd 5 (by decide +kernel))
          subst y47
          have hK5 := HM.out w'
          go_simp
          refine hK5.mono ?_
          rintro e w5 ⟨rfl, hb5⟩
          exact hK _ _ ⟨l0, l1, l2, l3, l4, l5, true, l7, l8, false, l10, t42, _, t44, t45, _, _, _, t49, t50, t5, rfl, rfl, h42, fun _ => rfl, h44, h45, fun _ => rfl, fun _ => rfl, fun _ => rfl, h49, h50, h5, fun _ => ⟨b_step hb5 (hC.1), (hC.2.1).below (hC.2.1).lt hb5, (hC.2.2.1).below (hC.2.2.1).lt hb5, (hC.2.2.2).below (hC.2.2.2).lt hb5⟩, by simp⟩
        · have hu : l7 = false := hu
          have hls : l9 = false := Bool.eq_false_iff.2 fun e => by have h : l7 = true := hcl 9 _ rfl e 7 (by decide +kernel); rw [hu] at h; cases h
          subst hls
          have hC := hC rfl
          clear hcl
          have y48 := h48 (hd 6 (by decide +kernel))
          subst y48
          go_simp
          exact hK _ _ ⟨l0, l1, l2, l3, l4, l5, l6, true, l8, false, l10, t42, t43, t44, t45, t46, t47, _, _, t50, t5, rfl, rfl, h42, h43, h44, h45, h46, h47, fun _ => rfl, fun _ => rfl, h50, h5, fun _ => hC, by simp⟩
        · have hu : l8 = false := hu
          have hls : l9 = false := Bool.eq_false_iff.2 fun e => by have h : l8 = true := hcl 9 _ rfl e 8 (by decide +kernel); rw [hu] at h; cases h
          subst hls
          have hC := hC rfl
          clear hcl
          have y48 := h48 (hd 6 (by decide +kernel))
          subst y48
          go_simp
          exact hK _ _ ⟨l0, l1, l2, l3, l4, l5, l6, l7, true, false, l10, t42, t43, t44, t45, t46, t47, _, t49, _, t5, rfl, rfl, h42, h43, h44, h45, h46, h47, fun _ => rfl, h49, fun _ => rfl, h5, fun _ => hC, by simp⟩
        · have hu : l9 = false := hu
          subst hu
          have hC := hC rfl
          clear hcl
          have y49 := h49 (hd 7 (by decide +kernel))
          subst y49
          rw [if_pos (by rfl)]
          refine wp_store_row _ _ _ rfl _ _ rfl rfl _ _ (hC.2.2.2) sizeDec rfl (dec_one _ _ _) ?_
          exact hK _ _ ⟨l0, l1, l2, l3, l4, l5, l6, l7, l8, true, l10, t42, t43, t44, t45, t46, t47, t48, _, t50, t5, rfl, rfl, h42, h43, h44, h45, h46, h47, h48, fun _ => rfl, h50, h5, by simp, fun _ => ⟨b_row (hC.1) (by omega), (hC.2.1).row_other (by omega), (hC.2.2.1).row_other (by omega), (hC.2.2.2).row _⟩⟩
        · have hu : l10 = false := hu
          clear hcl
          have y50 := h50 (hd 8 (by decide +kernel))
          subst y50
          go_simp
          exact hK _ _ ⟨l0, l1, l2, l3, l4, l5, l6, l7, l8, l9, true, t42, t43, t44, t45, t46, t47, t48, t49, _, _, rfl, rfl, h42, h43, h44, h45, h46, h47, h48, h49, fun _ => rfl, fun _ => rfl, hC, hP⟩
end Dc
end Go.Proofs.YthnpbkplcboejaaGreatDoor
