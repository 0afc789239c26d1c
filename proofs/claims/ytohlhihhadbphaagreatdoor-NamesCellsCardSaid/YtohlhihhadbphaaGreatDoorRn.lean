/- The reference of names: Witness. -/
import Derived.Test.YtohlhihhadbphaaGreatDoorRm
set_option linter.unusedSimpArgs false
set_option linter.unusedVariables false
namespace Go.Proofs.YtohlhihhadbphaaGreatDoor
open Go.RowKit Go.Shelf Go.Lib Go.Maps
namespace Np
theorem find_at {α : Type} {p : α → Bool} : ∀ (C : List α) (k : Nat) (h : k < C.length), (∀ x ∈ C.take k, p x = false) → p C[k] = true → C.find? p = some C[k]
  | [], k, h, _, _ => by simp at h
  | a :: r, 0, _, _, h => by rw [List.find?_cons_of_pos (by simpa using h)]; rfl
  | a :: r, k + 1, h, hj, hp => by
    have h0 : p a = false := hj a (by simp)
    rw [List.find?_cons_of_neg (by simp [h0]), find_at r k (by simpa using h) (fun x hx => hj x (by simp [hx])) (by simpa using hp)]
    rfl
theorem find_no {α : Type} {p : α → Bool} {C : List α} (h : ∀ x ∈ C, p x = false) : C.find? p = none := by
  rw [List.find?_eq_none]
  intro x hx
  rw [h x hx]; simp
set_option maxRecDepth 100000 in
set_option maxHeartbeats 4000000 in
theorem rWitness_any (t : CT) (A : Nat → Prop) (aa : Option Addr) (ca : Nat) (av : List Name) (w : World) (hIn : t.In w w.heap.size) (hV : RwN A w aa av) (hA : ∀ b, A b → b < w.heap.size) (hal : av.length ≤ 1000) :
    Calls Tryz.prog 31 #[t.val, .slice aa av.length ca] w fun e w' => e = .returned (.tuple #[(witN t av).val, .int .i64 (witR t av)]) ∧ Below w.heap.size w w' := by
  obtain ⟨W1, hW1⟩ : ∃ W1, (w.alloc (.cells t.cells.toArray 26)).alloc (.cells #[.string ⟨#[]⟩, .string ⟨#[]⟩] 23) = W1 := ⟨_, rfl⟩
  have hb1 : Below w.heap.size w W1 := by rw [← hW1]; exact ((Below.refl _ w).alloc (Nat.le_refl _) _).alloc (by simp) _
  have B0 : Blk W1 w.heap.size t.cells.toArray 26 := by rw [← hW1]; exact (Blk.new _ _ _).alloc _
  have BR : Blk W1 (w.heap.size + 1) #[.string ⟨#[]⟩, .string ⟨#[]⟩] 23 := by
    rw [← hW1]
    have := Blk.new (w.alloc (.cells t.cells.toArray 26)) #[.string ⟨#[]⟩, .string ⟨#[]⟩] 23
    rw [World.size_alloc] at this; exact this
  have hs1 : w.heap.size + 1 < W1.heap.size := BR.lt
  have hi1 := (hIn.below hb1 (Nat.le_refl _)).mono hb1.size
  have hV1 := hV.later hA hb1
  have hA1 : ∀ b, A b → b < W1.heap.size := fun b h => by have := hA b h; omega
  have hx := rCheck_any t W1 hi1
  obtain ⟨c0, c1, c2, c3, c4, c5⟩ := ct_cells B0
  rw [CT.cells_eq] at hW1
  rw [CT.val_eq] at hx
  obtain ⟨rn, hrn⟩ : ∃ x, witN t av = x := ⟨_, rfl⟩
  obtain ⟨rr, hrr⟩ : ∃ x, witR t av = x := ⟨_, rfl⟩
  rw [hrn, hrr, CT.val_eq]
  have Hrn := Lib.hid hrn
  have Hrr := Lib.hid hrr
  obtain ⟨r, hr⟩ : ∃ r, t.check = r := ⟨_, rfl⟩
  rw [hr] at hx
  have Hr := Lib.hid hr
  clear hr hrn hrr
  go_enter Tryz.func31, Tryz.ntmps31
  go_wp2_with (go_at_call 12; refine hx.mono ?_)
  first | rintro e w2 rfl hb2 | rintro e w2 ⟨rfl, hb2⟩
  have hB2 := hb1.trans (hb2.mono hb1.size)
  have hb2s := hb2.size
  clear c0 c1 c2 c3 c4 c5 hx
  by_cases h0 : r = 0
  · have hchk : t.check = 0 := by rw [Hr.out, h0]
    subst h0
    have B2 := B0.below hb2
    obtain ⟨c0, c1, c2, c3, c4, c5⟩ := ct_cells B2
    obtain ⟨W3, hW3⟩ : ∃ W3, w2.alloc (.cells ([t].flatMap CT.cells).toArray 26) = W3 := ⟨_, rfl⟩
    have hb3 : Below w2.heap.size w2 W3 := by rw [← hW3]; exact (Below.refl _ w2).alloc (Nat.le_refl _) _
    have BL : Blk W3 w2.heap.size ([t].flatMap CT.cells).toArray 26 := by rw [← hW3]; exact Blk.new _ _ _
    have hs3 : w2.heap.size < W3.heap.size := BL.lt
    have hb13 := hb2.trans (hb3.mono hb2s)
    have hi3 := (hi1.below hb13 (Nat.le_refl _)).mono hb13.size
    have hLL : LIn W3 W3.heap.size (some ⟨w2.heap.size, 0, none⟩) [t] := lin_row BL (by omega) (by simp; unfold maxLen; omega) (by intro x hx; simp at hx; subst hx; exact hi3)
    have hC := rCandidates_any (some ⟨w2.heap.size, 0, none⟩) 1 [t] A aa ca av W3 hLL (by have := nod_le hchk; simp only [nodL, List.map_cons, List.map_nil, List.sum_cons, List.sum_nil]; omega) (hV1.later hA1 hb13) (fun b h => by have := hA1 b h; omega) hal
    simp only [List.length_cons, List.length_nil, Nat.reduceAdd, Nat.zero_add] at hC
    obtain ⟨C, hCe⟩ : ∃ C, candsOf [t] av = C := ⟨_, rfl⟩
    rw [hCe] at hC
    have HCe := Lib.hid hCe
    have hW3' : w2.alloc (.cells #[.int .i64 t.kind, .string t.name.sp, .string t.name.lc, .string t.space, .slice t.ea t.ex.length t.ec, .slice t.aa t.ar.length t.ac] 26) = W3 := by
      rw [← hW3]
      congr 2
      simp [CT.cells, CT.exv_eq, CT.arv_eq]
    have hwN : Hid (witN t av = (C.find? fun n => t.holds n && !decide (n ∈ av)).getD noN ∧ witR t av = match C.find? (fun n => t.holds n && !decide (n ∈ av)) with | some _ => 0 | none => 4) := Lib.hid (by
      unfold witN witR witC
      rw [hchk, hCe, if_pos rfl, if_pos rfl]; exact ⟨rfl, rfl⟩)
    have Hfit := Lib.hid (fits_of_check hchk)
    clear hW3 hCe hchk
    go_wp2_with (go_at_call 67; refine hC.mono ?_)
    rintro e W4 ⟨a4, k4, rfl, ⟨q1, q2, q3⟩, hb4⟩
    have hcl := q3.len
    have hB4 := hb4.size
    have hb14 : Below W1.heap.size W1 W4 := hb13.trans (hb4.mono hb13.size)
    have hA4 : ∀ b, (False ∨ (W3.heap.size ≤ b ∧ b < W4.heap.size)) → b < W4.heap.size := fun b h => by rcases h with h | h; exact h.elim; exact h.2
    clear hC c0 c1 c2 c3 c4 c5
    go_wp2
    go_loopw [8] (fun i wr => ∃ k : Nat, k ≤ C.length ∧ i = .int .i64 k ∧ Hid (∀ x ∈ C.take k, (t.holds x && !decide (x ∈ av)) = false) ∧ Below W4.heap.size W4 wr) (fun i _ => C.length - (intOf i).toNat)
    case atStart => exact ⟨0, by omega, rfl, Lib.hid (by simp), Below.refl _ _⟩
    case round =>
      obtain ⟨k, hk, rfl, HI, hb⟩ := hrel
      try clear hW3'
      have hbs := hb.size
      have hbw : Below W1.heap.size W1 wr := hb14.trans (hb.mono hb14.size)
      by_cases hlt : k < C.length
      · have d1 : decide ((k : Int) < (C.length : Int)) = true := decide_eq_true (by omega)
        have d2 : decide (k < C.length) = true := decide_eq_true hlt
        obtain ⟨b, o, hao, hbA, u0, u1⟩ := rwN_at (q3.later hA4 hb) hlt
        have hblt : b < wr.heap.size := by have := hA4 b hbA; omega
        obtain ⟨x, hx⟩ : ∃ x, C[k] = x := ⟨_, rfl⟩
        rw [hx] at u0 u1
        have hbz := hbw.size
        have B0r := (hbw.block _ (by omega)).trans B0
        have hc := fun w' (h : Below wr.heap.size wr w') => ct_cells (W := w') ((h.block _ (by omega)).trans B0r)
        have c0 := fun w' (h : Below wr.heap.size wr w') => (hc w' h).1
        have c1 := fun w' (h : Below wr.heap.size wr w') => (hc w' h).2.1
        have c2 := fun w' (h : Below wr.heap.size wr w') => (hc w' h).2.2.1
        have c3 := fun w' (h : Below wr.heap.size wr w') => (hc w' h).2.2.2.1
        have c4 := fun w' (h : Below wr.heap.size wr w') => (hc w' h).2.2.2.2.1
        have c5 := fun w' (h : Below wr.heap.size wr w') => (hc w' h).2.2.2.2.2
        have m0 := fun w' (h : Below wr.heap.size wr w') => (h.cell (p := ⟨b, o + k * 2, none⟩) hblt).trans u0
        have m1 := fun w' (h : Below wr.heap.size wr w') => (h.cell (p := ⟨b, o + k * 2 + 1, none⟩) hblt).trans u1
        have hT1 := fun w' (h : Below wr.heap.size wr w') => in_any t x w' (((hi1.below (hbw.trans (h.mono hbw.size))) (Nat.le_refl _)).mono (Nat.le_trans hbw.size h.size)) Hfit.out
        have hT2 := fun w' (h : Below wr.heap.size wr w') => has_any A aa ca av x w' (hV1.later hA1 (hbw.trans (h.mono hbw.size))) (fun b hb' => by have := hA1 b hb'; have := h.size; omega)
        simp only [CT.val_eq] at hT1
        unfold Name.val at hT1 hT2
        obtain ⟨v1, hv1⟩ : ∃ v, t.holds x = v := ⟨_, rfl⟩
        obtain ⟨v2, hv2⟩ : ∃ v, decide (x ∈ av) = v := ⟨_, rfl⟩
        simp only [hv1] at hT1
        simp only [hv2] at hT2
        have Hv1 := Lib.hid hv1
        have Hv2 := Lib.hid hv2
        have Hu : Hid (C.take (k + 1) = C.take k ++ [x]) := Lib.hid (by rw [List.take_succ_eq_append_getElem hlt, hx])
        have Hx := Lib.hid hx
        subst hao
        clear hx hv1 hv2 u0 u1 hc B0r
        go_upto_region 8 with (fail)
        cases v1
        · have c0' := c0 wr (Below.refl _ _)
          have c1' := c1 wr (Below.refl _ _)
          have c2' := c2 wr (Below.refl _ _)
          have c3' := c3 wr (Below.refl _ _)
          have c4' := c4 wr (Below.refl _ _)
          have c5' := c5 wr (Below.refl _ _)
          have m0' := m0 wr (Below.refl _ _)
          have m1' := m1 wr (Below.refl _ _)
          have hT1d := hT1 wr.drew (b_drew (Below.refl _ _))
          clear c0 c1 c2 c3 c4 c5 m0 m1
          first
            | go_region_with (go_at_call 45; refine hT1d.mono ?_; rintro e w5 ⟨rfl, hb5⟩)
            | fail
          all_goals
            have hB5 := hb.trans ((b_step hb5 (b_drew (Below.refl _ _))).mono hbs)
            clear hT1 hT2
            have H3 : Hid (∀ x ∈ C.take (k + 1), (t.holds x && !decide (x ∈ av)) = false) := Lib.hid (by
              rw [Hu.out]
              intro y hy
              rcases List.mem_append.1 hy with hy | hy
              · exact HI.out y hy
              · rw [List.mem_singleton.1 hy, Hv1.out, Hv2.out]; rfl)
            go_wp2
            go_roundw
            case rel =>
              first
                | exact ⟨k + 1, by omega, by go_num, H3, hB5⟩
                | ((repeat apply Exists.intro); exact ⟨⟨k + 1, by omega, by go_num, H3, hB5⟩, rfl⟩)
            case measure =>
              have e3 : ((k : Int) + 1).toNat = k + 1 := by omega
              simp only [intOf, e3, Int.toNat_natCast]
              omega
        · cases v2
          · go_region_held3 (fun w' => Below wr.heap.size wr w') (first | assumption | exact b_drew (Below.refl _ _) | exact b_step hb6 (b_step hb5 (b_drew (Below.refl _ _))) | exact b_step hb5 (b_drew (Below.refl _ _)))
              (first
                | (go_at_call 45; (with_reducible refine (hT1 _ (by assumption)).mono ?_); rintro e w5 ⟨rfl, hb5⟩)
                | (go_at_call 68; (with_reducible refine (hT2 _ (by assumption)).mono ?_); rintro e w6 ⟨rfl, hb6⟩))
            have hH6 : Below wr.heap.size wr w6 := by assumption
            have hB5 := hb.trans (hH6.mono hbs)
            have hBw := hbw.trans (hH6.mono hbw.size)

            have m0' := m0 w6 hH6
            have m1' := m1 w6 hH6
            have hf : Hid (C.find? (fun n => t.holds n && !decide (n ∈ av)) = some x) := Lib.hid (by
              have := find_at (p := fun n => t.holds n && !decide (n ∈ av)) C k hlt HI.out (by rw [Hx.out, Hv1.out, Hv2.out]; rfl)
              rw [this, Hx.out])
            clear c0 c1 c2 c3 c4 c5 m0 m1 hT1 hT2
            have BRr : Blk w6 (w.heap.size + 1) #[.string ⟨#[]⟩, .string ⟨#[]⟩] 23 := (hBw.block _ hs1).trans BR
            have z0 := BRr.cell 0
            have z1 := BRr.cell 1
            have f0 := BRr.frozen 0
            have f1 := BRr.frozen 1
            have q := (BRr.set 0 (by simp) (.string x.sp)).set 1 (by simp) (.string x.lc)
            simp only [List.setIfInBounds_toArray, List.set_cons_zero, List.set_cons_succ] at q
            have q0 := q.cell 0
            have q1 := q.cell 1
            simp only [List.getElem?_toArray, List.getElem?_cons_zero, List.getElem?_cons_succ] at z0 z1 q0 q1
            go_wp2
            refine bodyPost_ret (v := .tuple #[.agg #[.string x.sp, .string x.lc], .int .i64 0]) ?_ rfl ⟨?_, ?_⟩
            · simp [results, Tryz.f31, go_sem, q0, q1]
            · rw [← Hrn.out, ← Hrr.out, hwN.out.1, hwN.out.2, hf.out]; rfl
            · exact ((hb1.trans (hBw.mono (by omega))).setCell (p := ⟨w.heap.size + 1, 0, none⟩) (by simp) _).setCell (p := ⟨w.heap.size + 1, 1, none⟩) (by simp) _
          · go_region_held3 (fun w' => Below wr.heap.size wr w') (first | assumption | exact b_drew (Below.refl _ _) | exact b_step hb6 (b_step hb5 (b_drew (Below.refl _ _))) | exact b_step hb5 (b_drew (Below.refl _ _)))
              (first
                | (go_at_call 45; (with_reducible refine (hT1 _ (by assumption)).mono ?_); rintro e w5 ⟨rfl, hb5⟩)
                | (go_at_call 68; (with_reducible refine (hT2 _ (by assumption)).mono ?_); rintro e w6 ⟨rfl, hb6⟩))
            have hH6 : Below wr.heap.size wr w6 := by assumption
            have hB5 := hb.trans (hH6.mono hbs)
            have hBw := hbw.trans (hH6.mono hbw.size)

            clear c0 c1 c2 c3 c4 c5 m0 m1 hT1 hT2
            have H3 : Hid (∀ x ∈ C.take (k + 1), (t.holds x && !decide (x ∈ av)) = false) := Lib.hid (by
              rw [Hu.out]
              intro y hy
              rcases List.mem_append.1 hy with hy | hy
              · exact HI.out y hy
              · rw [List.mem_singleton.1 hy, Hv1.out, Hv2.out]; rfl)
            go_wp2
            go_roundw
            case rel =>
              first
                | exact ⟨k + 1, by omega, by go_num, H3, hB5⟩
                | ((repeat apply Exists.intro); exact ⟨⟨k + 1, by omega, by go_num, H3, hB5⟩, rfl⟩)
            case measure =>
              have e3 : ((k : Int) + 1).toNat = k + 1 := by omega
              simp only [intOf, e3, Int.toNat_natCast]
              omega
      · have d1 : decide ((k : Int) < (C.length : Int)) = false := decide_eq_false (by omega)
        have d2 : decide (k < C.length) = false := decide_eq_false hlt
        have hf : Hid (C.find? (fun n => t.holds n && !decide (n ∈ av)) = none) := Lib.hid (by
          have h := HI.out
          rw [List.take_of_length_le (by omega)] at h
          exact find_no h)
        have BRr : Blk wr (w.heap.size + 1) #[.string ⟨#[]⟩, .string ⟨#[]⟩] 23 := (hbw.block _ hs1).trans BR
        have z0 := BRr.cell 0
        have z1 := BRr.cell 1
        have f0 := BRr.frozen 0
        have f1 := BRr.frozen 1
        have q := (BRr.set 0 (by simp) (.string ⟨#[]⟩)).set 1 (by simp) (.string ⟨#[]⟩)
        simp only [List.setIfInBounds_toArray, List.set_cons_zero, List.set_cons_succ] at q
        have q0 := q.cell 0
        have q1 := q.cell 1
        simp only [List.getElem?_toArray, List.getElem?_cons_zero, List.getElem?_cons_succ] at z0 z1 q0 q1
        go_wp2
        refine bodyPost_ret (v := .tuple #[.agg #[.string ⟨#[]⟩, .string ⟨#[]⟩], .int .i64 4]) ?_ rfl ⟨?_, ?_⟩
        · simp [results, Tryz.f31, go_sem, q0, q1]
        · rw [← Hrn.out, ← Hrr.out, hwN.out.1, hwN.out.2, hf.out]; rfl
        · exact ((hb1.trans (hbw.mono (by omega))).setCell (p := ⟨w.heap.size + 1, 0, none⟩) (by simp) _).setCell (p := ⟨w.heap.size + 1, 1, none⟩) (by simp) _
  · have g1 : (r == 0) = false := by simpa using h0
    have g2 : (r != 0) = true := by simpa using h0
    have hwN : Hid (witN t av = noN ∧ witR t av = r) := Lib.hid (by
      unfold witN witR
      rw [Hr.out, if_neg h0, if_neg h0]; exact ⟨rfl, rfl⟩)
    clear h0
    have BRr : Blk w2 (w.heap.size + 1) #[.string ⟨#[]⟩, .string ⟨#[]⟩] 23 := (hb2.block _ hs1).trans BR
    have z0 := BRr.cell 0
    have z1 := BRr.cell 1
    have f0 := BRr.frozen 0
    have f1 := BRr.frozen 1
    have q := (BRr.set 0 (by simp) (.string ⟨#[]⟩)).set 1 (by simp) (.string ⟨#[]⟩)
    simp only [List.setIfInBounds_toArray, List.set_cons_zero, List.set_cons_succ] at q
    have q0 := q.cell 0
    have q1 := q.cell 1
    simp only [List.getElem?_toArray, List.getElem?_cons_zero, List.getElem?_cons_succ] at z0 z1 q0 q1
    go_wp2
    refine bodyPost_ret (v := .tuple #[.agg #[.string ⟨#[]⟩, .string ⟨#[]⟩], .int .i64 r]) ?_ rfl ⟨?_, ?_⟩
    · simp [results, Tryz.f31, go_sem, q0, q1]
    · rw [← Hrn.out, ← Hrr.out, hwN.out.1, hwN.out.2]; rfl
    · exact ((hb1.trans (hb2.mono (by omega))).setCell (p := ⟨w.heap.size + 1, 0, none⟩) (by simp) _).setCell (p := ⟨w.heap.size + 1, 1, none⟩) (by simp) _
end Np
end Go.Proofs.YtohlhihhadbphaaGreatDoor
