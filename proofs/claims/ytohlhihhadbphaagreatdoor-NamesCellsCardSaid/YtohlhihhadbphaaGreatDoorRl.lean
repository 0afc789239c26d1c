/- The reference of names: truth, two, some. -/
import Derived.Test.YtohlhihhadbphaaGreatDoorRk
set_option linter.unusedSimpArgs false
set_option linter.unusedVariables false
namespace Go.Proofs.YtohlhihhadbphaaGreatDoor
open Go.RowKit Go.Shelf Go.Lib Go.Maps
namespace Np
def tru (how : Int) (x y : Bool) : Bool := if how = 1 then x || y else if how = 2 then x && y else if how = 3 then x && !y else x
theorem blk3 (W : World) (a b c : Array Value) (s t u : TypeId) : Blk (((W.alloc (.cells a s)).alloc (.cells b t)).alloc (.cells c u)) W.heap.size a s ∧ Blk (((W.alloc (.cells a s)).alloc (.cells b t)).alloc (.cells c u)) (W.heap.size + 1) b t ∧ Blk (((W.alloc (.cells a s)).alloc (.cells b t)).alloc (.cells c u)) (W.heap.size + 2) c u := by
  have h2 := Blk.new (W.alloc (.cells a s)) b t
  have h3 := Blk.new ((W.alloc (.cells a s)).alloc (.cells b t)) c u
  rw [World.size_alloc] at h2
  rw [World.size_alloc, World.size_alloc] at h3
  exact ⟨((Blk.new W a s).alloc _).alloc _, h2.alloc _, h3⟩
set_option maxRecDepth 100000 in
set_option maxHeartbeats 2000000 in
theorem rTruth_any (how : Int) (hh : how = 0 ∨ how = 1 ∨ how = 2 ∨ how = 3) (t u : CT) (n : Name) (w : World) (hIn : t.In w w.heap.size) (hIn2 : u.In w w.heap.size) (hf : t.fitsAll = true) (hf2 : u.fitsAll = true) :
    Calls Tryz.prog 84 #[.int .i64 how, t.val, u.val, n.val] w fun e w' => e = .returned (.bool (tru how (t.holds n) (u.holds n))) ∧ Below w.heap.size w w' := by
  obtain ⟨W1, hW1⟩ : ∃ W1, ((w.alloc (.cells t.cells.toArray 26)).alloc (.cells u.cells.toArray 26)).alloc (.cells #[.string n.sp, .string n.lc] 23) = W1 := ⟨_, rfl⟩
  have hb1 : Below w.heap.size w W1 := by rw [← hW1]; exact (((Below.refl _ w).alloc (Nat.le_refl _) _).alloc (by simp) _).alloc (by simp; omega) _
  obtain ⟨B0, B1, BN⟩ : Blk W1 w.heap.size t.cells.toArray 26 ∧ Blk W1 (w.heap.size + 1) u.cells.toArray 26 ∧ Blk W1 (w.heap.size + 2) #[.string n.sp, .string n.lc] 23 := by rw [← hW1]; exact blk3 _ _ _ _ _ _ _
  have hx := in_any t n W1 ((hIn.below hb1 (Nat.le_refl _)).mono hb1.size) hf
  have hy := fun w2 (hb2 : Below W1.heap.size W1 w2) => in_any u n w2 ((hIn2.below (hb1.trans (hb2.mono hb1.size)) (Nat.le_refl _)).mono (Nat.le_trans hb1.size hb2.size)) hf2
  obtain ⟨x, hxe⟩ : ∃ x, t.holds n = x := ⟨_, rfl⟩
  obtain ⟨y, hye⟩ : ∃ y, u.holds n = y := ⟨_, rfl⟩
  rw [hxe] at hx ⊢
  simp only [hye] at hy ⊢
  unfold Name.val at hx hy ⊢
  obtain ⟨c0, c1, c2, c3, c4, c5⟩ := ct_cells B0
  have n0 := BN.cell 0
  have n1 := BN.cell 1
  simp only [List.getElem?_toArray, List.getElem?_cons_zero, List.getElem?_cons_succ] at n0 n1
  rw [CT.cells_eq, CT.cells_eq] at hW1
  rw [CT.val_eq] at hx
  simp only [CT.val_eq] at hy
  rw [CT.val_eq, CT.val_eq]
  obtain ⟨res, hres⟩ : ∃ r, tru how x y = r := ⟨_, rfl⟩
  rw [hres]
  have Hres := Lib.hid hres
  clear hxe hye hres
  rcases hh with rfl | rfl | rfl | rfl
  all_goals
    cases x
  all_goals
    go_enter Tryz.func84, Tryz.ntmps84
    go_wp2_with (go_at_call 45; refine hx.mono ?_)
    rintro e w2 ⟨rfl, hb2⟩
    have hB2 := hb1.trans (hb2.mono hb1.size)
    have hy2 := hy w2 hb2
    have n0 := (BN.below hb2).cell 0
    have n1 := (BN.below hb2).cell 1
    simp only [List.getElem?_toArray, List.getElem?_cons_zero, List.getElem?_cons_succ] at n0 n1
    clear c0 c1 c2 c3 c4 c5
    obtain ⟨c0, c1, c2, c3, c4, c5⟩ := ct_cells (B1.below hb2)
    first
      | (go_wp2
         go_ret
         exact ⟨ret_bool (by rw [← Hres.out]; rfl), hB2⟩)
      | (go_wp2_with (go_at_call 45; refine hy2.mono ?_)
         rintro e w3 ⟨rfl, hb3⟩
         go_wp2
         go_ret
         exact ⟨ret_bool (by rw [← Hres.out]; cases y <;> rfl), hB2.trans (hb3.mono hB2.size)⟩)
set_option maxRecDepth 100000 in
set_option maxHeartbeats 1000000 in
theorem rTwo_any (t u : CT) (w : World) (hIn : t.In w w.heap.size) (hIn2 : u.In w w.heap.size) :
    Calls Tryz.prog 63 #[t.val, u.val] w fun e w' => e = .returned (.int .i64 (chkL [t, u])) ∧ Below w.heap.size w w' := by
  obtain ⟨W1, hW1⟩ : ∃ W1, (w.alloc (.cells t.cells.toArray 26)).alloc (.cells u.cells.toArray 26) = W1 := ⟨_, rfl⟩
  have hb1 : Below w.heap.size w W1 := by rw [← hW1]; exact ((Below.refl _ w).alloc (Nat.le_refl _) _).alloc (by simp) _
  have B0 : Blk W1 w.heap.size t.cells.toArray 26 := by rw [← hW1]; exact (Blk.new _ _ _).alloc _
  have B1 : Blk W1 (w.heap.size + 1) u.cells.toArray 26 := by
    rw [← hW1]
    have := Blk.new (w.alloc (.cells t.cells.toArray 26)) u.cells.toArray 26
    rw [World.size_alloc] at this; exact this
  have hx := rCheck_any t W1 ((hIn.below hb1 (Nat.le_refl _)).mono hb1.size)
  have hy := fun w2 (hb2 : Below W1.heap.size W1 w2) => rCheck_any u w2 ((hIn2.below (hb1.trans (hb2.mono hb1.size)) (Nat.le_refl _)).mono (Nat.le_trans hb1.size hb2.size))
  obtain ⟨c0, c1, c2, c3, c4, c5⟩ := ct_cells B0
  rw [CT.cells_eq, CT.cells_eq] at hW1
  rw [CT.val_eq] at hx
  simp only [CT.val_eq] at hy
  rw [CT.val_eq, CT.val_eq]
  obtain ⟨res, hres⟩ : ∃ r, chkL [t, u] = r := ⟨_, rfl⟩
  rw [hres]
  have hres2 : (if t.check = 0 then (if u.check = 0 then 0 else u.check) else t.check) = res := hres
  obtain ⟨x, hxe⟩ : ∃ x, t.check = x := ⟨_, rfl⟩
  obtain ⟨y, hye⟩ : ∃ y, u.check = y := ⟨_, rfl⟩
  rw [hxe] at hx hres2
  simp only [hye] at hy hres2
  have Hres := Lib.hid hres2
  clear hres hxe hye hres2
  by_cases h0 : x = 0
  · have Hr : Hid (y = res) := Lib.hid (by rw [← Hres.out, if_pos h0]; split; exact ‹y = 0›; rfl)
    subst h0
    go_enter Tryz.func63, Tryz.ntmps63
    go_wp2_with (go_at_call 12; refine hx.mono ?_)
    first | rintro e w2 rfl hb2 | rintro e w2 ⟨rfl, hb2⟩
    have hB2 := hb1.trans (hb2.mono hb1.size)
    have hy2 := hy w2 hb2
    clear c0 c1 c2 c3 c4 c5
    obtain ⟨c0, c1, c2, c3, c4, c5⟩ := ct_cells (B1.below hb2)
    go_wp2_with (go_at_call 12; refine hy2.mono ?_)
    first | rintro e w3 rfl hb3 | rintro e w3 ⟨rfl, hb3⟩
    go_wp2
    go_ret
    exact ⟨ret_int Hr.out, hB2.trans (hb3.mono hB2.size)⟩
  · have Hr : Hid (x = res) := Lib.hid (by rw [← Hres.out, if_neg h0])
    have g1 : (x == 0) = false := by simpa using h0
    have g2 : (x != 0) = true := by simpa using h0
    have H0 := Lib.hid h0
    clear h0
    go_enter Tryz.func63, Tryz.ntmps63
    go_wp2_with (go_at_call 12; refine hx.mono ?_)
    first | rintro e w2 rfl hb2 | rintro e w2 ⟨rfl, hb2⟩
    go_wp2
    go_ret
    exact ⟨ret_int Hr.out, hb1.trans (hb2.mono hb1.size)⟩
set_option maxRecDepth 100000 in
set_option maxHeartbeats 4000000 in
theorem rSome_any (how : Int) (hh : how = 0 ∨ how = 1 ∨ how = 2 ∨ how = 3) (t u : CT) (w : World) (hIn : t.In w w.heap.size) (hIn2 : u.In w w.heap.size) (hf : t.fitsAll = true) (hf2 : u.fitsAll = true) (hn : nodL [t, u] ≤ 100000) :
    Calls Tryz.prog 61 #[.int .i64 how, t.val, u.val] w fun e w' => e = .returned (.bool ((candsOf [t, u] []).any fun x => tru how (t.holds x) (u.holds x))) ∧ Below w.heap.size w w' := by
  obtain ⟨W1, hW1⟩ : ∃ W1, ((w.alloc (.cells t.cells.toArray 26)).alloc (.cells u.cells.toArray 26)).alloc (.cells ([t, u].flatMap CT.cells).toArray 26) = W1 := ⟨_, rfl⟩
  have hb1 : Below w.heap.size w W1 := by rw [← hW1]; exact (((Below.refl _ w).alloc (Nat.le_refl _) _).alloc (by simp) _).alloc (by simp; omega) _
  obtain ⟨B0, B1, BL⟩ : Blk W1 w.heap.size t.cells.toArray 26 ∧ Blk W1 (w.heap.size + 1) u.cells.toArray 26 ∧ Blk W1 (w.heap.size + 2) ([t, u].flatMap CT.cells).toArray 26 := by rw [← hW1]; exact blk3 _ _ _ _ _ _ _
  have hs1 : w.heap.size + 2 < W1.heap.size := BL.lt
  have hi1 := (hIn.below hb1 (Nat.le_refl _)).mono hb1.size
  have hi2 := (hIn2.below hb1 (Nat.le_refl _)).mono hb1.size
  have hLL : LIn W1 W1.heap.size (some ⟨w.heap.size + 2, 0, none⟩) [t, u] := lin_row BL (by omega) (by simp; unfold maxLen; omega) (by intro x hx; simp at hx; rcases hx with rfl | rfl <;> assumption)
  have hC := rCandidates_any (some ⟨w.heap.size + 2, 0, none⟩) 2 [t, u] (fun _ => False) none 0 [] W1 hLL hn (Rw.nil _) (fun _ h => h.elim) (by simp)
  simp only [List.length_cons, List.length_nil, Nat.reduceAdd, Nat.zero_add] at hC
  obtain ⟨C, hCe⟩ : ∃ C, candsOf [t, u] [] = C := ⟨_, rfl⟩
  rw [hCe] at hC ⊢
  obtain ⟨res, hres⟩ : ∃ r, (C.any fun x => tru how (t.holds x) (u.holds x)) = r := ⟨_, rfl⟩
  rw [hres]
  have Hres := Lib.hid hres
  obtain ⟨c0, c1, c2, c3, c4, c5⟩ := ct_cells B0
  have hW1' : ((w.alloc (.cells #[.int .i64 t.kind, .string t.name.sp, .string t.name.lc, .string t.space, .slice t.ea t.ex.length t.ec, .slice t.aa t.ar.length t.ac] 26)).alloc (.cells #[.int .i64 u.kind, .string u.name.sp, .string u.name.lc, .string u.space, .slice u.ea u.ex.length u.ec, .slice u.aa u.ar.length u.ac] 26)).alloc (.cells #[.int .i64 t.kind, .string t.name.sp, .string t.name.lc, .string t.space, .slice t.ea t.ex.length t.ec, .slice t.aa t.ar.length t.ac, .int .i64 u.kind, .string u.name.sp, .string u.name.lc, .string u.space, .slice u.ea u.ex.length u.ec, .slice u.aa u.ar.length u.ac] 26) = W1 := by
    rw [← hW1, CT.cells_eq, CT.cells_eq]
    congr 2
    simp [CT.cells, CT.exv_eq, CT.arv_eq]
  have hT := fun (x : Name) w2 (hb2 : Below W1.heap.size W1 w2) => rTruth_any how hh t u x w2 ((hi1.below hb2 (Nat.le_refl _)).mono hb2.size) ((hi2.below hb2 (Nat.le_refl _)).mono hb2.size) hf hf2
  simp only [CT.val_eq] at hT
  rw [CT.val_eq, CT.val_eq]
  clear hW1 hres hCe hIn hIn2 c0 c1 c2 c3 c4 c5
  go_enter Tryz.func61, Tryz.ntmps61
  go_wp2_with (go_at_call 67; refine hC.mono ?_)
  rintro e W2 ⟨a2, k2, rfl, ⟨q1, q2, q3⟩, hb2⟩
  have hcl := q3.len
  have hB2 := hb2.size
  have hA2 : ∀ b, (False ∨ (W1.heap.size ≤ b ∧ b < W2.heap.size)) → b < W2.heap.size := fun b h => by rcases h with h | h; exact h.elim; exact h.2
  clear hC
  go_wp2
  go_loopw [8] (fun i wr => ∃ k : Nat, k ≤ C.length ∧ i = .int .i64 k ∧ Hid (∀ x ∈ C.take k, tru how (t.holds x) (u.holds x) = false) ∧ Below W2.heap.size W2 wr) (fun i _ => C.length - (intOf i).toNat)
  case atStart => exact ⟨0, by omega, rfl, Lib.hid (by simp), Below.refl _ _⟩
  case round =>
    obtain ⟨k, hk, rfl, HI, hb⟩ := hrel
    try clear hW1'
    have hbs := hb.size
    have hbw : Below W1.heap.size W1 wr := hb2.trans (hb.mono hB2)
    by_cases hlt : k < C.length
    · have d1 : decide ((k : Int) < (C.length : Int)) = true := decide_eq_true (by omega)
      have d2 : decide (k < C.length) = true := decide_eq_true hlt
      obtain ⟨b, o, hao, hbA, u0, u1⟩ := rwN_at (q3.later hA2 hb) hlt
      have hblt : b < wr.heap.size := by have := hA2 b hbA; omega
      obtain ⟨x, hx⟩ : ∃ x, C[k] = x := ⟨_, rfl⟩
      rw [hx] at u0 u1
      have hxm : x ∈ C := by rw [← hx]; exact List.getElem_mem hlt
      have B0r := (hbw.block _ (by omega)).trans B0
      have B1r := (hbw.block _ (by omega)).trans B1
      have hc := fun w' (h : Below wr.heap.size wr w') => ct_cells (W := w') ((h.block _ (by omega)).trans B0r)
      have hd := fun w' (h : Below wr.heap.size wr w') => ct_cells (W := w') ((h.block _ (by omega)).trans B1r)
      have c0 := fun w' (h : Below wr.heap.size wr w') => (hc w' h).1
      have c1 := fun w' (h : Below wr.heap.size wr w') => (hc w' h).2.1
      have c2 := fun w' (h : Below wr.heap.size wr w') => (hc w' h).2.2.1
      have c3 := fun w' (h : Below wr.heap.size wr w') => (hc w' h).2.2.2.1
      have c4 := fun w' (h : Below wr.heap.size wr w') => (hc w' h).2.2.2.2.1
      have c5 := fun w' (h : Below wr.heap.size wr w') => (hc w' h).2.2.2.2.2
      have e0 := fun w' (h : Below wr.heap.size wr w') => (hd w' h).1
      have e1 := fun w' (h : Below wr.heap.size wr w') => (hd w' h).2.1
      have e2 := fun w' (h : Below wr.heap.size wr w') => (hd w' h).2.2.1
      have e3 := fun w' (h : Below wr.heap.size wr w') => (hd w' h).2.2.2.1
      have e4 := fun w' (h : Below wr.heap.size wr w') => (hd w' h).2.2.2.2.1
      have e5 := fun w' (h : Below wr.heap.size wr w') => (hd w' h).2.2.2.2.2
      have m0 := fun w' (h : Below wr.heap.size wr w') => (h.cell (p := ⟨b, o + k * 2, none⟩) hblt).trans u0
      have m1 := fun w' (h : Below wr.heap.size wr w') => (h.cell (p := ⟨b, o + k * 2 + 1, none⟩) hblt).trans u1
      have hT2 := fun w' (h : Below wr.heap.size wr w') => hT x w' (hbw.trans (h.mono hbw.size))
      unfold Name.val at hT2
      obtain ⟨v, hv⟩ : ∃ v, tru how (t.holds x) (u.holds x) = v := ⟨_, rfl⟩
      simp only [hv] at hT2
      have Hv := Lib.hid hv
      have Hu : Hid (C.take (k + 1) = C.take k ++ [x]) := Lib.hid (by rw [List.take_succ_eq_append_getElem hlt, hx])
      have Hm := Lib.hid hxm
      subst hao
      clear hx hxm hv u0 u1 hc hd hT B0r B1r
      go_upto_region 5 with (fail)
      go_region_held3 (fun w' => Below wr.heap.size wr w') (first | assumption | exact b_drew (Below.refl _ _) | exact b_step hb5 (b_drew (Below.refl _ _)))
        (first
          | (go_at_call 84; (with_reducible refine (hT2 _ (by assumption)).mono ?_); rintro e w5 ⟨rfl, hb5⟩))
      have hH5 : Below wr.heap.size wr w5 := by assumption
      have hB5 := hb.trans (hH5.mono hbs)
      clear c0 c1 c2 c3 c4 c5 e0 e1 e2 e3 e4 e5 m0 m1 hT2
      cases v
      · have H3 : Hid (∀ x ∈ C.take (k + 1), tru how (t.holds x) (u.holds x) = false) := Lib.hid (by
          rw [Hu.out]
          intro y hy
          rcases List.mem_append.1 hy with hy | hy
          · exact HI.out y hy
          · rw [List.mem_singleton.1 hy]; exact Hv.out)
        go_wp2
        go_roundw
        case rel =>
          first
            | exact ⟨k + 1, by omega, by go_num, H3, hB5⟩
            | ((repeat apply Exists.intro); exact ⟨⟨k + 1, by omega, by go_num, H3, hB5⟩, rfl⟩)
        case measure =>
          have e3 : ((k : Int) + 1).toNat = k + 1 := by omega
          simp only [intOf, e3, Int.toNat_natCast]
          omega
      · have H3 : Hid (res = true) := Lib.hid (by rw [← Hres.out, List.any_eq_true]; exact ⟨x, Hm.out, Hv.out⟩)
        go_wp2
        go_ret
        exact ⟨ret_bool H3.out.symm, hb1.trans ((hb2.trans (hB5.mono hB2)).mono hb1.size)⟩
    · have d1 : decide ((k : Int) < (C.length : Int)) = false := decide_eq_false (by omega)
      have d2 : decide (k < C.length) = false := decide_eq_false hlt
      have H3 : Hid (res = false) := Lib.hid (by
        rw [← Hres.out, List.any_eq_false]
        have h := HI.out
        rw [List.take_of_length_le (by omega)] at h
        intro x hx; rw [h x hx]; simp)
      go_wp2
      go_ret
      exact ⟨ret_bool H3.out.symm, hb1.trans ((hb2.trans (hb.mono hB2)).mono hb1.size)⟩
end Np
end Go.Proofs.YtohlhihhadbphaaGreatDoor
