/- The reference of names: Normal, Join, Meet, Minus. -/
import Derived.Test.YtohlhihhadbphaaGreatDoorRq
set_option linter.unusedSimpArgs false
set_option linter.unusedVariables false
namespace Go.Proofs.YtohlhihhadbphaaGreatDoor
open Go.RowKit Go.Shelf Go.Lib Go.Maps
namespace Np
theorem norm_bad {lst : List CT} {S : Name → Bool} {r : Int} (h : chkL lst = r) (h0 : r ≠ 0) : NormR lst S zeroT.er r := by
  rw [zeroT_er]
  exact ⟨fun _ => ⟨h.symm, rfl⟩, fun hc => absurd (h.symm.trans hc) h0⟩
set_option maxRecDepth 100000 in
set_option maxHeartbeats 2000000 in
theorem rNormal_any (t : CT) (w : World) (hIn : t.In w w.heap.size) :
    Calls Tryz.prog 16 #[t.val] w (NorO w [t, t] fun x => tru 0 (t.holds x) (t.holds x)) := by
  obtain ⟨W1, hW1⟩ : ∃ W1, (w.alloc (.cells t.cells.toArray 26)).alloc (.cells #[.int .i64 0, .string ⟨#[]⟩, .string ⟨#[]⟩, .string ⟨#[]⟩, .slice none 0 0, .slice none 0 0] 26) = W1 := ⟨_, rfl⟩
  have hb1 : Below w.heap.size w W1 := by rw [← hW1]; exact ((Below.refl _ w).alloc (Nat.le_refl _) _).alloc (by simp) _
  have B0 : Blk W1 w.heap.size t.cells.toArray 26 := by rw [← hW1]; exact (Blk.new _ _ _).alloc _
  have BR : Blk W1 (w.heap.size + 1) #[.int .i64 0, .string ⟨#[]⟩, .string ⟨#[]⟩, .string ⟨#[]⟩, .slice none 0 0, .slice none 0 0] 26 := by
    rw [← hW1]
    have := Blk.new (w.alloc (.cells t.cells.toArray 26)) #[.int .i64 0, .string ⟨#[]⟩, .string ⟨#[]⟩, .string ⟨#[]⟩, .slice none 0 0, .slice none 0 0] 26
    rw [World.size_alloc] at this; exact this
  have hs1 : w.heap.size + 1 < W1.heap.size := BR.lt
  have hi1 := (hIn.below hb1 (Nat.le_refl _)).mono hb1.size
  have hx := rCheck_any t W1 hi1
  have hy := fun w2 (hb2 : Below W1.heap.size W1 w2) (h : t.check = 0) => rnormal_any 0 (by omega) t t w2 ((hi1.below hb2 (Nat.le_refl _)).mono hb2.size) ((hi1.below hb2 (Nat.le_refl _)).mono hb2.size) h h
  obtain ⟨c0, c1, c2, c3, c4, c5⟩ := ct_cells B0
  rw [CT.cells_eq] at hW1
  rw [CT.val_eq] at hx
  simp only [CT.val_eq] at hy
  rw [CT.val_eq]
  obtain ⟨k, hk⟩ : ∃ k, t.check = k := ⟨_, rfl⟩
  rw [hk] at hx hy
  have Hk := Lib.hid hk
  clear hk
  by_cases h0 : k = 0
  · subst h0
    go_enter Tryz.func16, Tryz.ntmps16
    go_wp2_with (go_at_call 12; refine hx.mono ?_)
    first | rintro e w2 rfl hb2 | rintro e w2 ⟨rfl, hb2⟩
    have hb2s := hb2.size
    have hy2 := hy w2 hb2 (by trivial)
    clear c0 c1 c2 c3 c4 c5 hx hy
    obtain ⟨c0, c1, c2, c3, c4, c5⟩ := ct_cells (B0.below hb2)
    go_wp2_with (go_at_call 54; refine hy2.mono ?_)
    rintro e w3 ⟨x, r, rfl, HX, hb3⟩
    rw [CT.val_eq x]
    have hb3s := hb3.size
    have HX := Lib.hid HX
    clear c0 c1 c2 c3 c4 c5
    have BRr := (BR.below (b_step hb3 hb2))
    have f0 := BRr.frozen 0
    have f1 := BRr.frozen 1
    have f2 := BRr.frozen 2
    have f3 := BRr.frozen 3
    have f4 := BRr.frozen 4
    have f5 := BRr.frozen 5
    have z0 := BRr.cell 0
    have z1 := BRr.cell 1
    have z2 := BRr.cell 2
    have z3 := BRr.cell 3
    have z4 := BRr.cell 4
    have z5 := BRr.cell 5
    simp only [List.getElem?_toArray, List.getElem?_cons_zero, List.getElem?_cons_succ] at z0 z1 z2 z3 z4 z5
    have q := Blk.set6 BRr (.int .i64 x.kind) (.string x.name.sp) (.string x.name.lc) (.string x.space) (.slice x.ea x.ex.length x.ec) (.slice x.aa x.ar.length x.ac)
    have q0 := q.cell 0
    have q1 := q.cell 1
    have q2 := q.cell 2
    have q3 := q.cell 3
    have q4 := q.cell 4
    have q5 := q.cell 5
    simp only [List.getElem?_toArray, List.getElem?_cons_zero, List.getElem?_cons_succ] at q0 q1 q2 q3 q4 q5
    go_wp2
    refine bodyPost_ret (v := .tuple #[.agg #[.int .i64 x.kind, .string x.name.sp, .string x.name.lc, .string x.space, .slice x.ea x.ex.length x.ec, .slice x.aa x.ar.length x.ac], .int .i64 r]) ?_ rfl ⟨x, r, by rw [CT.val_eq], ⟨?_, HX.out.2⟩, ?_⟩
    · simp [results, Tryz.f16, go_sem, q0, q1, q2, q3, q4, q5]
    · refine HX.out.1.keep (fun b hb => ⟨by omega, by simpa using hb.2⟩) (fun b hb => ?_)
      exact six_other (by omega) _ _ _ _ _ _
    · exact sixBelow (hb1.trans ((b_step hb3 hb2).mono hb1.size)) (by omega) _ _ _ _ _ _

  · have HN : Hid (NormR [t, t] (fun x => tru 0 (t.holds x) (t.holds x)) zeroT.er k) := Lib.hid (norm_bad (by
      show (if t.check = 0 then (if t.check = 0 then (0 : Int) else t.check) else t.check) = k
      rw [Hk.out, if_neg h0]) h0)
    have g1 : (k == 0) = false := by simpa using h0
    have g2 : (k != 0) = true := by simpa using h0
    clear h0 hy
    go_enter Tryz.func16, Tryz.ntmps16
    go_wp2_with (go_at_call 12; refine hx.mono ?_)
    first | rintro e w2 rfl hb2 | rintro e w2 ⟨rfl, hb2⟩
    have hb2s := hb2.size
    have BRr := (BR.below (hb2))
    have f0 := BRr.frozen 0
    have f1 := BRr.frozen 1
    have f2 := BRr.frozen 2
    have f3 := BRr.frozen 3
    have f4 := BRr.frozen 4
    have f5 := BRr.frozen 5
    have z0 := BRr.cell 0
    have z1 := BRr.cell 1
    have z2 := BRr.cell 2
    have z3 := BRr.cell 3
    have z4 := BRr.cell 4
    have z5 := BRr.cell 5
    simp only [List.getElem?_toArray, List.getElem?_cons_zero, List.getElem?_cons_succ] at z0 z1 z2 z3 z4 z5
    have q := Blk.set6 BRr (.int .i64 0) (.string ⟨#[]⟩) (.string ⟨#[]⟩) (.string ⟨#[]⟩) (.slice none 0 0) (.slice none 0 0)
    have q0 := q.cell 0
    have q1 := q.cell 1
    have q2 := q.cell 2
    have q3 := q.cell 3
    have q4 := q.cell 4
    have q5 := q.cell 5
    simp only [List.getElem?_toArray, List.getElem?_cons_zero, List.getElem?_cons_succ] at q0 q1 q2 q3 q4 q5
    go_wp2
    refine bodyPost_ret (v := .tuple #[.agg #[.int .i64 0, .string ⟨#[]⟩, .string ⟨#[]⟩, .string ⟨#[]⟩, .slice none 0 0, .slice none 0 0], .int .i64 k]) ?_ rfl ⟨zeroT, k, rfl, ⟨?_, HN.out⟩, ?_⟩
    · simp [results, Tryz.f16, go_sem, q0, q1, q2, q3, q4, q5]
    · exact zeroT_on _ _
    · exact sixBelow (hb1.trans ((hb2).mono hb1.size)) (by omega) _ _ _ _ _ _

set_option maxRecDepth 100000 in
set_option maxHeartbeats 2000000 in
theorem rcombined_any (how : Int) (hh : how = 0 ∨ how = 1 ∨ how = 2 ∨ how = 3) (t u : CT) (w : World) (hIn : t.In w w.heap.size) (hIn2 : u.In w w.heap.size) :
    Calls Tryz.prog 56 #[.int .i64 how, t.val, u.val] w (NorO w [t, u] fun x => tru how (t.holds x) (u.holds x)) := by
  obtain ⟨W1, hW1⟩ : ∃ W1, ((w.alloc (.cells t.cells.toArray 26)).alloc (.cells u.cells.toArray 26)).alloc (.cells #[.int .i64 0, .string ⟨#[]⟩, .string ⟨#[]⟩, .string ⟨#[]⟩, .slice none 0 0, .slice none 0 0] 26) = W1 := ⟨_, rfl⟩
  have hb1 : Below w.heap.size w W1 := by rw [← hW1]; exact (((Below.refl _ w).alloc (Nat.le_refl _) _).alloc (by simp) _).alloc (by simp; omega) _
  obtain ⟨B0, B1, BR0⟩ : Blk W1 w.heap.size t.cells.toArray 26 ∧ Blk W1 (w.heap.size + 1) u.cells.toArray 26 ∧ Blk W1 (w.heap.size + 2) #[.int .i64 0, .string ⟨#[]⟩, .string ⟨#[]⟩, .string ⟨#[]⟩, .slice none 0 0, .slice none 0 0] 26 := by rw [← hW1]; exact blk3 _ _ _ _ _ _ _
  have BR : Blk W1 (w.heap.size + 1 + 1) #[.int .i64 0, .string ⟨#[]⟩, .string ⟨#[]⟩, .string ⟨#[]⟩, .slice none 0 0, .slice none 0 0] 26 := BR0
  have hs1 : w.heap.size + 1 + 1 < W1.heap.size := BR.lt
  have hi1 := (hIn.below hb1 (Nat.le_refl _)).mono hb1.size
  have hi2 := (hIn2.below hb1 (Nat.le_refl _)).mono hb1.size
  have hx := rTwo_any t u W1 hi1 hi2
  have hy := fun w2 (hb2 : Below W1.heap.size W1 w2) (h : chkL [t, u] = 0) => rnormal_any how hh t u w2 ((hi1.below hb2 (Nat.le_refl _)).mono hb2.size) ((hi2.below hb2 (Nat.le_refl _)).mono hb2.size) (chk_all h t (by simp)) (chk_all h u (by simp))
  obtain ⟨c0, c1, c2, c3, c4, c5⟩ := ct_cells B0
  obtain ⟨e0, e1, e2, e3, e4, e5⟩ := ct_cells B1
  rw [CT.cells_eq, CT.cells_eq] at hW1
  rw [CT.val_eq, CT.val_eq] at hx
  simp only [CT.val_eq] at hy
  rw [CT.val_eq, CT.val_eq]
  obtain ⟨k, hk⟩ : ∃ k, chkL [t, u] = k := ⟨_, rfl⟩
  rw [hk] at hx hy
  have Hk := Lib.hid hk
  clear hk BR0
  by_cases h0 : k = 0
  · subst h0
    go_enter Tryz.func56, Tryz.ntmps56
    go_wp2_with (go_at_call 63; refine hx.mono ?_)
    first | rintro e w2 rfl hb2 | rintro e w2 ⟨rfl, hb2⟩
    have hb2s := hb2.size
    have hy2 := hy w2 hb2 (by trivial)
    clear c0 c1 c2 c3 c4 c5 e0 e1 e2 e3 e4 e5 hx hy
    obtain ⟨c0, c1, c2, c3, c4, c5⟩ := ct_cells (B0.below hb2)
    obtain ⟨e0, e1, e2, e3, e4, e5⟩ := ct_cells (B1.below hb2)
    go_wp2_with (go_at_call 54; refine hy2.mono ?_)
    rintro e w3 ⟨x, r, rfl, HX, hb3⟩
    rw [CT.val_eq x]
    have hb3s := hb3.size
    have HX := Lib.hid HX
    clear c0 c1 c2 c3 c4 c5 e0 e1 e2 e3 e4 e5
    have BRr := (BR.below (b_step hb3 hb2))
    have f0 := BRr.frozen 0
    have f1 := BRr.frozen 1
    have f2 := BRr.frozen 2
    have f3 := BRr.frozen 3
    have f4 := BRr.frozen 4
    have f5 := BRr.frozen 5
    have z0 := BRr.cell 0
    have z1 := BRr.cell 1
    have z2 := BRr.cell 2
    have z3 := BRr.cell 3
    have z4 := BRr.cell 4
    have z5 := BRr.cell 5
    simp only [List.getElem?_toArray, List.getElem?_cons_zero, List.getElem?_cons_succ] at z0 z1 z2 z3 z4 z5
    have q := Blk.set6 BRr (.int .i64 x.kind) (.string x.name.sp) (.string x.name.lc) (.string x.space) (.slice x.ea x.ex.length x.ec) (.slice x.aa x.ar.length x.ac)
    have q0 := q.cell 0
    have q1 := q.cell 1
    have q2 := q.cell 2
    have q3 := q.cell 3
    have q4 := q.cell 4
    have q5 := q.cell 5
    simp only [List.getElem?_toArray, List.getElem?_cons_zero, List.getElem?_cons_succ] at q0 q1 q2 q3 q4 q5
    go_wp2
    refine bodyPost_ret (v := .tuple #[.agg #[.int .i64 x.kind, .string x.name.sp, .string x.name.lc, .string x.space, .slice x.ea x.ex.length x.ec, .slice x.aa x.ar.length x.ac], .int .i64 r]) ?_ rfl ⟨x, r, by rw [CT.val_eq], ⟨?_, HX.out.2⟩, ?_⟩
    · simp [results, Tryz.f56, go_sem, q0, q1, q2, q3, q4, q5]
    · refine HX.out.1.keep (fun b hb => ⟨by omega, by simpa using hb.2⟩) (fun b hb => ?_)
      exact six_other (by omega) _ _ _ _ _ _
    · exact sixBelow (hb1.trans ((b_step hb3 hb2).mono hb1.size)) (by omega) _ _ _ _ _ _

  · have HN : Hid (NormR [t, u] (fun x => tru how (t.holds x) (u.holds x)) zeroT.er k) := Lib.hid (norm_bad Hk.out h0)
    have g1 : (k == 0) = false := by simpa using h0
    have g2 : (k != 0) = true := by simpa using h0
    clear h0 hy
    go_enter Tryz.func56, Tryz.ntmps56
    go_wp2_with (go_at_call 63; refine hx.mono ?_)
    first | rintro e w2 rfl hb2 | rintro e w2 ⟨rfl, hb2⟩
    have hb2s := hb2.size
    have BRr := (BR.below (hb2))
    have f0 := BRr.frozen 0
    have f1 := BRr.frozen 1
    have f2 := BRr.frozen 2
    have f3 := BRr.frozen 3
    have f4 := BRr.frozen 4
    have f5 := BRr.frozen 5
    have z0 := BRr.cell 0
    have z1 := BRr.cell 1
    have z2 := BRr.cell 2
    have z3 := BRr.cell 3
    have z4 := BRr.cell 4
    have z5 := BRr.cell 5
    simp only [List.getElem?_toArray, List.getElem?_cons_zero, List.getElem?_cons_succ] at z0 z1 z2 z3 z4 z5
    have q := Blk.set6 BRr (.int .i64 0) (.string ⟨#[]⟩) (.string ⟨#[]⟩) (.string ⟨#[]⟩) (.slice none 0 0) (.slice none 0 0)
    have q0 := q.cell 0
    have q1 := q.cell 1
    have q2 := q.cell 2
    have q3 := q.cell 3
    have q4 := q.cell 4
    have q5 := q.cell 5
    simp only [List.getElem?_toArray, List.getElem?_cons_zero, List.getElem?_cons_succ] at q0 q1 q2 q3 q4 q5
    go_wp2
    refine bodyPost_ret (v := .tuple #[.agg #[.int .i64 0, .string ⟨#[]⟩, .string ⟨#[]⟩, .string ⟨#[]⟩, .slice none 0 0, .slice none 0 0], .int .i64 k]) ?_ rfl ⟨zeroT, k, rfl, ⟨?_, HN.out⟩, ?_⟩
    · simp [results, Tryz.f56, go_sem, q0, q1, q2, q3, q4, q5]
    · exact zeroT_on _ _
    · exact sixBelow (hb1.trans ((hb2).mono hb1.size)) (by omega) _ _ _ _ _ _

set_option maxRecDepth 100000 in
set_option maxHeartbeats 2000000 in
theorem rJoin_any (t u : CT) (w : World) (hIn : t.In w w.heap.size) (hIn2 : u.In w w.heap.size) :
    Calls Tryz.prog 19 #[t.val, u.val] w (NorO w [t, u] fun x => tru 1 (t.holds x) (u.holds x)) := by
  obtain ⟨W1, hW1⟩ : ∃ W1, ((w.alloc (.cells t.cells.toArray 26)).alloc (.cells u.cells.toArray 26)).alloc (.cells #[.int .i64 0, .string ⟨#[]⟩, .string ⟨#[]⟩, .string ⟨#[]⟩, .slice none 0 0, .slice none 0 0] 26) = W1 := ⟨_, rfl⟩
  have hb1 : Below w.heap.size w W1 := by rw [← hW1]; exact (((Below.refl _ w).alloc (Nat.le_refl _) _).alloc (by simp) _).alloc (by simp; omega) _
  obtain ⟨B0, B1, BR0⟩ : Blk W1 w.heap.size t.cells.toArray 26 ∧ Blk W1 (w.heap.size + 1) u.cells.toArray 26 ∧ Blk W1 (w.heap.size + 2) #[.int .i64 0, .string ⟨#[]⟩, .string ⟨#[]⟩, .string ⟨#[]⟩, .slice none 0 0, .slice none 0 0] 26 := by rw [← hW1]; exact blk3 _ _ _ _ _ _ _
  have BR : Blk W1 (w.heap.size + 1 + 1) #[.int .i64 0, .string ⟨#[]⟩, .string ⟨#[]⟩, .string ⟨#[]⟩, .slice none 0 0, .slice none 0 0] 26 := BR0
  have hs1 : w.heap.size + 1 + 1 < W1.heap.size := BR.lt
  have hi1 := (hIn.below hb1 (Nat.le_refl _)).mono hb1.size
  have hi2 := (hIn2.below hb1 (Nat.le_refl _)).mono hb1.size
  have hy := rcombined_any 1 (by omega) t u W1 hi1 hi2
  obtain ⟨c0, c1, c2, c3, c4, c5⟩ := ct_cells B0
  obtain ⟨e0, e1, e2, e3, e4, e5⟩ := ct_cells B1
  rw [CT.cells_eq, CT.cells_eq] at hW1
  rw [CT.val_eq, CT.val_eq] at hy
  rw [CT.val_eq, CT.val_eq]
  clear BR0
  go_enter Tryz.func19, Tryz.ntmps19
  go_wp2_with (go_at_call 56; refine hy.mono ?_)
  rintro e w3 ⟨x, r, rfl, HX, hb3⟩
  rw [CT.val_eq x]
  have hb3s := hb3.size
  have HX := Lib.hid HX
  clear c0 c1 c2 c3 c4 c5 e0 e1 e2 e3 e4 e5
  have BRr := (BR.below (hb3))
  have f0 := BRr.frozen 0
  have f1 := BRr.frozen 1
  have f2 := BRr.frozen 2
  have f3 := BRr.frozen 3
  have f4 := BRr.frozen 4
  have f5 := BRr.frozen 5
  have z0 := BRr.cell 0
  have z1 := BRr.cell 1
  have z2 := BRr.cell 2
  have z3 := BRr.cell 3
  have z4 := BRr.cell 4
  have z5 := BRr.cell 5
  simp only [List.getElem?_toArray, List.getElem?_cons_zero, List.getElem?_cons_succ] at z0 z1 z2 z3 z4 z5
  have q := Blk.set6 BRr (.int .i64 x.kind) (.string x.name.sp) (.string x.name.lc) (.string x.space) (.slice x.ea x.ex.length x.ec) (.slice x.aa x.ar.length x.ac)
  have q0 := q.cell 0
  have q1 := q.cell 1
  have q2 := q.cell 2
  have q3 := q.cell 3
  have q4 := q.cell 4
  have q5 := q.cell 5
  simp only [List.getElem?_toArray, List.getElem?_cons_zero, List.getElem?_cons_succ] at q0 q1 q2 q3 q4 q5
  go_wp2
  refine bodyPost_ret (v := .tuple #[.agg #[.int .i64 x.kind, .string x.name.sp, .string x.name.lc, .string x.space, .slice x.ea x.ex.length x.ec, .slice x.aa x.ar.length x.ac], .int .i64 r]) ?_ rfl ⟨x, r, by rw [CT.val_eq], ⟨?_, HX.out.2⟩, ?_⟩
  · simp [results, Tryz.f19, go_sem, q0, q1, q2, q3, q4, q5]
  · refine HX.out.1.keep (fun b hb => ⟨by omega, by simpa using hb.2⟩) (fun b hb => ?_)
    exact six_other (by omega) _ _ _ _ _ _
  · exact sixBelow (hb1.trans ((hb3).mono hb1.size)) (by omega) _ _ _ _ _ _
set_option maxRecDepth 100000 in
set_option maxHeartbeats 2000000 in
theorem rMeet_any (t u : CT) (w : World) (hIn : t.In w w.heap.size) (hIn2 : u.In w w.heap.size) :
    Calls Tryz.prog 21 #[t.val, u.val] w (NorO w [t, u] fun x => tru 2 (t.holds x) (u.holds x)) := by
  obtain ⟨W1, hW1⟩ : ∃ W1, ((w.alloc (.cells t.cells.toArray 26)).alloc (.cells u.cells.toArray 26)).alloc (.cells #[.int .i64 0, .string ⟨#[]⟩, .string ⟨#[]⟩, .string ⟨#[]⟩, .slice none 0 0, .slice none 0 0] 26) = W1 := ⟨_, rfl⟩
  have hb1 : Below w.heap.size w W1 := by rw [← hW1]; exact (((Below.refl _ w).alloc (Nat.le_refl _) _).alloc (by simp) _).alloc (by simp; omega) _
  obtain ⟨B0, B1, BR0⟩ : Blk W1 w.heap.size t.cells.toArray 26 ∧ Blk W1 (w.heap.size + 1) u.cells.toArray 26 ∧ Blk W1 (w.heap.size + 2) #[.int .i64 0, .string ⟨#[]⟩, .string ⟨#[]⟩, .string ⟨#[]⟩, .slice none 0 0, .slice none 0 0] 26 := by rw [← hW1]; exact blk3 _ _ _ _ _ _ _
  have BR : Blk W1 (w.heap.size + 1 + 1) #[.int .i64 0, .string ⟨#[]⟩, .string ⟨#[]⟩, .string ⟨#[]⟩, .slice none 0 0, .slice none 0 0] 26 := BR0
  have hs1 : w.heap.size + 1 + 1 < W1.heap.size := BR.lt
  have hi1 := (hIn.below hb1 (Nat.le_refl _)).mono hb1.size
  have hi2 := (hIn2.below hb1 (Nat.le_refl _)).mono hb1.size
  have hy := rcombined_any 2 (by omega) t u W1 hi1 hi2
  obtain ⟨c0, c1, c2, c3, c4, c5⟩ := ct_cells B0
  obtain ⟨e0, e1, e2, e3, e4, e5⟩ := ct_cells B1
  rw [CT.cells_eq, CT.cells_eq] at hW1
  rw [CT.val_eq, CT.val_eq] at hy
  rw [CT.val_eq, CT.val_eq]
  clear BR0
  go_enter Tryz.func21, Tryz.ntmps21
  go_wp2_with (go_at_call 56; refine hy.mono ?_)
  rintro e w3 ⟨x, r, rfl, HX, hb3⟩
  rw [CT.val_eq x]
  have hb3s := hb3.size
  have HX := Lib.hid HX
  clear c0 c1 c2 c3 c4 c5 e0 e1 e2 e3 e4 e5
  have BRr := (BR.below (hb3))
  have f0 := BRr.frozen 0
  have f1 := BRr.frozen 1
  have f2 := BRr.frozen 2
  have f3 := BRr.frozen 3
  have f4 := BRr.frozen 4
  have f5 := BRr.frozen 5
  have z0 := BRr.cell 0
  have z1 := BRr.cell 1
  have z2 := BRr.cell 2
  have z3 := BRr.cell 3
  have z4 := BRr.cell 4
  have z5 := BRr.cell 5
  simp only [List.getElem?_toArray, List.getElem?_cons_zero, List.getElem?_cons_succ] at z0 z1 z2 z3 z4 z5
  have q := Blk.set6 BRr (.int .i64 x.kind) (.string x.name.sp) (.string x.name.lc) (.string x.space) (.slice x.ea x.ex.length x.ec) (.slice x.aa x.ar.length x.ac)
  have q0 := q.cell 0
  have q1 := q.cell 1
  have q2 := q.cell 2
  have q3 := q.cell 3
  have q4 := q.cell 4
  have q5 := q.cell 5
  simp only [List.getElem?_toArray, List.getElem?_cons_zero, List.getElem?_cons_succ] at q0 q1 q2 q3 q4 q5
  go_wp2
  refine bodyPost_ret (v := .tuple #[.agg #[.int .i64 x.kind, .string x.name.sp, .string x.name.lc, .string x.space, .slice x.ea x.ex.length x.ec, .slice x.aa x.ar.length x.ac], .int .i64 r]) ?_ rfl ⟨x, r, by rw [CT.val_eq], ⟨?_, HX.out.2⟩, ?_⟩
  · simp [results, Tryz.f21, go_sem, q0, q1, q2, q3, q4, q5]
  · refine HX.out.1.keep (fun b hb => ⟨by omega, by simpa using hb.2⟩) (fun b hb => ?_)
    exact six_other (by omega) _ _ _ _ _ _
  · exact sixBelow (hb1.trans ((hb3).mono hb1.size)) (by omega) _ _ _ _ _ _
set_option maxRecDepth 100000 in
set_option maxHeartbeats 2000000 in
theorem rMinus_any (t u : CT) (w : World) (hIn : t.In w w.heap.size) (hIn2 : u.In w w.heap.size) :
    Calls Tryz.prog 23 #[t.val, u.val] w (NorO w [t, u] fun x => tru 3 (t.holds x) (u.holds x)) := by
  obtain ⟨W1, hW1⟩ : ∃ W1, ((w.alloc (.cells t.cells.toArray 26)).alloc (.cells u.cells.toArray 26)).alloc (.cells #[.int .i64 0, .string ⟨#[]⟩, .string ⟨#[]⟩, .string ⟨#[]⟩, .slice none 0 0, .slice none 0 0] 26) = W1 := ⟨_, rfl⟩
  have hb1 : Below w.heap.size w W1 := by rw [← hW1]; exact (((Below.refl _ w).alloc (Nat.le_refl _) _).alloc (by simp) _).alloc (by simp; omega) _
  obtain ⟨B0, B1, BR0⟩ : Blk W1 w.heap.size t.cells.toArray 26 ∧ Blk W1 (w.heap.size + 1) u.cells.toArray 26 ∧ Blk W1 (w.heap.size + 2) #[.int .i64 0, .string ⟨#[]⟩, .string ⟨#[]⟩, .string ⟨#[]⟩, .slice none 0 0, .slice none 0 0] 26 := by rw [← hW1]; exact blk3 _ _ _ _ _ _ _
  have BR : Blk W1 (w.heap.size + 1 + 1) #[.int .i64 0, .string ⟨#[]⟩, .string ⟨#[]⟩, .string ⟨#[]⟩, .slice none 0 0, .slice none 0 0] 26 := BR0
  have hs1 : w.heap.size + 1 + 1 < W1.heap.size := BR.lt
  have hi1 := (hIn.below hb1 (Nat.le_refl _)).mono hb1.size
  have hi2 := (hIn2.below hb1 (Nat.le_refl _)).mono hb1.size
  have hy := rcombined_any 3 (by omega) t u W1 hi1 hi2
  obtain ⟨c0, c1, c2, c3, c4, c5⟩ := ct_cells B0
  obtain ⟨e0, e1, e2, e3, e4, e5⟩ := ct_cells B1
  rw [CT.cells_eq, CT.cells_eq] at hW1
  rw [CT.val_eq, CT.val_eq] at hy
  rw [CT.val_eq, CT.val_eq]
  clear BR0
  go_enter Tryz.func23, Tryz.ntmps23
  go_wp2_with (go_at_call 56; refine hy.mono ?_)
  rintro e w3 ⟨x, r, rfl, HX, hb3⟩
  rw [CT.val_eq x]
  have hb3s := hb3.size
  have HX := Lib.hid HX
  clear c0 c1 c2 c3 c4 c5 e0 e1 e2 e3 e4 e5
  have BRr := (BR.below (hb3))
  have f0 := BRr.frozen 0
  have f1 := BRr.frozen 1
  have f2 := BRr.frozen 2
  have f3 := BRr.frozen 3
  have f4 := BRr.frozen 4
  have f5 := BRr.frozen 5
  have z0 := BRr.cell 0
  have z1 := BRr.cell 1
  have z2 := BRr.cell 2
  have z3 := BRr.cell 3
  have z4 := BRr.cell 4
  have z5 := BRr.cell 5
  simp only [List.getElem?_toArray, List.getElem?_cons_zero, List.getElem?_cons_succ] at z0 z1 z2 z3 z4 z5
  have q := Blk.set6 BRr (.int .i64 x.kind) (.string x.name.sp) (.string x.name.lc) (.string x.space) (.slice x.ea x.ex.length x.ec) (.slice x.aa x.ar.length x.ac)
  have q0 := q.cell 0
  have q1 := q.cell 1
  have q2 := q.cell 2
  have q3 := q.cell 3
  have q4 := q.cell 4
  have q5 := q.cell 5
  simp only [List.getElem?_toArray, List.getElem?_cons_zero, List.getElem?_cons_succ] at q0 q1 q2 q3 q4 q5
  go_wp2
  refine bodyPost_ret (v := .tuple #[.agg #[.int .i64 x.kind, .string x.name.sp, .string x.name.lc, .string x.space, .slice x.ea x.ex.length x.ec, .slice x.aa x.ar.length x.ac], .int .i64 r]) ?_ rfl ⟨x, r, by rw [CT.val_eq], ⟨?_, HX.out.2⟩, ?_⟩
  · simp [results, Tryz.f23, go_sem, q0, q1, q2, q3, q4, q5]
  · refine HX.out.1.keep (fun b hb => ⟨by omega, by simpa using hb.2⟩) (fun b hb => ?_)
    exact six_other (by omega) _ _ _ _ _ _
  · exact sixBelow (hb1.trans ((hb3).mono hb1.size)) (by omega) _ _ _ _ _ _
end Np
end Go.Proofs.YtohlhihhadbphaaGreatDoor
