/- The reference of names: Empty, Includes, Overlap. -/
import Derived.Test.YtohlhihhadbphaaGreatDoorRl
import Derived.Test.YtohlhihhadbphaaGreatDoorGj
set_option linter.unusedSimpArgs false
set_option linter.unusedVariables false
namespace Go.Proofs.YtohlhihhadbphaaGreatDoor
open Go.RowKit Go.Shelf Go.Lib Go.Maps
namespace Np
theorem nod_le {t : CT} (h : t.check = 0) : nod t ≤ 100 := small_of_check h
theorem nod_two {t u : CT} (h : t.check = 0) (k : u.check = 0) : nodL [t, u] ≤ 100000 := by
  have h1 := nod_le h
  have h2 := nod_le k
  simp only [nodL, List.map_cons, List.map_nil, List.sum_cons, List.sum_nil]; omega
theorem fits_check {t : CT} (h : t.check = 0) : t.fitsAll = true := fits_of_check h
set_option maxRecDepth 100000 in
set_option maxHeartbeats 1000000 in
theorem rEmpty_any (t : CT) (w : World) (hIn : t.In w w.heap.size) :
    Calls Tryz.prog 25 #[t.val] w fun e w' => e = .returned (.tuple #[.bool (decide (t.check = 0) && !((candsOf [t, t] []).any fun x => tru 0 (t.holds x) (t.holds x))), .int .i64 t.check]) ∧ Below w.heap.size w w' := by
  obtain ⟨W1, hW1⟩ : ∃ W1, w.alloc (.cells t.cells.toArray 26) = W1 := ⟨_, rfl⟩
  have hb1 : Below w.heap.size w W1 := by rw [← hW1]; exact (Below.refl _ w).alloc (Nat.le_refl _) _
  have B0 : Blk W1 w.heap.size t.cells.toArray 26 := by rw [← hW1]; exact Blk.new _ _ _
  have hi1 := (hIn.below hb1 (Nat.le_refl _)).mono hb1.size
  have hx := rCheck_any t W1 hi1
  have hy := fun w2 (hb2 : Below W1.heap.size W1 w2) (h : t.check = 0) => rSome_any 0 (by omega) t t w2 ((hi1.below hb2 (Nat.le_refl _)).mono hb2.size) ((hi1.below hb2 (Nat.le_refl _)).mono hb2.size) (fits_of_check h) (fits_of_check h) (nod_two h h)
  obtain ⟨c0, c1, c2, c3, c4, c5⟩ := ct_cells B0
  rw [CT.cells_eq] at hW1
  rw [CT.val_eq] at hx
  simp only [CT.val_eq] at hy
  rw [CT.val_eq]
  obtain ⟨r, hr⟩ : ∃ r, t.check = r := ⟨_, rfl⟩
  rw [hr] at hx hy ⊢
  obtain ⟨s, hs⟩ : ∃ s, ((candsOf [t, t] []).any fun x => tru 0 (t.holds x) (t.holds x)) = s := ⟨_, rfl⟩
  simp only [hs] at hy ⊢
  clear hr hs
  by_cases h0 : r = 0
  · subst h0
    go_enter Tryz.func25, Tryz.ntmps25
    go_wp2_with (go_at_call 12; refine hx.mono ?_)
    first | rintro e w2 rfl hb2 | rintro e w2 ⟨rfl, hb2⟩
    have hB2 := hb1.trans (hb2.mono hb1.size)
    have hy2 := hy w2 hb2 (by trivial)
    clear c0 c1 c2 c3 c4 c5
    obtain ⟨c0, c1, c2, c3, c4, c5⟩ := ct_cells (B0.below hb2)
    go_wp2_with (go_at_call 61; refine hy2.mono ?_)
    first | rintro e w3 rfl hb3 | rintro e w3 ⟨rfl, hb3⟩
    go_wp2
    go_ret2
    exact ⟨by simp, hB2.trans (hb3.mono hB2.size)⟩
  · have g1 : (r == 0) = false := by simpa using h0
    have g2 : (r != 0) = true := by simpa using h0
    have g3 : decide (r = 0) = false := decide_eq_false h0
    rw [g3]
    clear h0 hy
    go_enter Tryz.func25, Tryz.ntmps25
    go_wp2_with (go_at_call 12; refine hx.mono ?_)
    first | rintro e w2 rfl hb2 | rintro e w2 ⟨rfl, hb2⟩
    go_wp2
    go_ret2
    exact ⟨by simp, hb1.trans (hb2.mono hb1.size)⟩
set_option maxRecDepth 100000 in
set_option maxHeartbeats 1000000 in
theorem rIncludes_any (t u : CT) (w : World) (hIn : t.In w w.heap.size) (hIn2 : u.In w w.heap.size) :
    Calls Tryz.prog 27 #[t.val, u.val] w fun e w' => e = .returned (.tuple #[.bool (decide (chkL [t, u] = 0) && !((candsOf [u, t] []).any fun x => tru 3 (u.holds x) (t.holds x))), .int .i64 (chkL [t, u])]) ∧ Below w.heap.size w w' := by
  obtain ⟨W1, hW1⟩ : ∃ W1, (w.alloc (.cells t.cells.toArray 26)).alloc (.cells u.cells.toArray 26) = W1 := ⟨_, rfl⟩
  have hb1 : Below w.heap.size w W1 := by rw [← hW1]; exact ((Below.refl _ w).alloc (Nat.le_refl _) _).alloc (by simp) _
  have B0 : Blk W1 w.heap.size t.cells.toArray 26 := by rw [← hW1]; exact (Blk.new _ _ _).alloc _
  have B1 : Blk W1 (w.heap.size + 1) u.cells.toArray 26 := by
    rw [← hW1]
    have := Blk.new (w.alloc (.cells t.cells.toArray 26)) u.cells.toArray 26
    rw [World.size_alloc] at this; exact this
  have hi1 := (hIn.below hb1 (Nat.le_refl _)).mono hb1.size
  have hi2 := (hIn2.below hb1 (Nat.le_refl _)).mono hb1.size
  have hx := rTwo_any t u W1 hi1 hi2
  have hy := fun w2 (hb2 : Below W1.heap.size W1 w2) (h : chkL [t, u] = 0) => rSome_any 3 (by omega) u t w2 ((hi2.below hb2 (Nat.le_refl _)).mono hb2.size) ((hi1.below hb2 (Nat.le_refl _)).mono hb2.size) (fits_of_check (chk_all h u (by simp))) (fits_of_check (chk_all h t (by simp))) (nod_two (chk_all h u (by simp)) (chk_all h t (by simp)))
  obtain ⟨c0, c1, c2, c3, c4, c5⟩ := ct_cells B0
  obtain ⟨e0, e1, e2, e3, e4, e5⟩ := ct_cells B1
  rw [CT.cells_eq, CT.cells_eq] at hW1
  rw [CT.val_eq, CT.val_eq] at hx
  simp only [CT.val_eq] at hy
  rw [CT.val_eq, CT.val_eq]
  obtain ⟨r, hr⟩ : ∃ r, chkL [t, u] = r := ⟨_, rfl⟩
  rw [hr] at hx hy ⊢
  obtain ⟨s, hs⟩ : ∃ s, ((candsOf [u, t] []).any fun x => tru 3 (u.holds x) (t.holds x)) = s := ⟨_, rfl⟩
  simp only [hs] at hy ⊢
  clear hr hs
  by_cases h0 : r = 0
  · subst h0
    go_enter Tryz.func27, Tryz.ntmps27
    go_wp2_with (go_at_call 63; refine hx.mono ?_)
    first | rintro e w2 rfl hb2 | rintro e w2 ⟨rfl, hb2⟩
    have hB2 := hb1.trans (hb2.mono hb1.size)
    have hy2 := hy w2 hb2 (by trivial)
    clear c0 c1 c2 c3 c4 c5 e0 e1 e2 e3 e4 e5
    obtain ⟨c0, c1, c2, c3, c4, c5⟩ := ct_cells (B0.below hb2)
    obtain ⟨e0, e1, e2, e3, e4, e5⟩ := ct_cells (B1.below hb2)
    go_wp2_with (go_at_call 61; refine hy2.mono ?_)
    first | rintro e w3 rfl hb3 | rintro e w3 ⟨rfl, hb3⟩
    go_wp2
    go_ret2
    exact ⟨by simp, hB2.trans (hb3.mono hB2.size)⟩
  · have g1 : (r == 0) = false := by simpa using h0
    have g2 : (r != 0) = true := by simpa using h0
    have g3 : decide (r = 0) = false := decide_eq_false h0
    rw [g3]
    clear h0 hy
    go_enter Tryz.func27, Tryz.ntmps27
    go_wp2_with (go_at_call 63; refine hx.mono ?_)
    first | rintro e w2 rfl hb2 | rintro e w2 ⟨rfl, hb2⟩
    go_wp2
    go_ret2
    exact ⟨by simp, hb1.trans (hb2.mono hb1.size)⟩
set_option maxRecDepth 100000 in
set_option maxHeartbeats 1000000 in
theorem rOverlap_any (t u : CT) (w : World) (hIn : t.In w w.heap.size) (hIn2 : u.In w w.heap.size) :
    Calls Tryz.prog 29 #[t.val, u.val] w fun e w' => e = .returned (.tuple #[.bool (decide (chkL [t, u] = 0) && ((candsOf [t, u] []).any fun x => tru 2 (t.holds x) (u.holds x))), .int .i64 (chkL [t, u])]) ∧ Below w.heap.size w w' := by
  obtain ⟨W1, hW1⟩ : ∃ W1, (w.alloc (.cells t.cells.toArray 26)).alloc (.cells u.cells.toArray 26) = W1 := ⟨_, rfl⟩
  have hb1 : Below w.heap.size w W1 := by rw [← hW1]; exact ((Below.refl _ w).alloc (Nat.le_refl _) _).alloc (by simp) _
  have B0 : Blk W1 w.heap.size t.cells.toArray 26 := by rw [← hW1]; exact (Blk.new _ _ _).alloc _
  have B1 : Blk W1 (w.heap.size + 1) u.cells.toArray 26 := by
    rw [← hW1]
    have := Blk.new (w.alloc (.cells t.cells.toArray 26)) u.cells.toArray 26
    rw [World.size_alloc] at this; exact this
  have hi1 := (hIn.below hb1 (Nat.le_refl _)).mono hb1.size
  have hi2 := (hIn2.below hb1 (Nat.le_refl _)).mono hb1.size
  have hx := rTwo_any t u W1 hi1 hi2
  have hy := fun w2 (hb2 : Below W1.heap.size W1 w2) (h : chkL [t, u] = 0) => rSome_any 2 (by omega) t u w2 ((hi1.below hb2 (Nat.le_refl _)).mono hb2.size) ((hi2.below hb2 (Nat.le_refl _)).mono hb2.size) (fits_of_check (chk_all h t (by simp))) (fits_of_check (chk_all h u (by simp))) (nod_two (chk_all h t (by simp)) (chk_all h u (by simp)))
  obtain ⟨c0, c1, c2, c3, c4, c5⟩ := ct_cells B0
  obtain ⟨e0, e1, e2, e3, e4, e5⟩ := ct_cells B1
  rw [CT.cells_eq, CT.cells_eq] at hW1
  rw [CT.val_eq, CT.val_eq] at hx
  simp only [CT.val_eq] at hy
  rw [CT.val_eq, CT.val_eq]
  obtain ⟨r, hr⟩ : ∃ r, chkL [t, u] = r := ⟨_, rfl⟩
  rw [hr] at hx hy ⊢
  obtain ⟨s, hs⟩ : ∃ s, ((candsOf [t, u] []).any fun x => tru 2 (t.holds x) (u.holds x)) = s := ⟨_, rfl⟩
  simp only [hs] at hy ⊢
  clear hr hs
  by_cases h0 : r = 0
  · subst h0
    go_enter Tryz.func29, Tryz.ntmps29
    go_wp2_with (go_at_call 63; refine hx.mono ?_)
    first | rintro e w2 rfl hb2 | rintro e w2 ⟨rfl, hb2⟩
    have hB2 := hb1.trans (hb2.mono hb1.size)
    have hy2 := hy w2 hb2 (by trivial)
    clear c0 c1 c2 c3 c4 c5 e0 e1 e2 e3 e4 e5
    obtain ⟨c0, c1, c2, c3, c4, c5⟩ := ct_cells (B0.below hb2)
    obtain ⟨e0, e1, e2, e3, e4, e5⟩ := ct_cells (B1.below hb2)
    go_wp2_with (go_at_call 61; refine hy2.mono ?_)
    first | rintro e w3 rfl hb3 | rintro e w3 ⟨rfl, hb3⟩
    go_wp2
    go_ret2
    exact ⟨by simp, hB2.trans (hb3.mono hB2.size)⟩
  · have g1 : (r == 0) = false := by simpa using h0
    have g2 : (r != 0) = true := by simpa using h0
    have g3 : decide (r = 0) = false := decide_eq_false h0
    rw [g3]
    clear h0 hy
    go_enter Tryz.func29, Tryz.ntmps29
    go_wp2_with (go_at_call 63; refine hx.mono ?_)
    first | rintro e w2 rfl hb2 | rintro e w2 ⟨rfl, hb2⟩
    go_wp2
    go_ret2
    exact ⟨by simp, hb1.trans (hb2.mono hb1.size)⟩
end Np
end Go.Proofs.YtohlhihhadbphaaGreatDoor
