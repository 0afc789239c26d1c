/- Names: W X Y Z. -/
import Derived.Test.YtohlhihhadbphaaGreatDoorGf
set_option linter.unusedSimpArgs false
set_option linter.unusedVariables false
/- The closures that say which names are wanted; Empty, Includes, Overlap. -/
namespace Go.Proofs.YtohlhihhadbphaaGreatDoor
open Go.RowKit Go.Shelf Go.Lib
namespace Np
set_option maxHeartbeats 1000000 in
theorem Empty1_any (t : CT) (n : Name) (B : Nat) (W : World) (hB : Blk W B t.cells.toArray 26) (hIn : t.In W W.heap.size) :
    Calls Tryz.prog 60 #[n.val, .pointer (some ⟨B, 0, none⟩)] W fun e w' => e = .returned (.bool (t.holds n)) ∧ Below W.heap.size W w' := by
  have hb : Below W.heap.size W (W.alloc (.cells #[.string n.sp, .string n.lc] 23)) := (Below.refl _ _).alloc (Nat.le_refl _) _
  have h := holds_any t n _ ((hIn.below hb (Nat.le_refl _)).mono hb.size)
  have hl := hB.lt
  obtain ⟨c0, c1, c2, c3, c4, c5⟩ := ct_cells hB
  rw [CT.val_eq] at h
  unfold Name.val at h ⊢
  go_enter Tryz.func60, Tryz.ntmps60
  go_wp2_with (go_at_call 44; refine h.mono ?_)
  rintro e w' ⟨rfl, hb2⟩
  go_wp2
  go_ret
  exact ⟨rfl, hb.trans (hb2.mono hb.size)⟩
set_option maxHeartbeats 1000000 in
theorem Normal1_any (t : CT) (n : Name) (B : Nat) (W : World) (hB : Blk W B t.cells.toArray 26) (hIn : t.In W W.heap.size) :
    Calls Tryz.prog 53 #[n.val, .pointer (some ⟨B, 0, none⟩)] W fun e w' => e = .returned (.bool (t.holds n)) ∧ Below W.heap.size W w' := by
  have hb : Below W.heap.size W (W.alloc (.cells #[.string n.sp, .string n.lc] 23)) := (Below.refl _ _).alloc (Nat.le_refl _) _
  have h := holds_any t n _ ((hIn.below hb (Nat.le_refl _)).mono hb.size)
  have hl := hB.lt
  obtain ⟨c0, c1, c2, c3, c4, c5⟩ := ct_cells hB
  rw [CT.val_eq] at h
  unfold Name.val at h ⊢
  go_enter Tryz.func53, Tryz.ntmps53
  go_wp2_with (go_at_call 44; refine h.mono ?_)
  rintro e w' ⟨rfl, hb2⟩
  go_wp2
  go_ret
  exact ⟨rfl, hb.trans (hb2.mono hb.size)⟩
set_option maxHeartbeats 1000000 in
theorem Includes1_any (t u : CT) (n : Name) (B C : Nat) (W : World) (hB : Blk W B t.cells.toArray 26) (hC : Blk W C u.cells.toArray 26) (hIn : t.In W W.heap.size) (hIn2 : u.In W W.heap.size) :
    Calls Tryz.prog 62 #[n.val, .pointer (some ⟨B, 0, none⟩), .pointer (some ⟨C, 0, none⟩)] W fun e w' => e = .returned (.bool (t.holds n && !u.holds n)) ∧ Below W.heap.size W w' := by
  have hb : Below W.heap.size W (W.alloc (.cells #[.string n.sp, .string n.lc] 23)) := (Below.refl _ _).alloc (Nat.le_refl _) _
  have h := holds_any t n _ ((hIn.below hb (Nat.le_refl _)).mono hb.size)
  have hl := hB.lt
  have hl2 := hC.lt
  obtain ⟨c0, c1, c2, c3, c4, c5⟩ := ct_cells hB
  rw [CT.val_eq] at h
  unfold Name.val at h ⊢
  obtain ⟨v, hv⟩ : ∃ v, t.holds n = v := ⟨_, rfl⟩
  rw [hv] at h ⊢
  clear hv
  have h2 : ∀ w1, Below (W.heap.size + 1) (W.alloc (.cells #[.string n.sp, .string n.lc] 23)) w1 → Calls Tryz.prog 44 #[u.val, n.val] w1 fun e w' => e = .returned (.bool (u.holds n)) ∧ Below w1.heap.size w1 w' := fun w1 h1 => holds_any u n w1 (((hIn2.below hb (Nat.le_refl _)).below h1 (by omega)).mono (by have := h1.size; simp at this; omega))
  rw [CT.val_eq] at h2
  unfold Name.val at h2
  obtain ⟨v2, hv2⟩ : ∃ v2, u.holds n = v2 := ⟨_, rfl⟩
  rw [hv2] at h2 ⊢
  clear hv2
  go_enter Tryz.func62, Tryz.ntmps62
  go_wp2_with (go_at_call 44; refine h.mono ?_)
  rintro e w1 ⟨rfl, hb2⟩
  rw [World.size_alloc] at hb2
  have h3 := h2 w1 hb2
  have bx := (Blk.new W #[.string n.sp, .string n.lc] 23).kept (row := none) ⟨hb2.os, hb2.tape, hb2.output, hb2.size, fun k hk _ => hb2.block k (by simpa using hk)⟩ (by simp)
  have n0 := bx.cell 0
  have n1 := bx.cell 1
  simp only [List.getElem?_toArray, List.getElem?_cons_zero, List.getElem?_cons_succ] at n0 n1
  have hBC := (hC.alloc (.cells #[.string n.sp, .string n.lc] 23)).kept (row := none) ⟨hb2.os, hb2.tape, hb2.output, hb2.size, fun k hk _ => hb2.block k (by simpa using hk)⟩ (by simp)
  clear c0 c1 c2 c3 c4 c5
  obtain ⟨c0, c1, c2, c3, c4, c5⟩ := ct_cells hBC
  have hB3 : Below W.heap.size W w1 := hb.trans (hb2.mono (by omega))
  clear h2
  cases v
  · go_wp2
    go_ret
    exact ⟨rfl, hB3⟩
  · go_wp2_with (go_at_call 44; refine h3.mono ?_)
    rintro e w2 ⟨rfl, hb4⟩
    go_wp2
    go_ret
    exact ⟨by simp, hB3.trans (hb4.mono hB3.size)⟩
set_option maxHeartbeats 1000000 in
theorem Minus1_any (t u : CT) (n : Name) (B C : Nat) (W : World) (hB : Blk W B t.cells.toArray 26) (hC : Blk W C u.cells.toArray 26) (hIn : t.In W W.heap.size) (hIn2 : u.In W W.heap.size) :
    Calls Tryz.prog 58 #[n.val, .pointer (some ⟨B, 0, none⟩), .pointer (some ⟨C, 0, none⟩)] W fun e w' => e = .returned (.bool (t.holds n && !u.holds n)) ∧ Below W.heap.size W w' := by
  have hb : Below W.heap.size W (W.alloc (.cells #[.string n.sp, .string n.lc] 23)) := (Below.refl _ _).alloc (Nat.le_refl _) _
  have h := holds_any t n _ ((hIn.below hb (Nat.le_refl _)).mono hb.size)
  have hl := hB.lt
  have hl2 := hC.lt
  obtain ⟨c0, c1, c2, c3, c4, c5⟩ := ct_cells hB
  rw [CT.val_eq] at h
  unfold Name.val at h ⊢
  obtain ⟨v, hv⟩ : ∃ v, t.holds n = v := ⟨_, rfl⟩
  rw [hv] at h ⊢
  clear hv
  have h2 : ∀ w1, Below (W.heap.size + 1) (W.alloc (.cells #[.string n.sp, .string n.lc] 23)) w1 → Calls Tryz.prog 44 #[u.val, n.val] w1 fun e w' => e = .returned (.bool (u.holds n)) ∧ Below w1.heap.size w1 w' := fun w1 h1 => holds_any u n w1 (((hIn2.below hb (Nat.le_refl _)).below h1 (by omega)).mono (by have := h1.size; simp at this; omega))
  rw [CT.val_eq] at h2
  unfold Name.val at h2
  obtain ⟨v2, hv2⟩ : ∃ v2, u.holds n = v2 := ⟨_, rfl⟩
  rw [hv2] at h2 ⊢
  clear hv2
  go_enter Tryz.func58, Tryz.ntmps58
  go_wp2_with (go_at_call 44; refine h.mono ?_)
  rintro e w1 ⟨rfl, hb2⟩
  rw [World.size_alloc] at hb2
  have h3 := h2 w1 hb2
  have bx := (Blk.new W #[.string n.sp, .string n.lc] 23).kept (row := none) ⟨hb2.os, hb2.tape, hb2.output, hb2.size, fun k hk _ => hb2.block k (by simpa using hk)⟩ (by simp)
  have n0 := bx.cell 0
  have n1 := bx.cell 1
  simp only [List.getElem?_toArray, List.getElem?_cons_zero, List.getElem?_cons_succ] at n0 n1
  have hBC := (hC.alloc (.cells #[.string n.sp, .string n.lc] 23)).kept (row := none) ⟨hb2.os, hb2.tape, hb2.output, hb2.size, fun k hk _ => hb2.block k (by simpa using hk)⟩ (by simp)
  clear c0 c1 c2 c3 c4 c5
  obtain ⟨c0, c1, c2, c3, c4, c5⟩ := ct_cells hBC
  have hB3 : Below W.heap.size W w1 := hb.trans (hb2.mono (by omega))
  clear h2
  cases v
  · go_wp2
    go_ret
    exact ⟨rfl, hB3⟩
  · go_wp2_with (go_at_call 44; refine h3.mono ?_)
    rintro e w2 ⟨rfl, hb4⟩
    go_wp2
    go_ret
    exact ⟨by simp, hB3.trans (hb4.mono hB3.size)⟩
set_option maxHeartbeats 1000000 in
theorem Overlap1_any (t u : CT) (n : Name) (B C : Nat) (W : World) (hB : Blk W B t.cells.toArray 26) (hC : Blk W C u.cells.toArray 26) (hIn : t.In W W.heap.size) (hIn2 : u.In W W.heap.size) :
    Calls Tryz.prog 64 #[n.val, .pointer (some ⟨B, 0, none⟩), .pointer (some ⟨C, 0, none⟩)] W fun e w' => e = .returned (.bool (t.holds n && u.holds n)) ∧ Below W.heap.size W w' := by
  have hb : Below W.heap.size W (W.alloc (.cells #[.string n.sp, .string n.lc] 23)) := (Below.refl _ _).alloc (Nat.le_refl _) _
  have h := holds_any t n _ ((hIn.below hb (Nat.le_refl _)).mono hb.size)
  have hl := hB.lt
  have hl2 := hC.lt
  obtain ⟨c0, c1, c2, c3, c4, c5⟩ := ct_cells hB
  rw [CT.val_eq] at h
  unfold Name.val at h ⊢
  obtain ⟨v, hv⟩ : ∃ v, t.holds n = v := ⟨_, rfl⟩
  rw [hv] at h ⊢
  clear hv
  have h2 : ∀ w1, Below (W.heap.size + 1) (W.alloc (.cells #[.string n.sp, .string n.lc] 23)) w1 → Calls Tryz.prog 44 #[u.val, n.val] w1 fun e w' => e = .returned (.bool (u.holds n)) ∧ Below w1.heap.size w1 w' := fun w1 h1 => holds_any u n w1 (((hIn2.below hb (Nat.le_refl _)).below h1 (by omega)).mono (by have := h1.size; simp at this; omega))
  rw [CT.val_eq] at h2
  unfold Name.val at h2
  obtain ⟨v2, hv2⟩ : ∃ v2, u.holds n = v2 := ⟨_, rfl⟩
  rw [hv2] at h2 ⊢
  clear hv2
  go_enter Tryz.func64, Tryz.ntmps64
  go_wp2_with (go_at_call 44; refine h.mono ?_)
  rintro e w1 ⟨rfl, hb2⟩
  rw [World.size_alloc] at hb2
  have h3 := h2 w1 hb2
  have bx := (Blk.new W #[.string n.sp, .string n.lc] 23).kept (row := none) ⟨hb2.os, hb2.tape, hb2.output, hb2.size, fun k hk _ => hb2.block k (by simpa using hk)⟩ (by simp)
  have n0 := bx.cell 0
  have n1 := bx.cell 1
  simp only [List.getElem?_toArray, List.getElem?_cons_zero, List.getElem?_cons_succ] at n0 n1
  have hBC := (hC.alloc (.cells #[.string n.sp, .string n.lc] 23)).kept (row := none) ⟨hb2.os, hb2.tape, hb2.output, hb2.size, fun k hk _ => hb2.block k (by simpa using hk)⟩ (by simp)
  clear c0 c1 c2 c3 c4 c5
  obtain ⟨c0, c1, c2, c3, c4, c5⟩ := ct_cells hBC
  have hB3 : Below W.heap.size W w1 := hb.trans (hb2.mono (by omega))
  clear h2
  cases v
  · go_wp2
    go_ret
    exact ⟨rfl, hB3⟩
  · go_wp2_with (go_at_call 44; refine h3.mono ?_)
    rintro e w2 ⟨rfl, hb4⟩
    go_wp2
    go_ret
    exact ⟨rfl, hB3.trans (hb4.mono hB3.size)⟩
set_option maxHeartbeats 1000000 in
theorem Meet1_any (t u : CT) (n : Name) (B C : Nat) (W : World) (hB : Blk W B t.cells.toArray 26) (hC : Blk W C u.cells.toArray 26) (hIn : t.In W W.heap.size) (hIn2 : u.In W W.heap.size) :
    Calls Tryz.prog 57 #[n.val, .pointer (some ⟨B, 0, none⟩), .pointer (some ⟨C, 0, none⟩)] W fun e w' => e = .returned (.bool (t.holds n && u.holds n)) ∧ Below W.heap.size W w' := by
  have hb : Below W.heap.size W (W.alloc (.cells #[.string n.sp, .string n.lc] 23)) := (Below.refl _ _).alloc (Nat.le_refl _) _
  have h := holds_any t n _ ((hIn.below hb (Nat.le_refl _)).mono hb.size)
  have hl := hB.lt
  have hl2 := hC.lt
  obtain ⟨c0, c1, c2, c3, c4, c5⟩ := ct_cells hB
  rw [CT.val_eq] at h
  unfold Name.val at h ⊢
  obtain ⟨v, hv⟩ : ∃ v, t.holds n = v := ⟨_, rfl⟩
  rw [hv] at h ⊢
  clear hv
  have h2 : ∀ w1, Below (W.heap.size + 1) (W.alloc (.cells #[.string n.sp, .string n.lc] 23)) w1 → Calls Tryz.prog 44 #[u.val, n.val] w1 fun e w' => e = .returned (.bool (u.holds n)) ∧ Below w1.heap.size w1 w' := fun w1 h1 => holds_any u n w1 (((hIn2.below hb (Nat.le_refl _)).below h1 (by omega)).mono (by have := h1.size; simp at this; omega))
  rw [CT.val_eq] at h2
  unfold Name.val at h2
  obtain ⟨v2, hv2⟩ : ∃ v2, u.holds n = v2 := ⟨_, rfl⟩
  rw [hv2] at h2 ⊢
  clear hv2
  go_enter Tryz.func57, Tryz.ntmps57
  go_wp2_with (go_at_call 44; refine h.mono ?_)
  rintro e w1 ⟨rfl, hb2⟩
  rw [World.size_alloc] at hb2
  have h3 := h2 w1 hb2
  have bx := (Blk.new W #[.string n.sp, .string n.lc] 23).kept (row := none) ⟨hb2.os, hb2.tape, hb2.output, hb2.size, fun k hk _ => hb2.block k (by simpa using hk)⟩ (by simp)
  have n0 := bx.cell 0
  have n1 := bx.cell 1
  simp only [List.getElem?_toArray, List.getElem?_cons_zero, List.getElem?_cons_succ] at n0 n1
  have hBC := (hC.alloc (.cells #[.string n.sp, .string n.lc] 23)).kept (row := none) ⟨hb2.os, hb2.tape, hb2.output, hb2.size, fun k hk _ => hb2.block k (by simpa using hk)⟩ (by simp)
  clear c0 c1 c2 c3 c4 c5
  obtain ⟨c0, c1, c2, c3, c4, c5⟩ := ct_cells hBC
  have hB3 : Below W.heap.size W w1 := hb.trans (hb2.mono (by omega))
  clear h2
  cases v
  · go_wp2
    go_ret
    exact ⟨rfl, hB3⟩
  · go_wp2_with (go_at_call 44; refine h3.mono ?_)
    rintro e w2 ⟨rfl, hb4⟩
    go_wp2
    go_ret
    exact ⟨rfl, hB3.trans (hb4.mono hB3.size)⟩
set_option maxHeartbeats 1000000 in
theorem Join1_any (t u : CT) (n : Name) (B C : Nat) (W : World) (hB : Blk W B t.cells.toArray 26) (hC : Blk W C u.cells.toArray 26) (hIn : t.In W W.heap.size) (hIn2 : u.In W W.heap.size) :
    Calls Tryz.prog 55 #[n.val, .pointer (some ⟨B, 0, none⟩), .pointer (some ⟨C, 0, none⟩)] W fun e w' => e = .returned (.bool (t.holds n || u.holds n)) ∧ Below W.heap.size W w' := by
  have hb : Below W.heap.size W (W.alloc (.cells #[.string n.sp, .string n.lc] 23)) := (Below.refl _ _).alloc (Nat.le_refl _) _
  have h := holds_any t n _ ((hIn.below hb (Nat.le_refl _)).mono hb.size)
  have hl := hB.lt
  have hl2 := hC.lt
  obtain ⟨c0, c1, c2, c3, c4, c5⟩ := ct_cells hB
  rw [CT.val_eq] at h
  unfold Name.val at h ⊢
  obtain ⟨v, hv⟩ : ∃ v, t.holds n = v := ⟨_, rfl⟩
  rw [hv] at h ⊢
  clear hv
  have h2 : ∀ w1, Below (W.heap.size + 1) (W.alloc (.cells #[.string n.sp, .string n.lc] 23)) w1 → Calls Tryz.prog 44 #[u.val, n.val] w1 fun e w' => e = .returned (.bool (u.holds n)) ∧ Below w1.heap.size w1 w' := fun w1 h1 => holds_any u n w1 (((hIn2.below hb (Nat.le_refl _)).below h1 (by omega)).mono (by have := h1.size; simp at this; omega))
  rw [CT.val_eq] at h2
  unfold Name.val at h2
  obtain ⟨v2, hv2⟩ : ∃ v2, u.holds n = v2 := ⟨_, rfl⟩
  rw [hv2] at h2 ⊢
  clear hv2
  go_enter Tryz.func55, Tryz.ntmps55
  go_wp2_with (go_at_call 44; refine h.mono ?_)
  rintro e w1 ⟨rfl, hb2⟩
  rw [World.size_alloc] at hb2
  have h3 := h2 w1 hb2
  have bx := (Blk.new W #[.string n.sp, .string n.lc] 23).kept (row := none) ⟨hb2.os, hb2.tape, hb2.output, hb2.size, fun k hk _ => hb2.block k (by simpa using hk)⟩ (by simp)
  have n0 := bx.cell 0
  have n1 := bx.cell 1
  simp only [List.getElem?_toArray, List.getElem?_cons_zero, List.getElem?_cons_succ] at n0 n1
  have hBC := (hC.alloc (.cells #[.string n.sp, .string n.lc] 23)).kept (row := none) ⟨hb2.os, hb2.tape, hb2.output, hb2.size, fun k hk _ => hb2.block k (by simpa using hk)⟩ (by simp)
  clear c0 c1 c2 c3 c4 c5
  obtain ⟨c0, c1, c2, c3, c4, c5⟩ := ct_cells hBC
  have hB3 : Below W.heap.size W w1 := hb.trans (hb2.mono (by omega))
  clear h2
  cases v
  · go_wp2_with (go_at_call 44; refine h3.mono ?_)
    rintro e w2 ⟨rfl, hb4⟩
    go_wp2
    go_ret
    exact ⟨rfl, hB3.trans (hb4.mono hB3.size)⟩
  · go_wp2
    go_ret
    exact ⟨rfl, hB3⟩
end Np
end Go.Proofs.YtohlhihhadbphaaGreatDoor

/- Empty, Includes, Overlap. -/
namespace Go.Proofs.YtohlhihhadbphaaGreatDoor
open Go.RowKit Go.Shelf Go.Lib
namespace Np
theorem flat6 : ∀ (l : List CT) (j : Nat) (h : j < l.length) (i : Nat) (v : Value), (l[j]).cells[i]? = some v → (l.flatMap CT.cells)[j * 6 + i]? = some v
  | [], j, h, _, _, _ => by simp at h
  | x :: r, 0, _, i, v, hv => by
    have hi : i < x.cells.length := (List.getElem?_eq_some_iff.1 hv).1
    rw [List.flatMap_cons, Nat.zero_mul, Nat.zero_add, List.getElem?_append_left hi]
    exact hv
  | x :: r, j + 1, h, i, v, hv => by
    have e6 : x.cells.length = 6 := rfl
    rw [List.flatMap_cons, List.getElem?_append_right (by rw [e6]; omega), e6, show (j + 1) * 6 + i - 6 = j * 6 + i by omega]
    exact flat6 r j (by simpa using h) i v (by simpa using hv)
theorem lin_row {W : World} {b n : Nat} {l : List CT} (hb : Blk W b (l.flatMap CT.cells).toArray 26) (hn : b < n) (hl : l.length ≤ maxLen) (hin : ∀ u ∈ l, u.In W n) : LIn W n (some ⟨b, 0, none⟩) l :=
  ⟨⟨hl, fun _ => ⟨b, 0, rfl, hn, fun j hj i v hv => by
    have := hb.cell (0 + j * 6 + i)
    rw [this, Nat.zero_add]
    simpa using flat6 l j hj i v hv⟩⟩, hin⟩
theorem chk_all {l : List CT} (h : chkL l = 0) : ∀ u ∈ l, u.check = 0 := by
  induction l with
  | nil => simp
  | cons a r ih =>
    unfold chkL at h
    split at h
    · rename_i h0
      intro u hu
      rcases List.mem_cons.1 hu with rfl | hu
      · exact h0
      · exact ih h u hu
    · rename_i h0; exact absurd h h0
theorem small_of_check {t : CT} (h : t.check = 0) : (t.parts 1).length ≤ 100 := by
  unfold CT.check at h
  split at h
  · rename_i hs
    unfold CT.small smallB at hs
    simp only [Bool.and_eq_true, decide_eq_true_eq] at hs
    exact hs.1
  · cases h
theorem parts_le {l : List CT} (h : ∀ u ∈ l, u.check = 0) : (CT.partsL l 1).length ≤ 100 * l.length := by
  induction l with
  | nil => simp [CT.partsL]
  | cons a r ih =>
    rw [CT.partsL, List.length_append, List.length_cons]
    have h1 := small_of_check (h a (by simp))
    have h2 := ih (fun u hu => h u (by simp [hu]))
    omega
theorem parts_big {l : List CT} (hl : l.length ≤ 10000) (h : chkL l = 0) : (CT.partsL l 1).length ≤ 1000000 := Nat.le_trans (parts_le (chk_all h)) (by omega)

set_option maxHeartbeats 1000000 in
theorem Empty_any (t : CT) (w : World) (hG : G w) (ht : t.depth ≤ 1000) (hIn : t.In w w.heap.size) :
    Calls Tryz.prog 24 #[t.val] w fun e w' => e = .returned (.tuple #[.bool (decide (chkL [t] = 0) && nevB t.holds (candsOf [t] [])), .int .i64 (chkL [t])]) ∧ Below w.heap.size w w' := by
  obtain ⟨r1, hr1⟩ : ∃ r, (decide (chkL [t] = 0) && nevB t.holds (candsOf [t] [])) = r := ⟨_, rfl⟩
  obtain ⟨r2, hr2⟩ : ∃ r, chkL [t] = r := ⟨_, rfl⟩
  obtain ⟨W1, hW1⟩ : ∃ W1, (w.alloc (.cells t.cells.toArray 26)).alloc (.cells t.cells.toArray 26) = W1 := ⟨_, rfl⟩
  have hb : Below w.heap.size w W1 := by rw [← hW1]; exact ((Below.refl _ w).alloc (Nat.le_refl _) _).alloc (by simp) _
  have B0 : Blk W1 w.heap.size t.cells.toArray 26 := by rw [← hW1]; exact (Blk.new _ _ _).alloc _
  have B1 : Blk W1 (w.heap.size + 1) ([t].flatMap CT.cells).toArray 26 := by
    rw [← hW1]
    have := Blk.new (w.alloc (.cells t.cells.toArray 26)) t.cells.toArray 26
    rw [World.size_alloc] at this
    simpa using this
  have hs : W1.heap.size = w.heap.size + 2 := by rw [← hW1]; simp
  have hin1 : t.In W1 W1.heap.size := (hIn.below hb (Nat.le_refl _)).mono hb.size
  have hN := never_any (some ⟨w.heap.size + 1, 0, none⟩) 1 [t] 60 #[.pointer (some ⟨w.heap.size, 0, none⟩)] t.holds W1 (hG.later hb) (lin_row B1 (by omega) (by simp; unfold maxLen; omega) (by simpa using hin1)) (by simpa using ht) (fun h => parts_big (by simp) h)
    ⟨enters_of Tryz.func60 (by kernel_rfl) rfl, fun x W _ hbW => Empty1_any t x w.heap.size W (B0.below hbW) ((hin1.below hbW (Nat.le_refl _)).mono hbW.size)⟩
  rw [hr1, hr2] at hN
  rw [hr1, hr2]
  rw [List.length_singleton] at hN
  rw [CT.cells_eq] at hW1
  rw [CT.val_eq]
  clear hr1 hr2 B0 B1
  go_enter Tryz.func24, Tryz.ntmps24
  go_wp2_with (go_at_call 59; refine hN.mono ?_)
  rintro e w2 ⟨rfl, hb2⟩
  go_wp2
  go_ret2
  exact ⟨rfl, hb.trans (hb2.mono hb.size)⟩
theorem cells_two (t u : CT) : (t.cells ++ u.cells).toArray = #[.int .i64 t.kind, .string t.name.sp, .string t.name.lc, .string t.space, .slice t.ea t.ex.length t.ec, .slice t.aa t.ar.length t.ac, .int .i64 u.kind, .string u.name.sp, .string u.name.lc, .string u.space, .slice u.ea u.ex.length u.ec, .slice u.aa u.ar.length u.ac] := by cases t; cases u; rfl
theorem blk_third (W : World) (a b c : Array Value) (s t u : TypeId) : Blk (((W.alloc (.cells a s)).alloc (.cells b t)).alloc (.cells c u)) W.heap.size a s ∧ Blk (((W.alloc (.cells a s)).alloc (.cells b t)).alloc (.cells c u)) (W.heap.size + 1) b t ∧ Blk (((W.alloc (.cells a s)).alloc (.cells b t)).alloc (.cells c u)) (W.heap.size + 2) c u := by
  have h1 := Blk.new (W.alloc (.cells a s)) b t
  have h2 := Blk.new ((W.alloc (.cells a s)).alloc (.cells b t)) c u
  simp only [World.size_alloc] at h1 h2
  exact ⟨((Blk.new _ _ _).alloc _).alloc _, h1.alloc _, h2⟩
set_option maxHeartbeats 1000000 in
theorem Includes_any (t u : CT) (w : World) (hG : G w) (ht : t.depth ≤ 1000) (hu : u.depth ≤ 1000) (hIn : t.In w w.heap.size) (hIn2 : u.In w w.heap.size) :
    Calls Tryz.prog 26 #[t.val, u.val] w fun e w' => e = .returned (.tuple #[.bool (decide (chkL [t, u] = 0) && nevB (fun n => u.holds n && !t.holds n) (candsOf [t, u] [])), .int .i64 (chkL [t, u])]) ∧ Below w.heap.size w w' := by
  obtain ⟨r1, hr1⟩ : ∃ r, (decide (chkL [t, u] = 0) && nevB (fun n => u.holds n && !t.holds n) (candsOf [t, u] [])) = r := ⟨_, rfl⟩
  obtain ⟨r2, hr2⟩ : ∃ r, chkL [t, u] = r := ⟨_, rfl⟩
  obtain ⟨W1, hW1⟩ : ∃ W1, ((w.alloc (.cells t.cells.toArray 26)).alloc (.cells u.cells.toArray 26)).alloc (.cells (t.cells ++ u.cells).toArray 26) = W1 := ⟨_, rfl⟩
  have hb : Below w.heap.size w W1 := by rw [← hW1]; exact (((Below.refl _ w).alloc (Nat.le_refl _) _).alloc (by simp) _).alloc (by simp; omega) _
  obtain ⟨B0, B1, B2⟩ : Blk W1 w.heap.size t.cells.toArray 26 ∧ Blk W1 (w.heap.size + 1) u.cells.toArray 26 ∧ Blk W1 (w.heap.size + 2) (t.cells ++ u.cells).toArray 26 := by rw [← hW1]; exact blk_third _ _ _ _ _ _ _
  have B3 : Blk W1 (w.heap.size + 2) ([t, u].flatMap CT.cells).toArray 26 := by simpa using B2
  have hs : W1.heap.size = w.heap.size + 3 := by rw [← hW1]; simp
  have hin1 : t.In W1 W1.heap.size := (hIn.below hb (Nat.le_refl _)).mono hb.size
  have hin2 : u.In W1 W1.heap.size := (hIn2.below hb (Nat.le_refl _)).mono hb.size
  have hN := never_any (some ⟨w.heap.size + 1 + 1, 0, none⟩) 2 [t, u] 62 #[.pointer (some ⟨w.heap.size + 1, 0, none⟩), .pointer (some ⟨w.heap.size, 0, none⟩)] (fun n => u.holds n && !t.holds n) W1 (hG.later hb) (lin_row B3 (by omega) (by simp; unfold maxLen; omega) (by intro x hx; simp at hx; rcases hx with rfl | rfl; exact hin1; exact hin2)) (by intro x hx; simp at hx; rcases hx with rfl | rfl; exact ht; exact hu) (fun h => parts_big (by simp) h)
    ⟨enters_of Tryz.func62 (by kernel_rfl) rfl, fun x W _ hbW => Includes1_any u t x (w.heap.size + 1) w.heap.size W (B1.below hbW) (B0.below hbW) ((hin2.below hbW (Nat.le_refl _)).mono hbW.size) ((hin1.below hbW (Nat.le_refl _)).mono hbW.size)⟩
  rw [hr1, hr2] at hN
  rw [hr2]
  rw [hr2] at hr1
  rw [hr1]
  rw [show [t, u].length = 2 from rfl] at hN
  rw [cells_two, CT.cells_eq, CT.cells_eq] at hW1
  rw [CT.val_eq, CT.val_eq]
  clear hr1 hr2 B0 B1 B2 B3
  go_enter Tryz.func26, Tryz.ntmps26
  go_wp2_with (go_at_call 59; refine hN.mono ?_)
  rintro e w2 ⟨rfl, hb2⟩
  go_wp2
  go_ret2
  exact ⟨rfl, hb.trans (hb2.mono hb.size)⟩
set_option maxHeartbeats 1000000 in
theorem Overlap_any (t u : CT) (w : World) (hG : G w) (ht : t.depth ≤ 1000) (hu : u.depth ≤ 1000) (hIn : t.In w w.heap.size) (hIn2 : u.In w w.heap.size) :
    Calls Tryz.prog 28 #[t.val, u.val] w fun e w' => e = .returned (.tuple #[.bool (decide (chkL [t, u] = 0) && !(decide (chkL [t, u] = 0) && nevB (fun n => t.holds n && u.holds n) (candsOf [t, u] []))), .int .i64 (chkL [t, u])]) ∧ Below w.heap.size w w' := by
  obtain ⟨r1, hr1⟩ : ∃ r, (decide (chkL [t, u] = 0) && nevB (fun n => t.holds n && u.holds n) (candsOf [t, u] [])) = r := ⟨_, rfl⟩
  obtain ⟨r2, hr2⟩ : ∃ r, chkL [t, u] = r := ⟨_, rfl⟩
  obtain ⟨W1, hW1⟩ : ∃ W1, ((w.alloc (.cells t.cells.toArray 26)).alloc (.cells u.cells.toArray 26)).alloc (.cells (t.cells ++ u.cells).toArray 26) = W1 := ⟨_, rfl⟩
  have hb : Below w.heap.size w W1 := by rw [← hW1]; exact (((Below.refl _ w).alloc (Nat.le_refl _) _).alloc (by simp) _).alloc (by simp; omega) _
  obtain ⟨B0, B1, B2⟩ : Blk W1 w.heap.size t.cells.toArray 26 ∧ Blk W1 (w.heap.size + 1) u.cells.toArray 26 ∧ Blk W1 (w.heap.size + 2) (t.cells ++ u.cells).toArray 26 := by rw [← hW1]; exact blk_third _ _ _ _ _ _ _
  have B3 : Blk W1 (w.heap.size + 2) ([t, u].flatMap CT.cells).toArray 26 := by simpa using B2
  have hs : W1.heap.size = w.heap.size + 3 := by rw [← hW1]; simp
  have hin1 : t.In W1 W1.heap.size := (hIn.below hb (Nat.le_refl _)).mono hb.size
  have hin2 : u.In W1 W1.heap.size := (hIn2.below hb (Nat.le_refl _)).mono hb.size
  have hN := never_any (some ⟨w.heap.size + 1 + 1, 0, none⟩) 2 [t, u] 64 #[.pointer (some ⟨w.heap.size, 0, none⟩), .pointer (some ⟨w.heap.size + 1, 0, none⟩)] (fun n => t.holds n && u.holds n) W1 (hG.later hb) (lin_row B3 (by omega) (by simp; unfold maxLen; omega) (by intro x hx; simp at hx; rcases hx with rfl | rfl; exact hin1; exact hin2)) (by intro x hx; simp at hx; rcases hx with rfl | rfl; exact ht; exact hu) (fun h => parts_big (by simp) h)
    ⟨enters_of Tryz.func64 (by kernel_rfl) rfl, fun x W _ hbW => Overlap1_any t u x w.heap.size (w.heap.size + 1) W (B0.below hbW) (B1.below hbW) ((hin1.below hbW (Nat.le_refl _)).mono hbW.size) ((hin2.below hbW (Nat.le_refl _)).mono hbW.size)⟩
  rw [hr1, hr2] at hN
  rw [hr2]
  rw [hr2] at hr1
  rw [hr1]
  rw [show [t, u].length = 2 from rfl] at hN
  rw [cells_two, CT.cells_eq, CT.cells_eq] at hW1
  rw [CT.val_eq, CT.val_eq]
  clear hr1 hr2 B0 B1 B2 B3
  go_enter Tryz.func28, Tryz.ntmps28
  go_wp2_with (go_at_call 59; refine hN.mono ?_)
  rintro e w2 ⟨rfl, hb2⟩
  by_cases h0 : r2 = 0
  · subst h0
    go_wp2
    go_ret2
    exact ⟨by simp, hb.trans (hb2.mono hb.size)⟩
  · have g1 : (r2 == 0) = false := by simpa using h0
    have H0 := Lib.hid h0
    clear h0
    go_wp2
    go_ret2
    exact ⟨by simp [H0.out], hb.trans (hb2.mono hb.size)⟩
end Np
end Go.Proofs.YtohlhihhadbphaaGreatDoor

/- Maps whose values are told as they are; classes whose lists lie in some blocks. -/
namespace Go.Proofs.YtohlhihhadbphaaGreatDoor
open Go.RowKit Go.Shelf Go.Lib Go.Maps
namespace Np
def rawElem (v : Value) : Option (DataW Value × List MemPlace) := some (.held v, [])
section
variable {P : Program} {k : TypeId} {κ : Type} {val : κ → Value} {lit : κ → Lit} {ok : κ → Prop} {t e : TypeId} {W : World} {b n : Nat} {m : κ → Value} {z : Value}
/-- Block b is a map of at most n entries: what a look-up gives is this. -/
def VMap (P : Program) (k : TypeId) (lit : κ → Lit) (ok : κ → Prop) (W : World) (b n : Nat) (m : κ → Value) (z : Value) : Prop :=
  ∃ D : DataW Value, W.ownsMap P k rawElem b n D ∧ ∀ x, ok x → D.atKey (lit x) (.held z) = .held (m x)
theorem VMap.made (W : World) : VMap P k lit ok (W.alloc (.map #[] 0)) W.heap.size 0 (fun _ => z) z :=
  ⟨_, World.ownsMap_made W P k _, fun _ _ => rfl⟩
theorem VMap.lt (h : VMap P k lit ok W b n m z) : b < W.heap.size := by obtain ⟨D, h, _⟩ := h; exact h.lt
theorem VMap.mono (h : VMap P k lit ok W b n m z) {n' : Nat} (hn : n ≤ n') : VMap P k lit ok W b n' m z := by
  obtain ⟨D, h, h1⟩ := h; exact ⟨D, h.mono hn, h1⟩
theorem VMap.kept {W' : World} {row : Option Nat} (h : VMap P k lit ok W b n m z) (hg : W.grownBy W' row) (hne : some b ≠ row) : VMap P k lit ok W' b n m z := by
  obtain ⟨D, h, h1⟩ := h; exact ⟨D, h.kept hg hne, h1⟩
theorem VMap.alloc (h : VMap P k lit ok W b n m z) (o : Obj) : VMap P k lit ok (W.alloc o) b n m z := by
  obtain ⟨D, h, h1⟩ := h; exact ⟨D, h.alloc o, h1⟩
theorem VMap.same {W' : World} (h : VMap P k lit ok W b n m z) (hs : W'.heap[b]? = W.heap[b]?) : VMap P k lit ok W' b n m z := by
  obtain ⟨D, ⟨es, clock, hb, F, h2, h3⟩, h1⟩ := h
  exact ⟨D, ⟨es, clock, hs.trans hb, F, h2, h3⟩, h1⟩
theorem VMap.is_map (h : VMap P k lit ok W b n m z) : ∃ es clock, W.heap[b]? = some (.map es clock) := by
  obtain ⟨D, ⟨es, clock, hb, _⟩, _⟩ := h; exact ⟨es, clock, hb⟩
theorem VMap.look (E : KeyEnc P k val lit ok) (ht : P.underlying t = some (.map k e)) (hz : (zeroValue e).run P W = .ok z W) (h : VMap P k lit ok W b n m z) {x : κ} (hx : ok x) :
    (Instr.lookup t (.map (some b)) (val x) false).run P W = .ok (m x) W := by
  obtain ⟨D, h, h1⟩ := h
  obtain ⟨v, ps, hrun, hv⟩ := h.lookup E.K ht hz (zd := .held z) (zp := []) rfl (E.of hx)
  unfold rawElem at hv
  rw [h1 x hx] at hv
  injection hv with hv
  injection hv with hv _
  injection hv with hv
  rw [← hv]; exact hrun
theorem VMap.update [DecidableEq κ] (E : KeyEnc P k val lit ok) (ht : P.underlying t = some (.map k e)) (h : VMap P k lit ok W b n m z) (hn : n < maxLen) {x : κ} (hx : ok x) (v : Value) :
    ∃ W', (Instr.mapUpdate t (.map (some b)) (val x) v).run P W = .ok () W' ∧ VMap P k lit ok W' b (n + 1) (fun y => if y = x then v else m y) z ∧ W.grownBy W' (some b) := by
  obtain ⟨D, h, h1⟩ := h
  obtain ⟨W', hrun, h', hg⟩ := h.update E.K ht hn (val := v) (E.of hx) (d := .held v) (ps := []) rfl
  refine ⟨W', hrun, ⟨_, h', fun y hy => ?_⟩, hg⟩
  by_cases e0 : y = x
  · subst e0; simp only [if_true]; rw [atKey_put_same h.isMap (E.K.key (E.of hx))]
  · simp only [if_neg e0]; rw [atKey_put_other (fun e1 => e0 (E.lit_inj hy hx e1))]; exact h1 y hy
end

/-- A list of classes lies in a row, in a block of this kind. -/
def RowOn (A : Nat → Prop) (W : World) (a : Option Addr) (l : List CT) : Prop :=
  l.length ≤ maxLen ∧ (l ≠ [] → ∃ b o, a = some ⟨b, o, none⟩ ∧ A b ∧ ∀ j (h : j < l.length) i v, (l[j]).cells[i]? = some v → W.cell? ⟨b, o + j * 6 + i, none⟩ = some v)
mutual
def CT.On (A : Nat → Prop) (W : World) : CT → Prop
  | .mk _ nm s ea _ ex aa _ ar => nm.fit ∧ s.size ≤ maxLen ∧ RowOn A W ea ex ∧ RowOn A W aa ar ∧ CT.OnL A W ex ∧ CT.OnL A W ar
def CT.OnL (A : Nat → Prop) (W : World) : List CT → Prop
  | [] => True
  | t :: r => t.On A W ∧ CT.OnL A W r
end
theorem CT.onL_iff {A : Nat → Prop} {W : World} : ∀ {l : List CT}, CT.OnL A W l ↔ ∀ t ∈ l, t.On A W
  | [] => by simp [CT.OnL]
  | a :: r => by rw [CT.OnL, CT.onL_iff]; simp
theorem RowOn.keep {A A' : Nat → Prop} {W W' : World} {a : Option Addr} {l : List CT} (h : RowOn A W a l) (hA : ∀ b, A b → A' b) (hk : ∀ b, A b → W'.heap[b]? = W.heap[b]?) : RowOn A' W' a l :=
  ⟨h.1, fun hl => by
    obtain ⟨b, o, e, hb, hc⟩ := h.2 hl
    exact ⟨b, o, e, hA b hb, fun j hj i v hv => (World.cell?_of_block (w := W) (w' := W') (a := ⟨b, o + j * 6 + i, none⟩) (hk b hb)).trans (hc j hj i v hv)⟩⟩
theorem CT.On.keep {A A' : Nat → Prop} {W W' : World} {t : CT} (h : t.On A W) (hA : ∀ b, A b → A' b) (hk : ∀ b, A b → W'.heap[b]? = W.heap[b]?) : t.On A' W' := by
  revert h
  refine CT.ind (M := fun t => t.On A W → t.On A' W') ?_ t
  intro k nm s ea ec ex aa ac ar h1 h2 h
  rw [CT.On, CT.onL_iff, CT.onL_iff] at h ⊢
  exact ⟨h.1, h.2.1, h.2.2.1.keep hA hk, h.2.2.2.1.keep hA hk, fun t ht => h1 t ht (h.2.2.2.2.1 t ht), fun t ht => h2 t ht (h.2.2.2.2.2 t ht)⟩
theorem CT.On.in_ {A : Nat → Prop} {W : World} {n : Nat} {t : CT} (h : t.On A W) (hA : ∀ b, A b → b < n) : t.In W n := by
  revert h
  refine CT.ind (M := fun t => t.On A W → t.In W n) ?_ t
  intro k nm s ea ec ex aa ac ar h1 h2 h
  rw [CT.On, CT.onL_iff, CT.onL_iff] at h
  rw [CT.In, CT.inL_iff, CT.inL_iff]
  refine ⟨h.1, h.2.1, ⟨h.2.2.1.1, fun hl => ?_⟩, ⟨h.2.2.2.1.1, fun hl => ?_⟩, fun t ht => h1 t ht (h.2.2.2.2.1 t ht), fun t ht => h2 t ht (h.2.2.2.2.2 t ht)⟩
  · obtain ⟨b, o, e, hb, hc⟩ := h.2.2.1.2 hl; exact ⟨b, o, e, hA b hb, hc⟩
  · obtain ⟨b, o, e, hb, hc⟩ := h.2.2.2.1.2 hl; exact ⟨b, o, e, hA b hb, hc⟩
end Np
end Go.Proofs.YtohlhihhadbphaaGreatDoor

/- Sorted keys of maps in general. -/
namespace Go.Proofs.YtohlhihhadbphaaGreatDoor
open Go.RowKit Go.Shelf Go.Lib Go.Maps Go.Sort
namespace Np
set_option maxHeartbeats 1000000 in
theorem sortedN_gen (Bm b nn : Nat) (m : Name → Option Bool) (l : List Name) (hl : ∀ x ∈ l, x.fit) (hml : ∀ x : Name, x.fit → ((m x).isSome = true ↔ x ∈ l)) (hnn : nn ≤ 1000000) (w : World) (hBm : Bm < w.heap.size) (hm : w.cell? ⟨Bm, 0, none⟩ = some (.map (some b))) (hown : NMap w b nn m) :
    Calls Tryz.prog 89 #[.func (.func 104) #[] #[.pointer (some ⟨Bm, 0, none⟩)], .func (.func 51) #[] #[]] w fun e w' => ∃ (v : Value), e = .returned v ∧
      w'.ownsRow w.heap.size 23 2 v (asc cmpN l).length ((asc cmpN l).flatMap encN) ∧ Below w.heap.size w w' := by
  have h := collectN Bm b nn m hnn w hBm hm hown
  go_enter Tryz.func89, Tryz.ntmps89
  go_wp2_with (go_at_call 102; refine h.mono ?_)
  rintro e w' ⟨v, ss, rfl, hs, hle, hrow, hb⟩
  have e1 : ((nvals ss).mergeSort fun x y => !(ltOf cmpN) y x) = asc cmpN l := by
    refine sortN_asc hs.1 (fun x => ?_)
    by_cases hx : x.fit
    · rw [← hs.2 x hx]; exact hml x hx
    · refine ⟨fun h => ?_, fun h => absurd (hl x h) hx⟩
      obtain ⟨y, _, rfl⟩ := List.mem_map.1 h
      exact absurd y.2 hx
  have e2 : (asc cmpN l).length = ss.length := by rw [← e1, List.length_mergeSort]; simp [nvals]
  clear hs
  rcases hrow.2 with ⟨rfl, hnil⟩ | ⟨g, cap, cur, rfl, hbase, hblk, h1, h2, h3, ht⟩
  · have e0 : ss = [] := by
      cases ss with
      | nil => rfl
      | cons a r => simp [nvals, encN] at hnil
    subst e0
    have e3 : asc cmpN l = [] := List.eq_nil_of_length_eq_zero e2
    have hS := fun W => AnyF.slices_SortFunc_none (P := Tryz.prog) (ρ := Tryz.sortN_ren) Tryz.sortN none 0 (.func (.func 51) #[] #[]) W
    go_wp2_with (go_at_call 103; refine (hS _).mono ?_)
    rintro e w2 ⟨rfl, rfl⟩
    go_wp2
    go_ret
    rw [e3]
    exact ⟨_, rfl, hrow, hb⟩
  · have hg : g < w'.heap.size := (Array.getElem?_eq_some_iff.1 hblk).1
    have hlen : (nvals ss).length = ss.length := by simp [nvals]
    have hH : HoldsK encN 2 w' g 0 (nvals ss).toArray := holdsK_of_block hblk (by rw [hlen]; exact ht)
    have hS := AnyQ.slices_SortFunc_total (P := Tryz.prog) (ρ := Tryz.sortN_ren) Tryz.sortN 2 isAgg26 sizeOf26 encN (fun _ => rfl) (fun x v hv => by simp [encN] at hv; rcases hv with rfl | rfl <;> rfl) cmpN swoN 51 #[] g 0 cap (nvals ss).toArray w' (enters_of Tryz.func51 (by kernel_rfl) rfl) (cmpLaysN _ _ _ _) hH hg (by simp [nvals]; unfold maxLen at h2; omega) totN
    simp only [List.size_toArray, hlen, e1] at hS
    go_wp2_with (go_at_call 103; refine hS.mono ?_)
    rintro e w2 ⟨rfl, n, os, rfl⟩
    go_wp2
    go_ret
    refine ⟨_, rfl, ?_, hb.grown (grownBy_sortedK _) (by have := hb.size; omega) (fun k hk => by cases hk; exact hbase)⟩
    rw [e2]
    exact ownsRow_sortedK (by rw [e2]) hbase hblk h1 h2 h3
set_option maxHeartbeats 1000000 in
theorem sortedS_gen (b nn : Nat) (m : ByteArray → Option Bool) (l : List ByteArray) (hok : ∀ s ∈ l, okS s) (hml : ∀ s, okS s → ((m s).isSome = true ↔ s ∈ l)) (hnn : nn ≤ 1000000) (w : World) (h : SMap w b nn m) :
    CallsIn Fence.wide 5 Tryz.prog 91 #[.func (.func 107) #[] #[.pointer (some ⟨w.heap.size, 0, none⟩)]] (w.alloc (.cells #[.map (some b)] 74)) fun e w' => ∃ (v : Value), e = .returned v ∧
      w'.ownsRow (w.heap.size + 1) 9 1 v (asc cmpS l).length ((asc cmpS l).map Value.string) ∧ Below (w.alloc (.cells #[.map (some b)] 74)).heap.size (w.alloc (.cells #[.map (some b)] 74)) w' := by
  obtain ⟨D0, hown, hh, _⟩ := h
  have hbl := hown.lt
  have hsz := hown.size_le
  have hE := hown.entries keyEncS.K
  have hK := hown.keysOf
  have hseq : SeqGives Fence.wide 2 Tryz.prog 107 #[.pointer (some ⟨w.heap.size, 0, none⟩)] encStr (fun ss => ss.Perm (strKeys D0)) (Maps.size D0) (w.alloc (.cells #[.map (some b)] 74)) :=
    AnyZ.keys_gives (ρ := Tryz.keys92_ren) { Tryz.keys92 with } Fence.wide _ trivial rfl (by omega) w.heap.size b nn D0 _ (by simp) (by simp) (by
      obtain ⟨es, clock, hb, Ft, hs, hD⟩ := hown
      exact ⟨es, clock, (Below.heap_alloc _ _ b hbl).trans hb, Ft, hs, hD⟩)
  have hmain := AnyZ.sorted_in Tryz.sorted91 Fence.wide 5 trivial trivial trivial trivial rfl (by omega) (sorts91 _) (enters_of Tryz.func106 (by kernel_rfl) rfl) 107 #[.pointer (some ⟨w.heap.size, 0, none⟩)] trivial (enters_of Tryz.func107 (by kernel_rfl) rfl) _ _ (by unfold maxLen; omega) (by omega) _ hseq
  refine hmain.mono ?_
  rintro e w' ⟨v, ss, he, hS, hrow, _, hb⟩
  refine ⟨v, he, ?_, hb⟩
  have e1 : (ss.mergeSort fun x y => decide (x ≤ y)).map bs = asc cmpS l := by
    refine strKeys_asc ?_ ?_ hok hS
    · obtain ⟨es, rfl, hpw, _⟩ := hE
      obtain ⟨es', e, hk⟩ := hK
      cases e
      refine ⟨es, rfl, hpw, fun p hp => ?_⟩
      obtain ⟨v, hv⟩ := hk p hp
      obtain ⟨x, _, h2, h3⟩ := Maps.keyOf_str Tryz.underlying9 hv
      exact ⟨x, h2, h3⟩
    · intro s hs
      rw [hh s hs]; exact hml s hs
  have e2 : (ss.mergeSort fun x y => decide (x ≤ y)).map encStr = (asc cmpS l).map Value.string := by rw [← e1, List.map_map]; rfl
  have e3 : ss.length = (asc cmpS l).length := by rw [← e1, List.length_map, List.length_mergeSort]
  rw [e2, e3, World.size_alloc] at hrow
  exact hrow
end Np
end Go.Proofs.YtohlhihhadbphaaGreatDoor
