/- Names: As. -/
import Derived.Test.YtohlhihhadbphaaGreatDoorGl
import Derived.Test.YtohlhihhadbphaaGreatDoorGk
import Derived.Deep.RegionHeld3
set_option linter.unusedSimpArgs false
set_option linter.unusedVariables false
/- shown. -/
namespace Go.Proofs.YtohlhihhadbphaaGreatDoor
open Go.RowKit Go.Shelf Go.Lib
namespace Np
theorem depth_small {t : CT} {C : Cls} (h : t.er = C) (hs : C.small = true) : t.depth ≤ 40 := Nat.le_trans (depth_of_small (by rw [← CT.small_er, h]; exact hs)) (by omega)
theorem fitAX : nAX.fit := by constructor <;> (unfold maxLen; decide +kernel)
theorem fitBY : nBY.fit := by constructor <;> (unfold maxLen; decide +kernel)
theorem fitAB : nAB.fit := by constructor <;> (unfold maxLen; decide +kernel)
theorem aS_ok : aS.size ≤ maxLen := by unfold maxLen; decide +kernel
/-- What Normal and its like leave, where it is known. -/
theorem In.of_on {t : CT} {W : World} {n m : Nat} (h : t.On (fun b => n ≤ b ∧ b < m) W) (hm : m ≤ W.heap.size) : t.In W W.heap.size := h.in_ (fun b hb => Nat.lt_of_lt_of_le hb.2 hm)
theorem CT.In.later {t : CT} {W W' : World} (h : t.In W W.heap.size) (hb : Below W.heap.size W W') : t.In W' W'.heap.size := (h.below hb (Nat.le_refl _)).mono hb.size
theorem cells_second {W : World} {lo : Nat} {v : Value} {n0 n1 n2 : Name} {b0 b1 b2 : List Bool} (h : OwnCells W lo v [(n0, b0), (n1, b1), (n2, b2)]) : ∃ g cap, v = .slice (some ⟨g, 0, none⟩) 3 cap ∧ W.cell? ⟨g, 3, none⟩ = some (.string n1.sp) ∧ W.cell? ⟨g, 4, none⟩ = some (.string n1.lc) ∧ g < W.heap.size := by
  obtain ⟨cms, hc, hrow, _⟩ := h
  have hl : cms.length = 3 := by have := congrArg List.length hc; simpa using this
  match cms, hl with
  | [c0, c1, c2], _ =>
    simp only [List.map_cons, List.map_nil, List.cons.injEq, Prod.mk.injEq] at hc
    obtain ⟨_, ⟨h1, _⟩, _⟩ := hc
    rcases hrow.2 with ⟨_, h0⟩ | ⟨g, cap, cur, rfl, _, hg, _, _, _, ht⟩
    · simp at h0
    · have e : ∀ i x, ([c0, c1, c2].flatMap CM.cells)[i]? = some x → i < 9 → W.cell? ⟨g, i, none⟩ = some x := fun i x hx hi => by
        rw [← ht, List.getElem?_take_of_lt (by simpa using hi), Array.getElem?_toList] at hx
        simpa [World.cell?, hg] using hx
      exact ⟨g, cap, rfl, e 3 _ (by simp [CM.cells, h1]) (by omega), e 4 _ (by simp [CM.cells, h1]) (by omega), (Array.getElem?_eq_some_iff.1 hg).1⟩
theorem below_step2 {A B C : World} {n : Nat} (h2 : Below n B C) (h1 : Below A.heap.size A B) (hn : A.heap.size ≤ n) : Below A.heap.size A C := h1.trans (h2.mono hn)
theorem same_ch (x : CT) (W w : World) (he : x.er = C1) (hx : x.In w w.heap.size) (hk : Below (W.alloc (.cells #[.int .i64 1, .string ⟨#[97]⟩, .string ⟨#[98]⟩, .string ⟨#[]⟩, .slice none 0 0, .slice none 0 0, .int .i64 1, .string ⟨#[97]⟩, .string ⟨#[120]⟩, .string ⟨#[]⟩, .slice none 0 0, .slice none 0 0, .int .i64 1, .string ⟨#[98]⟩, .string ⟨#[121]⟩, .string ⟨#[]⟩, .slice none 0 0, .slice none 0 0] 26)).heap.size (W.alloc (.cells #[.int .i64 1, .string ⟨#[97]⟩, .string ⟨#[98]⟩, .string ⟨#[]⟩, .slice none 0 0, .slice none 0 0, .int .i64 1, .string ⟨#[97]⟩, .string ⟨#[120]⟩, .string ⟨#[]⟩, .slice none 0 0, .slice none 0 0, .int .i64 1, .string ⟨#[98]⟩, .string ⟨#[121]⟩, .string ⟨#[]⟩, .slice none 0 0, .slice none 0 0] 26)) w) :
    Calls Tryz.prog 36 #[.agg #[.int .i64 x.kind, .string x.name.sp, .string x.name.lc, .string x.space, .slice x.ea x.ex.length x.ec, .slice x.aa x.ar.length x.ac], .agg #[.int .i64 4, .string ⟨#[]⟩, .string ⟨#[]⟩, .string ⟨#[]⟩, .slice none 0 0, .slice (some ⟨W.heap.size, 0, none⟩) 3 3]] w fun e w' => e = .returned (.bool true) ∧ Below w.heap.size w w' := by
  have k : Blk w W.heap.size ([nameT nAB, nameT nAX, nameT nBY].flatMap CT.cells).toArray 26 := (Blk.new _ _ _ : Blk (W.alloc (.cells #[.int .i64 1, .string ⟨#[97]⟩, .string ⟨#[98]⟩, .string ⟨#[]⟩, .slice none 0 0, .slice none 0 0, .int .i64 1, .string ⟨#[97]⟩, .string ⟨#[120]⟩, .string ⟨#[]⟩, .slice none 0 0, .slice none 0 0, .int .i64 1, .string ⟨#[98]⟩, .string ⟨#[121]⟩, .string ⟨#[]⟩, .slice none 0 0, .slice none 0 0] 26)) W.heap.size ([nameT nAB, nameT nAX, nameT nBY].flatMap CT.cells).toArray 26).below hk
  have := same_true x (chT W.heap.size [nameT nAB, nameT nAX, nameT nBY]) w (he.trans (er1 _).symm) (depth_small he small1) hx (chT_in k k.lt (by simp; unfold maxLen; omega) (by
      intro u hu
      simp at hu
      rcases hu with rfl | rfl | rfl
      · exact nameT_in _ _ fitAB
      · exact nameT_in _ _ fitAX
      · exact nameT_in _ _ fitBY))
  rw [CT.val_eq x] at this
  exact this
theorem same_al (x : CT) (Wn Ws w : World) (he : x.er = C2) (hx : x.In w w.heap.size) (hk2 : Below (Ws.alloc (.cells #[.int .i64 2, .string ⟨#[]⟩, .string ⟨#[]⟩, .string ⟨#[97]⟩, .slice (some ⟨Wn.heap.size, 0, none⟩) 1 1, .slice none 0 0] 26)).heap.size (Ws.alloc (.cells #[.int .i64 2, .string ⟨#[]⟩, .string ⟨#[]⟩, .string ⟨#[97]⟩, .slice (some ⟨Wn.heap.size, 0, none⟩) 1 1, .slice none 0 0] 26)) w) (hk1 : Below (Wn.alloc (.cells #[.int .i64 1, .string ⟨#[97]⟩, .string ⟨#[120]⟩, .string ⟨#[]⟩, .slice none 0 0, .slice none 0 0] 26)).heap.size (Wn.alloc (.cells #[.int .i64 1, .string ⟨#[97]⟩, .string ⟨#[120]⟩, .string ⟨#[]⟩, .slice none 0 0, .slice none 0 0] 26)) Ws) :
    Calls Tryz.prog 36 #[.agg #[.int .i64 x.kind, .string x.name.sp, .string x.name.lc, .string x.space, .slice x.ea x.ex.length x.ec, .slice x.aa x.ar.length x.ac], .agg #[.int .i64 3, .string ⟨#[]⟩, .string ⟨#[]⟩, .string ⟨#[]⟩, .slice (some ⟨Ws.heap.size, 0, none⟩) 1 1, .slice none 0 0]] w fun e w' => e = .returned (.bool true) ∧ Below w.heap.size w w' := by
  have k1 : Blk Ws Wn.heap.size ([nameT nAX].flatMap CT.cells).toArray 26 := (Blk.new _ _ _ : Blk (Wn.alloc (.cells #[.int .i64 1, .string ⟨#[97]⟩, .string ⟨#[120]⟩, .string ⟨#[]⟩, .slice none 0 0, .slice none 0 0] 26)) Wn.heap.size ([nameT nAX].flatMap CT.cells).toArray 26).below hk1
  have ka : Below Ws.heap.size Ws (Ws.alloc (.cells #[.int .i64 2, .string ⟨#[]⟩, .string ⟨#[]⟩, .string ⟨#[97]⟩, .slice (some ⟨Wn.heap.size, 0, none⟩) 1 1, .slice none 0 0] 26)) := (Below.refl _ _).alloc (Nat.le_refl _) _
  have k1' := k1.below (below_step hk2 ka)
  have k : Blk w Ws.heap.size ([spT aS Wn.heap.size [nameT nAX]].flatMap CT.cells).toArray 26 := (Blk.new _ _ _ : Blk (Ws.alloc (.cells #[.int .i64 2, .string ⟨#[]⟩, .string ⟨#[]⟩, .string ⟨#[97]⟩, .slice (some ⟨Wn.heap.size, 0, none⟩) 1 1, .slice none 0 0] 26)) Ws.heap.size ([spT aS Wn.heap.size [nameT nAX]].flatMap CT.cells).toArray 26).below hk2
  have := same_true x (alT Ws.heap.size [spT aS Wn.heap.size [nameT nAX]]) w (he.trans (er2 _ _).symm) (depth_small he small2) hx (alT_in k k.lt (by simp; unfold maxLen; omega) (by
      intro u hu
      rw [List.mem_singleton] at hu
      rw [hu]
      exact spT_in aS_ok k1' k1'.lt (by simp; unfold maxLen; omega) (by intro v hv; rw [List.mem_singleton] at hv; rw [hv]; exact nameT_in _ _ fitAX)))
  rw [CT.val_eq x] at this
  exact this
theorem same_al0 (x : CT) (W w : World) (he : x.er = C3) (hx : x.In w w.heap.size) (hk : Below (W.alloc (.cells #[.int .i64 3, .string ⟨#[]⟩, .string ⟨#[]⟩, .string ⟨#[]⟩, .slice none 0 0, .slice none 0 0] 26)).heap.size (W.alloc (.cells #[.int .i64 3, .string ⟨#[]⟩, .string ⟨#[]⟩, .string ⟨#[]⟩, .slice none 0 0, .slice none 0 0] 26)) w) :
    Calls Tryz.prog 36 #[.agg #[.int .i64 x.kind, .string x.name.sp, .string x.name.lc, .string x.space, .slice x.ea x.ex.length x.ec, .slice x.aa x.ar.length x.ac], .agg #[.int .i64 3, .string ⟨#[]⟩, .string ⟨#[]⟩, .string ⟨#[]⟩, .slice (some ⟨W.heap.size, 0, none⟩) 1 1, .slice none 0 0]] w fun e w' => e = .returned (.bool true) ∧ Below w.heap.size w w' := by
  have k : Blk w W.heap.size ([al0].flatMap CT.cells).toArray 26 := (Blk.new _ _ _ : Blk (W.alloc (.cells #[.int .i64 3, .string ⟨#[]⟩, .string ⟨#[]⟩, .string ⟨#[]⟩, .slice none 0 0, .slice none 0 0] 26)) W.heap.size ([al0].flatMap CT.cells).toArray 26).below hk
  have := same_true x (alT W.heap.size [al0]) w (he.trans (er3 _).symm) (depth_small he small3) hx (alT_in k k.lt (by simp; unfold maxLen; omega) (by intro v hv; rw [List.mem_singleton] at hv; rw [hv]; exact al0_in _ _))
  rw [CT.val_eq x] at this
  exact this
theorem eqN_self (n : Name) (w : World) : (binOp .eql 23 (.agg #[.string n.sp, .string n.lc]) (.agg #[.string n.sp, .string n.lc])).run Tryz.prog w = .ok (.bool true) w := by
  have := eqN n n w
  rw [decide_eq_true rfl] at this
  exact this
set_option maxRecDepth 100000 in
set_option maxHeartbeats 8000000 in
theorem shown_any (w : World) (hG : G w) : Calls Tryz.prog 8 #[] w fun e w' => e = .returned (.bool true) ∧ Below w.heap.size w w' := by
  go_enter Tryz.func8, Tryz.ntmps8
  go_wp2_with (go_at_call 40; refine (name_any _ _ _).mono ?_)
  rintro e W1 ⟨rfl, hb1⟩
  go_wp2_with (go_at_call 40; refine (name_any _ _ _).mono ?_)
  rintro e W2 ⟨rfl, hb2⟩
  go_wp2_with (go_at_call 40; refine (name_any _ _ _).mono ?_)
  rintro e W3 ⟨rfl, hb3⟩
  have hB3 := below_step hb3 (below_step hb2 hb1)
  obtain ⟨W4, hW4⟩ : ∃ W4, W3.alloc (.cells #[.int .i64 1, .string ⟨#[97]⟩, .string ⟨#[120]⟩, .string ⟨#[]⟩, .slice none 0 0, .slice none 0 0, .int .i64 1, .string ⟨#[98]⟩, .string ⟨#[121]⟩, .string ⟨#[]⟩, .slice none 0 0, .slice none 0 0, .int .i64 1, .string ⟨#[97]⟩, .string ⟨#[98]⟩, .string ⟨#[]⟩, .slice none 0 0, .slice none 0 0] 26) = W4 := ⟨_, rfl⟩
  have hb4 : Below W3.heap.size W3 W4 := by rw [← hW4]; exact (Below.refl _ _).alloc (Nat.le_refl _) _
  have k4 : Blk W4 W3.heap.size ([nameT nAX, nameT nBY, nameT nAB].flatMap CT.cells).toArray 26 := by rw [← hW4]; exact Blk.new _ _ _
  have hB4 := below_step hb4 hB3
  obtain ⟨t1, ht1⟩ : ∃ t1, chT W3.heap.size [nameT nAX, nameT nBY, nameT nAB] = t1 := ⟨_, rfl⟩
  have hin4 : t1.In W4 W4.heap.size := by
    rw [← ht1]
    exact chT_in k4 k4.lt (by simp; unfold maxLen; omega) (by
      intro u hu
      simp at hu
      rcases hu with rfl | rfl | rfl
      · exact nameT_in _ _ fitAX
      · exact nameT_in _ _ fitBY
      · exact nameT_in _ _ fitAB)
  go_wp2_with (go_at_call 39; refine (choice_any _ _ _ _).mono ?_)
  rintro e W5 ⟨rfl, hb5⟩
  have hB5 := below_step hb5 hB4
  have hin5 := hin4.later hb5
  have hN1 := Normal_any t1 W5 (hG.later hB5) (by rw [← ht1]; exact Nat.le_trans (depth_small (C := (chT W3.heap.size [nameT nAX, nameT nBY, nameT nAB]).er) rfl (by kernel_rfl)) (by omega)) hin5
  rw [show t1.val = .agg #[.int .i64 4, .string ⟨#[]⟩, .string ⟨#[]⟩, .string ⟨#[]⟩, .slice none 0 0, .slice (some ⟨W3.heap.size, 0, none⟩) 3 3] by rw [← ht1]; rfl] at hN1
  clear hW4
  go_wp2_with (go_at_call 15; refine hN1.mono ?_)
  clear hN1
  rintro e W6 ⟨x1, r1, rfl, HX1, hb6⟩
  have hB6 := below_step hb6 hB5
  obtain ⟨hxe1, rfl⟩ := shown1 (b := W3.heap.size) (by rw [ht1]; exact HX1.out.2.1)
  have hxi1 := In.of_on HX1.out.1 (Nat.le_refl _)
  obtain ⟨W7, hW7⟩ : ∃ W7, W6.alloc (.cells x1.cells.toArray 26) = W7 := ⟨_, rfl⟩
  have hb7 : Below W6.heap.size W6 W7 := by rw [← hW7]; exact (Below.refl _ _).alloc (Nat.le_refl _) _
  have k7 : Blk W7 W6.heap.size x1.cells.toArray 26 := by rw [← hW7]; exact Blk.new _ _ _
  have hB7 := below_step hb7 hB6
  have hxi1 := hxi1.later hb7
  obtain ⟨p1, hp1⟩ : ∃ p, W6.heap.size = p := ⟨_, rfl⟩
  rw [hp1] at k7
  rw [CT.cells_eq] at hW7
  have Hxe1 := Lib.hid hxe1
  rw [CT.val_eq x1]
  clear hxe1 HX1 k4 hin4 hin5 ht1
  go_wp2_with (go_at_call 42; refine (space_any _ _ _ _ _).mono ?_)
  clear hW7 hp1
  rintro e W8 ⟨rfl, hb8⟩
  obtain ⟨W9, hW9⟩ : ∃ W9, W8.alloc (.cells #[.int .i64 2, .string ⟨#[]⟩, .string ⟨#[]⟩, .string ⟨#[97]⟩, .slice none 0 0, .slice none 0 0] 26) = W9 := ⟨_, rfl⟩
  have hb9 : Below W8.heap.size W8 W9 := by rw [← hW9]; exact (Below.refl _ _).alloc (Nat.le_refl _) _
  have k9 : Blk W9 W8.heap.size ([sp0 aS].flatMap CT.cells).toArray 26 := by rw [← hW9]; exact Blk.new _ _ _
  obtain ⟨t2, ht2⟩ : ∃ t2, alT W8.heap.size [sp0 aS] = t2 := ⟨_, rfl⟩
  have hin9 : t2.In W9 W9.heap.size := by
    rw [← ht2]
    exact alT_in k9 k9.lt (by simp; unfold maxLen; omega) (by intro u hu; simp at hu; rw [hu]; exact sp0_in _ _ aS_ok)
  go_wp2_with (go_at_call 41; refine (all_any _ _ _ _).mono ?_)
  clear hW9
  rintro e W10 ⟨rfl, hb10⟩
  go_wp2_with (go_at_call 40; refine (name_any _ _ _).mono ?_)
  rintro e W11 ⟨rfl, hb11⟩
  have hB11 := below_step hb11 (below_step hb10 (below_step hb9 (below_step hb8 hB7)))
  have hJ := Join_any t2 (nameT nAX) W11 (hG.later hB11) (by rw [← ht2]; exact Nat.le_trans (depth_small (C := (alT W8.heap.size [sp0 aS]).er) rfl (by kernel_rfl)) (by omega)) (Nat.le_trans (depth_small (C := (nameT nAX).er) rfl (by kernel_rfl)) (by omega)) ((hin9.later hb10).later hb11) (nameT_in _ _ fitAX)
  rw [show t2.val = .agg #[.int .i64 3, .string ⟨#[]⟩, .string ⟨#[]⟩, .string ⟨#[]⟩, .slice (some ⟨W8.heap.size, 0, none⟩) 1 1, .slice none 0 0] by rw [← ht2]; rfl, show (nameT nAX).val = .agg #[.int .i64 1, .string ⟨#[97]⟩, .string ⟨#[120]⟩, .string ⟨#[]⟩, .slice none 0 0, .slice none 0 0] by rfl] at hJ
  go_wp2_with (go_at_call 18; refine hJ.mono ?_)
  clear hJ
  rintro e W12 ⟨x2, r2, rfl, HX2, hb12⟩
  obtain ⟨hxe2, rfl⟩ := shown2 (b := W8.heap.size) (by rw [ht2]; exact HX2.out.2.1)
  have hxi2 := In.of_on HX2.out.1 (Nat.le_refl _)
  obtain ⟨W13, hW13⟩ : ∃ W13, W12.alloc (.cells x2.cells.toArray 26) = W13 := ⟨_, rfl⟩
  have hb13 : Below W12.heap.size W12 W13 := by rw [← hW13]; exact (Below.refl _ _).alloc (Nat.le_refl _) _
  have k13 : Blk W13 W12.heap.size x2.cells.toArray 26 := by rw [← hW13]; exact Blk.new _ _ _
  have hxi2 := hxi2.later hb13
  obtain ⟨p2, hp2⟩ : ∃ p, W12.heap.size = p := ⟨_, rfl⟩
  rw [hp2] at k13
  rw [CT.cells_eq] at hW13
  have Hxe2 := Lib.hid hxe2
  have hB13 := below_step hb13 (below_step hb12 hB11)
  have hC13 := below_step hb13 (below_step hb12 (below_step hb11 (below_step hb10 (below_step hb9 hb8))))
  have k7 := k7.below hC13
  have hxi1 := hxi1.later hC13
  rw [CT.val_eq x2]
  clear hxe2 HX2 k9 hin9 ht2 hC13
  go_wp2_with (go_at_call 40; refine (name_any _ _ _).mono ?_)
  clear hW13 hp2
  rintro e W14 ⟨rfl, hb14⟩
  go_wp2_with (go_at_call 41; refine (all_any _ _ _ _).mono ?_)
  rintro e W15 ⟨rfl, hb15⟩
  have hB15 := below_step hb15 (below_step hb14 hB13)
  have hM := Minus_any (nameT nAX) al0 W15 (hG.later hB15) (Nat.le_trans (depth_small (C := (nameT nAX).er) rfl (by kernel_rfl)) (by omega)) (Nat.le_trans (depth_small (C := al0.er) rfl (by kernel_rfl)) (by omega)) (nameT_in _ _ fitAX) (al0_in _ _)
  rw [show al0.val = .agg #[.int .i64 3, .string ⟨#[]⟩, .string ⟨#[]⟩, .string ⟨#[]⟩, .slice none 0 0, .slice none 0 0] by rfl, show (nameT nAX).val = .agg #[.int .i64 1, .string ⟨#[97]⟩, .string ⟨#[120]⟩, .string ⟨#[]⟩, .slice none 0 0, .slice none 0 0] by rfl] at hM
  go_wp2_with (go_at_call 22; refine hM.mono ?_)
  clear hM
  rintro e W16 ⟨x3, r3, rfl, HX3, hb16⟩
  obtain ⟨hxe3, rfl⟩ := shown3 HX3.out.2.1
  have hxi3 := In.of_on HX3.out.1 (Nat.le_refl _)
  obtain ⟨W17, hW17⟩ : ∃ W17, W16.alloc (.cells x3.cells.toArray 26) = W17 := ⟨_, rfl⟩
  have hb17 : Below W16.heap.size W16 W17 := by rw [← hW17]; exact (Below.refl _ _).alloc (Nat.le_refl _) _
  have k17 : Blk W17 W16.heap.size x3.cells.toArray 26 := by rw [← hW17]; exact Blk.new _ _ _
  have hxi3 := hxi3.later hb17
  obtain ⟨p3, hp3⟩ : ∃ p, W16.heap.size = p := ⟨_, rfl⟩
  rw [hp3] at k17
  rw [CT.cells_eq] at hW17
  have Hxe3 := Lib.hid hxe3
  have hB17 := below_step hb17 (below_step hb16 hB15)
  have hC17 := below_step hb17 (below_step hb16 (below_step hb15 hb14))
  have k7 := k7.below hC17
  have k13 := k13.below hC17
  have hxi1 := hxi1.later hC17
  have hxi2 := hxi2.later hC17
  rw [CT.val_eq x3]
  clear hxe3 HX3 hC17
  go_wp2_with (go_at_call 42; refine (space_any _ _ _ _ _).mono ?_)
  clear hW17 hp3
  rintro e W18 ⟨rfl, hb18⟩
  obtain ⟨W19, hW19⟩ : ∃ W19, W18.alloc (.cells #[.int .i64 2, .string ⟨#[]⟩, .string ⟨#[]⟩, .string ⟨#[97]⟩, .slice none 0 0, .slice none 0 0] 26) = W19 := ⟨_, rfl⟩
  have hb19 : Below W18.heap.size W18 W19 := by rw [← hW19]; exact (Below.refl _ _).alloc (Nat.le_refl _) _
  have k19 : Blk W19 W18.heap.size ([sp0 aS].flatMap CT.cells).toArray 26 := by rw [← hW19]; exact Blk.new _ _ _
  obtain ⟨t4, ht4⟩ : ∃ t4, alT W18.heap.size [sp0 aS] = t4 := ⟨_, rfl⟩
  have hin19 : t4.In W19 W19.heap.size := by
    rw [← ht4]
    exact alT_in k19 k19.lt (by simp; unfold maxLen; omega) (by intro u hu; simp at hu; rw [hu]; exact sp0_in _ _ aS_ok)
  go_wp2_with (go_at_call 41; refine (all_any _ _ _ _).mono ?_)
  clear hW19
  rintro e W20 ⟨rfl, hb20⟩
  have hB20 := below_step hb20 (below_step hb19 (below_step hb18 hB17))
  have hWt := Witness_any t4 none 0 [] W20 (hG.later hB20) (by rw [← ht4]; exact Nat.le_trans (depth_small (C := (alT W18.heap.size [sp0 aS]).er) rfl (by kernel_rfl)) (by omega)) (hin19.later hb20) ⟨by simp, by simp, by simp⟩ (by simp)
  rw [show t4.val = .agg #[.int .i64 3, .string ⟨#[]⟩, .string ⟨#[]⟩, .string ⟨#[]⟩, .slice (some ⟨W18.heap.size, 0, none⟩) 1 1, .slice none 0 0] by rw [← ht4]; rfl, ← ht4, (wit1 _).1, (wit1 _).2, show (⟨uS, xS⟩ : Name).val = .agg #[.string ⟨#[117]⟩, .string ⟨#[120]⟩] by rfl, List.length_nil] at hWt
  go_wp2_with (go_at_call 30; refine hWt.mono ?_)
  clear hWt
  rintro e W21 ⟨rfl, hb21⟩
  obtain ⟨W22, hW22⟩ : ∃ W22, W21.alloc (.cells #[.string ⟨#[117]⟩, .string ⟨#[120]⟩] 23) = W22 := ⟨_, rfl⟩
  have hb22 : Below W21.heap.size W21 W22 := by rw [← hW22]; exact (Below.refl _ _).alloc (Nat.le_refl _) _
  have k22 : Blk W22 W21.heap.size #[.string ⟨#[117]⟩, .string ⟨#[120]⟩] 23 := by rw [← hW22]; exact Blk.new _ _ _
  obtain ⟨p4, hp4⟩ : ∃ p, W21.heap.size = p := ⟨_, rfl⟩
  rw [hp4] at k22
  have hB22 := below_step hb22 (below_step hb21 hB20)
  have hC22 := below_step hb22 (below_step hb21 (below_step hb20 (below_step hb19 hb18)))
  have k7 := k7.below hC22
  have k13 := k13.below hC22
  have k17 := k17.below hC22
  have hxi1 := hxi1.later hC22
  have hxi2 := hxi2.later hC22
  have hxi3 := hxi3.later hC22
  clear k19 hin19 ht4 hC22
  go_wp2_with (go_at_call 40; refine (name_any _ _ _).mono ?_)
  clear hW22 hp4
  rintro e W23 ⟨rfl, hb23⟩
  go_wp2_with (go_at_call 42; refine (space_any _ _ _ _ _).mono ?_)
  rintro e W24 ⟨rfl, hb24⟩
  obtain ⟨W25, hW25⟩ : ∃ W25, W24.alloc (.cells #[.int .i64 1, .string ⟨#[97]⟩, .string ⟨#[120]⟩, .string ⟨#[]⟩, .slice none 0 0, .slice none 0 0, .int .i64 2, .string ⟨#[]⟩, .string ⟨#[]⟩, .string ⟨#[97]⟩, .slice none 0 0, .slice none 0 0] 26) = W25 := ⟨_, rfl⟩
  have hb25 : Below W24.heap.size W24 W25 := by rw [← hW25]; exact (Below.refl _ _).alloc (Nat.le_refl _) _
  have k25 : Blk W25 W24.heap.size ([nameT nAX, sp0 aS].flatMap CT.cells).toArray 26 := by rw [← hW25]; exact Blk.new _ _ _
  have hB25 := below_step hb25 (below_step hb24 (below_step hb23 hB22))
  have hCe : Calls Tryz.prog 32 #[.slice (some ⟨W24.heap.size, 0, none⟩) 2 2] W25 fun e w' => ∃ g cap, e = .returned (.tuple #[.slice (some ⟨g, 0, none⟩) 3 cap, .int .i64 0]) ∧ Hid (w'.cell? ⟨g, 3, none⟩ = some (.string ⟨#[97]⟩) ∧ w'.cell? ⟨g, 4, none⟩ = some (.string ⟨#[120, 49]⟩) ∧ g < w'.heap.size) ∧ Below W25.heap.size W25 w' := by
    refine (Cells_any (some ⟨W24.heap.size, 0, none⟩) 2 [nameT nAX, sp0 aS] W25 (hG.later hB25) (lin_row k25 k25.lt (by simp; unfold maxLen; omega) (by
      intro u hu
      simp at hu
      rcases hu with rfl | rfl
      · exact nameT_in _ _ fitAX
      · exact sp0_in _ _ aS_ok)) (by
      intro u hu
      simp at hu
      rcases hu with rfl | rfl
      · exact Nat.le_trans (depth_small (C := (nameT nAX).er) rfl (by kernel_rfl)) (by omega)
      · exact Nat.le_trans (depth_small (C := (sp0 aS).er) rfl (by kernel_rfl)) (by omega))).mono ?_
    rintro e w' ⟨v, rfl, HO, hb⟩
    have hO := HO.out
    rw [if_neg (by simp), if_pos chk4, cells3] at hO
    obtain ⟨g, cap, rfl, h1, h2, h3⟩ := cells_second hO
    refine ⟨g, cap, ?_, Lib.hid ⟨h1, h2, h3⟩, hb⟩
    rw [if_neg (by simp), chk4]
  go_wp2_with (go_at_call 32; refine hCe.mono ?_)
  clear hCe hW25 k25
  rintro e W26 ⟨g, cap, rfl, HC26, hb26⟩
  have hB26 := below_step hb26 hB25
  have hC26 := below_step hb26 (below_step hb25 (below_step hb24 hb23))
  have k7 := k7.below hC26
  have k13 := k13.below hC26
  have k17 := k17.below hC26
  have k22 := k22.below hC26
  have hxi1 := hxi1.later hC26
  have hxi2 := hxi2.later hC26
  have hxi3 := hxi3.later hC26
  clear hC26
  go_wp2_with (go_at_call 40; refine (name_any _ _ _).mono ?_)
  rintro e W27 ⟨rfl, hb27⟩
  obtain ⟨W28, hW28⟩ : ∃ W28, W27.alloc (.cells #[.string ⟨#[97]⟩, .string ⟨#[120]⟩] 23) = W28 := ⟨_, rfl⟩
  have hb28 : Below W27.heap.size W27 W28 := by rw [← hW28]; exact (Below.refl _ _).alloc (Nat.le_refl _) _
  have k28 : Blk W28 W27.heap.size #[.string ⟨#[97]⟩, .string ⟨#[120]⟩] 23 := by rw [← hW28]; exact Blk.new _ _ _
  have hB28 := below_step hb28 (below_step hb27 hB26)
  have hWu := Witness_any (nameT nAX) (some ⟨W27.heap.size, 0, none⟩) 1 [nAX] W28 (hG.later hB28) (Nat.le_trans (depth_small (C := (nameT nAX).er) rfl (by kernel_rfl)) (by omega)) (nameT_in _ _ fitAX) ⟨by simp; unfold maxLen; omega, by simp; exact fitAX, fun _ => ⟨W27.heap.size, 0, rfl, k28.lt, fun j hj => by
    obtain rfl : j = 0 := by simpa using hj
    exact ⟨k28.cell 0, k28.cell 1⟩⟩⟩ (by simp)
  rw [show (nameT nAX).val = .agg #[.int .i64 1, .string ⟨#[97]⟩, .string ⟨#[120]⟩, .string ⟨#[]⟩, .slice none 0 0, .slice none 0 0] by rfl, wit2.1, wit2.2, show noN.val = .agg #[.string ⟨#[]⟩, .string ⟨#[]⟩] by rfl, show [nAX].length = 1 from rfl] at hWu
  go_wp2_with (go_at_call 30; refine hWu.mono ?_)
  clear hWu hW28 k28
  rintro e W29 ⟨rfl, hb29⟩
  obtain ⟨W30, hW30⟩ : ∃ W30, W29.alloc (.cells #[.string ⟨#[]⟩, .string ⟨#[]⟩] 23) = W30 := ⟨_, rfl⟩
  have hb30 : Below W29.heap.size W29 W30 := by rw [← hW30]; exact (Below.refl _ _).alloc (Nat.le_refl _) _
  have hB30 := below_step hb30 (below_step hb29 hB28)
  have hC30 := below_step hb30 (below_step hb29 (below_step hb28 hb27))
  have k7 := k7.below hC30
  have k13 := k13.below hC30
  have k17 := k17.below hC30
  have k22 := k22.below hC30
  have hxi1 := hxi1.later hC30
  have hxi2 := hxi2.later hC30
  have hxi3 := hxi3.later hC30
  have g3 := (hC30.cell (p := ⟨g, 3, none⟩) HC26.out.2.2).trans HC26.out.1
  have g4 := (hC30.cell (p := ⟨g, 4, none⟩) HC26.out.2.2).trans HC26.out.2.1
  have hg := Nat.lt_of_lt_of_le HC26.out.2.2 hC30.size
  clear hC30 HC26 hb1 hb2 hb3 hb4 hb5 hb6 hb7 hb8 hb9 hb10 hb11 hb12 hb13 hb14 hb15 hb16 hb17 hb18 hb19 hb20 hb21 hb22 hb23 hb24 hb25 hb26 hb27 hb28 hb29 hb30 hB3 hB4 hB5 hB6 hB7 hB11 hB13 hB15 hB17 hB20 hB22 hB25 hB26 hB28
  have HW30 := Lib.hid hW30
  clear hW30
  go_wp2
  rw [HW30.out]
  have q1_0 := fun w' (h : Below W30.heap.size W30 w') => (h.cell (p := ⟨p1, 0, none⟩) k7.lt).trans (k7.cell 0)
  have q1_1 := fun w' (h : Below W30.heap.size W30 w') => (h.cell (p := ⟨p1, 1, none⟩) k7.lt).trans (k7.cell 1)
  have q1_2 := fun w' (h : Below W30.heap.size W30 w') => (h.cell (p := ⟨p1, 2, none⟩) k7.lt).trans (k7.cell 2)
  have q1_3 := fun w' (h : Below W30.heap.size W30 w') => (h.cell (p := ⟨p1, 3, none⟩) k7.lt).trans (k7.cell 3)
  have q1_4 := fun w' (h : Below W30.heap.size W30 w') => (h.cell (p := ⟨p1, 4, none⟩) k7.lt).trans (k7.cell 4)
  have q1_5 := fun w' (h : Below W30.heap.size W30 w') => (h.cell (p := ⟨p1, 5, none⟩) k7.lt).trans (k7.cell 5)
  have q2_0 := fun w' (h : Below W30.heap.size W30 w') => (h.cell (p := ⟨p2, 0, none⟩) k13.lt).trans (k13.cell 0)
  have q2_1 := fun w' (h : Below W30.heap.size W30 w') => (h.cell (p := ⟨p2, 1, none⟩) k13.lt).trans (k13.cell 1)
  have q2_2 := fun w' (h : Below W30.heap.size W30 w') => (h.cell (p := ⟨p2, 2, none⟩) k13.lt).trans (k13.cell 2)
  have q2_3 := fun w' (h : Below W30.heap.size W30 w') => (h.cell (p := ⟨p2, 3, none⟩) k13.lt).trans (k13.cell 3)
  have q2_4 := fun w' (h : Below W30.heap.size W30 w') => (h.cell (p := ⟨p2, 4, none⟩) k13.lt).trans (k13.cell 4)
  have q2_5 := fun w' (h : Below W30.heap.size W30 w') => (h.cell (p := ⟨p2, 5, none⟩) k13.lt).trans (k13.cell 5)
  have q3_0 := fun w' (h : Below W30.heap.size W30 w') => (h.cell (p := ⟨p3, 0, none⟩) k17.lt).trans (k17.cell 0)
  have q3_1 := fun w' (h : Below W30.heap.size W30 w') => (h.cell (p := ⟨p3, 1, none⟩) k17.lt).trans (k17.cell 1)
  have q3_2 := fun w' (h : Below W30.heap.size W30 w') => (h.cell (p := ⟨p3, 2, none⟩) k17.lt).trans (k17.cell 2)
  have q3_3 := fun w' (h : Below W30.heap.size W30 w') => (h.cell (p := ⟨p3, 3, none⟩) k17.lt).trans (k17.cell 3)
  have q3_4 := fun w' (h : Below W30.heap.size W30 w') => (h.cell (p := ⟨p3, 4, none⟩) k17.lt).trans (k17.cell 4)
  have q3_5 := fun w' (h : Below W30.heap.size W30 w') => (h.cell (p := ⟨p3, 5, none⟩) k17.lt).trans (k17.cell 5)
  have q4_0 := fun w' (h : Below W30.heap.size W30 w') => (h.cell (p := ⟨p4, 0, none⟩) k22.lt).trans (k22.cell 0)
  have q4_1 := fun w' (h : Below W30.heap.size W30 w') => (h.cell (p := ⟨p4, 1, none⟩) k22.lt).trans (k22.cell 1)
  simp only [CT.cells_eq, List.getElem?_toArray, List.getElem?_cons_zero, List.getElem?_cons_succ] at q1_0 q1_1 q1_2 q1_3 q1_4 q1_5 q2_0 q2_1 q2_2 q2_3 q2_4 q2_5 q3_0 q3_1 q3_2 q3_3 q3_4 q3_5 q4_0 q4_1
  have qg3 := fun w' (h : Below W30.heap.size W30 w') => (h.cell (p := ⟨g, 3, none⟩) hg).trans g3
  have qg4 := fun w' (h : Below W30.heap.size W30 w') => (h.cell (p := ⟨g, 4, none⟩) hg).trans g4
  have eU := eqN_self ⟨⟨#[117]⟩, ⟨#[120]⟩⟩
  have gU := fun op x y => guardN op x y ⟨⟨#[117]⟩, ⟨#[120]⟩⟩ ⟨⟨#[117]⟩, ⟨#[120]⟩⟩
  have eA := eqN_self ⟨⟨#[97]⟩, ⟨#[120, 49]⟩⟩
  have gA := fun op x y => guardN op x y ⟨⟨#[97]⟩, ⟨#[120, 49]⟩⟩ ⟨⟨#[97]⟩, ⟨#[120, 49]⟩⟩
  simp only at eU gU eA gA
  clear HW30 g3 g4
  go_region_held3 (fun w' => Below W30.heap.size W30 w') (first | assumption | exact below_drew (Below.refl _ _) | exact below_alloc (by assumption) | (refine below_step ?_ ?_ <;> assumption) | (refine below_step2 (by assumption) (by assumption) ?_; first | exact Nat.le_refl _ | exact Below.size (by assumption)))
    (first
      | (go_at_call 40; (with_reducible refine (name_any _ _ _).mono ?_); rintro e w' ⟨rfl, hb⟩)
      | (go_at_call 39; (with_reducible refine (choice_any _ _ _ _).mono ?_); rintro e w' ⟨rfl, hb⟩)
      | (go_at_call 42; (with_reducible refine (space_any _ _ _ _ _).mono ?_); rintro e w' ⟨rfl, hb⟩)
      | (go_at_call 41; (with_reducible refine (all_any _ _ _ _).mono ?_); rintro e w' ⟨rfl, hb⟩)
      | (go_at_call 36; (with_reducible refine (same_ch x1 _ _ Hxe1.out (hxi1.later (by assumption)) (by assumption)).mono ?_); rintro e w' ⟨rfl, hb⟩)
      | (go_at_call 36; (with_reducible refine (same_al x2 _ _ _ Hxe2.out (hxi2.later (by assumption)) (by assumption) (by assumption)).mono ?_); rintro e w' ⟨rfl, hb⟩)
      | (go_at_call 36; (with_reducible refine (same_al0 x3 _ _ Hxe3.out (hxi3.later (by assumption)) (by assumption)).mono ?_); rintro e w' ⟨rfl, hb⟩))
  go_wp2
  go_ret
  exact ⟨rfl, below_step (by assumption) hB30⟩
end Np
end Go.Proofs.YtohlhihhadbphaaGreatDoor
