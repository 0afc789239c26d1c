/- NamesSets. -/
import Derived.Test.YtohlhihhadbphaaGreatDoorRr
import Derived.Test.YtohlhihhadbphaaGreatDoorRp
import Derived.Test.YtohlhihhadbphaaGreatDoorRo
import Derived.Test.YtohlhihhadbphaaGreatDoorGo
set_option linter.unusedSimpArgs false
set_option linter.unusedVariables false
namespace Go.Proofs.YtohlhihhadbphaaGreatDoor
open Go.RowKit Go.Shelf Go.Lib Go.Maps Go.ChangeShapes Go.WideShapes
namespace Np
theorem norm_depth {lst : List CT} {S : Name → Bool} {x : CT} {r : Int} (h : NormR lst S x.er r) (hD : Dec (nmsOf (CT.partsL lst 1)) (spsOf (CT.partsL lst 1)) S) : x.depth ≤ 40 := by
  by_cases hc : chkL lst = 0
  · obtain ⟨c0, _, h1, h2⟩ := h.2 hc hD
    cases hs : c0.small with
    | true => exact depth_small (h1 hs).1 hs
    | false => exact depth_small (h2 hs).1 (by kernel_rfl)
  · exact depth_small (h.1 hc).2 (by kernel_rfl)
theorem norm_two {lst lst' : List CT} {S T : Name → Bool} {c c' : Cls} {r r' : Int} (h : NormR lst S c r) (h' : NormR lst' T c' r') (hl : chkL lst' = chkL lst)
    (hD : Dec (nmsOf (CT.partsL lst 1)) (spsOf (CT.partsL lst 1)) S) (hD' : Dec (nmsOf (CT.partsL lst' 1)) (spsOf (CT.partsL lst' 1)) T) (hST : ∀ n, S n = T n) : c = c' ∧ r' = r := by
  have e : S = T := funext hST
  by_cases hc : chkL lst = 0
  · obtain ⟨c0, hn, h1, h2⟩ := h.2 hc hD
    obtain ⟨c1, hn', h1', h2'⟩ := h'.2 (hl.trans hc) hD'
    rw [← e] at hn'
    have : c0 = c1 := hn.unique hn'
    subst this
    cases hs : c0.small with
    | true => exact ⟨(h1 hs).1.trans (h1' hs).1.symm, (h1' hs).2.trans (h1 hs).2.symm⟩
    | false => exact ⟨(h2 hs).1.trans (h2' hs).1.symm, (h2' hs).2.trans (h2 hs).2.symm⟩
  · have a := h.1 hc
    have b := h'.1 (fun k => hc (hl.symm.trans k))
    exact ⟨a.2.trans b.2.symm, b.1.trans (hl.trans a.1.symm)⟩
theorem chkL_self (t : CT) : chkL [t, t] = chkL [t] := by
  rw [chkL_one]
  show (if t.check = 0 then (if t.check = 0 then (0 : Int) else t.check) else t.check) = t.check
  by_cases h : t.check = 0
  · rw [if_pos h, if_pos h]; exact h.symm
  · rw [if_neg h]
abbrev six (W : World) (B : Nat) (x : CT) : World := (((((W.setCell ⟨B, 0, none⟩ (.int .i64 x.kind)).setCell ⟨B, 1, none⟩ (.string x.name.sp)).setCell ⟨B, 2, none⟩ (.string x.name.lc)).setCell ⟨B, 3, none⟩ (.string x.space)).setCell ⟨B, 4, none⟩ (.slice x.ea x.ex.length x.ec)).setCell ⟨B, 5, none⟩ (.slice x.aa x.ar.length x.ac)
theorem six_blk {W : World} {B q : Nat} {cs : Array Value} {ty : TypeId} (h : Blk W q cs ty) (hq : q ≠ B) (x : CT) : Blk (six W B x) q cs ty := (six_other hq _ _ _ _ _ _).trans h
theorem six_new {W : World} {B : Nat} {y : CT} (h : Blk W B y.cells.toArray 26) (x : CT) : Blk (six W B x) B x.cells.toArray 26 := by
  rw [CT.cells_eq] at h ⊢
  exact Blk.set6 h _ _ _ _ _ _
theorem six_on {W : World} {B m n : Nat} {u : CT} (h : u.On (fun b => m ≤ b ∧ b < n) W) (hB : B < m) (x : CT) : u.On (fun b => m ≤ b ∧ b < n) (six W B x) :=
  h.keep (fun _ h => h) (fun b hb => six_other (by omega) _ _ _ _ _ _)
theorem on_step {W W' : World} {m n : Nat} {u : CT} (h : u.On (fun b => m ≤ b ∧ b < n) W) (hn : n ≤ W.heap.size) (hb : Below W.heap.size W W') : u.On (fun b => m ≤ b ∧ b < n) W' :=
  h.keep (fun _ h => h) (fun b hc => hb.block b (by omega))
/-- What lies boxed: the two classes and the name; and the two boxes that are written anew. -/
structure Bs (t u : CT) (n : Name) (w V : World) (p q : Nat) (x y : CT) : Prop where
  below : Below w.heap.size w V
  bt : Blk V w.heap.size t.cells.toArray 26
  bu : Blk V (w.heap.size + 1) u.cells.toArray 26
  bn : Blk V (w.heap.size + 2) #[.string n.sp, .string n.lc] 23
  it : t.In V V.heap.size
  iu : u.In V V.heap.size
  bp : Blk V p x.cells.toArray 26
  bq : Blk V q y.cells.toArray 26
theorem Bs.step {t u : CT} {n : Name} {w V V' : World} {p q : Nat} {x y : CT} (h : Bs t u n w V p q x y) (hb : Below V.heap.size V V') : Bs t u n w V' p q x y :=
  ⟨b_step hb h.below, h.bt.below hb, h.bu.below hb, h.bn.below hb, h.it.onw hb, h.iu.onw hb, h.bp.below hb, h.bq.below hb⟩
theorem Bs.setp {t u : CT} {n : Name} {w V : World} {p q : Nat} {x y : CT} (h : Bs t u n w V p q x y) (hp : w.heap.size + 3 ≤ p) (hpq : p < q) (hIt : t.In w w.heap.size) (hIu : u.In w w.heap.size) (z : CT) : Bs t u n w (six V p z) p q z y :=
  have hb : Below w.heap.size w (six V p z) := sixBelow h.below (by omega) _ _ _ _ _ _
  ⟨hb, six_blk h.bt (by omega) z, six_blk h.bu (by omega) z, six_blk h.bn (by omega) z, hIt.onw hb, hIu.onw hb, six_new h.bp z, six_blk h.bq (by omega) z⟩
theorem Bs.setq {t u : CT} {n : Name} {w V : World} {p q : Nat} {x y : CT} (h : Bs t u n w V p q x y) (hp : w.heap.size + 3 ≤ p) (hpq : p < q) (hIt : t.In w w.heap.size) (hIu : u.In w w.heap.size) (z : CT) : Bs t u n w (six V q z) p q x z :=
  have hb : Below w.heap.size w (six V q z) := sixBelow h.below (by omega) _ _ _ _ _ _
  ⟨hb, six_blk h.bt (by omega) z, six_blk h.bu (by omega) z, six_blk h.bn (by omega) z, hIt.onw hb, hIu.onw hb, six_blk h.bp (by omega) z, six_new h.bq z⟩
theorem Bs.fz {t u : CT} {n : Name} {w V : World} {p q : Nat} {x y : CT} (h : Bs t u n w V p q x y) (i : Nat) : V.frozen? ⟨p, i, none⟩ = false ∧ V.frozen? ⟨q, i, none⟩ = false := ⟨h.bp.frozen i, h.bq.frozen i⟩
theorem six_size (W : World) (B : Nat) (x : CT) : (six W B x).heap.size = W.heap.size := by simp [six]
set_option maxRecDepth 100000 in
theorem same_eq (x y : CT) (r : Int) (w : World) (he : x.er = y.er) (hd : x.depth ≤ 40) (h1 : x.In w w.heap.size) (h2 : y.In w w.heap.size) :
    Calls Tryz.prog 17 #[x.val, y.val, .int .i64 r, .int .i64 r] w fun e w' => e = .returned (.bool true) ∧ Below w.heap.size w w' := by
  obtain ⟨W1, hW1⟩ : ∃ W1, (w.alloc (.cells x.cells.toArray 26)).alloc (.cells y.cells.toArray 26) = W1 := ⟨_, rfl⟩
  have hb1 : Below w.heap.size w W1 := by rw [← hW1]; exact ((Below.refl _ w).alloc (Nat.le_refl _) _).alloc (by simp) _
  have B0 : Blk W1 w.heap.size x.cells.toArray 26 := by rw [← hW1]; exact (Blk.new _ _ _).alloc _
  have B1 : Blk W1 (w.heap.size + 1) y.cells.toArray 26 := by
    rw [← hW1]
    have := Blk.new (w.alloc (.cells x.cells.toArray 26)) y.cells.toArray 26
    rw [World.size_alloc] at this; exact this
  have hC := same_true x y W1 he hd (h1.onw hb1) (h2.onw hb1)
  obtain ⟨c0, c1, c2, c3, c4, c5⟩ := ct_cells B0
  obtain ⟨d0, d1, d2, d3, d4, d5⟩ := ct_cells B1
  rw [CT.val_eq x, CT.val_eq y] at hC ⊢
  rw [CT.cells_eq, CT.cells_eq] at hW1
  have g1 : (r == r) = true := by simp
  clear h1 h2 he B0 B1
  go_enter Tryz.func17, Tryz.ntmps17
  go_wp2_with (go_at_call 36; refine hC.mono ?_)
  first | rintro e V2 rfl hbn | rintro e V2 ⟨rfl, hbn⟩
  go_wp2
  go_ret
  exact ⟨rfl, b_step hbn hb1⟩

set_option maxRecDepth 100000 in
set_option maxHeartbeats 8000000 in
theorem NamesSets_any (t u : CT) (n : Name) (w : World) (hG : G w) (hIt : t.In w w.heap.size) (hIu : u.In w w.heap.size) :
    Calls Tryz.prog 3 #[t.val, u.val, n.val] w fun e w' => e = .returned (.bool true) ∧ Below w.heap.size w w' := by
  obtain ⟨W1, hW1⟩ : ∃ W1, ((w.alloc (.cells t.cells.toArray 26)).alloc (.cells u.cells.toArray 26)).alloc (.cells #[.string n.sp, .string n.lc] 23) = W1 := ⟨_, rfl⟩
  have hb1 : Below w.heap.size w W1 := by rw [← hW1]; exact (((Below.refl _ w).alloc (Nat.le_refl _) _).alloc (by simp) _).alloc (by simp; omega) _
  have hX : Bx3 t u n w W1 := by
    obtain ⟨d0, d1, d2⟩ : Blk W1 w.heap.size t.cells.toArray 26 ∧ Blk W1 (w.heap.size + 1) u.cells.toArray 26 ∧ Blk W1 (w.heap.size + 2) #[.string n.sp, .string n.lc] 23 := by rw [← hW1]; exact blk_third _ _ _ _ _ _ _
    exact ⟨hb1, d0, d1, d2, hIt.onw hb1, hIu.onw hb1⟩
  have HIt := Lib.hid hIt
  have HIu := Lib.hid hIu
  rw [CT.val_eq t, CT.val_eq u, val_n]
  rw [CT.cells_eq, CT.cells_eq] at hW1
  clear hIt hIu
  go_enter Tryz.func3, Tryz.ntmps3
  obtain ⟨c0, c1, c2, c3, c4, c5⟩ := ct_cells hX.bt
  have hK := great_any t W1 hX.it
  rw [CT.val_eq t] at hK
  go_wp2_with (go_at_call 7; refine hK.mono ?_)
  clear hK hW1 c0 c1 c2 c3 c4 c5
  rintro e V1 ⟨g, rfl, Hg, hbn⟩
  have hX := hX.step hbn
  clear hbn
  cases g with
  | true =>
    have hK := shown_any V1 (hG.later hX.below)
    go_wp2_with (go_at_call 8; refine hK.mono ?_)
    first | rintro e V2 rfl hbn | rintro e V2 ⟨rfl, hbn⟩
    go_wp2
    go_ret
    exact ⟨rfl, b_step hbn hX.below⟩
  | false =>
  have ht : t.depth ≤ 1000 := Nat.le_trans (Hg.out rfl) (by omega)
  clear Hg
  obtain ⟨d0, d1, d2, d3, d4, d5⟩ := ct_cells hX.bu
  have n0 := hX.bn.cell 0
  have n1 := hX.bn.cell 1
  simp only [List.getElem?_toArray, List.getElem?_cons_zero, List.getElem?_cons_succ] at n0 n1
  have hK := great_any u V1 hX.iu
  rw [CT.val_eq u] at hK
  go_wp2_with (go_at_call 7; refine hK.mono ?_)
  clear hK d0 d1 d2 d3 d4 d5 n0 n1
  rintro e V2 ⟨g, rfl, Hg, hbn⟩
  have hX := hX.step hbn
  clear hbn
  cases g with
  | true =>
    have hK := shown_any V2 (hG.later hX.below)
    go_wp2_with (go_at_call 8; refine hK.mono ?_)
    first | rintro e V3 rfl hbn | rintro e V3 ⟨rfl, hbn⟩
    go_wp2
    go_ret
    exact ⟨rfl, b_step hbn hX.below⟩
  | false =>
  have hu : u.depth ≤ 1000 := Nat.le_trans (Hg.out rfl) (by omega)
  clear Hg
  have n0 := hX.bn.cell 0
  have n1 := hX.bn.cell 1
  simp only [List.getElem?_toArray, List.getElem?_cons_zero, List.getElem?_cons_succ] at n0 n1
  by_cases hl : 1000 < n.lc.size
  · have q1 : decide (1000 < (n.lc.size : Int)) = true := decide_eq_true (by omega)
    have q2 : decide (1000 < n.lc.size) = true := decide_eq_true hl
    have hK := shown_any V2 (hG.later hX.below)
    go_wp2_with (go_at_call 8; refine hK.mono ?_)
    first | rintro e V3 rfl hbn | rintro e V3 ⟨rfl, hbn⟩
    go_wp2
    go_ret
    exact ⟨rfl, b_step hbn hX.below⟩
  have q1 : decide (1000 < (n.lc.size : Int)) = false := decide_eq_false (by omega)
  have q2 : decide (1000 < n.lc.size) = false := decide_eq_false hl
  by_cases hl2 : 1000 < n.sp.size
  · have q3 : decide (1000 < (n.sp.size : Int)) = true := decide_eq_true (by omega)
    have q4 : decide (1000 < n.sp.size) = true := decide_eq_true hl2
    have hK := shown_any V2 (hG.later hX.below)
    go_wp2_with (go_at_call 8; refine hK.mono ?_)
    first | rintro e V3 rfl hbn | rintro e V3 ⟨rfl, hbn⟩
    go_wp2
    go_ret
    exact ⟨rfl, b_step hbn hX.below⟩
  have q3 : decide (1000 < (n.sp.size : Int)) = false := decide_eq_false (by omega)
  have q4 : decide (1000 < n.sp.size) = false := decide_eq_false hl2
  -- Has
  obtain ⟨c0, c1, c2, c3, c4, c5⟩ := ct_cells hX.bt
  have hK := Has_any t n V2 ht hX.it
  have hK2 := fun V (hV : Bx3 t u n w V) => rHas_any t n V hV.it
  obtain ⟨hb, hhb⟩ : ∃ x, (hasR t n).1 = x := ⟨_, rfl⟩
  obtain ⟨he, hhe⟩ : ∃ x, (hasR t n).2 = x := ⟨_, rfl⟩
  rw [hhb, hhe, CT.val_eq, val_n] at hK
  simp only [hhb, hhe, CT.val_eq, val_n] at hK2
  clear hhb hhe
  go_wp2_with (go_at_call 9; refine hK.mono ?_)
  clear hK c0 c1 c2 c3 c4 c5 n0 n1 q1 q2 q3 q4 hl hl2
  first | rintro e V3 rfl hbn | rintro e V3 ⟨rfl, hbn⟩
  have hX := hX.step hbn
  clear hbn
  obtain ⟨c0, c1, c2, c3, c4, c5⟩ := ct_cells hX.bt
  have n0 := hX.bn.cell 0
  have n1 := hX.bn.cell 1
  simp only [List.getElem?_toArray, List.getElem?_cons_zero, List.getElem?_cons_succ] at n0 n1
  have hK := hK2 V3 hX
  go_wp2_with (go_at_call 10; refine hK.mono ?_)
  clear hK hK2 c0 c1 c2 c3 c4 c5 n0 n1
  first | rintro e V4 rfl hbn | rintro e V4 ⟨rfl, hbn⟩
  have hX := hX.step hbn
  clear hbn
  -- Check and Less
  have c0 := fun w' (h : Below V4.heap.size V4 w') => (ct_cells (hX.step h).bt).1
  have c1 := fun w' (h : Below V4.heap.size V4 w') => (ct_cells (hX.step h).bt).2.1
  have c2 := fun w' (h : Below V4.heap.size V4 w') => (ct_cells (hX.step h).bt).2.2.1
  have c3 := fun w' (h : Below V4.heap.size V4 w') => (ct_cells (hX.step h).bt).2.2.2.1
  have c4 := fun w' (h : Below V4.heap.size V4 w') => (ct_cells (hX.step h).bt).2.2.2.2.1
  have c5 := fun w' (h : Below V4.heap.size V4 w') => (ct_cells (hX.step h).bt).2.2.2.2.2
  have n0 := fun w' (h : Below V4.heap.size V4 w') => (hX.step h).bn.cell 0
  have n1 := fun w' (h : Below V4.heap.size V4 w') => (hX.step h).bn.cell 1
  simp only [List.getElem?_toArray, List.getElem?_cons_zero, List.getElem?_cons_succ] at n0 n1
  obtain ⟨ck, hck⟩ : ∃ x, t.check = x := ⟨_, rfl⟩
  obtain ⟨ls, hls⟩ : ∃ x, decide (cmpN n t.name < 0) = x := ⟨_, rfl⟩
  have hC1 := fun w' (h : Below V4.heap.size V4 w') => Check_any t ht w' (hX.step h).it
  have hC2 := fun w' (h : Below V4.heap.size V4 w') => rCheck_any t w' (hX.step h).it
  have hL1 := fun w' (h : Below V4.heap.size V4 w') => Less_any n t.name w'
  have hL2 := fun w' (h : Below V4.heap.size V4 w') => rLess_any n t.name w'
  simp only [hck, CT.val_eq] at hC1 hC2
  simp only [hls, val_n] at hL1 hL2
  clear hck hls
  have z1 : (hb == hb) = true := by simp
  have z2 : (he == he) = true := by simp
  have z3 : (ck == ck) = true := by simp
  have z4 : (ls == ls) = true := by simp
  have z5 : (!hb == hb) = false := by simp
  have z6 : (he != he) = false := by simp
  have z7 : (ck != ck) = false := by simp
  have z8 : (!ls == ls) = false := by simp
  have z9 : (hb != hb) = false := by simp
  have z10 : (ls != ls) = false := by simp
  have hbW : Below V4.heap.size V4 V4 := Below.refl _ _
  go_upto_region 5 with (fail)
  go_region_held3 (fun w' => Below V4.heap.size V4 w') (first | assumption | exact b_drew hbW | exact b_step hb8 (b_step hb7 (b_step hb6 (b_step hb5 (b_drew hbW)))) | exact b_step hb7 (b_step hb6 (b_step hb5 (b_drew hbW))) | exact b_step hb6 (b_step hb5 (b_drew hbW)) | exact b_step hb5 (b_drew hbW))
    (first
      | (go_at_call 11; (with_reducible refine (hC1 _ (by assumption)).mono ?_); rintro e w5 ⟨rfl, hb5⟩)
      | (go_at_call 12; (with_reducible refine (hC2 _ (by assumption)).mono ?_); rintro e w6 ⟨rfl, hb6⟩)
      | (go_at_call 13; (with_reducible refine (hL1 _ (by assumption)).mono ?_); rintro e w7 ⟨rfl, hb7⟩)
      | (go_at_call 14; (with_reducible refine (hL2 _ (by assumption)).mono ?_); rintro e w8 ⟨rfl, hb8⟩))
  have hbz : Below V4.heap.size V4 w8 := by assumption
  have hX := hX.step hbz
  clear c0 c1 c2 c3 c4 c5 n0 n1 hC1 hC2 hL1 hL2 z1 z2 z3 z4 z5 z6 z7 z8 z9 z10 hbW hbz
  obtain ⟨W0, hW0⟩ : ∃ W0, w8 = W0 := ⟨_, rfl⟩
  rw [hW0] at hX ⊢
  clear hW0
  obtain ⟨c0, c1, c2, c3, c4, c5⟩ := ct_cells hX.bt
  have hK := Normal_any t W0 (hG.later hX.below) ht hX.it
  rw [CT.val_eq t] at hK
  go_wp2_with (go_at_call 15; refine hK.mono ?_)
  clear hK c0 c1 c2 c3 c4 c5
  rintro e V5 ⟨x, r, rfl, Hx, hbn⟩
  rw [CT.val_eq x]
  have hX := hX.step hbn
  have HX5 := Lib.hid hX
  clear hbn
  have hi := inOn Hx.out.1 (Nat.le_refl _)
  obtain ⟨Vaa, hVaa⟩ : ∃ V, V5.alloc (.cells #[.int .i64 0, .string ⟨#[]⟩, .string ⟨#[]⟩, .string ⟨#[]⟩, .slice none 0 0, .slice none 0 0] 26) = V := ⟨_, rfl⟩
  have hbaa : Below V5.heap.size V5 Vaa := by rw [← hVaa]; exact (Below.refl _ _).alloc (Nat.le_refl _) _
  have BAa : Blk Vaa V5.heap.size #[.int .i64 0, .string ⟨#[]⟩, .string ⟨#[]⟩, .string ⟨#[]⟩, .slice none 0 0, .slice none 0 0] 26 := by rw [← hVaa]; exact Blk.new _ _ _
  have BZa : Blk Vaa V5.heap.size zeroT.cells.toArray 26 := by rw [CT.cells_eq]; exact BAa
  have hbba : Below V5.heap.size V5 (six Vaa V5.heap.size x) := sixBelow hbaa (Nat.le_refl _) _ _ _ _ _ _
  have BBa := six_new BZa x
  have af0 := BAa.frozen 0
  have af1 := BAa.frozen 1
  have af2 := BAa.frozen 2
  have af3 := BAa.frozen 3
  have af4 := BAa.frozen 4
  have af5 := BAa.frozen 5
  have az0 := BAa.cell 0
  have az1 := BAa.cell 1
  have az2 := BAa.cell 2
  have az3 := BAa.cell 3
  have az4 := BAa.cell 4
  have az5 := BAa.cell 5
  simp only [List.getElem?_toArray, List.getElem?_cons_zero, List.getElem?_cons_succ] at az0 az1 az2 az3 az4 az5
  obtain ⟨Vba, hVba⟩ : ∃ V, six Vaa V5.heap.size x = V := ⟨_, rfl⟩
  rw [hVba] at hbba BBa
  simp only [six] at hVba
  clear hbaa BAa BZa
  have hX := hX.step hbba
  have hi := hi.onw hbba
  obtain ⟨c0, c1, c2, c3, c4, c5⟩ := ct_cells hX.bt
  have hK := rNormal_any t Vba hX.it
  rw [CT.val_eq t] at hK
  go_wp2_with (go_at_call 16; refine hK.mono ?_)
  clear hK c0 c1 c2 c3 c4 c5
  rintro e V6 ⟨y, r2, rfl, Hy, hbn⟩
  rw [CT.val_eq y]
  have hX := hX.step hbn
  have hi := hi.onw hbn
  have BBa := BBa.below hbn
  have hpq : V5.heap.size < V6.heap.size := BBa.lt
  have Hy := Lib.hid Hy
  have hj := inOn Hy.out.1 (Nat.le_refl _)
  clear hbn hVaa hVba af0 af1 af2 af3 af4 af5 az0 az1 az2 az3 az4 az5
  obtain ⟨Vab, hVab⟩ : ∃ V, V6.alloc (.cells #[.int .i64 0, .string ⟨#[]⟩, .string ⟨#[]⟩, .string ⟨#[]⟩, .slice none 0 0, .slice none 0 0] 26) = V := ⟨_, rfl⟩
  have hbab : Below V6.heap.size V6 Vab := by rw [← hVab]; exact (Below.refl _ _).alloc (Nat.le_refl _) _
  have BAb : Blk Vab V6.heap.size #[.int .i64 0, .string ⟨#[]⟩, .string ⟨#[]⟩, .string ⟨#[]⟩, .slice none 0 0, .slice none 0 0] 26 := by rw [← hVab]; exact Blk.new _ _ _
  have BZb : Blk Vab V6.heap.size zeroT.cells.toArray 26 := by rw [CT.cells_eq]; exact BAb
  have hbbb : Below V6.heap.size V6 (six Vab V6.heap.size y) := sixBelow hbab (Nat.le_refl _) _ _ _ _ _ _
  have BBb := six_new BZb y
  have bf0 := BAb.frozen 0
  have bf1 := BAb.frozen 1
  have bf2 := BAb.frozen 2
  have bf3 := BAb.frozen 3
  have bf4 := BAb.frozen 4
  have bf5 := BAb.frozen 5
  have bz0 := BAb.cell 0
  have bz1 := BAb.cell 1
  have bz2 := BAb.cell 2
  have bz3 := BAb.cell 3
  have bz4 := BAb.cell 4
  have bz5 := BAb.cell 5
  simp only [List.getElem?_toArray, List.getElem?_cons_zero, List.getElem?_cons_succ] at bz0 bz1 bz2 bz3 bz4 bz5
  obtain ⟨Vbb, hVbb⟩ : ∃ V, six Vab V6.heap.size y = V := ⟨_, rfl⟩
  rw [hVbb] at hbbb BBb
  simp only [six] at hVbb
  clear hbab BAb BZb
  have hX := hX.step hbbb
  have hi := hi.onw hbbb
  have hj := hj.onw hbbb
  have BBa := BBa.below hbbb
  have hp3 : w.heap.size + 3 ≤ V5.heap.size := by
    have := HX5.out.bn.lt
    omega
  have Hp3 := Lib.hid hp3
  have Hpq := Lib.hid hpq
  have hX : Bs t u n w Vbb V5.heap.size V6.heap.size x y := ⟨hX.below, hX.bt, hX.bu, hX.bn, hX.it, hX.iu, BBa, BBb⟩
  clear hp3 hpq hbbb BBa BBb
  have hS := norm_two Hx.out.2.1 Hy.out.2 (chkL_self t) (dec_self t) (dec_pair t t (fun a b => tru 0 a b)) (fun n => by simp [tru])
  have hd := norm_depth Hx.out.2.1 (dec_self t)
  obtain ⟨hE, hr⟩ := hS
  subst hr
  obtain ⟨a0, a1, a2, a3, a4, a5⟩ := ct_cells hX.bp
  obtain ⟨b0, b1, b2, b3, b4, b5⟩ := ct_cells hX.bq
  have hK := same_eq x y r2 Vbb hE hd hi hj
  rw [CT.val_eq x, CT.val_eq y] at hK
  clear hE hd hi hj
  go_wp2_with (go_at_call 17; refine hK.mono ?_)
  clear hK a0 a1 a2 a3 a4 a5 b0 b1 b2 b3 b4 b5 hVab hVbb bf0 bf1 bf2 bf3 bf4 bf5 bz0 bz1 bz2 bz3 bz4 bz5
  first | rintro e V7 rfl hbn | rintro e V7 ⟨rfl, hbn⟩
  have hX := hX.step hbn
  clear hbn
  have HP : Hid (V5.heap.size < V7.heap.size ∧ V6.heap.size < V7.heap.size) := Lib.hid ⟨hX.bp.lt, hX.bq.lt⟩
  obtain ⟨c0, c1, c2, c3, c4, c5⟩ := ct_cells hX.bt
  obtain ⟨d0, d1, d2, d3, d4, d5⟩ := ct_cells hX.bu
  have hK := Join_any t u V7 (hG.later hX.below) ht hu hX.it hX.iu
  rw [CT.val_eq t, CT.val_eq u] at hK
  go_wp2_with (go_at_call 18; refine hK.mono ?_)
  clear hK c0 c1 c2 c3 c4 c5 d0 d1 d2 d3 d4 d5
  rintro e A0 ⟨x0, r0, rfl, Hx, hbn⟩
  rw [CT.val_eq x0]
  have hX := hX.step hbn
  have ho := Hx.out.1
  clear hbn
  have af0 := hX.bp.frozen 0
  have af1 := hX.bp.frozen 1
  have af2 := hX.bp.frozen 2
  have af3 := hX.bp.frozen 3
  have af4 := hX.bp.frozen 4
  have af5 := hX.bp.frozen 5
  obtain ⟨az0, az1, az2, az3, az4, az5⟩ := ct_cells hX.bp
  have hX := hX.setp Hp3.out Hpq.out HIt.out HIu.out x0
  obtain ⟨aV, ah⟩ : ∃ V, six A0 V5.heap.size x0 = V := ⟨_, rfl⟩
  have asz : A0.heap.size = aV.heap.size := by rw [← ah]; exact (six_size _ _ _).symm
  have ho := six_on ho HP.out.1 x0
  rw [ah] at hX ho
  simp only [six] at ah
  obtain ⟨Wp0, hWp⟩ : ∃ V, aV = V := ⟨_, rfl⟩
  subst hWp
  have HAs := Lib.hid asz
  clear asz
  obtain ⟨c0, c1, c2, c3, c4, c5⟩ := ct_cells hX.bt
  obtain ⟨d0, d1, d2, d3, d4, d5⟩ := ct_cells hX.bu
  have hK := rJoin_any t u aV hX.it hX.iu
  rw [CT.val_eq t, CT.val_eq u] at hK
  go_wp2_with (go_at_call 19; refine hK.mono ?_)
  clear hK c0 c1 c2 c3 c4 c5 d0 d1 d2 d3 d4 d5
  rintro e B0 ⟨y0, s0, rfl, Hy, hbn⟩
  rw [CT.val_eq y0]
  have Hy := Lib.hid Hy
  have HQ : Hid (V6.heap.size < aV.heap.size) := Lib.hid hX.bq.lt
  have hX := hX.step hbn
  have ho := on_step ho (Nat.le_of_eq HAs.out) hbn
  have hsz := Nat.le_trans (Nat.le_of_eq HAs.out) hbn.size
  clear hbn ah af0 af1 af2 af3 af4 af5 az0 az1 az2 az3 az4 az5
  have bf0 := hX.bq.frozen 0
  have bf1 := hX.bq.frozen 1
  have bf2 := hX.bq.frozen 2
  have bf3 := hX.bq.frozen 3
  have bf4 := hX.bq.frozen 4
  have bf5 := hX.bq.frozen 5
  obtain ⟨bz0, bz1, bz2, bz3, bz4, bz5⟩ := ct_cells hX.bq
  have hX := hX.setq Hp3.out Hpq.out HIt.out HIu.out y0
  obtain ⟨bV, bh⟩ : ∃ V, six B0 V6.heap.size y0 = V := ⟨_, rfl⟩
  have bsz : B0.heap.size = bV.heap.size := by rw [← bh]; exact (six_size _ _ _).symm
  have ho := six_on ho HP.out.2 y0
  have hoy := six_on Hy.out.1 HQ.out y0
  rw [bh] at hX ho hoy
  simp only [six] at bh
  have hi := inOn ho (Nat.le_trans hsz (Nat.le_of_eq bsz))
  have hj := inOn hoy (Nat.le_of_eq bsz)
  clear ho hoy hsz bsz HAs HQ HP
  obtain ⟨hE, hr⟩ := norm_two Hx.out.2.1 Hy.out.2 rfl (dec_two t u or) (dec_pair t u (fun a b => tru 1 a b)) (fun n => by simp [tru])
  have hd := norm_depth Hx.out.2.1 (dec_two t u or)
  subst hr
  obtain ⟨a0, a1, a2, a3, a4, a5⟩ := ct_cells hX.bp
  obtain ⟨b0, b1, b2, b3, b4, b5⟩ := ct_cells hX.bq
  have hK := same_eq x0 y0 s0 bV hE hd hi hj
  rw [CT.val_eq x0, CT.val_eq y0] at hK
  clear hE hd hi hj
  go_wp2_with (go_at_call 17; refine hK.mono ?_)
  clear hK a0 a1 a2 a3 a4 a5 b0 b1 b2 b3 b4 b5 bh bf0 bf1 bf2 bf3 bf4 bf5 bz0 bz1 bz2 bz3 bz4 bz5
  first | rintro e C0 rfl hbn | rintro e C0 ⟨rfl, hbn⟩
  have hX := hX.step hbn
  clear hbn
  have HP : Hid (V5.heap.size < C0.heap.size ∧ V6.heap.size < C0.heap.size) := Lib.hid ⟨hX.bp.lt, hX.bq.lt⟩
  obtain ⟨c0, c1, c2, c3, c4, c5⟩ := ct_cells hX.bt
  obtain ⟨d0, d1, d2, d3, d4, d5⟩ := ct_cells hX.bu
  have hK := Meet_any t u C0 (hG.later hX.below) ht hu hX.it hX.iu
  rw [CT.val_eq t, CT.val_eq u] at hK
  go_wp2_with (go_at_call 20; refine hK.mono ?_)
  clear hK c0 c1 c2 c3 c4 c5 d0 d1 d2 d3 d4 d5
  rintro e A1 ⟨x1, r1, rfl, Hx, hbn⟩
  rw [CT.val_eq x1]
  have hX := hX.step hbn
  have ho := Hx.out.1
  clear hbn
  have af0 := hX.bp.frozen 0
  have af1 := hX.bp.frozen 1
  have af2 := hX.bp.frozen 2
  have af3 := hX.bp.frozen 3
  have af4 := hX.bp.frozen 4
  have af5 := hX.bp.frozen 5
  obtain ⟨az0, az1, az2, az3, az4, az5⟩ := ct_cells hX.bp
  have hX := hX.setp Hp3.out Hpq.out HIt.out HIu.out x1
  obtain ⟨aV, ah⟩ : ∃ V, six A1 V5.heap.size x1 = V := ⟨_, rfl⟩
  have asz : A1.heap.size = aV.heap.size := by rw [← ah]; exact (six_size _ _ _).symm
  have ho := six_on ho HP.out.1 x1
  rw [ah] at hX ho
  simp only [six] at ah
  obtain ⟨Wp1, hWp⟩ : ∃ V, aV = V := ⟨_, rfl⟩
  subst hWp
  have HAs := Lib.hid asz
  clear asz
  obtain ⟨c0, c1, c2, c3, c4, c5⟩ := ct_cells hX.bt
  obtain ⟨d0, d1, d2, d3, d4, d5⟩ := ct_cells hX.bu
  have hK := rMeet_any t u aV hX.it hX.iu
  rw [CT.val_eq t, CT.val_eq u] at hK
  go_wp2_with (go_at_call 21; refine hK.mono ?_)
  clear hK c0 c1 c2 c3 c4 c5 d0 d1 d2 d3 d4 d5
  rintro e B1 ⟨y1, s1, rfl, Hy, hbn⟩
  rw [CT.val_eq y1]
  have Hy := Lib.hid Hy
  have HQ : Hid (V6.heap.size < aV.heap.size) := Lib.hid hX.bq.lt
  have hX := hX.step hbn
  have ho := on_step ho (Nat.le_of_eq HAs.out) hbn
  have hsz := Nat.le_trans (Nat.le_of_eq HAs.out) hbn.size
  clear hbn ah af0 af1 af2 af3 af4 af5 az0 az1 az2 az3 az4 az5
  have bf0 := hX.bq.frozen 0
  have bf1 := hX.bq.frozen 1
  have bf2 := hX.bq.frozen 2
  have bf3 := hX.bq.frozen 3
  have bf4 := hX.bq.frozen 4
  have bf5 := hX.bq.frozen 5
  obtain ⟨bz0, bz1, bz2, bz3, bz4, bz5⟩ := ct_cells hX.bq
  have hX := hX.setq Hp3.out Hpq.out HIt.out HIu.out y1
  obtain ⟨bV, bh⟩ : ∃ V, six B1 V6.heap.size y1 = V := ⟨_, rfl⟩
  have bsz : B1.heap.size = bV.heap.size := by rw [← bh]; exact (six_size _ _ _).symm
  have ho := six_on ho HP.out.2 y1
  have hoy := six_on Hy.out.1 HQ.out y1
  rw [bh] at hX ho hoy
  simp only [six] at bh
  have hi := inOn ho (Nat.le_trans hsz (Nat.le_of_eq bsz))
  have hj := inOn hoy (Nat.le_of_eq bsz)
  clear ho hoy hsz bsz HAs HQ HP
  obtain ⟨hE, hr⟩ := norm_two Hx.out.2.1 Hy.out.2 rfl (dec_two t u and) (dec_pair t u (fun a b => tru 2 a b)) (fun n => by simp [tru])
  have hd := norm_depth Hx.out.2.1 (dec_two t u and)
  subst hr
  obtain ⟨a0, a1, a2, a3, a4, a5⟩ := ct_cells hX.bp
  obtain ⟨b0, b1, b2, b3, b4, b5⟩ := ct_cells hX.bq
  have hK := same_eq x1 y1 s1 bV hE hd hi hj
  rw [CT.val_eq x1, CT.val_eq y1] at hK
  clear hE hd hi hj
  go_wp2_with (go_at_call 17; refine hK.mono ?_)
  clear hK a0 a1 a2 a3 a4 a5 b0 b1 b2 b3 b4 b5 bh bf0 bf1 bf2 bf3 bf4 bf5 bz0 bz1 bz2 bz3 bz4 bz5
  first | rintro e C1 rfl hbn | rintro e C1 ⟨rfl, hbn⟩
  have hX := hX.step hbn
  clear hbn
  have HP : Hid (V5.heap.size < C1.heap.size ∧ V6.heap.size < C1.heap.size) := Lib.hid ⟨hX.bp.lt, hX.bq.lt⟩
  obtain ⟨c0, c1, c2, c3, c4, c5⟩ := ct_cells hX.bt
  obtain ⟨d0, d1, d2, d3, d4, d5⟩ := ct_cells hX.bu
  have hK := Minus_any t u C1 (hG.later hX.below) ht hu hX.it hX.iu
  rw [CT.val_eq t, CT.val_eq u] at hK
  go_wp2_with (go_at_call 22; refine hK.mono ?_)
  clear hK c0 c1 c2 c3 c4 c5 d0 d1 d2 d3 d4 d5
  rintro e A2 ⟨x2, r2, rfl, Hx, hbn⟩
  rw [CT.val_eq x2]
  have hX := hX.step hbn
  have ho := Hx.out.1
  clear hbn
  have af0 := hX.bp.frozen 0
  have af1 := hX.bp.frozen 1
  have af2 := hX.bp.frozen 2
  have af3 := hX.bp.frozen 3
  have af4 := hX.bp.frozen 4
  have af5 := hX.bp.frozen 5
  obtain ⟨az0, az1, az2, az3, az4, az5⟩ := ct_cells hX.bp
  have hX := hX.setp Hp3.out Hpq.out HIt.out HIu.out x2
  obtain ⟨aV, ah⟩ : ∃ V, six A2 V5.heap.size x2 = V := ⟨_, rfl⟩
  have asz : A2.heap.size = aV.heap.size := by rw [← ah]; exact (six_size _ _ _).symm
  have ho := six_on ho HP.out.1 x2
  rw [ah] at hX ho
  simp only [six] at ah
  obtain ⟨Wp2, hWp⟩ : ∃ V, aV = V := ⟨_, rfl⟩
  subst hWp
  have HAs := Lib.hid asz
  clear asz
  obtain ⟨c0, c1, c2, c3, c4, c5⟩ := ct_cells hX.bt
  obtain ⟨d0, d1, d2, d3, d4, d5⟩ := ct_cells hX.bu
  have hK := rMinus_any t u aV hX.it hX.iu
  rw [CT.val_eq t, CT.val_eq u] at hK
  go_wp2_with (go_at_call 23; refine hK.mono ?_)
  clear hK c0 c1 c2 c3 c4 c5 d0 d1 d2 d3 d4 d5
  rintro e B2 ⟨y2, s2, rfl, Hy, hbn⟩
  rw [CT.val_eq y2]
  have Hy := Lib.hid Hy
  have HQ : Hid (V6.heap.size < aV.heap.size) := Lib.hid hX.bq.lt
  have hX := hX.step hbn
  have ho := on_step ho (Nat.le_of_eq HAs.out) hbn
  have hsz := Nat.le_trans (Nat.le_of_eq HAs.out) hbn.size
  clear hbn ah af0 af1 af2 af3 af4 af5 az0 az1 az2 az3 az4 az5
  have bf0 := hX.bq.frozen 0
  have bf1 := hX.bq.frozen 1
  have bf2 := hX.bq.frozen 2
  have bf3 := hX.bq.frozen 3
  have bf4 := hX.bq.frozen 4
  have bf5 := hX.bq.frozen 5
  obtain ⟨bz0, bz1, bz2, bz3, bz4, bz5⟩ := ct_cells hX.bq
  have hX := hX.setq Hp3.out Hpq.out HIt.out HIu.out y2
  obtain ⟨bV, bh⟩ : ∃ V, six B2 V6.heap.size y2 = V := ⟨_, rfl⟩
  have bsz : B2.heap.size = bV.heap.size := by rw [← bh]; exact (six_size _ _ _).symm
  have ho := six_on ho HP.out.2 y2
  have hoy := six_on Hy.out.1 HQ.out y2
  rw [bh] at hX ho hoy
  simp only [six] at bh
  have hi := inOn ho (Nat.le_trans hsz (Nat.le_of_eq bsz))
  have hj := inOn hoy (Nat.le_of_eq bsz)
  clear ho hoy hsz bsz HAs HQ HP
  obtain ⟨hE, hr⟩ := norm_two Hx.out.2.1 Hy.out.2 rfl (dec_two t u (fun a b => a && !b)) (dec_pair t u (fun a b => tru 3 a b)) (fun n => by simp [tru])
  have hd := norm_depth Hx.out.2.1 (dec_two t u (fun a b => a && !b))
  subst hr
  obtain ⟨a0, a1, a2, a3, a4, a5⟩ := ct_cells hX.bp
  obtain ⟨b0, b1, b2, b3, b4, b5⟩ := ct_cells hX.bq
  have hK := same_eq x2 y2 s2 bV hE hd hi hj
  rw [CT.val_eq x2, CT.val_eq y2] at hK
  clear hE hd hi hj
  go_wp2_with (go_at_call 17; refine hK.mono ?_)
  clear hK a0 a1 a2 a3 a4 a5 b0 b1 b2 b3 b4 b5
  first | rintro e V8 rfl hbn | rintro e V8 ⟨rfl, hbn⟩
  have hX := hX.step hbn
  clear hbn
  have hK := shown_any V8 (hG.later hX.below)
  go_wp2_with (go_at_call 8; refine hK.mono ?_)
  first | rintro e V9 rfl hbn | rintro e V9 ⟨rfl, hbn⟩
  go_wp2
  go_ret
  exact ⟨rfl, b_step hbn hX.below⟩
end Np
end Go.Proofs.YtohlhihhadbphaaGreatDoor
