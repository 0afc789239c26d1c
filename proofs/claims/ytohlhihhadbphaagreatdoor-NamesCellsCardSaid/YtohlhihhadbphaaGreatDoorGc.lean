/- Names: F G H I. -/
import Derived.Test.YtohlhihhadbphaaGreatDoorGb
import Derived.Test.YtohlhihhadbphaaGreatDoorGa
import Derived.Test.YtohlhihhadbphaaGreatDoorShelf
import Derived.StillTailTactics
set_option linter.unusedSimpArgs false
set_option linter.unusedVariables false
/- Check. -/
namespace Go.Proofs.YtohlhihhadbphaaGreatDoor
open Go.RowKit Go.Shelf
attribute [local go_sem] Oper.semAt_some
namespace Np
/-- A block of cells. -/
def Blk (W : World) (B : Nat) (cs : Array Value) (t : TypeId) : Prop := W.heap[B]? = some (.cells cs t (0, 0))
theorem Blk.new (W : World) (cs : Array Value) (t : TypeId) : Blk (W.alloc (.cells cs t)) W.heap.size cs t := World.alloc_heap_new W _
theorem Blk.lt {W : World} {B : Nat} {cs : Array Value} {t : TypeId} (h : Blk W B cs t) : B < W.heap.size := (Array.getElem?_eq_some_iff.1 h).1
theorem Blk.kept {W W' : World} {row : Option Nat} {B : Nat} {cs : Array Value} {t : TypeId} (h : Blk W B cs t) (hg : W.grownBy W' row) (hne : some B ≠ row) : Blk W' B cs t := (hg.block B h.lt hne).trans h
theorem Blk.below {W W' : World} {B : Nat} {cs : Array Value} {t : TypeId} (h : Blk W B cs t) (hb : Below W.heap.size W W') : Blk W' B cs t := (hb.block B h.lt).trans h
theorem Blk.alloc {W : World} {B : Nat} {cs : Array Value} {t : TypeId} (h : Blk W B cs t) (o : Obj) : Blk (W.alloc o) B cs t := h.kept (World.grownBy_alloc W o none) (by simp)
theorem Blk.cell {W : World} {B : Nat} {cs : Array Value} {t : TypeId} (h : Blk W B cs t) (i : Nat) : W.cell? ⟨B, i, none⟩ = cs[i]? := by simp [World.cell?, show W.heap[B]? = _ from h]
theorem Blk.frozen {W : World} {B : Nat} {cs : Array Value} {t : TypeId} (h : Blk W B cs t) (i : Nat) : W.frozen? ⟨B, i, none⟩ = false := by simp [World.frozen?, show W.heap[B]? = _ from h]
theorem blk_own {β : Type} (B : Nat) (t : TypeId) (f : β → Array Value) : Own (fun s W => Blk W B (f s) t) := fun s X Y row hs hg hrow =>
  hs.kept hg (fun e' => by obtain ⟨o, ho, hc⟩ := hrow B e'.symm; rw [show X.heap[B]? = _ from hs] at ho; cases ho; cases hc)
theorem Blk.other {W : World} {B B' : Nat} {cs : Array Value} {t : TypeId} (h : Blk W B cs t) (hne : B ≠ B') (u : Value) : Blk (W.setCell ⟨B', 0, none⟩ u) B cs t := h.kept (grownBy_setCell' W B' u) (fun e => hne (by cases e; rfl))

/-- What lies below w's size stands; and there are N blocks. -/
def Gz (w : World) (N : Nat) (W : World) : Prop := Below w.heap.size w W ∧ N ≤ W.heap.size
theorem Gz.own {β : Type} {w : World} {N B : Nat} (hB : w.heap.size ≤ B) : OwnFrom B (fun (_ : β) W => Gz w N W) := fun s W W' row hs hg hr =>
  ⟨ownFrom_below (β := β) (Nat.le_refl _) hB s W W' row hs.1 hg hr, Nat.le_trans hs.2 hg.size⟩
theorem Gz.below {w : World} {N n : Nat} {W W' : World} (h : Gz w N W) (hn : w.heap.size ≤ n) (hb : Below n W W') : Gz w N W' := ⟨h.1.trans (hb.mono hn), Nat.le_trans h.2 hb.size⟩

theorem keepsOthers_below {W W' : World} (hb : Below W.heap.size W W') : KeepsOthers W W' := KeepsOthers.of_grownBy (below_grown hb) (fun _ _ e => by cases e)
theorem fitsAll_of {t : CT} {pre : List (PI t)} (hp : pvals pre = t.parts 1) (h : ∀ x ∈ pre, x.1.1.fits = true) : t.fitsAll = true := by
  unfold CT.fitsAll
  rw [← hp, List.all_eq_true]
  intro x hx
  obtain ⟨y, hy, rfl⟩ := List.mem_map.1 hx
  exact h y hy
theorem not_fitsAll_of {t : CT} {pre : List (PI t)} {x : PI t} (hp : pvals (pre ++ [x]) <+: t.parts 1) (h : x.1.1.fits = false) : t.fitsAll = false := by
  unfold CT.fitsAll
  rw [List.all_eq_false]
  exact ⟨x.1, hp.subset (by simp), by simp [h]⟩

/-- The six cells of a class, as the walk wants them. -/
theorem ct_cells {W : World} {B : Nat} {t : CT} (h : Blk W B t.cells.toArray 26) : W.cell? ⟨B, 0, none⟩ = some (.int .i64 t.kind) ∧ W.cell? ⟨B, 1, none⟩ = some (.string t.name.sp) ∧ W.cell? ⟨B, 2, none⟩ = some (.string t.name.lc) ∧ W.cell? ⟨B, 3, none⟩ = some (.string t.space) ∧
    W.cell? ⟨B, 4, none⟩ = some (.slice t.ea t.ex.length t.ec) ∧ W.cell? ⟨B, 5, none⟩ = some (.slice t.aa t.ar.length t.ac) := by
  have h4 := h.cell 4
  have h5 := h.cell 5
  rw [show t.cells.toArray[4]? = some t.exv from rfl, CT.exv_eq] at h4
  rw [show t.cells.toArray[5]? = some t.arv from rfl, CT.arv_eq] at h5
  exact ⟨h.cell 0, h.cell 1, h.cell 2, h.cell 3, h4, h5⟩
theorem CT.val_eq (t : CT) : t.val = .agg #[.int .i64 t.kind, .string t.name.sp, .string t.name.lc, .string t.space, .slice t.ea t.ex.length t.ec, .slice t.aa t.ar.length t.ac] := by
  unfold CT.val; rw [CT.exv_eq, CT.arv_eq]
theorem CT.cells_eq (t : CT) : t.cells.toArray = #[.int .i64 t.kind, .string t.name.sp, .string t.name.lc, .string t.space, .slice t.ea t.ex.length t.ec, .slice t.aa t.ar.length t.ac] := by
  unfold CT.cells; rw [CT.exv_eq, CT.arv_eq]

set_option maxRecDepth 100000 in
set_option maxHeartbeats 4000000 in
theorem Check_any (t : CT) (ht : t.depth ≤ 1000) (w : World) (hIn : t.In w w.heap.size) :
    Calls Tryz.prog 11 #[t.val] w fun e w' => e = .returned (.int .i64 t.check) ∧ Below w.heap.size w w' := by
  refine (callsIn_wide (n := 9)).1 ?_
  refine callsIn_of_wp_marks Tryz.func11 rfl trivial ?_ rfl
  simp only [Tryz.ntmps11, List.size_toArray, List.length_cons, List.length_nil, Nat.reduceAdd, Nat.reduceSub, Array.replicate_succ, Array.replicate_zero, List.push_toArray, List.append_toArray, List.nil_append, List.cons_append]
  have hP := parts_any t
  have hS := small_any t ht
  rw [CT.val_eq] at hP hS ⊢
  obtain ⟨s, hs⟩ : ∃ s, t.small = s := ⟨_, rfl⟩
  rw [hs] at hS
  have Hs := Lib.hid hs
  clear hs
  obtain ⟨W1, hW1⟩ : ∃ W1, (w.alloc (.cells #[.int .i64 t.kind, .string t.name.sp, .string t.name.lc, .string t.space, .slice t.ea t.ex.length t.ec, .slice t.aa t.ar.length t.ac] 26)).alloc (.cells #[.int .i64 0] 29) = W1 := ⟨_, rfl⟩
  have hB1 : Below w.heap.size w W1 := by rw [← hW1]; exact ((Below.refl _ w).alloc (Nat.le_refl _) _).alloc (by simp) _
  have hsz1 : W1.heap.size = w.heap.size + 2 := by rw [← hW1]; simp
  have d0 : Blk W1 w.heap.size t.cells.toArray 26 := by rw [← hW1, CT.cells_eq]; exact (Blk.new _ _ _).alloc _
  have d1 : Boxed W1 (w.heap.size + 1) 29 (.int .i64 0) := by
    rw [← hW1]
    have := Boxed.new (w.alloc (.cells #[.int .i64 t.kind, .string t.name.sp, .string t.name.lc, .string t.space, .slice t.ea t.ex.length t.ec, .slice t.aa t.ar.length t.ac] 26)) 29 (.int .i64 0)
    rw [World.size_alloc] at this
    exact this
  have hIn1 := hIn.below hB1 (Nat.le_refl _)
  have hSz := Lib.hid hsz1
  obtain ⟨c0, c1, c2, c3, c4, c5⟩ := ct_cells d0
  clear hsz1
  gi_wp2_with (refine ⟨trivial, ?_⟩; gi_at_call 46; refine (callsIn_wide.2 (hS _ (hIn1.mono hB1.size))).mono ?_)
  rintro e W2 ⟨rfl, hb2⟩
  have hs1 : w.heap.size + 2 ≤ W1.heap.size := by rw [hSz.out]; omega
  have hs2 := hb2.size
  have e0 := (d0.below hb2)
  have e1 : Boxed W2 (w.heap.size + 1) 29 (.int .i64 0) := d1.kept (below_grown hb2) (by simp)
  have hB2 := hB1.trans (hb2.mono hB1.size)
  have f1 := e1.frozen
  have g1 := e1.cell
  clear c0 c1 c2 c3 c4 c5
  obtain ⟨c0, c1, c2, c3, c4, c5⟩ := ct_cells e0
  cases s
  · have Hc : Hid (t.check = 3) := Lib.hid (by unfold CT.check; rw [Hs.out]; rfl)
    gi_wp2
    have q1 := (e1.set (.int .i64 3)).cell
    exact ⟨.int .i64 3, by simp [results, Tryz.f11, go_sem, q1], by rw [Hc.out], hB2.setCell (p := ⟨w.heap.size + 1, 0, none⟩) (by simp) _⟩
  · gi_wp2_with (refine ⟨trivial, ?_⟩; gi_at_call 47; refine (callsIn_wide.2 (hP _)).mono ?_)
    rintro e w' ⟨rfl, rfl⟩
    obtain ⟨W3, hW3⟩ : ∃ W3, W2.alloc (.cells t.cells.toArray 26) = W3 := ⟨_, rfl⟩
    have hB3 := (hB2.trans ((Below.refl W2.heap.size W2).alloc (Nat.le_refl _) (.cells t.cells.toArray 26) |>.mono hB2.size))
    have a0 := e0.alloc (.cells t.cells.toArray 26)
    have a1 := e1.alloc (.cells t.cells.toArray 26)
    have a2 := Blk.new W2 t.cells.toArray 26
    have hz3 : W3.heap.size = W2.heap.size + 1 := by rw [← hW3]; simp
    rw [hW3] at hB3 a0 a1 a2
    clear c0 c1 c2 c3 c4 c5 f1 g1
    gi_wp2
    refine wpIn_rangeFunc_ownH rfl (by omega) (gf := 77) (lb := #[.pointer (some ⟨W2.heap.size, 0, none⟩)]) rfl trivial (enters_of Tryz.func77 (by kernel_rfl) rfl)
      (parts_stops _ W2.heap.size w.heap.size (W2.heap.size + 1) t ht W3 (by omega) _ a2 (by omega) (hIn.below hB3 (Nat.le_refl _))) (fun h k => h.trans k) (kpP_b (by omega) (by omega)) (Below.refl _ _) (fun _ => rfl)
      (fun (pre : List (PI t)) W => (Boxed W (w.heap.size + 1) 29 (.int .i64 0) ∧ ∀ x ∈ pre, x.1.1.fits = true) ∧ Gz w W3.heap.size W)
      (fun c (pre : List (PI t)) W => (Boxed W (w.heap.size + 1) 29 (.int .i64 2) ∧ c = .ret ∧ ∃ (ini : List (PI t)) (last : PI t), pre = ini ++ [last] ∧ last.1.1.fits = false) ∧ Gz w W3.heap.size W)
      (OwnFrom.and (Own.from (fun pre A B row hs hg hr => ⟨boxed_own _ _ (fun _ : Unit => Value.int .i64 0) () A B row hs.1 hg hr, hs.2⟩) _) (Gz.own (by omega)))
      (fun c => OwnFrom.and (Own.from (fun pre A B row hs hg hr => ⟨boxed_own _ _ (fun _ : Unit => Value.int .i64 2) () A B row hs.1 hg hr, hs.2⟩) _) (Gz.own (by omega)))
      ⟨⟨a1, by simp⟩, hB3, Nat.le_refl _⟩
      (fun x a' W => ∃ Bx, W3.heap.size ≤ Bx ∧ Blk W Bx x.1.1.cells.toArray 26 ∧ a' = { tmps := #[.agg #[.int .i64 t.kind, .string t.name.sp, .string t.name.lc, .string t.space, .slice t.ea t.ex.length t.ec, .slice t.aa t.ar.length t.ac], .pointer (some ⟨w.heap.size, 0, none⟩), .pointer (some ⟨w.heap.size + 1, 0, none⟩), .pointer (some ⟨Bx, 0, none⟩), .agg #[.int .i64 t.kind, .string t.name.sp, .string t.name.lc, .string t.space, .slice t.ea t.ex.length t.ec, .slice t.aa t.ar.length t.ac], .bool true, .bool false, .agg #[.int .i64 t.kind, .string t.name.sp, .string t.name.lc, .string t.space, .slice t.ea t.ex.length t.ec, .slice t.aa t.ar.length t.ac], .func (.func 77) #[] #[.pointer (some ⟨W2.heap.size, 0, none⟩)], x.1.1.val, .int .i64 (x.1.2 : Int), undef, undef, undef], defers := [] })
      (fun x a' => Own.from (fun _ A B row hs hg hr => by obtain ⟨Bx, h1, h2, h3⟩ := hs; exact ⟨Bx, h1, blk_own _ _ (fun _ : Unit => x.1.1.cells.toArray) () A B row h2 hg hr, h3⟩) _) ?assign ?body ?done ?stop
    case assign =>
      rintro l pre x W K ⟨⟨h1, h2⟩, hB, hN⟩ hK
      simp only [encPI, encP]
      rw [CT.val_eq x.1.1]
      gi_wp2
      refine hK _ _ ((KeepsOthers.alloc _ _).from _) (KpP.of_below hB.size (by omega) ((Below.refl _ _).alloc (Nat.le_refl _) _)) ⟨⟨h1.alloc _, h2⟩, hB.alloc hB.size _, by simp; omega⟩ ⟨W.heap.size, hN, ?_, ?_⟩
      · rw [CT.cells_eq]; exact Blk.new _ _ _
      · rw [CT.val_eq x.1.1]
    case body =>
      rintro l pre x a' W hl ⟨r, hr⟩ ⟨⟨h1, h2⟩, hB, hN⟩ ⟨Bx, hBx, bx, rfl⟩ hlt
      obtain ⟨c0, c1, c2, c3, c4, c5⟩ := ct_cells bx
      have hF := fits_any x.1.1
      rw [CT.val_eq] at hF
      rw [CT.val_eq x.1.1]
      obtain ⟨v, hv⟩ : ∃ v, x.1.1.fits = v := ⟨_, rfl⟩
      rw [hv] at hF
      have Hv := Lib.hid hv
      clear hv
      gi_wp2_with (refine ⟨trivial, ?_⟩; gi_at_call 48; refine (CallsIn.inRound l (callsIn_wide.2 (hF _))).mono ?_)
      rintro e w4 ⟨rfl, hb4⟩
      have k1 : Boxed w4 (w.heap.size + 1) 29 (.int .i64 0) := h1.kept (below_grown hb4) (by simp)
      have kc := k1.cell
      have kf := k1.frozen
      have hko : KeepsOthers W w4 := keepsOthers_below hb4
      clear c0 c1 c2 c3 c4 c5
      cases v
      · gi_wp2
        exact ⟨(hko.trans (KeepsOthers.setCell _ _ _)).from _, ⟨k1.set (.int .i64 2), rfl, pre, x, rfl, Hv.out⟩, (hB.trans (hb4.mono hB.size)).setCell (p := ⟨w.heap.size + 1, 0, none⟩) (by simp) _, by have := hb4.size; simp; omega⟩
      · gi_wp2
        refine ⟨hko.from _, KpP.of_below hB.size (by omega) hb4, ⟨k1, ?_⟩, hB.trans (hb4.mono hB.size), by have := hb4.size; omega⟩
        intro y hy
        rcases List.mem_append.1 hy with hy | hy
        · exact h2 y hy
        · rw [List.mem_singleton.1 hy]; exact Hv.out
    case done =>
      rintro D ys W hD hys ⟨⟨h1, h2⟩, hB, hN⟩ hK
      have Hc : Hid (t.check = 0) := Lib.hid (by unfold CT.check; rw [Hs.out, fitsAll_of hys h2]; rfl)
      clear hys
      have kc := h1.cell
      have kf := h1.frozen
      gi_wp2
      have m1 := h1.set (.int .i64 0)
      have hK' := (KeepsOthers.setCell W ⟨w.heap.size + 1, 0, none⟩ (.int .i64 0)).same D _ hK rfl
      have hB' := hB.setCell (p := ⟨w.heap.size + 1, 0, none⟩) (by simp) (.int .i64 0)
      refine ⟨by simp, .inl ⟨_, _, rfl, run_takeDeferred hK', ?_⟩⟩
      have q1 := (boxed_putObj (o' := .deferred none) m1 hK' rfl).cell
      refine ⟨.int .i64 0, ?_, by rw [Hc.out], hB'.trans (belowK_b (w := w) (Nat.le_refl _) _ D _ _ (by omega) hK' rfl rfl)⟩
      simp [results, Tryz.f11, go_sem, q1]
    case stop =>
      rintro D c pre W hD hpre ⟨⟨h1, rfl, ini, last, rfl, hbad⟩, hB, hN⟩ hK
      have Hc : Hid (t.check = 2) := Lib.hid (by unfold CT.check; rw [Hs.out, not_fitsAll_of hpre hbad]; rfl)
      clear hpre hbad
      gi_wp2
      have q1 := (boxed_putObj (o' := .deferred none) h1 hK rfl).cell
      refine ⟨by simp, .inl ⟨_, _, rfl, run_takeDeferred hK, ?_⟩⟩
      refine ⟨.int .i64 2, ?_, by rw [Hc.out], hB.trans (belowK_b (w := w) (Nat.le_refl _) _ D _ _ (by omega) hK rfl rfl)⟩
      simp [results, Tryz.f11, go_sem, q1]
end Np
end Go.Proofs.YtohlhihhadbphaaGreatDoor

/- The order of names. -/
namespace Go.Proofs.YtohlhihhadbphaaGreatDoor
open Go.RowKit Go.Shelf Go.Lib
namespace Np
set_option maxHeartbeats 1000000 in
theorem Or_any (b c : Nat) (x y : Int) (w : World) (h0 : w.cell? ⟨b, 0, none⟩ = some (.int .i64 x)) (h1 : w.cell? ⟨b, 1, none⟩ = some (.int .i64 y)) :
    Calls Tryz.prog 79 #[.slice (some ⟨b, 0, none⟩) 2 c] w fun e w' => e = .returned (.int .i64 (orI x y)) ∧ w' = w := by
  by_cases hx : x = 0
  · have Hr : Hid (orI x y = y) := Lib.hid (by simp [orI, hx])
    have g1 : (x != 0) = false := by simp [hx]
    have Hx := Lib.hid hx
    clear hx
    by_cases hy : y = 0
    · have g2 : (y != 0) = false := by simp [hy]
      have Hy := Lib.hid hy
      clear hy
      go_enter Tryz.func79, Tryz.ntmps79
      go_wp2
      refine wp_loop_rounds 3 ?_
      rw [rounds_succ]
      go_wp2
      rw [rounds_succ]
      go_wp2
      rw [rounds_succ]
      go_wp2
      go_ret
      exact ⟨ret_int (by rw [Hr.out, Hy.out]), rfl⟩
    · have g2 : (y != 0) = true := by simp [hy]
      clear hy
      go_enter Tryz.func79, Tryz.ntmps79
      go_wp2
      refine wp_loop_rounds 3 ?_
      rw [rounds_succ]
      go_wp2
      rw [rounds_succ]
      go_wp2
      go_ret
      exact ⟨ret_int (by rw [Hr.out]), rfl⟩
  · have Hr : Hid (orI x y = x) := Lib.hid (by simp [orI, hx])
    have g1 : (x != 0) = true := by simp [hx]
    clear hx
    go_enter Tryz.func79, Tryz.ntmps79
    go_wp2
    refine wp_loop_rounds 3 ?_
    rw [rounds_succ]
    go_wp2
    go_ret
    exact ⟨ret_int (by rw [Hr.out]), rfl⟩

theorem grow_drew (w : World) (os : Array Obj) (o : Obj) : ((Go.Sort.grow w os).alloc o).drew = Go.Sort.grow (w.drewN 1) (os ++ #[o]) := by
  rw [Go.Sort.alloc_eq_grow, Go.Sort.grow_grow, Go.Sort.drew_grow]; rfl
set_option maxRecDepth 100000 in
set_option maxHeartbeats 1000000 in
theorem order_any (n m : Name) (w : World) :
    Calls Tryz.prog 51 #[n.val, m.val] w fun e w' => e = .returned (.int .i64 (cmpN n m)) ∧ ∃ q os, w' = Go.Sort.grow (w.drewN q) os := by
  unfold Name.val
  obtain ⟨W0, hW0⟩ : ∃ W0, (w.alloc (.cells #[.string n.sp, .string n.lc] 23)).alloc (.cells #[.string m.sp, .string m.lc] 23) = W0 := ⟨_, rfl⟩
  have hB : Below w.heap.size w W0 := by rw [← hW0]; exact ((Below.refl _ w).alloc (Nat.le_refl _) _).alloc (by simp) _
  have b0 : Blk W0 w.heap.size #[.string n.sp, .string n.lc] 23 := by rw [← hW0]; exact (Blk.new _ _ _).alloc _
  have b1 : Blk W0 (w.heap.size + 1) #[.string m.sp, .string m.lc] 23 := by
    rw [← hW0]; have := Blk.new (w.alloc (.cells #[.string n.sp, .string n.lc] 23)) #[.string m.sp, .string m.lc] 23
    rw [World.size_alloc] at this; exact this
  obtain ⟨Wd, hWd⟩ : ∃ Wd, W0.drew = Wd := ⟨_, rfl⟩
  have a0 : Wd.cell? ⟨w.heap.size, 0, none⟩ = some (.string n.sp) := by rw [← hWd]; exact b0.cell 0
  have a1 : Wd.cell? ⟨w.heap.size, 1, none⟩ = some (.string n.lc) := by rw [← hWd]; exact b0.cell 1
  have a2 : Wd.cell? ⟨w.heap.size + 1, 0, none⟩ = some (.string m.sp) := by rw [← hWd]; exact b1.cell 0
  have a3 : Wd.cell? ⟨w.heap.size + 1, 1, none⟩ = some (.string m.lc) := by rw [← hWd]; exact b1.cell 1
  have hBd : Hid (W0 = Go.Sort.grow w #[.cells #[.string n.sp, .string n.lc] 23, .cells #[.string m.sp, .string m.lc] 23]) := Lib.hid (by rw [← hW0, Go.Sort.alloc_eq_grow, Go.Sort.alloc_eq_grow, Go.Sort.grow_grow]; rfl)
  go_enter Tryz.func51, Tryz.ntmps51
  go_wp2
  refine wp_region_still_tail 10 (by kernel_rfl) (by kernel_rfl) ?_
  clear hW0 hB b0 b1
  show wpStill _ _ W0.drew _ _ _
  rw [hWd]
  clear hWd
  simp only [List.take_succ_cons, List.take_zero, List.drop_succ_cons, List.drop_zero]
  repeat still_step
  still_call (Tryz.strings_Compare _ _ _)
  repeat still_step
  still_call (Tryz.strings_Compare _ _ _)
  refine wpStill_nil ?_
  have k0 : (W0.alloc (.cells #[.int .i64 (compareBytes n.sp.data.toList m.sp.data.toList), .int .i64 (compareBytes n.lc.data.toList m.lc.data.toList)] 3)).drew.cell? ⟨W0.heap.size, 0, none⟩ = some (.int .i64 (compareBytes n.sp.data.toList m.sp.data.toList)) := (Blk.new W0 _ _).cell 0
  have k1 : (W0.alloc (.cells #[.int .i64 (compareBytes n.sp.data.toList m.sp.data.toList), .int .i64 (compareBytes n.lc.data.toList m.lc.data.toList)] 3)).drew.cell? ⟨W0.heap.size, 1, none⟩ = some (.int .i64 (compareBytes n.lc.data.toList m.lc.data.toList)) := (Blk.new W0 _ _).cell 1
  go_wp2_with fail
  refine (Or_any _ _ _ _ _ k0 k1).mono ?_
  rintro e w' ⟨rfl, rfl⟩
  go_wp2
  go_ret
  rw [hBd.out]
  exact ⟨rfl, 1, _, grow_drew _ _ _⟩
theorem below_grow (w : World) (q : Nat) (os : Array Obj) : Below w.heap.size w (Go.Sort.grow (w.drewN q) os) :=
  (below_drewN (Below.refl _ w) q).trans ⟨rfl, rfl, rfl, by rw [Go.Sort.size_grow]; omega, fun k hk => by rw [Go.Sort.heap_grow_old _ _ (by simpa using hk)]⟩

set_option maxHeartbeats 1000000 in
theorem Less_any (n m : Name) (w : World) :
    Calls Tryz.prog 13 #[n.val, m.val] w fun e w' => e = .returned (.bool (decide (cmpN n m < 0))) ∧ Below w.heap.size w w' := by
  have h := order_any n m
  unfold Name.val at h ⊢
  go_enter Tryz.func13, Tryz.ntmps13
  go_wp2_with (go_at_call 51; refine (h _).mono ?_)
  rintro e w' ⟨rfl, q, os, rfl⟩
  go_wp2
  go_ret
  exact ⟨rfl, (((Below.refl _ w).alloc (Nat.le_refl _) _).alloc (by simp) _).trans ((below_grow _ q os).mono (by simp; omega))⟩
end Np
end Go.Proofs.YtohlhihhadbphaaGreatDoor

/- holds: is a name in the set of a class? -/
namespace Go.Proofs.YtohlhihhadbphaaGreatDoor
open Go.RowKit Go.Shelf Go.Lib
namespace Np
set_option maxHeartbeats 1000000 in
theorem IndexFunc_none (a : Option Addr) (c : Nat) (f : Value) (w : World) :
    Calls Tryz.prog 96 #[.slice a 0 c, f] w fun e w' => e = .returned (.int .i64 (-1)) ∧ w' = w := by
  go_enter Tryz.func96, Tryz.ntmps96
  go_wp2
  refine wp_loop_rounds 1 ?_
  rw [rounds_succ]
  go_wp2
  go_ret
  exact ⟨rfl, rfl⟩
set_option maxHeartbeats 1000000 in
theorem ContainsFunc_none (a : Option Addr) (c : Nat) (f : Value) (w : World) :
    Calls Tryz.prog 76 #[.slice a 0 c, f] w fun e w' => e = .returned (.bool false) ∧ w' = w := by
  go_enter Tryz.func76, Tryz.ntmps76
  go_wp2_with (go_at_call 96; refine (IndexFunc_none _ _ _ _).mono ?_; rintro e w' ⟨rfl, rfl⟩)
  go_ret
  exact ⟨rfl, rfl⟩

def HoldsFor (D : Nat) : Prop := ∀ (t : CT) (n : Name) (w : World), t.depth ≤ D → t.In w w.heap.size → Calls Tryz.prog 44 #[t.val, n.val] w fun e w' => e = .returned (.bool (t.holds n)) ∧ Below w.heap.size w w'

set_option maxHeartbeats 1000000 in
/-- The closure: is the name, which lies in block B, in the set of a class? -/
theorem inside_any (D : Nat) (hD : HoldsFor D) (t : CT) (n : Name) (B : Nat) (w : World) (ht : t.depth ≤ D) (hIn : t.In w w.heap.size) (hB : Blk w B #[.string n.sp, .string n.lc] 23) :
    Calls Tryz.prog 75 #[t.val, .pointer (some ⟨B, 0, none⟩)] w fun e w' => e = .returned (.bool (t.holds n)) ∧ Below w.heap.size w w' := by
  have hb : Below w.heap.size w (w.alloc (.cells #[.int .i64 t.kind, .string t.name.sp, .string t.name.lc, .string t.space, .slice t.ea t.ex.length t.ec, .slice t.aa t.ar.length t.ac] 26)) := (Below.refl _ _).alloc (Nat.le_refl _) _
  have h := hD t n _ ht ((hIn.below hb (Nat.le_refl _)).mono hb.size)
  have hl := hB.lt
  have c0 := hB.cell 0
  have c1 := hB.cell 1
  rw [CT.val_eq] at h ⊢
  unfold Name.val at h
  go_enter Tryz.func75, Tryz.ntmps75
  go_wp2_with (go_at_call 44; refine h.mono ?_)
  rintro e w' ⟨rfl, hb2⟩
  go_wp2
  go_ret
  exact ⟨rfl, hb.trans (hb2.mono hb.size)⟩

/-- slices.ContainsFunc of a list of classes with that closure. -/
theorem contains_any (D : Nat) (hD : HoldsFor D) (n : Name) (B : Nat) (a : Option Addr) (c : Nat) (lst : List CT) (w : World) (hB : Blk w B #[.string n.sp, .string n.lc] 23) (hd : ∀ u ∈ lst, u.depth ≤ D) (hin : ∀ u ∈ lst, u.In w w.heap.size) (hrow : RowIn w w.heap.size a lst) :
    Calls Tryz.prog 76 #[.slice a lst.length c, .func (.func 75) #[] #[.pointer (some ⟨B, 0, none⟩)]] w fun e w' => e = .returned (.bool (lst.any fun u => u.holds n)) ∧ Below w.heap.size w w' := by
  cases hl : lst with
  | nil => exact (ContainsFunc_none a c _ w).mono fun e w' ⟨he, hw⟩ => ⟨he, hw ▸ Below.refl _ _⟩
  | cons u0 rest =>
    rw [← hl]
    obtain ⟨hm, hne⟩ := hrow
    obtain ⟨b, o, rfl, hbn, hcell⟩ := hne (by rw [hl]; simp)
    letI : Inhabited { u : CT // u ∈ lst } := ⟨⟨u0, by rw [hl]; exact List.mem_cons_self ..⟩⟩
    unfold maxLen at hm
    have hz : lst.attach.length = lst.length := List.length_attach
    have hcon := AnyQ.slices_ContainsFunc Tryz.containsC 6 Tryz.isAgg26 Tryz.sizeOf26 (fun u : { u : CT // u ∈ lst } => u.1.cells) (fun _ => rfl) (fun u => u.1.holds n) 75 #[.pointer (some ⟨B, 0, none⟩)] (enters_of Tryz.func75 (by kernel_rfl) rfl) b o lst.length c lst.attach w
      (fun W x hb => by
        show Calls Tryz.prog 75 #[.agg x.1.cells.toArray, .pointer (some ⟨B, 0, none⟩)] W _
        rw [CT.cells_eq, ← CT.val_eq]
        exact (inside_any D hD x.1 n B W (hd _ x.2) (((hin _ x.2).below hb (Nat.le_refl _)).mono hb.size) (hB.below hb)).mono fun e w' ⟨he, h⟩ => ⟨he, hb.trans (h.mono hb.size)⟩)
      (Nat.le_of_eq hz.symm) (by omega) hbn
      (fun j hj i v hv => by
        rw [hz] at hj
        have e : (lst.attach[j]!).1 = lst[j] := by
          rw [getElem!_pos _ _ (by rw [hz]; exact hj), List.getElem_attach]
        rw [e] at hv
        exact hcell j hj i v hv)
    rw [← hz, List.take_length] at hcon
    rw [hz] at hcon
    have e : (lst.attach.any fun u => u.1.holds n) = lst.any fun u => u.holds n := by
      have e2 : (lst.attach.map Subtype.val).any (fun u => u.holds n) = lst.attach.any fun u => u.val.holds n := by rw [List.any_map]; rfl
      rw [← e2, List.attach_map_subtype_val]
    rw [e] at hcon
    exact hcon

set_option maxRecDepth 100000 in
set_option maxHeartbeats 2000000 in
theorem holds_step (D : Nat) (hD : HoldsFor D) : HoldsFor (D + 1) := by
  intro t n w ht hIn
  have hI := CT.in_iff.1 hIn
  obtain ⟨v, hv⟩ : ∃ v, t.holds n = v := ⟨_, rfl⟩
  have Hv := Lib.hid hv
  rw [CT.holds_eq] at hv
  obtain ⟨W1, hW1⟩ : ∃ W1, (w.alloc (.cells #[.int .i64 t.kind, .string t.name.sp, .string t.name.lc, .string t.space, .slice t.ea t.ex.length t.ec, .slice t.aa t.ar.length t.ac] 26)).alloc (.cells #[.string n.sp, .string n.lc] 23) = W1 := ⟨_, rfl⟩
  have hb : Below w.heap.size w W1 := by rw [← hW1]; exact ((Below.refl _ w).alloc (Nat.le_refl _) _).alloc (by simp) _
  have hB : Blk W1 (w.heap.size + 1) #[.string n.sp, .string n.lc] 23 := by
    rw [← hW1]
    have := Blk.new (w.alloc (.cells #[.int .i64 t.kind, .string t.name.sp, .string t.name.lc, .string t.space, .slice t.ea t.ex.length t.ec, .slice t.aa t.ar.length t.ac] 26)) #[.string n.sp, .string n.lc] 23
    rw [World.size_alloc] at this; exact this
  have hC : Blk W1 w.heap.size t.cells.toArray 26 := by rw [← hW1, CT.cells_eq]; exact (Blk.new _ _ _).alloc _
  obtain ⟨c0, c1, c2, c3, c4, c5⟩ := ct_cells hC
  have n0 := hB.cell 0
  have n1 := hB.cell 1
  have hE := contains_any D hD n (w.heap.size + 1) t.ea t.ec t.ex W1 hB (fun u hu => by have := CT.depth_ex hu; omega) (fun u hu => ((hI.2.2.2.2.1 u hu).below hb (Nat.le_refl _)).mono hb.size) ((hI.2.2.1.below hb (Nat.le_refl _)).mono hb.size)
  have hA := contains_any D hD n (w.heap.size + 1) t.aa t.ac t.ar W1 hB (fun u hu => by have := CT.depth_ar hu; omega) (fun u hu => ((hI.2.2.2.2.2 u hu).below hb (Nat.le_refl _)).mono hb.size) ((hI.2.2.2.1.below hb (Nat.le_refl _)).mono hb.size)
  obtain ⟨ve, hve⟩ : ∃ v, (t.ex.any fun u => u.holds n) = v := ⟨_, rfl⟩
  obtain ⟨va, hva⟩ : ∃ v, (t.ar.any fun u => u.holds n) = v := ⟨_, rfl⟩
  rw [hve] at hE hv
  rw [hva] at hA hv
  have eN := eqN t.name n
  have gN := fun op x y => guardN op x y t.name n
  clear hI hve hva
  rw [Hv.out, CT.val_eq]
  unfold Name.val
  have e2 : (t.space.toList == n.sp.toList) = decide (t.space = n.sp) := by
    rw [Bool.eq_iff_iff]; simp only [beq_iff_eq, decide_eq_true_eq, ba_inj]
  obtain ⟨b1, hb1⟩ : ∃ b, decide (t.name = n) = b := ⟨_, rfl⟩
  obtain ⟨b2, hb2⟩ : ∃ b, decide (t.space = n.sp) = b := ⟨_, rfl⟩
  rw [hb1] at eN hv
  rw [hb2] at e2 hv
  clear hb1 hb2
  by_cases k1 : t.kind = 1
  · rw [if_pos k1] at hv
    subst hv
    have g1 : (t.kind == 1) = true := by rw [k1]; rfl
    clear k1
    go_enter Tryz.func44, Tryz.ntmps44
    go_wp2
    go_ret
    exact ⟨rfl, hb⟩
  · rw [if_neg k1] at hv
    have g1 : (t.kind == 1) = false := by simpa using k1
    clear k1
    by_cases k2 : t.kind = 2
    · rw [if_pos k2] at hv
      have g2 : (t.kind == 2) = true := by rw [k2]; rfl
      clear k2
      have Hvv := Lib.hid hv
      clear hv
      cases b2
      · go_enter Tryz.func44, Tryz.ntmps44
        go_wp2
        go_ret
        exact ⟨ret_bool (by rw [← Hvv.out]; rfl), hb⟩
      · go_enter Tryz.func44, Tryz.ntmps44
        go_wp2_with (go_at_call 76; refine hE.mono ?_)
        rintro e w2 ⟨rfl, hb2⟩
        go_wp2
        go_ret
        exact ⟨ret_bool (by rw [← Hvv.out]; rfl), hb.trans (hb2.mono hb.size)⟩
    · rw [if_neg k2] at hv
      have g2 : (t.kind == 2) = false := by simpa using k2
      clear k2
      by_cases k4 : t.kind = 4
      · rw [if_pos k4] at hv
        have g4 : (t.kind == 4) = true := by rw [k4]; rfl
        clear k4
        subst hv
        go_enter Tryz.func44, Tryz.ntmps44
        go_wp2_with (go_at_call 76; refine hA.mono ?_)
        rintro e w2 ⟨rfl, hb2⟩
        go_wp2
        go_ret
        exact ⟨rfl, hb.trans (hb2.mono hb.size)⟩
      · rw [if_neg k4] at hv
        have g4 : (t.kind == 4) = false := by simpa using k4
        clear k4
        have Hvv := Lib.hid hv
        clear hv
        go_enter Tryz.func44, Tryz.ntmps44
        go_wp2_with (go_at_call 76; refine hE.mono ?_)
        rintro e w2 ⟨rfl, hb2⟩
        go_wp2
        go_ret
        exact ⟨ret_bool Hvv.out, hb.trans (hb2.mono hb.size)⟩
theorem holds_any (t : CT) (n : Name) (w : World) (hIn : t.In w w.heap.size) : Calls Tryz.prog 44 #[t.val, n.val] w fun e w' => e = .returned (.bool (t.holds n)) ∧ Below w.heap.size w w' := by
  have h : ∀ D, HoldsFor D := fun D => by
    induction D with
    | zero => intro t n w ht; rw [CT.depth_eq] at ht; omega
    | succ D ih => exact holds_step D ih
  exact h t.depth t n w (Nat.le_refl _) hIn
end Np
end Go.Proofs.YtohlhihhadbphaaGreatDoor

/- checkAll and Has. -/
namespace Go.Proofs.YtohlhihhadbphaaGreatDoor
open Go.RowKit Go.Shelf Go.Lib
namespace Np
/-- The first error of some classes. -/
def chkL : List CT → Int
  | [] => 0
  | t :: r => if t.check = 0 then chkL r else t.check
theorem chkL_append (a b : List CT) (h : ∀ u ∈ a, u.check = 0) : chkL (a ++ b) = chkL b := by
  induction a with
  | nil => rfl
  | cons t r ih => rw [List.cons_append, chkL, if_pos (h t (List.mem_cons_self ..)), ih (fun u hu => h u (List.mem_cons_of_mem _ hu))]
theorem chkL_zero (a : List CT) (h : ∀ u ∈ a, u.check = 0) : chkL a = 0 := by
  have := chkL_append a [] h
  rw [List.append_nil] at this; exact this
/-- A list of classes in memory. -/
structure LIn (W : World) (n : Nat) (a : Option Addr) (l : List CT) : Prop where
  row : RowIn W n a l
  ins : ∀ u ∈ l, u.In W n
theorem LIn.below {W W' : World} {n m : Nat} {a : Option Addr} {l : List CT} (h : LIn W n a l) (hb : Below m W W') (hn : n ≤ m) : LIn W' n a l := ⟨h.row.below hb hn, fun u hu => (h.ins u hu).below hb hn⟩
theorem LIn.mono {W : World} {n m : Nat} {a : Option Addr} {l : List CT} (h : LIn W n a l) (hn : n ≤ m) : LIn W m a l := ⟨h.row.mono hn, fun u hu => (h.ins u hu).mono hn⟩

set_option maxRecDepth 100000 in
set_option maxHeartbeats 2000000 in
theorem checkAll_any (a : Option Addr) (c : Nat) (lst : List CT) (w : World) (hL : LIn w w.heap.size a lst) (hd : ∀ u ∈ lst, u.depth ≤ 1000) :
    Calls Tryz.prog 69 #[.slice a lst.length c] w fun e w' => e = .returned (.int .i64 (chkL lst)) ∧ Below w.heap.size w w' := by
  have hml := hL.row.1
  unfold maxLen at hml
  obtain ⟨r, hr⟩ : ∃ r, chkL lst = r := ⟨_, rfl⟩
  rw [hr]
  have Hr := Lib.hid hr
  clear hr
  go_enter Tryz.func69, Tryz.ntmps69
  go_wp2
  go_loopw [8] (fun i wr => ∃ k : Nat, k ≤ lst.length ∧ i = .int .i64 k ∧ (∀ u ∈ lst.take k, u.check = 0) ∧ Below w.heap.size w wr) (fun i _ => lst.length - (intOf i).toNat)
  case atStart => exact ⟨0, by omega, rfl, by simp, Below.refl _ _⟩
  case round =>
    obtain ⟨k, hk, rfl, hz, hb⟩ := hrel
    by_cases hlt : k < lst.length
    · obtain ⟨u, hu⟩ : ∃ u, lst[k] = u := ⟨_, rfl⟩
      have hmem : u ∈ lst := by rw [← hu]; exact List.getElem_mem hlt
      obtain ⟨b, o, rfl, hbn, hcells⟩ := hL.row.2 (List.ne_nil_of_length_pos (by omega))
      have hcu : ∀ i v, u.cells[i]? = some v → wr.cell? ⟨b, o + k * 6 + i, none⟩ = some v := fun i v hv => (hb.cell (p := ⟨b, o + k * 6 + i, none⟩) hbn).trans (hcells k hlt i v (by rw [hu]; exact hv))
      have u0 := hcu 0 _ rfl
      have u1 := hcu 1 _ rfl
      have u2 := hcu 2 _ rfl
      have u3 := hcu 3 _ rfl
      have u4 := hcu 4 _ rfl
      have u5 := hcu 5 _ rfl
      rw [Nat.add_zero] at u0
      rw [CT.exv_eq] at u4
      rw [CT.arv_eq] at u5
      have hbw : Below wr.heap.size wr (wr.alloc (.cells #[.int .i64 u.kind, .string u.name.sp, .string u.name.lc, .string u.space, .slice u.ea u.ex.length u.ec, .slice u.aa u.ar.length u.ac] 26)) := (Below.refl _ _).alloc (Nat.le_refl _) _
      have hC := Check_any u (hd u hmem) _ (((hL.ins u hmem).below (hb.trans (hbw.mono hb.size)) (Nat.le_refl _)).mono (Nat.le_trans hb.size hbw.size))
      rw [CT.val_eq] at hC
      have Hz := Lib.hid hz
      have Hu : Hid (lst.take (k + 1) = lst.take k ++ [u] ∧ lst = lst.take k ++ u :: lst.drop (k + 1)) := Lib.hid ⟨by rw [List.take_succ_eq_append_getElem hlt, hu], by rw [← hu]; simp⟩
      clear hu hcu hcells hz
      by_cases hz : u.check = 0
      · have g1 : (u.check != 0) = false := by simp [hz]
        have HZ := Lib.hid hz
        clear hz
        go_wp2_with (go_at_call 11; refine hC.mono ?_)
        rintro e w2 ⟨rfl, hb2⟩
        go_wp2
        go_roundw
        case rel =>
          have hrl : ∃ k' : Nat, k' ≤ lst.length ∧ Value.int .i64 ((k : Int) + 1) = .int .i64 k' ∧ (∀ u ∈ lst.take k', u.check = 0) ∧ Below w.heap.size w w2 := ⟨k + 1, by omega, by go_num, by
            rw [Hu.out.1]; intro x hx
            rcases List.mem_append.1 hx with hx | hx
            · exact Hz.out x hx
            · rw [List.mem_singleton.1 hx]; exact HZ.out, hb.trans ((hbw.trans (hb2.mono hbw.size)).mono hb.size)⟩
          first
            | exact hrl
            | ((repeat apply Exists.intro); exact ⟨hrl, rfl⟩)
        case measure =>
          have e3 : ((k : Int) + 1).toNat = k + 1 := by omega
          simp only [intOf, e3, Int.toNat_natCast]
          omega
      · have g1 : (u.check != 0) = true := by simp [hz]
        have Hres : Hid (r = u.check) := Lib.hid (by rw [← Hr.out, Hu.out.2, chkL_append _ _ Hz.out, chkL, if_neg hz])
        clear hz
        go_wp2_with (go_at_call 11; refine hC.mono ?_)
        rintro e w2 ⟨rfl, hb2⟩
        go_wp2
        go_ret
        exact ⟨ret_int (by rw [Hres.out]), hb.trans ((hbw.trans (hb2.mono hbw.size)).mono hb.size)⟩
    · obtain rfl : k = lst.length := by omega
      rw [List.take_length] at hz
      have Hres : Hid (r = 0) := Lib.hid (by rw [← Hr.out, chkL_zero _ hz])
      clear hz
      go_wp2
      go_ret
      exact ⟨ret_int (by rw [Hres.out]), hb⟩
/-- What Has answers. -/
def hasR (t : CT) (n : Name) : Bool × Int := if t.check ≠ 0 then (false, t.check) else if validN n = false then (false, 2) else (t.holds n, 0)
theorem pair_eq {a a' : Bool} {b b' : Int} (h : (a, b) = (a', b')) : Ending.returned (.tuple #[.bool a, .int .i64 b]) = .returned (.tuple #[.bool a', .int .i64 b']) := by cases h; rfl
set_option maxRecDepth 100000 in
set_option maxHeartbeats 2000000 in
theorem Has_any (t : CT) (n : Name) (w : World) (ht : t.depth ≤ 1000) (hIn : t.In w w.heap.size) :
    Calls Tryz.prog 9 #[t.val, n.val] w fun e w' => e = .returned (.tuple #[.bool (hasR t n).1, .int .i64 (hasR t n).2]) ∧ Below w.heap.size w w' := by
  obtain ⟨r1, hr1⟩ : ∃ v, (hasR t n).1 = v := ⟨_, rfl⟩
  obtain ⟨r2, hr2⟩ : ∃ v, (hasR t n).2 = v := ⟨_, rfl⟩
  rw [hr1, hr2]
  have Hr : Hid (hasR t n = (r1, r2)) := Lib.hid (by rw [← hr1, ← hr2])
  clear hr1 hr2
  obtain ⟨W1, hW1⟩ : ∃ W1, (w.alloc (.cells #[.int .i64 t.kind, .string t.name.sp, .string t.name.lc, .string t.space, .slice t.ea t.ex.length t.ec, .slice t.aa t.ar.length t.ac] 26)).alloc (.cells #[.string n.sp, .string n.lc] 23) = W1 := ⟨_, rfl⟩
  have hb : Below w.heap.size w W1 := by rw [← hW1]; exact ((Below.refl _ w).alloc (Nat.le_refl _) _).alloc (by simp) _
  have hB : Blk W1 (w.heap.size + 1) #[.string n.sp, .string n.lc] 23 := by
    rw [← hW1]
    have := Blk.new (w.alloc (.cells #[.int .i64 t.kind, .string t.name.sp, .string t.name.lc, .string t.space, .slice t.ea t.ex.length t.ec, .slice t.aa t.ar.length t.ac] 26)) #[.string n.sp, .string n.lc] 23
    rw [World.size_alloc] at this; exact this
  have hC : Blk W1 w.heap.size t.cells.toArray 26 := by rw [← hW1, CT.cells_eq]; exact (Blk.new _ _ _).alloc _
  obtain ⟨c0, c1, c2, c3, c4, c5⟩ := ct_cells hC
  have n0 := hB.cell 0
  have n1 := hB.cell 1
  have hIn1 := (hIn.below hb (Nat.le_refl _)).mono hb.size
  have hK := Check_any t ht W1 hIn1
  have hV := valid_any n
  have hH := fun w' (h : Below W1.heap.size W1 w') => holds_any t n w' ((hIn1.below h (Nat.le_refl _)).mono h.size)
  rw [CT.val_eq] at *
  unfold Name.val at hV hH ⊢
  by_cases h0 : t.check = 0
  · have g0 : (t.check != 0) = false := by simp [h0]
    obtain ⟨k, hk⟩ : ∃ k, t.check = k := ⟨_, rfl⟩
    rw [hk] at hK g0
    obtain ⟨v, hv⟩ : ∃ v, validN n = v := ⟨_, rfl⟩
    rw [hv] at hV
    have H0 := Lib.hid h0
    have HV := Lib.hid hv
    clear h0 hk hv
    go_enter Tryz.func9, Tryz.ntmps9
    go_wp2_with (go_at_call 11; refine hK.mono ?_)
    rintro e w2 ⟨rfl, hb2⟩
    have hB2 := hB.below hb2
    have m0 := hB2.cell 0
    have m1 := hB2.cell 1
    obtain ⟨e0, e1, e2, e3, e4, e5⟩ := ct_cells (hC.below hb2)
    go_wp2_with (go_at_call 43; refine (hV _).mono ?_)
    rintro e w3 ⟨rfl, hb3⟩
    have hb23 := hb2.trans (hb3.mono hb2.size)
    have hB3 := hB2.below hb3
    have q0 := hB3.cell 0
    have q1 := hB3.cell 1
    obtain ⟨p0, p1, p2, p3, p4, p5⟩ := ct_cells ((hC.below hb2).below hb3)
    clear m0 m1 e0 e1 e2 e3 e4 e5 n0 n1 c0 c1 c2 c3 c4 c5
    cases v
    · go_wp2
      go_ret2
      exact ⟨pair_eq (by rw [← Hr.out]; unfold hasR; rw [if_neg (by simpa using H0.out), if_pos HV.out]), hb.trans (hb23.mono hb.size)⟩
    · go_wp2_with (go_at_call 44; refine (hH _ hb23).mono ?_)
      rintro e w4 ⟨rfl, hb4⟩
      go_wp2
      go_ret2
      exact ⟨pair_eq (by rw [← Hr.out]; unfold hasR; rw [if_neg (by simpa using H0.out), if_neg (by rw [HV.out]; simp)]), hb.trans ((hb23.trans (hb4.mono hb23.size)).mono hb.size)⟩
  · have g0 : (t.check != 0) = true := by simp [h0]
    have H0 := Lib.hid h0
    clear h0
    go_enter Tryz.func9, Tryz.ntmps9
    go_wp2_with (go_at_call 11; refine hK.mono ?_)
    rintro e w2 ⟨rfl, hb2⟩
    go_wp2
    go_ret2
    exact ⟨pair_eq (by rw [← Hr.out]; unfold hasR; rw [if_pos H0.out]), hb.trans (hb2.mono hb.size)⟩
end Np
end Go.Proofs.YtohlhihhadbphaaGreatDoor
