/- chars.Local. -/
import Derived.Test.YthfmnhhennbjnaaDoorCkIter
import Derived.RangeFuncBox
namespace Go.Proofs.YthfmnhhennbjnaaDoor
open Go.RowKit Go.Shelf
attribute [local go_sem] Oper.semAt_some
namespace Ck

theorem Inner_is (c : Int) (v : Bool) (hv : innerB c = v) (w : World) (hG : G w) :
    Calls Tryd.prog 14 #[.int .i32 c] w fun e w' => e = .returned (.bool v) ∧ Below w.heap.size w w' := by
  rw [← hv]; exact Inner_any c w hG
theorem First_is (c : Int) (v : Bool) (hv : firstB c = v) (w : World) (hG : G w) :
    Calls Tryd.prog 12 #[.int .i32 c] w fun e w' => e = .returned (.bool v) ∧ Below w.heap.size w w' := by
  rw [← hv]; exact First_any c w hG
theorem keeps_of_below {w w' : World} (h : Below w.heap.size w w') : KeepsOthers w w' := ⟨h.size, fun k _ hk _ => (h.block k (Array.getElem?_eq_some_iff.1 hk).1).trans hk⟩

/-- How a round of Local ends. -/
theorem okI_first {x : Nat × Int} (h : ((x.1 : Int) == 0) = true) (hf : firstB x.2 = false) : okI x = false := by
  have : x.1 = 0 := by simpa using h
  simp [okI, this, hf]
theorem okI_inner {x : Nat × Int} (hi : innerB x.2 = false) : okI x = false := by simp [okI, hi]
theorem okI_yes {x : Nat × Int} (h : ((x.1 : Int) == 0) = false ∨ firstB x.2 = true) (hi : innerB x.2 = true) : okI x = true := by
  rcases h with h | h
  · have : ¬ x.1 = 0 := by simpa using h
    simp [okI, this, hi]
  · simp [okI, h, hi]
theorem all_snoc {α : Type} (f : α → Bool) (l : List α) (x : α) : (l ++ [x]).all f = (l.all f && f x) := by simp
theorem all_prefix {α : Type} {f : α → Bool} {a b : List α} (h : a <+: b) (ha : a.all f = false) : b.all f = false := by
  obtain ⟨r, rfl⟩ := h
  rw [List.all_append, ha]; rfl

set_option maxRecDepth 100000 in
set_option maxHeartbeats 4000000 in
theorem Local_mid (s : ByteArray) (cs : List Int) (rest : List UInt8) (hS : Split s.data.toList cs rest) (w : World) (hG : G w) (e1 : s.toList.isEmpty = false) (hsz : decide ((200 : Int) < s.size) = false) (hss : s.size ≤ 70368744177664) :
    Calls Tryd.prog 16 #[.string s] w fun e w' => e = .returned (.bool ((items cs rest).all okI)) ∧ Below w.heap.size w w' := by
  have hG4 := hG.size
  refine (callsIn_wide (n := 9)).1 ?_
  refine callsIn_of_wp_marks Tryd.func16 rfl trivial ?_ rfl
  simp only [Tryd.ntmps16, List.size_toArray, List.length_cons, List.length_nil, Nat.reduceAdd, Nat.reduceSub, Array.replicate_succ, Array.replicate_zero, List.push_toArray, List.append_toArray, List.nil_append, List.cons_append]
  gi_wp2_with (refine ⟨trivial, ?_⟩; gi_at_call 31; refine (callsIn_wide.2 (characters_in _ _)).mono ?_; rintro e w' ⟨rfl, rfl⟩)
  have bR := Boxed.new w 4 (.bool false)
  have bN := Boxed.new (w.alloc (.cells #[.bool false] 4)) 9 (.string s)
  rw [World.size_alloc] at bN
  have hB0 : Below w.heap.size w ((w.alloc (.cells #[.bool false] 4)).alloc (.cells #[.string s] 9)) := ((Below.refl _ w).alloc (Nat.le_refl _) _).alloc (by simp) _
  have hG2 : G ((w.alloc (.cells #[.bool false] 4)).alloc (.cells #[.string s] 9)) := hG.below hG4 hB0
  have hbx : ((w.alloc (.cells #[.bool false] 4)).alloc (.cells #[.string s] 9)).heap[w.heap.size + 1]? = some (.cells #[.string s] 9) := by
    have := World.alloc_heap_new (w.alloc (.cells #[.bool false] 4)) (.cells #[.string s] 9)
    rwa [World.size_alloc] at this
  refine wpIn_rangeFunc_ownG rfl (by omega) (gf := 46) (lb := #[.pointer (some ⟨w.heap.size + 1, 0, none⟩)]) rfl trivial (enters_of Tryd.func46 (by kernel_rfl) rfl)
    (chars_stops _ (by omega) (w.heap.size + 1) w.heap.size hG4 s hss cs rest hS _ hG2 _ hbx (by simp; omega)) (fun h k => h.trans k) (kpC_b (by simp; omega) (by simp)) (Below.refl _ _) (fun _ => rfl)
    (fun pre W => (pre.all okI = true ∧ W.cell? ⟨w.heap.size, 0, none⟩ = some (.bool false) ∧ W.frozen? ⟨w.heap.size, 0, none⟩ = false) ∧ Gr w 1 W)
    (fun c pre W => (c = .ret ∧ pre.all okI = false ∧ W.cell? ⟨w.heap.size, 0, none⟩ = some (.bool false)) ∧ Gr w 1 W)
    (OwnFrom.and (Own.from (fun s A B row hs hg hr => ⟨hs.1, cell_kept hs.2.1 hg hr, (frozen_kept hs.2.1 hg hr).trans hs.2.2⟩) _) (Gr.own (by simp; omega)))
    (fun c => OwnFrom.and (Own.from (fun s A B row hs hg hr => ⟨hs.1, hs.2.1, cell_kept hs.2.2 hg hr⟩) _) (Gr.own (by simp; omega)))
    ⟨⟨rfl, (bR.alloc _).cell, (bR.alloc _).frozen⟩, hB0, by simp⟩
    ?a1 ?assign ?body ?done ?stop
  case assign =>
    intro l x W K hK
    simp only [encI]
    gi_wp2
    exact hK
  case body =>
    rintro l pre x W ⟨⟨hp, hc, hf⟩, hB⟩ hlt
    have hGW := hG.below hG4 hB.1
    have hsW := hB.2
    have out : pre.all okI = true → ∀ v, okI x = v → (pre ++ [x]).all okI = v := by
      intro h v hv
      rw [all_snoc, h, hv]; rfl
    have Out := Lib.hid (out hp)
    clear out hp
    cases hz : ((x.1 : Int) == 0)
    · gi_wp2
      refine ⟨trivial, ?_⟩
      cases hi : innerB x.2
      · gi_wp2_with (refine ⟨trivial, ?_⟩; gi_at_call 14; refine (CallsIn.inRound l (callsIn_wide.2 (Inner_is _ false hi _ hGW))).mono ?_)
        rintro e w1 ⟨rfl, hb1⟩
        have hB1 := hB.below (Nat.le_of_lt (Nat.lt_of_le_of_lt (Nat.le_add_right _ 1) hsW)) hb1
        have hc1 : w1.cell? ⟨w.heap.size, 0, none⟩ = some (.bool false) := (hb1.cell (p := ⟨w.heap.size, 0, none⟩) (show w.heap.size < W.heap.size by omega)).trans hc
        have hf1 : w1.frozen? ⟨w.heap.size, 0, none⟩ = false := (hb1.frozen (p := ⟨w.heap.size, 0, none⟩) (show w.heap.size < W.heap.size by omega)).trans hf
        have hk1 : KpC w.heap.size (w.heap.size + 1) W w1 := KpC.of_below (by omega) hsW hb1
        have ho1 := keeps_of_below hb1
        gi_wp2
        exact ⟨(ho1.trans (KeepsOthers.setCell _ _ _)).from _, ⟨rfl, Out.out _ (okI_inner hi), World.cell?_setCell_same' _ _ _ (by rw [hc1]; rfl)⟩, hB1.below (Nat.le_refl _) ((Below.refl w.heap.size w1).setCell (p := ⟨w.heap.size, 0, none⟩) (Nat.le_refl _) _)⟩
      · gi_wp2_with (refine ⟨trivial, ?_⟩; gi_at_call 14; refine (CallsIn.inRound l (callsIn_wide.2 (Inner_is _ true hi _ hGW))).mono ?_)
        rintro e w1 ⟨rfl, hb1⟩
        have hB1 := hB.below (Nat.le_of_lt (Nat.lt_of_le_of_lt (Nat.le_add_right _ 1) hsW)) hb1
        have hc1 : w1.cell? ⟨w.heap.size, 0, none⟩ = some (.bool false) := (hb1.cell (p := ⟨w.heap.size, 0, none⟩) (show w.heap.size < W.heap.size by omega)).trans hc
        have hf1 : w1.frozen? ⟨w.heap.size, 0, none⟩ = false := (hb1.frozen (p := ⟨w.heap.size, 0, none⟩) (show w.heap.size < W.heap.size by omega)).trans hf
        have hk1 : KpC w.heap.size (w.heap.size + 1) W w1 := KpC.of_below (by omega) hsW hb1
        have ho1 := keeps_of_below hb1
        gi_wp2
        exact ⟨ho1.from _, hk1, ⟨Out.out _ (okI_yes (.inl hz) hi), hc1, hf1⟩, hB1⟩
    · cases hfi : firstB x.2
      · gi_wp2_with (refine ⟨trivial, ?_⟩; gi_at_call 12; refine (CallsIn.inRound l (callsIn_wide.2 (First_is _ false hfi _ hGW))).mono ?_)
        rintro e w1 ⟨rfl, hb1⟩
        have hB1 := hB.below (Nat.le_of_lt (Nat.lt_of_le_of_lt (Nat.le_add_right _ 1) hsW)) hb1
        have hc1 : w1.cell? ⟨w.heap.size, 0, none⟩ = some (.bool false) := (hb1.cell (p := ⟨w.heap.size, 0, none⟩) (show w.heap.size < W.heap.size by omega)).trans hc
        have hf1 : w1.frozen? ⟨w.heap.size, 0, none⟩ = false := (hb1.frozen (p := ⟨w.heap.size, 0, none⟩) (show w.heap.size < W.heap.size by omega)).trans hf
        have hk1 : KpC w.heap.size (w.heap.size + 1) W w1 := KpC.of_below (by omega) hsW hb1
        have ho1 := keeps_of_below hb1
        gi_wp2
        refine ⟨trivial, ?_⟩
        gi_wp2
        exact ⟨(ho1.trans (KeepsOthers.setCell _ _ _)).from _, ⟨rfl, Out.out _ (okI_first hz hfi), World.cell?_setCell_same' _ _ _ (by rw [hc1]; rfl)⟩, hB1.below (Nat.le_refl _) ((Below.refl w.heap.size w1).setCell (p := ⟨w.heap.size, 0, none⟩) (Nat.le_refl _) _)⟩
      · gi_wp2_with (refine ⟨trivial, ?_⟩; gi_at_call 12; refine (CallsIn.inRound l (callsIn_wide.2 (First_is _ true hfi _ hGW))).mono ?_)
        rintro e w0 ⟨rfl, hb0⟩
        have hG0 := hGW.below hGW.size hb0
        cases hi : innerB x.2
        · gi_wp2_with (refine ⟨trivial, ?_⟩; gi_at_call 14; refine (CallsIn.inRound l (callsIn_wide.2 (Inner_is _ false hi _ hG0))).mono ?_)
          rintro e w1 ⟨rfl, hb1'⟩
          have hb1 : Below W.heap.size W w1 := hb0.trans (hb1'.mono hb0.size)
          have hB1 := hB.below (Nat.le_of_lt (Nat.lt_of_le_of_lt (Nat.le_add_right _ 1) hsW)) hb1
          have hc1 : w1.cell? ⟨w.heap.size, 0, none⟩ = some (.bool false) := (hb1.cell (p := ⟨w.heap.size, 0, none⟩) (show w.heap.size < W.heap.size by omega)).trans hc
          have hf1 : w1.frozen? ⟨w.heap.size, 0, none⟩ = false := (hb1.frozen (p := ⟨w.heap.size, 0, none⟩) (show w.heap.size < W.heap.size by omega)).trans hf
          have hk1 : KpC w.heap.size (w.heap.size + 1) W w1 := KpC.of_below (by omega) hsW hb1
          have ho1 := keeps_of_below hb1
          gi_wp2
          exact ⟨(ho1.trans (KeepsOthers.setCell _ _ _)).from _, ⟨rfl, Out.out _ (okI_inner hi), World.cell?_setCell_same' _ _ _ (by rw [hc1]; rfl)⟩, hB1.below (Nat.le_refl _) ((Below.refl w.heap.size w1).setCell (p := ⟨w.heap.size, 0, none⟩) (Nat.le_refl _) _)⟩
        · gi_wp2_with (refine ⟨trivial, ?_⟩; gi_at_call 14; refine (CallsIn.inRound l (callsIn_wide.2 (Inner_is _ true hi _ hG0))).mono ?_)
          rintro e w1 ⟨rfl, hb1'⟩
          have hb1 : Below W.heap.size W w1 := hb0.trans (hb1'.mono hb0.size)
          have hB1 := hB.below (Nat.le_of_lt (Nat.lt_of_le_of_lt (Nat.le_add_right _ 1) hsW)) hb1
          have hc1 : w1.cell? ⟨w.heap.size, 0, none⟩ = some (.bool false) := (hb1.cell (p := ⟨w.heap.size, 0, none⟩) (show w.heap.size < W.heap.size by omega)).trans hc
          have hf1 : w1.frozen? ⟨w.heap.size, 0, none⟩ = false := (hb1.frozen (p := ⟨w.heap.size, 0, none⟩) (show w.heap.size < W.heap.size by omega)).trans hf
          have hk1 : KpC w.heap.size (w.heap.size + 1) W w1 := KpC.of_below (by omega) hsW hb1
          have ho1 := keeps_of_below hb1
          gi_wp2
          exact ⟨ho1.from _, hk1, ⟨Out.out _ (okI_yes (.inr hfi) hi), hc1, hf1⟩, hB1⟩
  case done =>
    rintro D ys W hD rfl ⟨⟨hp, hcr, hfr⟩, hB⟩ hK
    gi_wp2
    have hK' := (KeepsOthers.setCell W ⟨w.heap.size, 0, none⟩ (.bool true)).same D _ hK rfl
    refine ⟨by simp, .inl ⟨_, _, rfl, run_takeDeferred hK', ?_⟩⟩
    have hc5 := cell_kept (World.cell?_setCell_same' W ⟨w.heap.size, 0, none⟩ (.bool true) (by rw [hcr]; rfl)) (grownBy_putObj' _ D (.deferred none)) (fun r e => by cases e; exact ⟨_, hK', rfl⟩)
    refine ⟨.bool true, ?_, by rw [hp], (hB.1.setCell (p := ⟨w.heap.size, 0, none⟩) (Nat.le_refl _) _).trans (belowK_b (w := w) (Nat.le_refl _) _ D _ _ (by simp at hD; omega) hK' rfl rfl)⟩
    simp [results, Tryd.f16, go_sem, hc5]
  case stop =>
    rintro D c pre W hD hpre ⟨⟨rfl, hno, hcr⟩, hB⟩ hK
    gi_wp2
    refine ⟨by simp, .inl ⟨_, _, rfl, run_takeDeferred hK, ?_⟩⟩
    have hc5 := cell_kept hcr (grownBy_putObj' _ D (.deferred none)) (fun r e => by cases e; exact ⟨_, hK, rfl⟩)
    refine ⟨.bool false, ?_, by rw [all_prefix hpre hno], hB.1.trans (belowK_b (w := w) (Nat.le_refl _) _ D _ _ (by simp at hD; omega) hK rfl rfl)⟩
    simp [results, Tryd.f16, go_sem, hc5]

theorem isEmpty_false {s : ByteArray} (h : s.data.toList ≠ []) : s.toList.isEmpty = false := by
  rw [Lib.toList_data]
  cases h' : s.data.toList with
  | nil => exact absurd h' h
  | cons _ _ => rfl

set_option maxRecDepth 100000 in
set_option maxHeartbeats 1000000 in
theorem Local_any (s : ByteArray) (cs : List Int) (rest : List UInt8) (hS : Split s.data.toList cs rest) (w : World) (hG : G w) (hss : s.size ≤ 70368744177664) :
    Calls Tryd.prog 16 #[.string s] w fun e w' => e = .returned (.bool (localB s.data.toList cs rest)) ∧ Below w.heap.size w w' := by
  by_cases hne : s.data.toList = []
  · have hl : localB s.data.toList cs rest = false := by unfold localB; rw [hne]; rfl
    rw [hl]
    have e2 : s.toList.isEmpty = true := by rw [Lib.toList_data, hne]; rfl
    clear hne hl hG hS
    go_enter Tryd.func16, Tryd.ntmps16
    go_wp2
    exact bodyPost_ret (v := .bool false) (by simp [results, Tryd.results16, go_sem]) rfl ⟨rfl, (Below.refl _ _).alloc (Nat.le_refl _) _⟩
  · by_cases hsz : 200 < s.size
    · have hl : localB s.data.toList cs rest = false := by
        unfold localB
        rw [decide_eq_false (show ¬ s.data.toList.length ≤ 200 by rw [← list_size]; omega)]; simp
      rw [hl]
      have e2 := isEmpty_false hne
      have hd : decide ((200 : Int) < s.size) = true := by rw [decide_eq_true_iff]; omega
      clear hne hl hG hS hsz hss
      go_enter Tryd.func16, Tryd.ntmps16
      go_wp2
      exact bodyPost_ret (v := .bool false) (by simp [results, Tryd.results16, go_sem]) rfl ⟨rfl, (Below.refl _ _).alloc (Nat.le_refl _) _⟩
    · have hl : localB s.data.toList cs rest = (items cs rest).all okI := by
        unfold localB
        rw [decide_eq_true hne, decide_eq_true (show s.data.toList.length ≤ 200 by rw [← list_size]; omega)]; simp
      rw [hl]
      exact Local_mid s cs rest hS w hG (isEmpty_false hne) (by rw [decide_eq_false_iff_not]; omega) hss
end Ck
end Go.Proofs.YthfmnhhennbjnaaDoor
