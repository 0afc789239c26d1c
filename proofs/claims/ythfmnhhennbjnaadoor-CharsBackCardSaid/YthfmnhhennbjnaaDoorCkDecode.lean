/- chars.Decode. -/
import Derived.Test.YthfmnhhennbjnaaDoorCkRefDec
import Derived.Maps.AppendAt
namespace Go.Proofs.YthfmnhhennbjnaaDoor
open Go.RowKit Go.Shelf
attribute [local go_sem] Oper.semAt_some
namespace Ck

theorem boxed_app {W w1 : World} {n₀ B : Nat} {t e : TypeId} {size k : Nat} {u v : Value} {xs : List Value} {tmp : Obj} (h : Boxed W B t u) (hte : t ≠ e) (hrow : W.ownsRow n₀ e size v k xs) (hgrow : (W.alloc tmp).grownBy w1 v.ownBlock) : Boxed w1 B t u :=
  (h.alloc tmp).kept hgrow (h.not_row hte hrow)
theorem boxed_putObj {W : World} {B D : Nat} {t : TypeId} {v : Value} {o o' : Obj} (h : Boxed W B t v) (hD : W.heap[D]? = some o) (ho : o.isCells = false) : Boxed (W.putObj D o') B t v :=
  h.kept (grownBy_putObj' W D o') (fun e => by cases e; rw [show W.heap[B]? = _ from h] at hD; cases hD; cases ho)
theorem row_set {W : World} {n₀ B : Nat} {t e : TypeId} {size k : Nat} {u u' v : Value} {xs : List Value} (hrow : W.ownsRow n₀ e size v k xs) (hb : Boxed W B t u) (hte : t ≠ e) : (W.setCell ⟨B, 0, none⟩ u').ownsRow n₀ e size v k xs :=
  hrow.kept (grownBy_setCell' W B u') (.inr (hb.not_row hte hrow).symm)
def DI (h : Nat) (s : ByteArray) (pre : List (Nat × Int)) (W : World) : Prop :=
  (∃ v, Boxed W (h + 3) 26 v ∧ W.ownsRow h 21 1 v pre.length (pre.map fun x => Value.int .i32 x.2) ∧ True) ∧
  Boxed W h 26 (.slice none 0 0) ∧ Boxed W (h + 1) 3 (.int .i64 0) ∧ Boxed W (h + 2) 27 (.int .i64 0) ∧ Boxed W (h + 4) 9 (.string s) ∧ ∀ x ∈ pre, x.2 ≠ -1
theorem DI.own (h : Nat) (s : ByteArray) : Own (DI h s) := fun pre A B row hs hg hr =>
  ⟨holdsRow_own h (h + 3) 26 21 1 (fun pre : List (Nat × Int) => pre.length) (fun pre => pre.map fun x => Value.int .i32 x.2) (fun _ _ => True) pre A B row hs.1 hg hr,
   boxed_own h 26 (fun _ : Unit => .slice none 0 0) () A B row hs.2.1 hg hr,
   boxed_own (h + 1) 3 (fun _ : Unit => .int .i64 0) () A B row hs.2.2.1 hg hr,
   boxed_own (h + 2) 27 (fun _ : Unit => .int .i64 0) () A B row hs.2.2.2.1 hg hr,
   boxed_own (h + 4) 9 (fun _ : Unit => .string s) () A B row hs.2.2.2.2.1 hg hr, hs.2.2.2.2.2⟩
def DX (h : Nat) (c : Code) (pre : List (Nat × Int)) (W : World) : Prop :=
  c = .ret ∧ ∃ ini last, pre = ini ++ [last] ∧ last.2 = -1 ∧ Boxed W h 26 (.slice none 0 0) ∧ Boxed W (h + 1) 3 (.int .i64 (last.1 : Int)) ∧ Boxed W (h + 2) 27 (.int .i64 6)
theorem DX.own (h : Nat) (c : Code) : Own (DX h c) := fun pre A B row hs hg hr => by
  obtain ⟨hc, ini, last, e1, e2, h1, h2, h3⟩ := hs
  exact ⟨hc, ini, last, e1, e2, boxed_own h 26 (fun _ : Unit => .slice none 0 0) () A B row h1 hg hr, boxed_own (h + 1) 3 (fun _ : Unit => .int .i64 (last.1 : Int)) () A B row h2 hg hr, boxed_own (h + 2) 27 (fun _ : Unit => .int .i64 6) () A B row h3 hg hr⟩

theorem Decode_start (w : World) (s : ByteArray) (W0 : World) (hW0 : (((((w.alloc (.cells #[.slice none 0 0] 26)).alloc (.cells #[.int .i64 0] 3)).alloc (.cells #[.int .i64 0] 27)).alloc (.cells #[.slice none 0 0] 26)).alloc (.cells #[.string s] 9)) = W0) :
    W0.heap.size = w.heap.size + 5 ∧ Below w.heap.size w W0 ∧ DI w.heap.size s [] W0 := by
  have b0 := Boxed.new w 26 (.slice none 0 0)
  have b1 := Boxed.new (w.alloc (.cells #[.slice none 0 0] 26)) 3 (.int .i64 0)
  have b2 := Boxed.new ((w.alloc (.cells #[.slice none 0 0] 26)).alloc (.cells #[.int .i64 0] 3)) 27 (.int .i64 0)
  have b3 := Boxed.new (((w.alloc (.cells #[.slice none 0 0] 26)).alloc (.cells #[.int .i64 0] 3)).alloc (.cells #[.int .i64 0] 27)) 26 (.slice none 0 0)
  have b4 := Boxed.new ((((w.alloc (.cells #[.slice none 0 0] 26)).alloc (.cells #[.int .i64 0] 3)).alloc (.cells #[.int .i64 0] 27)).alloc (.cells #[.slice none 0 0] 26)) 9 (.string s)
  simp only [World.size_alloc, Nat.add_assoc, Nat.reduceAdd] at b0 b1 b2 b3 b4
  subst hW0
  exact ⟨by simp, (((((Below.refl _ w).alloc (Nat.le_refl _) _).alloc (by simp) _).alloc (by simp; omega) _).alloc (by simp; omega) _).alloc (by simp; omega) _,
    ⟨_, b3.alloc _, World.ownsRow_nil _ _ _ _, trivial⟩, (((b0.alloc _).alloc _).alloc _).alloc _, ((b1.alloc _).alloc _).alloc _, (b2.alloc _).alloc _, b4, by simp⟩

set_option maxRecDepth 100000 in
set_option maxHeartbeats 1000000 in
theorem Decode_any (s : ByteArray) (hs : s.size ≤ 1048576) (cs : List Int) (rest : List UInt8) (hS : Split s.data.toList cs rest) (w : World) (hG : G w) :
    Calls Tryd.prog 18 #[.string s] w fun e w' => DecSays w.heap.size cs rest e w' ∧ Below w.heap.size w w' := by
  obtain ⟨i0, hi, hz0, hz1, hz2⟩ := info_parts infoI32
  have hG4 := hG.size
  have hN : (items cs rest).length ≤ 1048577 := by
    have h1 := items_len cs rest
    have h2 := (encL_len cs).1
    have h3 := hS.len
    rw [← list_size] at h3
    omega
  refine (callsIn_wide (n := 9)).1 ?_
  refine callsIn_of_wp_marks Tryd.func18 rfl trivial ?_ rfl
  simp only [Tryd.ntmps18, List.size_toArray, List.length_cons, List.length_nil, Nat.reduceAdd, Nat.reduceSub, Array.replicate_succ, Array.replicate_zero, List.push_toArray, List.append_toArray, List.nil_append, List.cons_append]
  gi_wp2_with (refine ⟨trivial, ?_⟩; gi_at_call 31; refine (callsIn_wide.2 (characters_in _ _)).mono ?_; rintro e w' ⟨rfl, rfl⟩)
  obtain ⟨W0, hW0⟩ : ∃ W0, (((((w.alloc (.cells #[.slice none 0 0] 26)).alloc (.cells #[.int .i64 0] 3)).alloc (.cells #[.int .i64 0] 27)).alloc (.cells #[.slice none 0 0] 26)).alloc (.cells #[.string s] 9)) = W0 := ⟨_, rfl⟩
  rw [hW0]
  obtain ⟨hsz0, hB0, hd0⟩ := Decode_start w s W0 hW0
  clear hW0
  have hG2 : G W0 := hG.below hG4 hB0
  have hbs := hd0.2.2.2.2.1
  refine wpIn_rangeFunc_ownG rfl (by omega) (gf := 46) (lb := #[.pointer (some ⟨w.heap.size + 4, 0, none⟩)]) rfl trivial (enters_of Tryd.func46 (by kernel_rfl) rfl)
    (chars_stops _ (by omega) (w.heap.size + 4) w.heap.size hG4 s (by omega) cs rest hS _ hG2 _ hbs (by omega)) (fun h k => h.trans k) (kpC_b (by omega) (by omega)) (Below.refl _ _) (fun _ => rfl)
    (fun pre W => DI w.heap.size s pre W ∧ Below w.heap.size w W) (fun c pre W => DX w.heap.size c pre W ∧ Below w.heap.size w W)
    (OwnFrom.and ((DI.own _ s).from _) (ownFrom_below (by omega) (by omega))) (fun c => OwnFrom.and ((DX.own _ c).from _) (ownFrom_below (by omega) (by omega)))
    ⟨hd0, hB0⟩ ?a1 ?assign ?body ?done ?stop
  case assign =>
    intro l x W K hK
    simp only [encI]
    gi_wp2
    exact hK
  case body =>
    rintro l pre x W ⟨⟨⟨v, hv, hrow, _⟩, h0, h1, h2, h4, hall⟩, hB⟩ hlt
    have hsB := hB.size
    have hxp : pre.length + 1 ≤ 1048577 := by omega
    cases hz : ((x.2 : Int) == -1)
    · have hc := hv.cell
      gi_wp2_with (gi_at_builtin; refine wpListIn_append_own _ rfl _ _ 26 rfl w.heap.size 21 i0 (.int .i32 0) 1 4 Tryd.underlying26 hi hz0 hz1 hz2 rfl (by decide) _ _ _ rfl (hrow.alloc _) ⟨W.heap.size, 0, none⟩ 1 1 [.int .i32 x.2] rfl rfl (cell_one_new _ _ _) (by simp [Value.oneCell']) (by unfold maxLen; omega) (by omega) (by simp; omega) ?_; intro v' w1 hown' hgrow _; obtain ⟨g', cap', rfl⟩ := ownsRow_succ hown'; obtain ⟨hv1, hv2, hr2, hk2, hb2⟩ := hv.appended (by decide) hrow hsB (by omega) hown' hgrow; have hc1 := hv1.cell; have hf1 := hv1.frozen)
      have k0 := (boxed_app h0 (by decide) hrow hgrow).other (B' := w.heap.size + 3) (by omega) (.slice (some ⟨g', 0, none⟩) (pre.length + 1) cap')
      have k1 := (boxed_app h1 (by decide) hrow hgrow).other (B' := w.heap.size + 3) (by omega) (.slice (some ⟨g', 0, none⟩) (pre.length + 1) cap')
      have k2 := (boxed_app h2 (by decide) hrow hgrow).other (B' := w.heap.size + 3) (by omega) (.slice (some ⟨g', 0, none⟩) (pre.length + 1) cap')
      have k4 := (boxed_app h4 (by decide) hrow hgrow).other (B' := w.heap.size + 3) (by omega) (.slice (some ⟨g', 0, none⟩) (pre.length + 1) cap')
      refine ⟨hk2.from _, ⟨hb2, k4.trans h4.symm⟩, ⟨⟨_, hv2, by simpa using hr2, trivial⟩, k0, k1, k2, k4, ?_⟩, hB.trans hb2⟩
      intro y hy
      rcases List.mem_append.1 hy with hy | hy
      · exact hall y hy
      · rw [List.mem_singleton.1 hy]; exact beq_eq_false_iff_ne.1 hz
    · have hz1 : x.2 = -1 := by simpa using hz
      have c0 := h0.cell
      have f0 := h0.frozen
      have c1 := h1.cell
      have f1 := h1.frozen
      have c2 := h2.cell
      have f2 := h2.frozen
      have Hz := Lib.hid hz1
      clear hz1
      gi_wp2
      have m0 := ((h0.set (.slice none 0 0)).other (B' := w.heap.size + 1) (by omega) (.int .i64 (x.1 : Int))).other (B' := w.heap.size + 2) (by omega) (.int .i64 6)
      have m1 := ((h1.other (B' := w.heap.size) (by omega) (.slice none 0 0)).set (.int .i64 (x.1 : Int))).other (B' := w.heap.size + 2) (by omega) (.int .i64 6)
      have m2 := ((h2.other (B' := w.heap.size) (by omega) (.slice none 0 0)).other (B' := w.heap.size + 1) (by omega) (.int .i64 (x.1 : Int))).set (.int .i64 6)
      exact ⟨(((KeepsOthers.setCell _ _ _).trans (KeepsOthers.setCell _ _ _)).trans (KeepsOthers.setCell _ _ _)).from _, ⟨rfl, pre, x, rfl, Hz.out, m0, m1, m2⟩, ((hB.setCell (p := ⟨w.heap.size, 0, none⟩) (Nat.le_refl _) _).setCell (p := ⟨w.heap.size + 1, 0, none⟩) (by simp) _).setCell (p := ⟨w.heap.size + 2, 0, none⟩) (by simp) _⟩
  case done =>
    rintro D ys W hD rfl ⟨⟨⟨v, hv, hrow, _⟩, h0, h1, h2, h4, hall⟩, hB⟩ hK
    obtain ⟨hrest, hitems⟩ := items_done hall
    have hc := hv.cell
    have c0 := h0.cell
    have f0 := h0.frozen
    have c1 := h1.cell
    have f1 := h1.frozen
    have c2 := h2.cell
    have f2 := h2.frozen
    obtain ⟨ao, q, cap, rfl⟩ : ∃ ao q cap, v = .slice ao q cap := by
      rcases hrow.2 with ⟨hv, _⟩ | ⟨g, cap, cur, hv, _⟩
      · exact ⟨_, _, _, hv⟩
      · exact ⟨_, _, _, hv⟩
    have Hr := Lib.hid hrest
    have Hi := Lib.hid hitems
    clear hrest hitems
    gi_wp2
    have m0 := ((h0.set (.slice ao q cap)).other (B' := w.heap.size + 1) (by omega) (.int .i64 0)).other (B' := w.heap.size + 2) (by omega) (.int .i64 0)
    have m1 := ((h1.other (B' := w.heap.size) (by omega) (.slice ao q cap)).set (.int .i64 0)).other (B' := w.heap.size + 2) (by omega) (.int .i64 0)
    have m2 := ((h2.other (B' := w.heap.size) (by omega) (.slice ao q cap)).other (B' := w.heap.size + 1) (by omega) (.int .i64 0)).set (.int .i64 0)
    have hK' := (((KeepsOthers.setCell W ⟨w.heap.size, 0, none⟩ (.slice ao q cap)).trans (KeepsOthers.setCell _ ⟨w.heap.size + 1, 0, none⟩ (.int .i64 0))).trans (KeepsOthers.setCell _ ⟨w.heap.size + 2, 0, none⟩ (.int .i64 0))).same D _ hK rfl
    have hB' := ((hB.setCell (p := ⟨w.heap.size, 0, none⟩) (Nat.le_refl _) (.slice ao q cap)).setCell (p := ⟨w.heap.size + 1, 0, none⟩) (by simp) (.int .i64 0)).setCell (p := ⟨w.heap.size + 2, 0, none⟩) (by simp) (.int .i64 0)
    refine ⟨by simp, .inl ⟨_, _, rfl, run_takeDeferred hK', ?_⟩⟩
    have q0 := (boxed_putObj (o' := .deferred none) m0 hK' rfl).cell
    have q1 := (boxed_putObj (o' := .deferred none) m1 hK' rfl).cell
    have q2 := (boxed_putObj (o' := .deferred none) m2 hK' rfl).cell
    have r3 := ownsRow_putObj (row_set (u' := .int .i64 0) (row_set (u' := .int .i64 0) (row_set (u' := .slice ao q cap) hrow h0 (by decide)) (h1.other (B' := w.heap.size) (by omega) (.slice ao q cap)) (by decide)) ((h2.other (B' := w.heap.size) (by omega) (.slice ao q cap)).other (B' := w.heap.size + 1) (by omega) (.int .i64 0)) (by decide)) (.deferred none) hK' rfl
    have hy : (items cs rest).length = cs.length := by rw [Hi.out, itemsFrom_len]
    have hm : (items cs rest).map (fun x => Value.int .i32 x.2) = cs.map (Value.int .i32) := by
      rw [Hi.out, ← items_snd 0 cs, List.map_map, items_snd]; rfl
    rw [hy, hm] at r3
    refine ⟨.tuple #[.slice ao q cap, .int .i64 0, .int .i64 0], ?_, .inl ⟨Hr.out, _, rfl, r3⟩, hB'.trans (belowK_b (w := w) (Nat.le_refl _) _ D _ _ (by omega) hK' rfl rfl)⟩
    simp [results, Tryd.f18, go_sem, q0, q1, q2]
  case stop =>
    rintro D c pre W hD hpre ⟨⟨rfl, ini, last, rfl, e2, h0, h1, h2⟩, hB⟩ hK
    obtain ⟨hrest, hplace⟩ := items_stop hS hpre e2
    gi_wp2
    have q0 := (boxed_putObj (o' := .deferred none) h0 hK rfl).cell
    have q1 := (boxed_putObj (o' := .deferred none) h1 hK rfl).cell
    have q2 := (boxed_putObj (o' := .deferred none) h2 hK rfl).cell
    refine ⟨by simp, .inl ⟨_, _, rfl, run_takeDeferred hK, ?_⟩⟩
    refine ⟨.tuple #[.slice none 0 0, .int .i64 (last.1 : Int), .int .i64 6], ?_, .inr ⟨hrest, by rw [hplace]⟩, hB.trans (belowK_b (w := w) (Nat.le_refl _) _ D _ _ (by omega) hK rfl rfl)⟩
    simp [results, Tryd.f18, go_sem, q0, q1, q2]
end Ck
end Go.Proofs.YthfmnhhennbjnaaDoor
