/- Unescape: the program's. -/
import Derived.Test.YthfmnhhennbjnaaDoorCkMean2
import Derived.Test.YthfmnhhennbjnaaDoorCkEsc
namespace Go.Proofs.YthfmnhhennbjnaaDoor
open Go.RowKit Go.Shelf
attribute [local go_sem] Oper.semAt_some
namespace Ck

/-- What Unescape gives of a text. -/
def unV : Except Nat (List UInt8) → Value
  | .ok o => .tuple #[.string ⟨o.toArray⟩, .int .i64 0, .int .i64 0]
  | .error q => .tuple #[.string ⟨#[]⟩, .int .i64 (q : Nat), .int .i64 6]
def UnSays (cs : List Int) (rest : List UInt8) (res : Except Nat (List UInt8)) (e : Ending) : Prop :=
  (rest = [] ∧ e = .returned (unV res)) ∨ (rest ≠ [] ∧ e = .returned (unV (.error (encL cs).length)))

def UI (h : Nat) (s : ByteArray) (pre : List (Nat × Int)) (W : World) : Prop :=
  Boxed W h 9 (.string ⟨#[]⟩) ∧ Boxed W (h + 1) 3 (.int .i64 0) ∧ Boxed W (h + 2) 27 (.int .i64 0) ∧ Boxed W (h + 3) 9 (.string s) ∧ ∀ x ∈ pre, x.2 ≠ -1
theorem UI.own (h : Nat) (s : ByteArray) : Own (UI h s) := fun _ A C row hs hg hr =>
  ⟨boxed_own h 9 (fun _ : Unit => .string ⟨#[]⟩) () A C row hs.1 hg hr, boxed_own (h + 1) 3 (fun _ : Unit => .int .i64 0) () A C row hs.2.1 hg hr, boxed_own (h + 2) 27 (fun _ : Unit => .int .i64 0) () A C row hs.2.2.1 hg hr,
   boxed_own (h + 3) 9 (fun _ : Unit => .string s) () A C row hs.2.2.2.1 hg hr, hs.2.2.2.2⟩
def UX (h : Nat) (c : Code) (pre : List (Nat × Int)) (W : World) : Prop :=
  c = .ret ∧ ∃ ini last, pre = ini ++ [last] ∧ last.2 = -1 ∧ Boxed W h 9 (.string ⟨#[]⟩) ∧ Boxed W (h + 1) 3 (.int .i64 (last.1 : Int)) ∧ Boxed W (h + 2) 27 (.int .i64 6)
theorem UX.own (h : Nat) (c : Code) : Own (UX h c) := fun _ A B row hs hg hr => by
  obtain ⟨hc, ini, last, e1, e2, h1, h2, h3⟩ := hs
  exact ⟨hc, ini, last, e1, e2, boxed_own h 9 (fun _ : Unit => .string ⟨#[]⟩) () A B row h1 hg hr, boxed_own (h + 1) 3 (fun _ : Unit => .int .i64 (last.1 : Int)) () A B row h2 hg hr, boxed_own (h + 2) 27 (fun _ : Unit => .int .i64 6) () A B row h3 hg hr⟩
/-- What a cut tells. -/
def CutPost (a b : List UInt8) (f : Bool) (W : World) (e : Ending) (w' : World) : Prop := e = .returned (.tuple #[.string ⟨a.toArray⟩, .string ⟨b.toArray⟩, .bool f]) ∧ Below W.heap.size W w'
theorem cut_any (s sep : ByteArray) (a b : List UInt8) (f : Bool) (h : Lib.cut s.data.toList sep.data.toList = (a, b, f)) (hs : s.size ≤ 1048576) (w : World) (hG : G w) :
    Calls Tryd.prog 41 #[.string s, .string sep] w (CutPost a b f w) := by
  obtain ⟨m, hm⟩ := hG.max
  refine (Tryd.strings_Cut s sep m w (by omega) hm).mono ?_
  rintro e w' ⟨rfl, n, rfl⟩
  rw [h]
  exact ⟨rfl, below_drewN (Below.refl _ _) _⟩
def MeantPost (l : List UInt8) (W : World) (e : Ending) (w' : World) : Prop := e = .returned (.int .i32 ((escV l).getD (-1))) ∧ Below W.heap.size W w'
theorem meant_post (l : List UInt8) (b : Nat) (w : World) (hG : G w) (hb : w.heap[b]? = some (.map nmEs 5)) :
    Calls Tryd.prog 42 #[.string ⟨l.toArray⟩, .map (some b)] w (MeantPost l w) := meant_any ⟨l.toArray⟩ b w hG hb
def WrotePost (b : Nat) (bs : List UInt8) (W : World) (e : Ending) (w' : World) : Prop := (∃ v, e = .returned v) ∧ IsB b b bs w' ∧ Below b W w'
theorem writeStr_post (b : Nat) (bs l : List UInt8) (w : World) (h : IsB b b bs w) (hlen : bs.length + l.length ≤ 140737488355328) (hBw : b ≤ w.heap.size) :
    Calls Tryd.prog 37 #[.pointer (some ⟨b, 0, none⟩), .string ⟨l.toArray⟩] w (WrotePost b (bs ++ l) w) := by
  refine (WriteString b b bs ⟨l.toArray⟩ w h (by rw [list_size]; exact hlen) hBw).mono ?_
  rintro e w' ⟨he, h1, h2, _⟩
  exact ⟨⟨_, he⟩, h1, h2⟩
theorem writeRune_post (b : Nat) (bs : List UInt8) (c : Int) (hv : validB c = true) (w : World) (h : IsB b b bs w) (hlen : bs.length + 4 ≤ 140737488355328) (hBw : b ≤ w.heap.size) :
    Calls Tryd.prog 34 #[.pointer (some ⟨b, 0, none⟩), .int .i32 c] w (WrotePost b (bs ++ enc1 c) w) := by
  have := valid_pos hv
  refine (WriteRune b b bs c (by omega) (by omega) w h hlen hBw).mono ?_
  rintro e w' ⟨⟨n, he⟩, h1, h2, _⟩
  exact ⟨⟨_, he⟩, h1, h2⟩
theorem str_post (b : Nat) (bs : List UInt8) (w : World) (h : IsB b b bs w) (hBw : b ≤ w.heap.size) :
    Calls Tryd.prog 35 #[.pointer (some ⟨b, 0, none⟩)] w (fun e w' => (e = .returned (.string ⟨bs.toArray⟩)) ∧ Below b w w') := by
  refine (Tryd.Builder_String_any_k b b bs w h hBw).mono ?_
  rintro e w' ⟨he, _, h2, _⟩
  exact ⟨he, h2⟩
theorem map_nil_app (r : Except Nat (List UInt8)) : r.map (fun x => ([] : List UInt8) ++ x) = r := by cases r <;> rfl
theorem map_comp_app (o q : List UInt8) (r : Except Nat (List UInt8)) : (r.map (fun x => q ++ x)).map (fun x => o ++ x) = r.map (fun x => (o ++ q) ++ x) := by cases r <;> simp [Except.map]
theorem map_step (o pl e : List UInt8) (r : Except Nat (List UInt8)) : (r.map (fun x => pl ++ (e ++ x))).map (fun x => o ++ x) = r.map (fun x => (o ++ pl ++ e) ++ x) := by cases r <;> simp [Except.map]
/-- Where the loop stands: the blocks of the call in the world in which it began. -/
structure Base (w : World) (D M : Nat) (W : World) : Prop where
  r0 : Boxed W w.heap.size 9 (.string ⟨#[]⟩)
  r1 : Boxed W (w.heap.size + 1) 3 (.int .i64 0)
  r2 : Boxed W (w.heap.size + 2) 27 (.int .i64 0)
  map : W.heap[M]? = some (.map nmEs 5)
  dfr : W.heap[D]? = some (.deferred (some []))
  g : G W
  below : Below w.heap.size w W
  lt0 : w.heap.size + 2 < M
  ltD : D < M
  leD : w.heap.size ≤ D
  g4 : 4 ≤ w.heap.size
theorem Base.mono {w : World} {D M n : Nat} {W W' : World} (h : Base w D M W) (hb : Below n W W') (hn : M < n) : Base w D M W' :=
  ⟨boxed_below h.r0 hb (by have := h.lt0; omega), boxed_below h.r1 hb (by have := h.lt0; omega), boxed_below h.r2 hb (by have := h.lt0; omega), (hb.block _ hn).trans h.map, (hb.block _ (by have := h.ltD; omega)).trans h.dfr,
    h.g.below (n := n) (by have := h.lt0; have := h.g4; omega) hb, h.below.trans (hb.mono (by have := h.lt0; omega)), h.lt0, h.ltD, h.leD, h.g4⟩

/-- The three results are stored, and the call ends. -/
theorem Base.fin {w : World} {D M : Nat} {W : World} (h : Base w D M W) (x y z : Value) :
    (((W.setCell ⟨w.heap.size, 0, none⟩ x).setCell ⟨w.heap.size + 1, 0, none⟩ y).setCell ⟨w.heap.size + 2, 0, none⟩ z).heap[D]? = some (.deferred (some [])) ∧
    ((((W.setCell ⟨w.heap.size, 0, none⟩ x).setCell ⟨w.heap.size + 1, 0, none⟩ y).setCell ⟨w.heap.size + 2, 0, none⟩ z).putObj D (.deferred none)).cell? ⟨w.heap.size, 0, none⟩ = some x ∧
    ((((W.setCell ⟨w.heap.size, 0, none⟩ x).setCell ⟨w.heap.size + 1, 0, none⟩ y).setCell ⟨w.heap.size + 2, 0, none⟩ z).putObj D (.deferred none)).cell? ⟨w.heap.size + 1, 0, none⟩ = some y ∧
    ((((W.setCell ⟨w.heap.size, 0, none⟩ x).setCell ⟨w.heap.size + 1, 0, none⟩ y).setCell ⟨w.heap.size + 2, 0, none⟩ z).putObj D (.deferred none)).cell? ⟨w.heap.size + 2, 0, none⟩ = some z ∧
    Below w.heap.size w ((((W.setCell ⟨w.heap.size, 0, none⟩ x).setCell ⟨w.heap.size + 1, 0, none⟩ y).setCell ⟨w.heap.size + 2, 0, none⟩ z).putObj D (.deferred none)) := by
  have m0 := ((h.r0.set x).other (B' := w.heap.size + 1) (by omega) y).other (B' := w.heap.size + 2) (by omega) z
  have m1 := ((h.r1.other (B' := w.heap.size) (by omega) x).set y).other (B' := w.heap.size + 2) (by omega) z
  have m2 := ((h.r2.other (B' := w.heap.size) (by omega) x).other (B' := w.heap.size + 1) (by omega) y).set z
  have hK := (((KeepsOthers.setCell W ⟨w.heap.size, 0, none⟩ x).trans (KeepsOthers.setCell _ ⟨w.heap.size + 1, 0, none⟩ y)).trans (KeepsOthers.setCell _ ⟨w.heap.size + 2, 0, none⟩ z)).same D _ h.dfr rfl
  have hB := ((h.below.setCell (p := ⟨w.heap.size, 0, none⟩) (Nat.le_refl _) x).setCell (p := ⟨w.heap.size + 1, 0, none⟩) (by simp) y).setCell (p := ⟨w.heap.size + 2, 0, none⟩) (by simp) z
  exact ⟨hK, (boxed_putObj m0 hK rfl).cell, (boxed_putObj m1 hK rfl).cell, (boxed_putObj m2 hK rfl).cell, hB.trans (belowK_b (w := w) (Nat.le_refl _) _ D _ _ h.leD hK rfl rfl)⟩

theorem Unescape_start (w : World) (s : ByteArray) (W0 : World) (hW0 : ((((w.alloc (.cells #[.string ⟨#[]⟩] 9)).alloc (.cells #[.int .i64 0] 3)).alloc (.cells #[.int .i64 0] 27)).alloc (.cells #[.string s] 9)) = W0) :
    W0.heap.size = w.heap.size + 4 ∧ Below w.heap.size w W0 ∧ UI w.heap.size s [] W0 := by
  have b0 := Boxed.new w 9 (.string ⟨#[]⟩)
  obtain ⟨w1, hw1⟩ : ∃ w1, w.alloc (.cells #[.string ⟨#[]⟩] 9) = w1 := ⟨_, rfl⟩
  have s1 : w1.heap.size = w.heap.size + 1 := by rw [← hw1]; simp
  have b1 := Boxed.new w1 3 (.int .i64 0)
  obtain ⟨w2, hw2⟩ : ∃ w2, w1.alloc (.cells #[.int .i64 0] 3) = w2 := ⟨_, rfl⟩
  have s2 : w2.heap.size = w.heap.size + 2 := by rw [← hw2]; simp [s1]
  have b2 := Boxed.new w2 27 (.int .i64 0)
  obtain ⟨w3, hw3⟩ : ∃ w3, w2.alloc (.cells #[.int .i64 0] 27) = w3 := ⟨_, rfl⟩
  have s3 : w3.heap.size = w.heap.size + 3 := by rw [← hw3]; simp [s2]
  have b3 := Boxed.new w3 9 (.string s)
  rw [hw1, hw2, hw3] at hW0
  subst hW0
  rw [hw1] at b0
  rw [hw2, s1] at b1
  rw [hw3, s2] at b2
  rw [s3] at b3
  have e1 : Below w.heap.size w w1 := by rw [← hw1]; exact (Below.refl _ w).alloc (Nat.le_refl _) _
  have e2 : Below w.heap.size w w2 := by rw [← hw2]; exact e1.alloc (by omega) _
  have e3 : Below w.heap.size w w3 := by rw [← hw3]; exact e2.alloc (by omega) _
  have f0 : Boxed w3 w.heap.size 9 (.string ⟨#[]⟩) := by rw [← hw3, ← hw2]; exact (b0.alloc _).alloc _
  have f1 : Boxed w3 (w.heap.size + 1) 3 (.int .i64 0) := by rw [← hw3]; exact b1.alloc _
  exact ⟨by rw [World.size_alloc, s3], e3.alloc (by omega) _, f0.alloc _, f1.alloc _, b2.alloc _, b3, by simp⟩

set_option maxRecDepth 100000 in
set_option maxHeartbeats 4000000 in
theorem Unescape_any (s : ByteArray) (hs : s.size ≤ 1048576) (cs : List Int) (rest : List UInt8) (hS : Split s.data.toList cs rest) (res : Except Nat (List UInt8)) (hU : Un 0 s.data.toList res) (w : World) (hG : G w) :
    Calls Tryd.prog 25 #[.string s] w fun e w' => UnSays cs rest res e ∧ Below w.heap.size w w' := by
  have hG4 := hG.size
  refine (callsIn_wide (n := 9)).1 ?_
  refine callsIn_of_wp_marks Tryd.func25 rfl trivial ?_ rfl
  simp only [Tryd.ntmps25, List.size_toArray, List.length_cons, List.length_nil, Nat.reduceAdd, Nat.reduceSub, Array.replicate_succ, Array.replicate_zero, List.push_toArray, List.append_toArray, List.nil_append, List.cons_append]
  gi_wp2_with (refine ⟨trivial, ?_⟩; gi_at_call 31; refine (callsIn_wide.2 (characters_in _ _)).mono ?_; rintro e w' ⟨rfl, rfl⟩)
  simp only [Nat.add_assoc, Nat.reduceAdd]
  obtain ⟨W0, hW0⟩ : ∃ W0, ((((w.alloc (.cells #[.string ⟨#[]⟩] 9)).alloc (.cells #[.int .i64 0] 3)).alloc (.cells #[.int .i64 0] 27)).alloc (.cells #[.string s] 9)) = W0 := ⟨_, rfl⟩
  rw [hW0]
  obtain ⟨hsz0, hB0, hd0⟩ := Unescape_start w s W0 hW0
  clear hW0
  have hG2 : G W0 := hG.below hG4 hB0
  have hbs := hd0.2.2.2.1
  refine wpIn_rangeFunc_ownG rfl (by omega) (gf := 46) (lb := #[.pointer (some ⟨w.heap.size + 3, 0, none⟩)]) rfl trivial (enters_of Tryd.func46 (by kernel_rfl) rfl)
    (chars_stops _ (by omega) (w.heap.size + 3) w.heap.size hG4 s (by omega) cs rest hS _ hG2 _ hbs (by omega)) (fun h k => h.trans k) (kpC_b (by omega) (by omega)) (Below.refl _ _) (fun _ => rfl)
    (fun pre W => UI w.heap.size s pre W ∧ Below w.heap.size w W) (fun c pre W => UX w.heap.size c pre W ∧ Below w.heap.size w W)
    (OwnFrom.and ((UI.own _ s).from _) (ownFrom_below (by omega) (by omega))) (fun c => OwnFrom.and ((UX.own _ c).from _) (ownFrom_below (by omega) (by omega)))
    ⟨hd0, hB0⟩ ?a1 ?assign ?body ?done ?stop
  case assign =>
    intro l x W K hK
    simp only [encI]
    gi_wp2
    exact hK
  case body =>
    rintro l pre x W ⟨⟨h0, h1, h2, h3, hall⟩, hB⟩ hlt
    cases hz : ((x.2 : Int) == -1)
    · gi_wp2
      refine ⟨KeepsFrom.refl _ _, KpC.refl _ _ _, ⟨h0, h1, h2, h3, ?_⟩, hB⟩
      intro y hy
      rcases List.mem_append.1 hy with hy | hy
      · exact hall y hy
      · rw [List.mem_singleton.1 hy]; exact beq_eq_false_iff_ne.1 hz
    · have hz1 : x.2 = -1 := by simpa using hz
      have c0 := h0.cell
      have f0 := h0.frozen
      have c1 := h1.cell
      have f1 := h1.frozen
      have c2 := h2.cell
      have f2 := h2.frozen
      have Hz := Lib.hid hz1
      clear hz1
      gi_wp2
      have m0 := ((h0.set (.string ⟨#[]⟩)).other (B' := w.heap.size + 1) (by omega) (.int .i64 (x.1 : Int))).other (B' := w.heap.size + 2) (by omega) (.int .i64 6)
      have m1 := ((h1.other (B' := w.heap.size) (by omega) (.string ⟨#[]⟩)).set (.int .i64 (x.1 : Int))).other (B' := w.heap.size + 2) (by omega) (.int .i64 6)
      have m2 := ((h2.other (B' := w.heap.size) (by omega) (.string ⟨#[]⟩)).other (B' := w.heap.size + 1) (by omega) (.int .i64 (x.1 : Int))).set (.int .i64 6)
      exact ⟨(((KeepsOthers.setCell _ _ _).trans (KeepsOthers.setCell _ _ _)).trans (KeepsOthers.setCell _ _ _)).from _, ⟨rfl, pre, x, rfl, Hz.out, m0, m1, m2⟩, ((hB.setCell (p := ⟨w.heap.size, 0, none⟩) (Nat.le_refl _) _).setCell (p := ⟨w.heap.size + 1, 0, none⟩) (by simp) _).setCell (p := ⟨w.heap.size + 2, 0, none⟩) (by simp) _⟩
  case stop =>
    rintro D c pre W hD hpre ⟨⟨rfl, ini, last, rfl, e2, h0, h1, h2⟩, hB⟩ hK
    obtain ⟨hrest, hplace⟩ := items_stop hS hpre e2
    gi_wp2
    have q0 := (boxed_putObj (o' := .deferred none) h0 hK rfl).cell
    have q1 := (boxed_putObj (o' := .deferred none) h1 hK rfl).cell
    have q2 := (boxed_putObj (o' := .deferred none) h2 hK rfl).cell
    refine ⟨by simp, .inl ⟨_, _, rfl, run_takeDeferred hK, ?_⟩⟩
    refine ⟨.tuple #[.string ⟨#[]⟩, .int .i64 (last.1 : Int), .int .i64 6], ?_, .inr ⟨hrest, by rw [hplace]; rfl⟩, hB.trans (belowK_b (w := w) (Nat.le_refl _) _ D _ _ (by omega) hK rfl rfl)⟩
    simp [results, Tryd.f25, go_sem, q0, q1, q2]
  case done =>
    rintro D ys W hD rfl ⟨⟨h0, h1, h2, h3, hall⟩, hB⟩ hK
    obtain ⟨hrest, hitems⟩ := items_done hall
    have hG3 := hG.below hG4 hB
    have hDl : D < W.heap.size := (Array.getElem?_eq_some_iff.1 hK).1
    have Hr := Lib.hid hrest
    clear hrest hitems hall h3 hG2 hbs hd0 hB0
    gi_wp2_with (refine ⟨trivial, ?_⟩; gi_at_call 40; refine (callsIn_wide.2 (named_any _)).mono ?_; rintro e w' ⟨rfl, rfl⟩)
    obtain ⟨M, hM⟩ : ∃ M, W.heap.size = M := ⟨_, rfl⟩
    have hbase : Base w D M (W.alloc (.map nmEs 5)) :=
      ⟨h0.alloc _, h1.alloc _, h2.alloc _, by rw [← hM]; exact World.alloc_heap_new W _, (Below.heap_alloc _ _ _ hDl).trans hK,
        hG3.below hG3.size ((Below.refl _ W).alloc (Nat.le_refl _) _), hB.alloc hB.size _,
        by have := h2.lt; omega,
        by omega, by omega, hG4⟩
    have hI0 : IsB (M + 1) (M + 1) [] ((W.alloc (.map nmEs 5)).alloc (.cells #[.pointer none, .slice none 0 0] 49)) := by
      have := Lib.fresh_isBuilder 49 5 (W.alloc (.map nmEs 5))
      rw [World.size_alloc, hM] at this
      exact Lib.IsBuilderF.of this
    have hb1 : Base w D M ((W.alloc (.map nmEs 5)).alloc (.cells #[.pointer none, .slice none 0 0] 49)) := hbase.mono (n := M + 1) ((Below.refl _ _).alloc (by simp; omega) _) (by omega)
    have hz1 : M + 1 ≤ ((W.alloc (.map nmEs 5)).alloc (.cells #[.pointer none, .slice none 0 0] 49)).heap.size := by simp; omega
    clear hbase h0 h1 h2 hB hK hG3
    obtain ⟨W2, hW2⟩ : ∃ W2, (W.alloc (.map nmEs 5)).alloc (.cells #[.pointer none, .slice none 0 0] 49) = W2 := ⟨_, rfl⟩
    rw [hW2] at hI0 hb1 hz1 ⊢
    rw [hM]
    clear hW2
    gi_loopw [9] (fun i wr => ∃ (p : Nat) (o : List UInt8) (r : Except Nat (List UInt8)), p ≤ s.size ∧ i = .int .i64 (p : Int) ∧ Un p (s.data.toList.drop p) r ∧ res = r.map (fun x => o ++ x) ∧ o.length ≤ 4 * p ∧ IsB (M + 1) (M + 1) o wr ∧ Base w D M wr ∧ M + 1 ≤ wr.heap.size) (fun i _ => s.size - (intOf i).toNat)
    case atStart => exact ⟨0, [], res, Nat.zero_le _, rfl, by rw [List.drop_zero]; exact hU, (map_nil_app res).symm, Nat.zero_le _, hI0, hb1, hz1⟩
    case round =>
      obtain ⟨p, o, r, hp, rfl, hu, hres, hol, hI, hb, hz⟩ := hrel
      clear hI0 hb1 hz1
      have Hres := Lib.hid hres
      clear hres
      have hxs : (s.extract p s.size).size ≤ 1048576 := by rw [list_size, ext_drop, List.length_drop, ← list_size]; omega
      have hl : (s.data.toList.drop p).length = s.size - p := by rw [List.length_drop, ← list_size]
      obtain ⟨L, hL⟩ : ∃ L, s.data.toList.drop p = L := ⟨_, rfl⟩
      have hxd : (s.extract p s.size).data.toList = L := by rw [ext_drop, hL]
      rw [hL] at hu hl
      cases hu with
      | done h38 =>
        have hcut : Lib.cut (s.extract p s.size).data.toList [38] = (L, [], false) := by rw [hxd]; exact cut_no h38
        have HC := Lib.hid (cut_any _ ⟨#[38]⟩ _ _ _ hcut hxs wr hb.g)
        clear hcut hxd hL
        gi_wp2_with (refine ⟨trivial, ?_⟩; gi_at_call 41; refine (callsIn_wide.2 (HC.out)).mono ?_)
        rintro e w1 ⟨rfl, hbl1⟩
        have hI1 := isB_below hI hbl1
        have hb1 := hb.mono hbl1 (by omega)
        have hz1 := Nat.le_trans hz hbl1.size
        clear hI hb hz hbl1 HC
        gi_wp2_with (refine ⟨trivial, ?_⟩; gi_at_call 37; refine (callsIn_wide.2 (writeStr_post _ _ _ _ hI1 (by omega) hz1)).mono ?_)
        rintro e w2 ⟨⟨v2, rfl⟩, hI2, hbl2⟩
        have hb2 := hb1.mono hbl2 (by omega)
        have hz2 := Nat.le_trans hz1 hbl2.size
        clear hI1 hb1 hz1 hbl2
        gi_wp2_with (refine ⟨trivial, ?_⟩; gi_at_call 35; refine (callsIn_wide.2 (str_post _ _ _ hI2 hz2)).mono ?_)
        rintro e w3 ⟨rfl, hbl3⟩
        have hb3 := hb2.mono hbl3 (by omega)
        clear hI2 hb2 hz2 hbl3
        have c0 := hb3.r0.cell
        have f0 := hb3.r0.frozen
        have c1 := hb3.r1.cell
        have f1 := hb3.r1.frozen
        have c2 := hb3.r2.cell
        have f2 := hb3.r2.frozen
        gi_wp2
        obtain ⟨hK', q0, q1, q2, hB'⟩ := hb3.fin (.string ⟨(o ++ L).toArray⟩) (.int .i64 0) (.int .i64 0)
        refine ⟨by simp, .inl ⟨_, _, rfl, run_takeDeferred hK', ?_⟩⟩
        refine ⟨.tuple #[.string ⟨(o ++ L).toArray⟩, .int .i64 0, .int .i64 0], ?_, .inl ⟨Hr.out, by rw [Hres.out]; rfl⟩, hB'⟩
        simp [results, Tryd.f25, go_sem, q0, q1, q2]
      | @open_ _ pl rr h38 h59 =>
        have hcut : Lib.cut (s.extract p s.size).data.toList [38] = (pl, rr, true) := by rw [hxd]; exact cut_yes h38
        have HC := Lib.hid (cut_any _ ⟨#[38]⟩ _ _ _ hcut hxs wr hb.g)
        simp only [List.length_append, List.length_cons] at hl
        clear hcut hxd hL
        gi_wp2_with (refine ⟨trivial, ?_⟩; gi_at_call 41; refine (callsIn_wide.2 (HC.out)).mono ?_)
        rintro e w1 ⟨rfl, hbl1⟩
        have hI1 := isB_below hI hbl1
        have hb1 := hb.mono hbl1 (by omega)
        have hz1 := Nat.le_trans hz hbl1.size
        clear hI hb hz hbl1 HC
        gi_wp2_with (refine ⟨trivial, ?_⟩; gi_at_call 37; refine (callsIn_wide.2 (writeStr_post _ _ _ _ hI1 (by omega) hz1)).mono ?_)
        rintro e w2 ⟨⟨v2, rfl⟩, hI2, hbl2⟩
        have hb2 := hb1.mono hbl2 (by omega)
        have hz2 := Nat.le_trans hz1 hbl2.size
        clear hI1 hb1 hz1 hbl2
        have hcut2 : Lib.cut (⟨(rr).toArray⟩ : ByteArray).data.toList [59] = (rr, [], false) := cut_no h59
        have HC2 := Lib.hid (cut_any ⟨(rr).toArray⟩ ⟨#[59]⟩ _ _ _ hcut2 (by rw [list_size]; simp only; omega) w2 hb2.g)
        clear hcut2
        gi_wp2_with (refine ⟨trivial, ?_⟩; gi_at_call 41; refine (callsIn_wide.2 (HC2.out)).mono ?_)
        rintro e w3 ⟨rfl, hbl3⟩
        have hI3 := isB_below hI2 hbl3
        have hb3 := hb2.mono hbl3 (by omega)
        have hz3 := Nat.le_trans hz2 hbl3.size
        clear hI2 hb2 hz2 hbl3 HC2
        gi_wp2_with (refine ⟨trivial, ?_⟩; gi_at_call 42; refine (callsIn_wide.2 (meant_post rr M _ hb3.g hb3.map)).mono ?_)
        rintro e w4 ⟨rfl, hbl4⟩
        have hI4 := isB_below hI3 hbl4
        have hb4 := hb3.mono hbl4 (by omega)
        have hz4 := Nat.le_trans hz3 hbl4.size
        clear hI3 hb3 hz3 hbl4
        have c0 := hb4.r0.cell
        have f0 := hb4.r0.frozen
        have c1 := hb4.r1.cell
        have f1 := hb4.r1.frozen
        have c2 := hb4.r2.cell
        have f2 := hb4.r2.frozen
        gi_wp2
        obtain ⟨hK', q0, q1, q2, hB'⟩ := hb4.fin (.string ⟨#[]⟩) (.int .i64 ((p : Int) + (pl.length : Int))) (.int .i64 6)
        refine ⟨by simp, .inl ⟨_, _, rfl, run_takeDeferred hK', ?_⟩⟩
        refine ⟨.tuple #[.string ⟨#[]⟩, .int .i64 ((p : Int) + (pl.length : Int)), .int .i64 6], ?_, .inl ⟨Hr.out, by rw [Hres.out]; exact congrArg (fun z : Int => Ending.returned (.tuple #[.string ⟨#[]⟩, .int .i64 z, .int .i64 6])) (by omega)⟩, hB'⟩
        simp [results, Tryd.f25, go_sem, q0, q1, q2]
      | @none_ _ pl body t h38 h59 he =>
        have hcut : Lib.cut (s.extract p s.size).data.toList [38] = (pl, body ++ 59 :: t, true) := by rw [hxd]; exact cut_yes h38
        have HC := Lib.hid (cut_any _ ⟨#[38]⟩ _ _ _ hcut hxs wr hb.g)
        simp only [List.length_append, List.length_cons] at hl
        clear hcut hxd hL
        gi_wp2_with (refine ⟨trivial, ?_⟩; gi_at_call 41; refine (callsIn_wide.2 (HC.out)).mono ?_)
        rintro e w1 ⟨rfl, hbl1⟩
        have hI1 := isB_below hI hbl1
        have hb1 := hb.mono hbl1 (by omega)
        have hz1 := Nat.le_trans hz hbl1.size
        clear hI hb hz hbl1 HC
        gi_wp2_with (refine ⟨trivial, ?_⟩; gi_at_call 37; refine (callsIn_wide.2 (writeStr_post _ _ _ _ hI1 (by omega) hz1)).mono ?_)
        rintro e w2 ⟨⟨v2, rfl⟩, hI2, hbl2⟩
        have hb2 := hb1.mono hbl2 (by omega)
        have hz2 := Nat.le_trans hz1 hbl2.size
        clear hI1 hb1 hz1 hbl2
        have hcut2 : Lib.cut (⟨(body ++ 59 :: t).toArray⟩ : ByteArray).data.toList [59] = (body, t, true) := cut_yes h59
        have HC2 := Lib.hid (cut_any ⟨(body ++ 59 :: t).toArray⟩ ⟨#[59]⟩ _ _ _ hcut2 (by rw [list_size]; simp only [List.length_append, List.length_cons]; omega) w2 hb2.g)
        clear hcut2
        gi_wp2_with (refine ⟨trivial, ?_⟩; gi_at_call 41; refine (callsIn_wide.2 (HC2.out)).mono ?_)
        rintro e w3 ⟨rfl, hbl3⟩
        have hI3 := isB_below hI2 hbl3
        have hb3 := hb2.mono hbl3 (by omega)
        have hz3 := Nat.le_trans hz2 hbl3.size
        clear hI2 hb2 hz2 hbl3 HC2
        gi_wp2_with (refine ⟨trivial, ?_⟩; gi_at_call 42; refine (callsIn_wide.2 (meant_post body M _ hb3.g hb3.map)).mono ?_)
        rintro e w4 ⟨rfl, hbl4⟩
        have hI4 := isB_below hI3 hbl4
        have hb4 := hb3.mono hbl4 (by omega)
        have hz4 := Nat.le_trans hz3 hbl4.size
        clear hI3 hb3 hz3 hbl4
        rw [he]
        clear he
        have c0 := hb4.r0.cell
        have f0 := hb4.r0.frozen
        have c1 := hb4.r1.cell
        have f1 := hb4.r1.frozen
        have c2 := hb4.r2.cell
        have f2 := hb4.r2.frozen
        gi_wp2
        obtain ⟨hK', q0, q1, q2, hB'⟩ := hb4.fin (.string ⟨#[]⟩) (.int .i64 ((p : Int) + (pl.length : Int))) (.int .i64 6)
        refine ⟨by simp, .inl ⟨_, _, rfl, run_takeDeferred hK', ?_⟩⟩
        refine ⟨.tuple #[.string ⟨#[]⟩, .int .i64 ((p : Int) + (pl.length : Int)), .int .i64 6], ?_, .inl ⟨Hr.out, by rw [Hres.out]; exact congrArg (fun z : Int => Ending.returned (.tuple #[.string ⟨#[]⟩, .int .i64 z, .int .i64 6])) (by omega)⟩, hB'⟩
        simp [results, Tryd.f25, go_sem, q0, q1, q2]
      | @step _ pl body t c rr h38 h59 he hn =>
        have hcut : Lib.cut (s.extract p s.size).data.toList [38] = (pl, body ++ 59 :: t, true) := by rw [hxd]; exact cut_yes h38
        have HC := Lib.hid (cut_any _ ⟨#[38]⟩ _ _ _ hcut hxs wr hb.g)
        simp only [List.length_append, List.length_cons] at hl
        have hL2 := hL
        clear hcut hxd hL
        gi_wp2_with (refine ⟨trivial, ?_⟩; gi_at_call 41; refine (callsIn_wide.2 (HC.out)).mono ?_)
        rintro e w1 ⟨rfl, hbl1⟩
        have hI1 := isB_below hI hbl1
        have hb1 := hb.mono hbl1 (by omega)
        have hz1 := Nat.le_trans hz hbl1.size
        clear hI hb hz hbl1 HC
        gi_wp2_with (refine ⟨trivial, ?_⟩; gi_at_call 37; refine (callsIn_wide.2 (writeStr_post _ _ _ _ hI1 (by omega) hz1)).mono ?_)
        rintro e w2 ⟨⟨v2, rfl⟩, hI2, hbl2⟩
        have hb2 := hb1.mono hbl2 (by omega)
        have hz2 := Nat.le_trans hz1 hbl2.size
        clear hI1 hb1 hz1 hbl2
        have hcut2 : Lib.cut (⟨(body ++ 59 :: t).toArray⟩ : ByteArray).data.toList [59] = (body, t, true) := cut_yes h59
        have HC2 := Lib.hid (cut_any ⟨(body ++ 59 :: t).toArray⟩ ⟨#[59]⟩ _ _ _ hcut2 (by rw [list_size]; simp only [List.length_append, List.length_cons]; omega) w2 hb2.g)
        clear hcut2
        gi_wp2_with (refine ⟨trivial, ?_⟩; gi_at_call 41; refine (callsIn_wide.2 (HC2.out)).mono ?_)
        rintro e w3 ⟨rfl, hbl3⟩
        have hI3 := isB_below hI2 hbl3
        have hb3 := hb2.mono hbl3 (by omega)
        have hz3 := Nat.le_trans hz2 hbl3.size
        clear hI2 hb2 hz2 hbl3 HC2
        gi_wp2_with (refine ⟨trivial, ?_⟩; gi_at_call 42; refine (callsIn_wide.2 (meant_post body M _ hb3.g hb3.map)).mono ?_)
        rintro e w4 ⟨rfl, hbl4⟩
        have hI4 := isB_below hI3 hbl4
        have hb4 := hb3.mono hbl4 (by omega)
        have hz4 := Nat.le_trans hz3 hbl4.size
        clear hI3 hb3 hz3 hbl4
        rw [he]
        have hv := escV_valid he
        have hcp := valid_pos hv
        have hne : ((c : Int) == -1) = false := by rw [beq_eq_false_iff_ne]; omega
        have hdr : s.data.toList.drop (p + pl.length + (body.length + 2)) = t := by
          have := congrArg (List.drop (pl.length + (body.length + 2))) hL2
          rw [List.drop_drop] at this
          rw [show p + pl.length + (body.length + 2) = p + (pl.length + (body.length + 2)) by omega, this]
          have e1 : pl ++ 38 :: (body ++ 59 :: t) = (pl ++ 38 :: (body ++ [59])) ++ t := by simp
          rw [e1, List.drop_left']
          simp
        have Hdr := Lib.hid hdr
        have Hn := Lib.hid hn
        have Hv := Lib.hid hv
        simp only [Option.getD_some]
        clear hdr hn hv he hL2
        gi_wp2_with (refine ⟨trivial, ?_⟩; gi_at_call 34; refine (callsIn_wide.2 (writeRune_post _ _ c Hv.out _ hI4 (by simp only [List.length_append]; omega) hz4)).mono ?_)
        rintro e w5 ⟨⟨v5, rfl⟩, hI5, hbl5⟩
        have hb5 := hb4.mono hbl5 (by omega)
        have hz5 := Nat.le_trans hz4 hbl5.size
        clear hI4 hb4 hz4 hbl5
        gi_wp2
        go_roundw
        case rel => exact ⟨p + pl.length + (body.length + 2), o ++ pl ++ enc1 c, rr, by omega, by go_num, by rw [Hdr.out]; exact Hn.out, by rw [Hres.out, map_step], by have := enc1_len c; simp only [List.length_append]; omega, hI5, hb5, hz5⟩
        case measure =>
          simp only [intOf]
          omega
end Ck
end Go.Proofs.YthfmnhhennbjnaaDoor
