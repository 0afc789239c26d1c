/- Escape: the program's and the reference's. -/
import Derived.Test.YthfmnhhennbjnaaDoorCkMap
namespace Go.Proofs.YthfmnhhennbjnaaDoor
open Go.RowKit Go.Shelf
attribute [local go_sem] Oper.semAt_some
namespace Ck

def escOpt (a : Bool) (c : Int) : Option (List UInt8) := if a then (if c = 60 then some [38, 108, 116, 59] else if c = 62 then some [38, 103, 116, 59] else if c = 38 then some [38, 97, 109, 112, 59] else if c = 13 then some [38, 35, 49, 51, 59] else if c = 34 then some [38, 113, 117, 111, 116, 59] else if c = 9 then some [38, 35, 57, 59] else if c = 10 then some [38, 35, 49, 48, 59] else none) else (if c = 60 then some [38, 108, 116, 59] else if c = 62 then some [38, 103, 116, 59] else if c = 38 then some [38, 97, 109, 112, 59] else if c = 13 then some [38, 35, 49, 51, 59] else none)
def escB (a : Bool) (c : Int) : List UInt8 := match escOpt a c with | some l => l | none => enc1 c
def escL (a : Bool) (cs : List Int) : List UInt8 := cs.flatMap (escB a)

theorem look_none (a : Bool) (c : Int) (h : escOpt a c = none) (w : World) (b : Nat) (hb : w.heap[b]? = some (escObj a)) :
    (Instr.lookup 55 (.map (some b)) (.int .i32 c) true).run Tryd.prog w = .ok (.tuple #[.string ⟨#[]⟩, .bool false]) w := by
  cases a
  · simp only [escOpt, Bool.false_eq_true, if_false] at h
    have g0 : (c == 60) = false := by rw [beq_eq_false_iff_ne]; rintro rfl; simp at h
    have g1 : (c == 62) = false := by rw [beq_eq_false_iff_ne]; rintro rfl; simp at h
    have g2 : (c == 38) = false := by rw [beq_eq_false_iff_ne]; rintro rfl; simp at h
    have g3 : (c == 13) = false := by rw [beq_eq_false_iff_ne]; rintro rfl; simp at h
    exact run_look (P := Tryd.prog) w _ 21 9 b _ _ _ (.string ⟨#[]⟩) (.int .i32) Tryd.underlying55 Tryd.underlying21 (by simp [MapKept.IsKey]) none (by simp [Instr.findNow, Instr.sameNow, escEs4, *]) hb (Tryd.zeroValue9 w)
  · simp only [escOpt, if_true] at h
    have g0 : (c == 60) = false := by rw [beq_eq_false_iff_ne]; rintro rfl; simp at h
    have g1 : (c == 62) = false := by rw [beq_eq_false_iff_ne]; rintro rfl; simp at h
    have g2 : (c == 38) = false := by rw [beq_eq_false_iff_ne]; rintro rfl; simp at h
    have g3 : (c == 13) = false := by rw [beq_eq_false_iff_ne]; rintro rfl; simp at h
    have g4 : (c == 34) = false := by rw [beq_eq_false_iff_ne]; rintro rfl; simp at h
    have g5 : (c == 9) = false := by rw [beq_eq_false_iff_ne]; rintro rfl; simp at h
    have g6 : (c == 10) = false := by rw [beq_eq_false_iff_ne]; rintro rfl; simp at h
    exact run_look (P := Tryd.prog) w _ 21 9 b _ _ _ (.string ⟨#[]⟩) (.int .i32) Tryd.underlying55 Tryd.underlying21 (by simp [MapKept.IsKey]) none (by simp [Instr.findNow, Instr.sameNow, escEs, *]) hb (Tryd.zeroValue9 w)
theorem look_some (a : Bool) (c : Int) (E : List UInt8) (h : escOpt a c = some E) (w : World) (b : Nat) (hb : w.heap[b]? = some (escObj a)) :
    (Instr.lookup 55 (.map (some b)) (.int .i32 c) true).run Tryd.prog w = .ok (.tuple #[.string ⟨E.toArray⟩, .bool true]) w := by
  cases a
  · simp only [escOpt, Bool.false_eq_true, if_false] at h
    by_cases g0 : c = 60
    · subst g0
      obtain rfl : [38, 108, 116, 59] = E := by simpa using h
      exact run_look (P := Tryd.prog) w _ 21 9 b _ _ _ (.string ⟨#[]⟩) (.int .i32) Tryd.underlying55 Tryd.underlying21 (by simp [MapKept.IsKey]) (some (0, .string ⟨#[38, 108, 116, 59]⟩)) rfl hb (Tryd.zeroValue9 w)
    rw [if_neg g0] at h
    by_cases g1 : c = 62
    · subst g1
      obtain rfl : [38, 103, 116, 59] = E := by simpa using h
      exact run_look (P := Tryd.prog) w _ 21 9 b _ _ _ (.string ⟨#[]⟩) (.int .i32) Tryd.underlying55 Tryd.underlying21 (by simp [MapKept.IsKey]) (some (1, .string ⟨#[38, 103, 116, 59]⟩)) rfl hb (Tryd.zeroValue9 w)
    rw [if_neg g1] at h
    by_cases g2 : c = 38
    · subst g2
      obtain rfl : [38, 97, 109, 112, 59] = E := by simpa using h
      exact run_look (P := Tryd.prog) w _ 21 9 b _ _ _ (.string ⟨#[]⟩) (.int .i32) Tryd.underlying55 Tryd.underlying21 (by simp [MapKept.IsKey]) (some (2, .string ⟨#[38, 97, 109, 112, 59]⟩)) rfl hb (Tryd.zeroValue9 w)
    rw [if_neg g2] at h
    by_cases g3 : c = 13
    · subst g3
      obtain rfl : [38, 35, 49, 51, 59] = E := by simpa using h
      exact run_look (P := Tryd.prog) w _ 21 9 b _ _ _ (.string ⟨#[]⟩) (.int .i32) Tryd.underlying55 Tryd.underlying21 (by simp [MapKept.IsKey]) (some (3, .string ⟨#[38, 35, 49, 51, 59]⟩)) rfl hb (Tryd.zeroValue9 w)
    rw [if_neg g3] at h
    exact absurd h (by simp)
  · simp only [escOpt, if_true] at h
    by_cases g0 : c = 60
    · subst g0
      obtain rfl : [38, 108, 116, 59] = E := by simpa using h
      exact run_look (P := Tryd.prog) w _ 21 9 b _ _ _ (.string ⟨#[]⟩) (.int .i32) Tryd.underlying55 Tryd.underlying21 (by simp [MapKept.IsKey]) (some (0, .string ⟨#[38, 108, 116, 59]⟩)) rfl hb (Tryd.zeroValue9 w)
    rw [if_neg g0] at h
    by_cases g1 : c = 62
    · subst g1
      obtain rfl : [38, 103, 116, 59] = E := by simpa using h
      exact run_look (P := Tryd.prog) w _ 21 9 b _ _ _ (.string ⟨#[]⟩) (.int .i32) Tryd.underlying55 Tryd.underlying21 (by simp [MapKept.IsKey]) (some (1, .string ⟨#[38, 103, 116, 59]⟩)) rfl hb (Tryd.zeroValue9 w)
    rw [if_neg g1] at h
    by_cases g2 : c = 38
    · subst g2
      obtain rfl : [38, 97, 109, 112, 59] = E := by simpa using h
      exact run_look (P := Tryd.prog) w _ 21 9 b _ _ _ (.string ⟨#[]⟩) (.int .i32) Tryd.underlying55 Tryd.underlying21 (by simp [MapKept.IsKey]) (some (2, .string ⟨#[38, 97, 109, 112, 59]⟩)) rfl hb (Tryd.zeroValue9 w)
    rw [if_neg g2] at h
    by_cases g3 : c = 13
    · subst g3
      obtain rfl : [38, 35, 49, 51, 59] = E := by simpa using h
      exact run_look (P := Tryd.prog) w _ 21 9 b _ _ _ (.string ⟨#[]⟩) (.int .i32) Tryd.underlying55 Tryd.underlying21 (by simp [MapKept.IsKey]) (some (3, .string ⟨#[38, 35, 49, 51, 59]⟩)) rfl hb (Tryd.zeroValue9 w)
    rw [if_neg g3] at h
    by_cases g4 : c = 34
    · subst g4
      obtain rfl : [38, 113, 117, 111, 116, 59] = E := by simpa using h
      exact run_look (P := Tryd.prog) w _ 21 9 b _ _ _ (.string ⟨#[]⟩) (.int .i32) Tryd.underlying55 Tryd.underlying21 (by simp [MapKept.IsKey]) (some (4, .string ⟨#[38, 113, 117, 111, 116, 59]⟩)) rfl hb (Tryd.zeroValue9 w)
    rw [if_neg g4] at h
    by_cases g5 : c = 9
    · subst g5
      obtain rfl : [38, 35, 57, 59] = E := by simpa using h
      exact run_look (P := Tryd.prog) w _ 21 9 b _ _ _ (.string ⟨#[]⟩) (.int .i32) Tryd.underlying55 Tryd.underlying21 (by simp [MapKept.IsKey]) (some (5, .string ⟨#[38, 35, 57, 59]⟩)) rfl hb (Tryd.zeroValue9 w)
    rw [if_neg g5] at h
    by_cases g6 : c = 10
    · subst g6
      obtain rfl : [38, 35, 49, 48, 59] = E := by simpa using h
      exact run_look (P := Tryd.prog) w _ 21 9 b _ _ _ (.string ⟨#[]⟩) (.int .i32) Tryd.underlying55 Tryd.underlying21 (by simp [MapKept.IsKey]) (some (6, .string ⟨#[38, 35, 49, 48, 59]⟩)) rfl hb (Tryd.zeroValue9 w)
    rw [if_neg g6] at h
    exact absurd h (by simp)


theorem escOpt_len {a : Bool} {c : Int} {l : List UInt8} (h : escOpt a c = some l) : l.length ≤ 6 := by
  unfold escOpt at h
  repeat' split at h
  all_goals first | (cases h; decide) | exact absurd h (by simp)
theorem escB_len (a : Bool) (c : Int) : (escB a c).length ≤ 6 := by
  unfold escB
  cases h : escOpt a c with
  | none => have := enc1_len c; simp only; omega
  | some l => exact escOpt_len h
theorem escL_snoc (a : Bool) (l : List Int) (c : Int) : escL a (l ++ [c]) = escL a l ++ escB a c := by simp [escL]
theorem escL_len (a : Bool) (l : List Int) : (escL a l).length ≤ 6 * l.length := by
  induction l with
  | nil => simp [escL]
  | cons c l ih =>
    have := escB_len a c
    simp only [escL, List.flatMap_cons, List.length_append, List.length_cons] at ih ⊢
    omega
abbrev snds (l : List I32) : List Int := (vals l).map (·.2)

def EI (h : Nat) (a : Bool) (s : ByteArray) (pre : List I32) (W : World) : Prop :=
  (Boxed W h 9 (.string ⟨#[]⟩) ∧ Boxed W (h + 1) 27 (.int .i64 0) ∧ W.heap[h + 2]? = some (escObj a)) ∧ Boxed W (h + 3) 55 (.map (some (h + 2))) ∧ IsB (h + 4) (h + 4) (escL a (snds pre)) W ∧ Boxed W (h + 5) 9 (.string s) ∧ ∀ x ∈ vals pre, x.2 ≠ -1
theorem isB_kept {B b : Nat} {bs : List UInt8} {w w' : World} {row : Option Nat} (h : IsB B b bs w) (hg : w.grownBy w' row) (hr : ∀ r, row = some r → ∃ o : Obj, w.heap[r]? = some o ∧ o.isCells = false) : IsB B b bs w' := by
  have key : ∀ p, Lib.BuilderAtF 49 5 B b p (Lib.byteCells bs) w → Lib.BuilderAtF 49 5 B b p (Lib.byteCells bs) w' := by
    rintro p ⟨hB, v, h1, h2, h3⟩
    refine ⟨hB, v, (grownBy_keeps_cells hg hr h1 rfl).trans h1, World.ownsRowF.kept h2 hg ?_, h3⟩
    rcases h2.2 with ⟨rfl, _⟩ | ⟨g, cap, cur, fz, rfl, _, hgb, _⟩
    · exact .inl rfl
    · refine .inr fun e' => ?_
      obtain ⟨o, ho, hc⟩ := hr g (by simpa [Value.ownBlock] using e'.symm)
      rw [hgb] at ho; cases ho; cases hc
  exact h.elim (fun x => .inl (key _ x)) (fun x => .inr (key _ x))
theorem escObj_isMap (a : Bool) : (escObj a).isCells = false := by cases a <;> rfl
theorem EI.own (h : Nat) (a : Bool) (s : ByteArray) {B : Nat} (hB : h + 2 < B) : OwnFrom B (EI h a s) := fun _ A C row hs hg hr => by
  have hr' : ∀ r, row = some r → ∃ o : Obj, A.heap[r]? = some o ∧ o.isCells = false := fun r e => (hr r e).2
  refine ⟨⟨boxed_own h 9 (fun _ : Unit => .string ⟨#[]⟩) () A C row hs.1.1 hg hr', boxed_own (h + 1) 27 (fun _ : Unit => .int .i64 0) () A C row hs.1.2.1 hg hr', ?_⟩,
    boxed_own (h + 3) 55 (fun _ : Unit => .map (some (h + 2))) () A C row hs.2.1 hg hr', isB_kept hs.2.2.1 hg hr', boxed_own (h + 5) 9 (fun _ : Unit => .string s) () A C row hs.2.2.2.1 hg hr', hs.2.2.2.2⟩
  exact (hg.block (h + 2) (lt_of_heap hs.1.2.2) (fun e => by have := (hr _ e.symm).1; omega)).trans hs.1.2.2
def EX (h : Nat) (c : Code) (pre : List I32) (W : World) : Prop :=
  c = .ret ∧ (∃ ini last, pre = ini ++ [last] ∧ last.1.2 = -1) ∧ Boxed W h 9 (.string ⟨#[]⟩) ∧ Boxed W (h + 1) 27 (.int .i64 6)
theorem EX.own (h : Nat) (c : Code) : Own (EX h c) := fun _ A B row hs hg hr =>
  ⟨hs.1, hs.2.1, boxed_own h 9 (fun _ : Unit => .string ⟨#[]⟩) () A B row hs.2.2.1 hg hr, boxed_own (h + 1) 27 (fun _ : Unit => .int .i64 6) () A B row hs.2.2.2 hg hr⟩

theorem boxed_below {W W' : World} {B n : Nat} {t : TypeId} {v : Value} (h : Boxed W B t v) (hb : Below n W W') (hB : B < n) : Boxed W' B t v := (hb.block B hB).trans h
theorem isB_cells {B b : Nat} {bs : List UInt8} {w : World} (h : IsB B b bs w) : ∃ o, w.heap[b]? = some o ∧ o.isCells = true := by
  rcases h with ⟨_, v, h1, _⟩ | ⟨_, v, h1, _⟩ <;> exact ⟨_, h1, rfl⟩
theorem keeps_of_kept {B b : Nat} {bs : List UInt8} {W W' : World} (hI : IsB B b bs W) (hs : W.heap.size ≤ W'.heap.size) (hk : Kept b W W') : KeepsOthers W W' := by
  refine ⟨hs, fun k o h1 h2 => hk k o h1 (fun e => ?_) (fun c fz e => by rw [e] at h2; cases h2)⟩
  cases e
  obtain ⟨o', h3, h4⟩ := isB_cells hI
  rw [h1] at h3; cases h3
  rw [h2] at h4; cases h4
theorem boxed_kept {W W' : World} {B b : Nat} {t : TypeId} {v : Value} (h : Boxed W B t v) (hk : Kept b W W') (hb : B ≠ b) (ht : t ≠ 5) : Boxed W' B t v :=
  hk B _ h (fun e => hb (Option.some.inj e)) (fun c fz e => by cases e; exact ht rfl)
theorem snds_snoc (pre : List I32) (x : I32) : snds (pre ++ [x]) = snds pre ++ [x.1.2] := by simp [snds, vals]
/-- What a write into the builder leaves of the rest. -/
theorem EI.wrote {w : World} {a : Bool} {s : ByteArray} {pre : List I32} {x : I32} {W w1 : World} {E : List UInt8} (h : EI w.heap.size a s pre W) (hB : Below w.heap.size w W) (hz : (x.1.2 == -1) = false) (hE : escB a x.1.2 = E)
    (hI1 : IsB (w.heap.size + 4) (w.heap.size + 4) (escL a (snds pre) ++ E) w1) (hb1 : Below (w.heap.size + 4) W w1) (hk1 : Kept (w.heap.size + 4) W w1) {n : Nat} :
    KeepsFrom n W w1 ∧ KpC w.heap.size (w.heap.size + 5) W w1 ∧ EI w.heap.size a s (pre ++ [x]) w1 ∧ Below w.heap.size w w1 := by
  obtain ⟨⟨h0, h1, h2⟩, h3, hI, h5, hall⟩ := h
  have k5 := boxed_kept h5 hk1 (by omega) (by decide)
  refine ⟨(keeps_of_kept hI hb1.size hk1).from _, ⟨hb1.mono (by omega), k5.trans h5.symm⟩, ⟨⟨boxed_below h0 hb1 (by omega), boxed_below h1 hb1 (by omega), (hb1.block _ (by omega)).trans h2⟩, boxed_below h3 hb1 (by omega), ?_, k5, ?_⟩, hB.trans (hb1.mono (by omega))⟩
  · rw [snds_snoc, escL_snoc, hE]; exact hI1
  · intro y hy
    simp only [vals, List.map_append, List.map_cons, List.map_nil] at hy
    rcases List.mem_append.1 hy with hy | hy
    · exact hall y hy
    · rw [List.mem_singleton.1 hy]; exact beq_eq_false_iff_ne.1 hz

theorem Escape_start (w : World) (a : Bool) (s : ByteArray) (W0 : World) (hW0 : ((((((w.alloc (.cells #[.string ⟨#[]⟩] 9)).alloc (.cells #[.int .i64 0] 27)).alloc (escObj a)).alloc (.cells #[.map (some (w.heap.size + 2))] 55)).alloc (.cells #[.pointer none, .slice none 0 0] 49)).alloc (.cells #[.string s] 9)) = W0) :
    W0.heap.size = w.heap.size + 6 ∧ Below w.heap.size w W0 ∧ EI w.heap.size a s [] W0 := by
  have b0 := Boxed.new w 9 (.string ⟨#[]⟩)
  have b1 := Boxed.new (w.alloc (.cells #[.string ⟨#[]⟩] 9)) 27 (.int .i64 0)
  obtain ⟨w2, hw2⟩ : ∃ w2, (w.alloc (.cells #[.string ⟨#[]⟩] 9)).alloc (.cells #[.int .i64 0] 27) = w2 := ⟨_, rfl⟩
  have s2 : w2.heap.size = w.heap.size + 2 := by rw [← hw2]; simp
  have h2 := World.alloc_heap_new w2 (escObj a)
  obtain ⟨w3, hw3⟩ : ∃ w3, w2.alloc (escObj a) = w3 := ⟨_, rfl⟩
  have s3 : w3.heap.size = w.heap.size + 3 := by rw [← hw3]; simp [s2]
  have b3 := Boxed.new w3 55 (.map (some (w.heap.size + 2)))
  obtain ⟨w4, hw4⟩ : ∃ w4, w3.alloc (.cells #[.map (some (w.heap.size + 2))] 55) = w4 := ⟨_, rfl⟩
  have s4 : w4.heap.size = w.heap.size + 4 := by rw [← hw4]; simp [s3]
  have b4 := Lib.fresh_isBuilder 49 5 w4
  obtain ⟨w5, hw5⟩ : ∃ w5, w4.alloc (.cells #[.pointer none, .slice none 0 0] 49) = w5 := ⟨_, rfl⟩
  have s5 : w5.heap.size = w.heap.size + 5 := by rw [← hw5]; simp [s4]
  have b5 := Boxed.new w5 9 (.string s)
  rw [hw2, hw3, hw4, hw5] at hW0
  subst hW0
  rw [World.size_alloc] at b1
  rw [hw2] at b1
  rw [hw3, s2] at h2
  rw [hw4, s3] at b3
  rw [hw5, s4] at b4
  rw [s5] at b5
  have e2 : Below w.heap.size w w2 := by rw [← hw2]; exact ((Below.refl _ w).alloc (Nat.le_refl _) _).alloc (by simp) _
  have e3 : Below w.heap.size w w3 := by rw [← hw3]; exact e2.alloc (by omega) _
  have e4 : Below w.heap.size w w4 := by rw [← hw4]; exact e3.alloc (by omega) _
  have e5 : Below w.heap.size w w5 := by rw [← hw5]; exact e4.alloc (by omega) _
  have p0 : Boxed w2 w.heap.size 9 (.string ⟨#[]⟩) := by rw [← hw2]; exact b0.alloc _
  have f0 : Boxed w5 w.heap.size 9 (.string ⟨#[]⟩) := by rw [← hw5, ← hw4, ← hw3]; exact ((p0.alloc _).alloc _).alloc _
  have f1 : Boxed w5 (w.heap.size + 1) 27 (.int .i64 0) := by rw [← hw5, ← hw4, ← hw3]; exact ((b1.alloc _).alloc _).alloc _
  have f3 : Boxed w5 (w.heap.size + 3) 55 (.map (some (w.heap.size + 2))) := by rw [← hw5]; exact b3.alloc _
  refine ⟨by rw [World.size_alloc, s5], e5.alloc (by omega) _, ⟨f0.alloc _, f1.alloc _, ?_⟩, f3.alloc _, (Lib.IsBuilderF.of b4).alloc _, b5, by simp⟩
  rw [Below.heap_alloc _ _ _ (by omega), ← hw5, Below.heap_alloc _ _ _ (by omega), ← hw4, Below.heap_alloc _ _ _ (by omega)]
  exact h2
set_option maxRecDepth 100000 in
set_option maxHeartbeats 1000000 in
theorem Escape_any (s : ByteArray) (a : Bool) (hs : s.size ≤ 1048576) (cs : List Int) (rest : List UInt8) (hS : Split s.data.toList cs rest) (w : World) (hG : G w) :
    Calls Tryd.prog 23 #[.string s, .bool a] w fun e w' => ((rest = [] ∧ e = .returned (.tuple #[.string ⟨(escL a cs).toArray⟩, .int .i64 0])) ∨ (rest ≠ [] ∧ e = .returned (.tuple #[.string ⟨#[]⟩, .int .i64 6]))) ∧ Below w.heap.size w w' := by
  have hG4 := hG.size
  refine (callsIn_wide (n := 9)).1 ?_
  refine callsIn_of_wp_marks Tryd.func23 rfl trivial ?_ rfl
  simp only [Tryd.ntmps23, List.size_toArray, List.length_cons, List.length_nil, Nat.reduceAdd, Nat.reduceSub, Array.replicate_succ, Array.replicate_zero, List.push_toArray, List.append_toArray, List.nil_append, List.cons_append]
  gi_wp2_with (first | (refine ⟨trivial, ?_⟩; gi_at_call 31; refine (callsIn_wide.2 (characters_in _ _)).mono ?_; rintro e w' ⟨rfl, rfl⟩) | (refine ⟨trivial, ?_⟩; gi_at_call 36; refine (callsIn_wide.2 (written_any _ _)).mono ?_; rintro e w' ⟨rfl, rfl⟩))
  simp only [Nat.add_assoc, Nat.reduceAdd]
  obtain ⟨W0, hW0⟩ : ∃ W0, ((((((w.alloc (.cells #[.string ⟨#[]⟩] 9)).alloc (.cells #[.int .i64 0] 27)).alloc (escObj a)).alloc (.cells #[.map (some (w.heap.size + 2))] 55)).alloc (.cells #[.pointer none, .slice none 0 0] 49)).alloc (.cells #[.string s] 9)) = W0 := ⟨_, rfl⟩
  rw [hW0]
  obtain ⟨hsz0, hB0, hd0⟩ := Escape_start w a s W0 hW0
  clear hW0
  have hG2 : G W0 := hG.below hG4 hB0
  have hbs := hd0.2.2.2.1
  have hN : (items cs rest).length ≤ 1048577 := by
    have h1 := items_len cs rest
    have h2 := (encL_len cs).1
    have h3 := hS.len
    rw [← list_size] at h3
    omega
  refine wpIn_rangeFunc_ownG rfl (by omega) (gf := 46) (lb := #[.pointer (some ⟨w.heap.size + 5, 0, none⟩)]) rfl trivial (enters_of Tryd.func46 (by kernel_rfl) rfl)
    (chars_stops32 _ (by omega) (w.heap.size + 5) w.heap.size hG4 s (by omega) cs rest hS _ hG2 _ hbs (by omega)) (fun h k => h.trans k) (kpC_b (by omega) (by omega)) (Below.refl _ _) (fun _ => rfl)
    (fun pre W => EI w.heap.size a s pre W ∧ Below w.heap.size w W) (fun c pre W => EX w.heap.size c pre W ∧ Below w.heap.size w W)
    (OwnFrom.and (EI.own _ a s (by omega)) (ownFrom_below (by omega) (by omega))) (fun c => OwnFrom.and ((EX.own _ c).from _) (ownFrom_below (by omega) (by omega)))
    ⟨hd0, hB0⟩ ?a1 ?assign ?body ?done ?stop
  case assign =>
    intro l x W K hK
    simp only [encJ, encI]
    gi_wp2
    exact hK
  case body =>
    rintro l pre x W ⟨hE, hB⟩ hlt
    obtain ⟨⟨h0, h1, h2⟩, h3, hI, h5, hall⟩ := hE
    have hE : EI w.heap.size a s pre W := ⟨⟨h0, h1, h2⟩, h3, hI, h5, hall⟩
    have HE := Lib.hid hE
    have hsB := hB.size
    have hlen := escL_len a (snds pre)
    rw [List.length_map, List.length_map] at hlen
    have hl6 : (escL a (snds pre)).length ≤ 6 * 1048577 := by omega
    have hx32 := x.2
    have hh4 : w.heap.size + 4 ≤ W.heap.size := by have := h5.lt; omega
    clear hlen hlt hE
    cases hz : ((x.1.2 : Int) == -1)
    · have c3 := h3.cell
      cases he : escOpt a x.1.2 with
      | none =>
        have hlk := look_none a x.1.2 he W (w.heap.size + 2) h2
        have He : Hid (escB a x.1.2 = enc1 x.1.2) := Lib.hid (by unfold escB; rw [he])
        clear he
        gi_wp2_with (refine ⟨trivial, ?_⟩; gi_at_call 34; refine (CallsIn.inRound l (callsIn_wide.2 (WriteRune (w.heap.size + 4) (w.heap.size + 4) _ x.1.2 hx32.1 hx32.2 _ hI (by omega) hh4))).mono ?_)
        rintro e w1 ⟨⟨nn, rfl⟩, hI1, hb1, hk1⟩
        gi_wp2
        exact HE.out.wrote hB hz He.out (by assumption) (by assumption) (by assumption)
      | some E =>
        have hlk := look_some a x.1.2 E he W (w.heap.size + 2) h2
        have hle := escOpt_len he
        have He : Hid (escB a x.1.2 = E) := Lib.hid (by unfold escB; rw [he])
        have hEs : (⟨E.toArray⟩ : ByteArray).size = E.length := by rw [list_size]
        have HW := Lib.hid (WriteString (w.heap.size + 4) (w.heap.size + 4) (escL a (snds pre)) ⟨E.toArray⟩ W hI (by rw [hEs]; omega) hh4)
        clear he hEs
        gi_wp2_with (refine ⟨trivial, ?_⟩; gi_at_call 37; refine (CallsIn.inRound l (callsIn_wide.2 HW.out)).mono ?_; rintro e w1 ⟨rfl, hI1, hb1, hk1⟩)
        exact HE.out.wrote hB hz He.out (by assumption) (by assumption) (by assumption)
    · have hz1 : x.1.2 = -1 := by simpa using hz
      have c0 := h0.cell
      have f0 := h0.frozen
      have c1 := h1.cell
      have f1 := h1.frozen
      have Hz := Lib.hid hz1
      clear hz1
      gi_wp2
      have m0 := (h0.set (.string ⟨#[]⟩)).other (B' := w.heap.size + 1) (by omega) (.int .i64 6)
      have m1 := (h1.other (B' := w.heap.size) (by omega) (.string ⟨#[]⟩)).set (.int .i64 6)
      exact ⟨((KeepsOthers.setCell _ _ _).trans (KeepsOthers.setCell _ _ _)).from _, ⟨rfl, ⟨pre, x, rfl, Hz.out⟩, m0, m1⟩, (hB.setCell (p := ⟨w.heap.size, 0, none⟩) (Nat.le_refl _) _).setCell (p := ⟨w.heap.size + 1, 0, none⟩) (by simp) _⟩
  case done =>
    rintro D ys W hD hys ⟨⟨⟨h0, h1, h2⟩, h3, hI, h5, hall⟩, hB⟩ hK
    rw [hys] at hall
    obtain ⟨hrest, hitems⟩ := items_done hall
    have hsn : snds ys = cs := by unfold snds; rw [hys, hitems, items_snd]
    rw [hsn] at hI
    have Hr := Lib.hid hrest
    have hh4 : w.heap.size + 4 ≤ W.heap.size := by have := h5.lt; omega
    clear hrest hitems hsn hall
    gi_wp2_with (refine ⟨trivial, ?_⟩; gi_at_call 35; refine (callsIn_wide.2 (Tryd.Builder_String_any_k (w.heap.size + 4) (w.heap.size + 4) _ _ hI hh4)).mono ?_)
    rintro e w1 ⟨rfl, _, hb1, hk1⟩
    have k0 := boxed_below h0 hb1 (by omega)
    have k1 := boxed_below h1 hb1 (by omega)
    have hK1 := (keeps_of_kept hI hb1.size hk1).same D _ hK rfl
    have hB1 := hB.trans (hb1.mono (show w.heap.size ≤ w.heap.size + 4 by omega))
    have c0 := k0.cell
    have f0 := k0.frozen
    have c1 := k1.cell
    have f1 := k1.frozen
    clear hB hK hb1 hk1 h0 h1 h2 h3 h5 hI
    gi_wp2
    have m0 := (k0.set (.string ⟨(escL a cs).toArray⟩)).other (B' := w.heap.size + 1) (by omega) (.int .i64 0)
    have m1 := (k1.other (B' := w.heap.size) (by omega) (.string ⟨(escL a cs).toArray⟩)).set (.int .i64 0)
    have hK' := ((KeepsOthers.setCell w1 ⟨w.heap.size, 0, none⟩ (.string ⟨(escL a cs).toArray⟩)).trans (KeepsOthers.setCell _ ⟨w.heap.size + 1, 0, none⟩ (.int .i64 0))).same D _ hK1 rfl
    have hB' := (hB1.setCell (p := ⟨w.heap.size, 0, none⟩) (Nat.le_refl _) (.string ⟨(escL a cs).toArray⟩)).setCell (p := ⟨w.heap.size + 1, 0, none⟩) (by simp) (.int .i64 0)
    have q0 := (boxed_putObj (o' := .deferred none) m0 hK' rfl).cell
    have q1 := (boxed_putObj (o' := .deferred none) m1 hK' rfl).cell
    refine ⟨by simp, .inl ⟨_, _, rfl, run_takeDeferred hK', ?_⟩⟩
    refine ⟨.tuple #[.string ⟨(escL a cs).toArray⟩, .int .i64 0], ?_, .inl ⟨Hr.out, rfl⟩, hB'.trans (belowK_b (w := w) (Nat.le_refl _) _ D _ _ (by omega) hK' rfl rfl)⟩
    simp [results, Tryd.f23, go_sem, q0, q1]
  case stop =>
    rintro D c pre W hD hpre ⟨⟨rfl, ⟨ini, last, rfl, e2⟩, h0, h1⟩, hB⟩ hK
    have hpre' : vals ini ++ [last.1] <+: items cs rest := by simpa [vals] using hpre
    obtain ⟨hrest, _⟩ := items_stop hS hpre' e2
    gi_wp2
    have q0 := (boxed_putObj (o' := .deferred none) h0 hK rfl).cell
    have q1 := (boxed_putObj (o' := .deferred none) h1 hK rfl).cell
    refine ⟨by simp, .inl ⟨_, _, rfl, run_takeDeferred hK, ?_⟩⟩
    refine ⟨.tuple #[.string ⟨#[]⟩, .int .i64 6], ?_, .inr ⟨hrest, rfl⟩, hB.trans (belowK_b (w := w) (Nat.le_refl _) _ D _ _ (by omega) hK rfl rfl)⟩
    simp [results, Tryd.f23, go_sem, q0, q1]
end Ck
end Go.Proofs.YthfmnhhennbjnaaDoor
