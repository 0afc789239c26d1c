/- Squeeze: the program's. -/
import Derived.Test.YthfmnhhennbjnaaDoorCkEsc
import Derived.Test.YthfmnhhennbjnaaDoorCkLocal
import Derived.Test.YthfmnhhennbjnaaDoorCkSqPlain
namespace Go.Proofs.YthfmnhhennbjnaaDoor
open Go.RowKit Go.Shelf
attribute [local go_sem] Oper.semAt_some
namespace Ck

theorem Blank_is (c : Int) (v : Bool) (hv : blankB c = v) (w : World) (hG : G w) :
    Calls Tryd.prog 10 #[.int .i32 c] w fun e w' => e = .returned (.bool v) ∧ Below w.heap.size w w' := by
  rw [← hv]; exact Blank_any c w hG

/-- The variables of Squeeze. -/
def SP (h : Nat) (m : Int) (s : ByteArray) (wt : Bool) (W : World) : Prop :=
  Boxed W h 3 (.int .i64 m) ∧ Boxed W (h + 1) 9 (.string ⟨#[]⟩) ∧ Boxed W (h + 2) 27 (.int .i64 0) ∧ Boxed W (h + 4) 4 (.bool wt) ∧ Boxed W (h + 5) 9 (.string s)
theorem SP.own (h : Nat) (m : Int) (s : ByteArray) (f : List I32 → Bool) : Own (fun pre W => SP h m s (f pre) W) := fun pre A C row hs hg hr =>
  ⟨boxed_own h 3 (fun _ : Unit => .int .i64 m) () A C row hs.1 hg hr, boxed_own (h + 1) 9 (fun _ : Unit => .string ⟨#[]⟩) () A C row hs.2.1 hg hr, boxed_own (h + 2) 27 (fun _ : Unit => .int .i64 0) () A C row hs.2.2.1 hg hr,
   boxed_own (h + 4) 4 (fun pre : List I32 => .bool (f pre)) pre A C row hs.2.2.2.1 hg hr, boxed_own (h + 5) 9 (fun _ : Unit => .string s) () A C row hs.2.2.2.2 hg hr⟩
theorem SP.kept {h : Nat} {m : Int} {s : ByteArray} {wt : Bool} {W W' : World} (hs : SP h m s wt W) (hb : Below (h + 3) W W') (hk : Kept (h + 3) W W') : SP h m s wt W' :=
  ⟨boxed_below hs.1 hb (by omega), boxed_below hs.2.1 hb (by omega), boxed_below hs.2.2.1 hb (by omega), boxed_kept hs.2.2.2.1 hk (by omega) (by decide), boxed_kept hs.2.2.2.2 hk (by omega) (by decide)⟩
theorem SP.below {h : Nat} {m : Int} {s : ByteArray} {wt : Bool} {W W' : World} (hs : SP h m s wt W) (hb : Below W.heap.size W W') : SP h m s wt W' :=
  ⟨boxed_below hs.1 hb hs.1.lt, boxed_below hs.2.1 hb hs.2.1.lt, boxed_below hs.2.2.1 hb hs.2.2.1.lt, boxed_below hs.2.2.2.1 hb hs.2.2.2.1.lt, boxed_below hs.2.2.2.2 hb hs.2.2.2.2.lt⟩
theorem SP.set {h : Nat} {m : Int} {s : ByteArray} {wt : Bool} {W : World} (hs : SP h m s wt W) (v : Bool) : SP h m s v (W.setCell ⟨h + 4, 0, none⟩ (.bool v)) :=
  ⟨hs.1.other (by omega) _, hs.2.1.other (by omega) _, hs.2.2.1.other (by omega) _, hs.2.2.2.1.set _, hs.2.2.2.2.other (by omega) _⟩
theorem isB_set {B b k : Nat} {bs : List UInt8} {t : TypeId} {x y : Value} {W : World} (h : IsB B b bs W) (hk : Boxed W k t x) (hkb : k ≠ b) (ht : t ≠ 5) : IsB B b bs (W.setCell ⟨k, 0, none⟩ y) := by
  have key : ∀ p, Lib.BuilderAtF 49 5 B b p (Lib.byteCells bs) W → Lib.BuilderAtF 49 5 B b p (Lib.byteCells bs) (W.setCell ⟨k, 0, none⟩ y) := by
    rintro p ⟨hB, v, h1, h2, h3⟩
    refine ⟨hB, v, (Below.heap_setCell _ _ _ b (fun e => hkb e.symm)).trans h1, World.ownsRowF.kept h2 (grownBy_setCell' W k y) ?_, h3⟩
    rcases h2.2 with ⟨rfl, _⟩ | ⟨g, cap, cur, fz, rfl, _, hgb, _⟩
    · exact .inl rfl
    · refine .inr fun e' => ?_
      obtain rfl : g = k := by simpa [Value.ownBlock] using e'
      rw [show W.heap[g]? = _ from hk] at hgb
      simp only [Option.some.injEq, Obj.cells.injEq] at hgb
      exact ht hgb.2.1
  exact h.elim (fun x => .inl (key _ x)) (fun x => .inr (key _ x))
def SI (h : Nat) (m : Int) (s : ByteArray) (pre : List I32) (W : World) : Prop :=
  SP h m s (psq m (snds pre)).2 W ∧ IsB (h + 3) (h + 3) (psq m (snds pre)).1 W ∧ ∀ x ∈ vals pre, x.2 ≠ -1
theorem SI.own (h : Nat) (m : Int) (s : ByteArray) : Own (SI h m s) := fun pre A C row hs hg hr =>
  ⟨SP.own h m s (fun pre => (psq m (snds pre)).2) pre A C row hs.1 hg hr, isB_kept hs.2.1 hg hr, hs.2.2⟩
def SX (h : Nat) (c : Code) (pre : List I32) (W : World) : Prop :=
  c = .ret ∧ (∃ ini last, pre = ini ++ [last] ∧ last.1.2 = -1) ∧ Boxed W (h + 1) 9 (.string ⟨#[]⟩) ∧ Boxed W (h + 2) 27 (.int .i64 6)
theorem SX.own (h : Nat) (c : Code) : Own (SX h c) := fun _ A B row hs hg hr =>
  ⟨hs.1, hs.2.1, boxed_own (h + 1) 9 (fun _ : Unit => .string ⟨#[]⟩) () A B row hs.2.2.1 hg hr, boxed_own (h + 2) 27 (fun _ : Unit => .int .i64 6) () A B row hs.2.2.2 hg hr⟩
/-- How a round ends that has done its part. -/
theorem SI.next {w : World} {m : Int} {s : ByteArray} {pre : List I32} {x : I32} {W w1 : World} {o : List UInt8} {wt : Bool} (hall : ∀ x ∈ vals pre, x.2 ≠ -1) (hz : (x.1.2 == -1) = false)
    (hp : pstep m (psq m (snds pre)) x.1.2 = (o, wt)) (h5 : Boxed W (w.heap.size + 5) 9 (.string s)) (hs : SP w.heap.size m s wt w1) (hI : IsB (w.heap.size + 3) (w.heap.size + 3) o w1)
    (hk : KeepsOthers W w1) (hB : Below w.heap.size w W) (hb : Below w.heap.size W w1) {n : Nat} :
    KeepsFrom n W w1 ∧ KpC w.heap.size (w.heap.size + 5) W w1 ∧ SI w.heap.size m s (pre ++ [x]) w1 ∧ Below w.heap.size w w1 := by
  refine ⟨hk.from _, ⟨hb, hs.2.2.2.2.trans h5.symm⟩, ⟨?_, ?_, ?_⟩, hB.trans hb⟩
  · rw [snds_snoc, psq_snoc, hp]; exact hs
  · rw [snds_snoc, psq_snoc, hp]; exact hI
  · intro y hy
    simp only [vals, List.map_append, List.map_cons, List.map_nil] at hy
    rcases List.mem_append.1 hy with hy | hy
    · exact hall y hy
    · rw [List.mem_singleton.1 hy]; exact beq_eq_false_iff_ne.1 hz

/-- What a write leaves. -/
def Wrote (r : Value) (b : Nat) (bs : List UInt8) (W : World) (e : Ending) (w' : World) : Prop := e = .returned r ∧ IsB b b bs w' ∧ Below b W w' ∧ Kept b W w'
theorem WriteBlank (b : Nat) (bs : List UInt8) (w : World) (h : IsB b b bs w) (hlen : bs.length + 1 ≤ 140737488355328) (hBw : b ≤ w.heap.size) :
    Calls Tryd.prog 45 #[.pointer (some ⟨b, 0, none⟩), .int .u8 32] w (Wrote .nilIface b (bs ++ [32]) w) := WriteByte b b bs 32 w h hlen hBw
def Lens (n : Nat) (W : World) (e : Ending) (w' : World) : Prop := e = .returned (.int .i64 (n : Nat)) ∧ w' = W
theorem Len_any (b : Nat) (bs : List UInt8) (w : World) (h : IsB b b bs w) :
    Calls Tryd.prog 44 #[.pointer (some ⟨b, 0, none⟩)] w (Lens bs.length w) := by
  have := Tryd.Builder_Len_f b b _ w h
  rw [Lib.byteCells_length] at this
  exact this

theorem Squeeze_start (w : World) (m : Int) (s : ByteArray) (W0 : World) (hW0 : ((((((w.alloc (.cells #[.int .i64 m] 3)).alloc (.cells #[.string ⟨#[]⟩] 9)).alloc (.cells #[.int .i64 0] 27)).alloc (.cells #[.pointer none, .slice none 0 0] 49)).alloc (.cells #[.bool false] 4)).alloc (.cells #[.string s] 9)) = W0) :
    W0.heap.size = w.heap.size + 6 ∧ Below w.heap.size w W0 ∧ SI w.heap.size m s [] W0 := by
  have b0 := Boxed.new w 3 (.int .i64 m)
  obtain ⟨w1, hw1⟩ : ∃ w1, w.alloc (.cells #[.int .i64 m] 3) = w1 := ⟨_, rfl⟩
  have s1 : w1.heap.size = w.heap.size + 1 := by rw [← hw1]; simp
  have b1 := Boxed.new w1 9 (.string ⟨#[]⟩)
  obtain ⟨w2, hw2⟩ : ∃ w2, w1.alloc (.cells #[.string ⟨#[]⟩] 9) = w2 := ⟨_, rfl⟩
  have s2 : w2.heap.size = w.heap.size + 2 := by rw [← hw2]; simp [s1]
  have b2 := Boxed.new w2 27 (.int .i64 0)
  obtain ⟨w3, hw3⟩ : ∃ w3, w2.alloc (.cells #[.int .i64 0] 27) = w3 := ⟨_, rfl⟩
  have s3 : w3.heap.size = w.heap.size + 3 := by rw [← hw3]; simp [s2]
  have b3 := Lib.fresh_isBuilder 49 5 w3
  obtain ⟨w4, hw4⟩ : ∃ w4, w3.alloc (.cells #[.pointer none, .slice none 0 0] 49) = w4 := ⟨_, rfl⟩
  have s4 : w4.heap.size = w.heap.size + 4 := by rw [← hw4]; simp [s3]
  have b4 := Boxed.new w4 4 (.bool false)
  obtain ⟨w5, hw5⟩ : ∃ w5, w4.alloc (.cells #[.bool false] 4) = w5 := ⟨_, rfl⟩
  have s5 : w5.heap.size = w.heap.size + 5 := by rw [← hw5]; simp [s4]
  have b5 := Boxed.new w5 9 (.string s)
  rw [hw1, hw2, hw3, hw4, hw5] at hW0
  subst hW0
  rw [hw1] at b0
  rw [hw2, s1] at b1
  rw [hw3, s2] at b2
  rw [hw4, s3] at b3
  rw [hw5, s4] at b4
  rw [s5] at b5
  have e1 : Below w.heap.size w w1 := by rw [← hw1]; exact (Below.refl _ w).alloc (Nat.le_refl _) _
  have e2 : Below w.heap.size w w2 := by rw [← hw2]; exact e1.alloc (by omega) _
  have e3 : Below w.heap.size w w3 := by rw [← hw3]; exact e2.alloc (by omega) _
  have e4 : Below w.heap.size w w4 := by rw [← hw4]; exact e3.alloc (by omega) _
  have e5 : Below w.heap.size w w5 := by rw [← hw5]; exact e4.alloc (by omega) _
  have f0 : Boxed w5 w.heap.size 3 (.int .i64 m) := by rw [← hw5, ← hw4, ← hw3, ← hw2]; exact (((b0.alloc _).alloc _).alloc _).alloc _
  have f1 : Boxed w5 (w.heap.size + 1) 9 (.string ⟨#[]⟩) := by rw [← hw5, ← hw4, ← hw3]; exact ((b1.alloc _).alloc _).alloc _
  have f2 : Boxed w5 (w.heap.size + 2) 27 (.int .i64 0) := by rw [← hw5, ← hw4]; exact (b2.alloc _).alloc _
  have f3 : IsB (w.heap.size + 3) (w.heap.size + 3) [] w5 := by rw [← hw5]; exact (Lib.IsBuilderF.of b3).alloc _
  exact ⟨by rw [World.size_alloc, s5], e5.alloc (by omega) _, ⟨f0.alloc _, f1.alloc _, f2.alloc _, b4.alloc _, b5⟩, f3.alloc _, by simp⟩

set_option maxRecDepth 100000 in
set_option maxHeartbeats 4000000 in
theorem Squeeze_mid (s : ByteArray) (m : Int) (hm : 0 ≤ m ∧ m ≤ 2) (hs : s.size ≤ 1048576) (cs : List Int) (rest : List UInt8) (hS : Split s.data.toList cs rest) (w : World) (hG : G w) :
    Calls Tryd.prog 27 #[.string s, .int .i64 m] w fun e w' => ((rest = [] ∧ e = .returned (.tuple #[.string ⟨(psq m cs).1.toArray⟩, .int .i64 0])) ∨ (rest ≠ [] ∧ e = .returned (.tuple #[.string ⟨#[]⟩, .int .i64 6]))) ∧ Below w.heap.size w w' := by
  obtain ⟨hm0, hm2⟩ := hm
  have hG4 := hG.size
  refine (callsIn_wide (n := 9)).1 ?_
  refine callsIn_of_wp_marks Tryd.func27 rfl trivial ?_ rfl
  simp only [Tryd.ntmps27, List.size_toArray, List.length_cons, List.length_nil, Nat.reduceAdd, Nat.reduceSub, Array.replicate_succ, Array.replicate_zero, List.push_toArray, List.append_toArray, List.nil_append, List.cons_append]
  gi_wp2_with (refine ⟨trivial, ?_⟩; gi_at_call 31; refine (callsIn_wide.2 (characters_in _ _)).mono ?_; rintro e w' ⟨rfl, rfl⟩)
  simp only [Nat.add_assoc, Nat.reduceAdd]
  obtain ⟨W0, hW0⟩ : ∃ W0, ((((((w.alloc (.cells #[.int .i64 m] 3)).alloc (.cells #[.string ⟨#[]⟩] 9)).alloc (.cells #[.int .i64 0] 27)).alloc (.cells #[.pointer none, .slice none 0 0] 49)).alloc (.cells #[.bool false] 4)).alloc (.cells #[.string s] 9)) = W0 := ⟨_, rfl⟩
  rw [hW0]
  obtain ⟨hsz0, hB0, hd0⟩ := Squeeze_start w m s W0 hW0
  clear hW0
  have hG2 : G W0 := hG.below hG4 hB0
  have hbs := hd0.1.2.2.2.2
  have hN : (items cs rest).length ≤ 1048577 := by
    have h1 := items_len cs rest
    have h2 := (encL_len cs).1
    have h3 := hS.len
    rw [← list_size] at h3
    omega
  refine wpIn_rangeFunc_ownG rfl (by omega) (gf := 46) (lb := #[.pointer (some ⟨w.heap.size + 5, 0, none⟩)]) rfl trivial (enters_of Tryd.func46 (by kernel_rfl) rfl)
    (chars_stops32 _ (by omega) (w.heap.size + 5) w.heap.size hG4 s (by omega) cs rest hS _ hG2 _ hbs (by omega)) (fun h k => h.trans k) (kpC_b (by omega) (by omega)) (Below.refl _ _) (fun _ => rfl)
    (fun pre W => SI w.heap.size m s pre W ∧ Below w.heap.size w W) (fun c pre W => SX w.heap.size c pre W ∧ Below w.heap.size w W)
    (OwnFrom.and ((SI.own _ m s).from _) (ownFrom_below (by omega) (by omega))) (fun c => OwnFrom.and ((SX.own _ c).from _) (ownFrom_below (by omega) (by omega)))
    ⟨hd0, hB0⟩ ?a1 ?assign ?body ?done ?stop
  case assign =>
    intro l x W K hK
    simp only [encJ, encI]
    gi_wp2
    exact hK
  case body =>
    rintro l pre x W ⟨⟨hs0, hI0, hall⟩, hB⟩ hlt
    have hsB := hB.size
    have hlen := psq_len m (snds pre)
    rw [List.length_map, List.length_map] at hlen
    obtain ⟨o, wt, hst⟩ : ∃ o wt, psq m (snds pre) = (o, wt) := ⟨_, _, rfl⟩
    rw [hst] at hs0 hI0 hlen
    have Hst := Lib.hid hst
    clear hst
    simp only at hs0 hI0 hlen
    have hlen' : o.length ≤ 5 * 1048577 := by omega
    have hx32 := x.2
    have h5 := hs0.2.2.2.2
    have hGW := hG.below hG4 hB
    clear hlen hlt
    cases hz : ((x.1.2 : Int) == -1)
    · have cm := hs0.1.cell
      have hkW := KeepsOthers.refl W
      have hbW := Below.refl w.heap.size W
      have hsW := hs0
      have hIW := hI0
      clear hs0 hI0
      cases hm : ((m : Int) == 0)
      · cases hb : blankB x.1.2
        · gi_wp2_with (refine ⟨trivial, ?_⟩; gi_at_call 10; refine (CallsIn.inRound l (callsIn_wide.2 (Blank_is _ false hb _ hGW))).mono ?_)
          rintro e w1 ⟨rfl, hb1⟩
          have hsw1 := hsW.below hb1
          have hIw1 := isB_below hIW hb1
          have hkw1 := keeps_of_below hb1
          have hbw1 := hb1.mono hsB
          have cm1 := hsw1.1.cell
          clear cm hsW hIW hkW hbW hb1 hGW
          have c4 := hsw1.2.2.2.1.cell
          have f4 := hsw1.2.2.2.1.frozen
          have hh3 : w.heap.size + 3 ≤ w1.heap.size := by have := hsw1.2.2.2.2.lt; omega
          have hsz : w.heap.size ≤ w1.heap.size := by omega
          cases wt
          · gi_wp2
            refine ⟨trivial, ?_⟩
            gi_wp2_with (refine ⟨trivial, ?_⟩; gi_at_call 34; refine (CallsIn.inRound l (callsIn_wide.2 (WriteRune (w.heap.size + 3) (w.heap.size + 3) o x.1.2 hx32.1 hx32.2 _ (isB_set hIw1 hsw1.2.2.2.1 (by omega) (by decide)) (by omega) (by simp; omega)))).mono ?_)
            rintro e w9 ⟨⟨nn, rfl⟩, hI9, hb9, hk9⟩
            gi_wp2
            have q1 := hsw1.set false
            have hp : pstep m (psq m (snds pre)) x.1.2 = (o ++ enc1 x.1.2, false) := by rw [Hst.out, pstep_no m _ hb]; simp
            exact SI.next hall hz hp h5 (q1.kept hb9 hk9) hI9 ((hkw1.trans (KeepsOthers.setCell _ _ _)).trans (keeps_of_kept (isB_set hIw1 hsw1.2.2.2.1 (by omega) (by decide)) hb9.size hk9)) hB ((hbw1.setCell (p := ⟨w.heap.size + 4, 0, none⟩) (by simp) _).trans (hb9.mono (by omega)))
          · by_cases ho : o = []
            · have hl0 : o.length = 0 := by rw [ho]; rfl
              gi_wp2_with (refine ⟨trivial, ?_⟩; gi_at_call 44; refine (CallsIn.inRound l (callsIn_wide.2 (Len_any (w.heap.size + 3) o _ hIw1))).mono ?_)
              rintro e w8 ⟨rfl, rfl⟩
              rw [hl0]
              gi_wp2_with (refine ⟨trivial, ?_⟩; gi_at_call 34; refine (CallsIn.inRound l (callsIn_wide.2 (WriteRune (w.heap.size + 3) (w.heap.size + 3) o x.1.2 hx32.1 hx32.2 _ (isB_set hIw1 hsw1.2.2.2.1 (by omega) (by decide)) (by omega) (by simp; omega)))).mono ?_)
              rintro e w9 ⟨⟨nn, rfl⟩, hI9, hb9, hk9⟩
              gi_wp2
              have q1 := hsw1.set false
              have hp : pstep m (psq m (snds pre)) x.1.2 = (o ++ enc1 x.1.2, false) := by rw [Hst.out, pstep_no m _ hb]; simp [ho]
              exact SI.next hall hz hp h5 (q1.kept hb9 hk9) hI9 ((hkw1.trans (KeepsOthers.setCell _ _ _)).trans (keeps_of_kept (isB_set hIw1 hsw1.2.2.2.1 (by omega) (by decide)) hb9.size hk9)) hB ((hbw1.setCell (p := ⟨w.heap.size + 4, 0, none⟩) (by simp) _).trans (hb9.mono (by omega)))
            · have hl0 : (0 : Int) < (o.length : Int) := by have := List.length_pos_iff.2 ho; omega
              gi_wp2_with (refine ⟨trivial, ?_⟩; gi_at_call 44; refine (CallsIn.inRound l (callsIn_wide.2 (Len_any (w.heap.size + 3) o _ hIw1))).mono ?_)
              rintro e w8 ⟨rfl, rfl⟩
              gi_wp2_with (refine ⟨trivial, ?_⟩; gi_at_call 45; refine (CallsIn.inRound l (callsIn_wide.2 (WriteBlank (w.heap.size + 3) o _ hIw1 (by omega) hh3))).mono ?_)
              rintro e w7 ⟨rfl, hI7, hb7, hk7⟩
              have hs7 := hsw1.kept hb7 hk7
              have hk7' := hkw1.trans (keeps_of_kept hIw1 hb7.size hk7)
              have hb7' := hbw1.trans (hb7.mono (show w.heap.size ≤ w.heap.size + 3 by omega))
              have d4 := hs7.2.2.2.1.cell
              have g4 := hs7.2.2.2.1.frozen
              have hh7 : w.heap.size + 3 ≤ w7.heap.size := by have := hs7.2.2.2.2.lt; omega
              clear c4 f4 hb7 hk7
              gi_wp2_with (refine ⟨trivial, ?_⟩; gi_at_call 34; refine (CallsIn.inRound l (callsIn_wide.2 (WriteRune (w.heap.size + 3) (w.heap.size + 3) (o ++ [32]) x.1.2 hx32.1 hx32.2 _ (isB_set hI7 hs7.2.2.2.1 (by omega) (by decide)) (by simp; omega) (by simp; omega)))).mono ?_)
              rintro e w9 ⟨⟨nn, rfl⟩, hI9, hb9, hk9⟩
              gi_wp2
              have q1 := hs7.set false
              have hp : pstep m (psq m (snds pre)) x.1.2 = (o ++ [32] ++ enc1 x.1.2, false) := by rw [Hst.out, pstep_no m _ hb]; simp [ho]
              exact SI.next hall hz hp h5 (q1.kept hb9 hk9) hI9 ((hk7'.trans (KeepsOthers.setCell _ _ _)).trans (keeps_of_kept (isB_set hI7 hs7.2.2.2.1 (by omega) (by decide)) hb9.size hk9)) hB ((hb7'.setCell (p := ⟨w.heap.size + 4, 0, none⟩) (by simp) _).trans (hb9.mono (by omega)))
        · gi_wp2_with (refine ⟨trivial, ?_⟩; gi_at_call 10; refine (CallsIn.inRound l (callsIn_wide.2 (Blank_is _ true hb _ hGW))).mono ?_)
          rintro e w1 ⟨rfl, hb1⟩
          have hsw1 := hsW.below hb1
          have hIw1 := isB_below hIW hb1
          have hkw1 := keeps_of_below hb1
          have hbw1 := hb1.mono hsB
          have cm1 := hsw1.1.cell
          have hh3 : w.heap.size + 3 ≤ w1.heap.size := by have := hsw1.2.2.2.2.lt; omega
          clear cm hsW hIW hkW hbW hb1 hGW
          cases h1 : ((m : Int) == 1)
          · have hm2' : m = 2 := by have := beq_eq_false_iff_ne.1 hm; have := beq_eq_false_iff_ne.1 h1; omega
            have Hm := Lib.hid hm2'
            clear hm2'
            have c4 := hsw1.2.2.2.1.cell
            have f4 := hsw1.2.2.2.1.frozen
            gi_wp2
            have hp : pstep m (psq m (snds pre)) x.1.2 = (o, true) := by rw [Hst.out, Hm.out, pstep_two _ hb]
            exact SI.next hall hz hp h5 (hsw1.set true) (isB_set hIw1 hsw1.2.2.2.1 (by omega) (by decide)) (hkw1.trans (KeepsOthers.setCell _ _ _)) hB (hbw1.setCell (p := ⟨w.heap.size + 4, 0, none⟩) (by simp) _)
          · have hm1 : m = 1 := by simpa using h1
            have Hm := Lib.hid hm1
            clear hm1
            gi_wp2_with (refine ⟨trivial, ?_⟩; gi_at_call 45; refine (CallsIn.inRound l (callsIn_wide.2 (WriteBlank (w.heap.size + 3) o _ hIw1 (by omega) hh3))).mono ?_)
            rintro e w9 ⟨rfl, hI9, hb9, hk9⟩
            gi_wp2
            have hp : pstep m (psq m (snds pre)) x.1.2 = (o ++ [32], wt) := by rw [Hst.out, Hm.out, pstep_one _ hb]
            exact SI.next hall hz hp h5 (hsw1.kept hb9 hk9) hI9 (hkw1.trans (keeps_of_kept hIw1 hb9.size hk9)) hB (hbw1.trans (hb9.mono (by omega)))
      · have hm1 : m = 0 := by simpa using hm
        have Hm := Lib.hid hm1
        clear hm1
        gi_wp2
        refine ⟨trivial, ?_⟩
        have c4 := hsW.2.2.2.1.cell
        have f4 := hsW.2.2.2.1.frozen
        have hh3 : w.heap.size + 3 ≤ W.heap.size := by have := hsW.2.2.2.2.lt; omega
        have hsz : w.heap.size ≤ W.heap.size := by omega
        cases wt
        · gi_wp2
          refine ⟨trivial, ?_⟩
          gi_wp2_with (refine ⟨trivial, ?_⟩; gi_at_call 34; refine (CallsIn.inRound l (callsIn_wide.2 (WriteRune (w.heap.size + 3) (w.heap.size + 3) o x.1.2 hx32.1 hx32.2 _ (isB_set hIW hsW.2.2.2.1 (by omega) (by decide)) (by omega) (by simp; omega)))).mono ?_)
          rintro e w9 ⟨⟨nn, rfl⟩, hI9, hb9, hk9⟩
          gi_wp2
          have q1 := hsW.set false
          have hp : pstep m (psq m (snds pre)) x.1.2 = (o ++ enc1 x.1.2, false) := by rw [Hst.out, (show pstep m (o, _) x.1.2 = _ by unfold pstep; rw [if_pos (.inl Hm.out)])]; simp
          exact SI.next hall hz hp h5 (q1.kept hb9 hk9) hI9 ((hkW.trans (KeepsOthers.setCell _ _ _)).trans (keeps_of_kept (isB_set hIW hsW.2.2.2.1 (by omega) (by decide)) hb9.size hk9)) hB ((hbW.setCell (p := ⟨w.heap.size + 4, 0, none⟩) (by simp) _).trans (hb9.mono (by omega)))
        · by_cases ho : o = []
          · have hl0 : o.length = 0 := by rw [ho]; rfl
            gi_wp2_with (refine ⟨trivial, ?_⟩; gi_at_call 44; refine (CallsIn.inRound l (callsIn_wide.2 (Len_any (w.heap.size + 3) o _ hIW))).mono ?_)
            rintro e w8 ⟨rfl, rfl⟩
            rw [hl0]
            gi_wp2_with (refine ⟨trivial, ?_⟩; gi_at_call 34; refine (CallsIn.inRound l (callsIn_wide.2 (WriteRune (w.heap.size + 3) (w.heap.size + 3) o x.1.2 hx32.1 hx32.2 _ (isB_set hIW hsW.2.2.2.1 (by omega) (by decide)) (by omega) (by simp; omega)))).mono ?_)
            rintro e w9 ⟨⟨nn, rfl⟩, hI9, hb9, hk9⟩
            gi_wp2
            have q1 := hsW.set false
            have hp : pstep m (psq m (snds pre)) x.1.2 = (o ++ enc1 x.1.2, false) := by rw [Hst.out, (show pstep m (o, _) x.1.2 = _ by unfold pstep; rw [if_pos (.inl Hm.out)])]; simp [ho]
            exact SI.next hall hz hp h5 (q1.kept hb9 hk9) hI9 ((hkW.trans (KeepsOthers.setCell _ _ _)).trans (keeps_of_kept (isB_set hIW hsW.2.2.2.1 (by omega) (by decide)) hb9.size hk9)) hB ((hbW.setCell (p := ⟨w.heap.size + 4, 0, none⟩) (by simp) _).trans (hb9.mono (by omega)))
          · have hl0 : (0 : Int) < (o.length : Int) := by have := List.length_pos_iff.2 ho; omega
            gi_wp2_with (refine ⟨trivial, ?_⟩; gi_at_call 44; refine (CallsIn.inRound l (callsIn_wide.2 (Len_any (w.heap.size + 3) o _ hIW))).mono ?_)
            rintro e w8 ⟨rfl, rfl⟩
            gi_wp2_with (refine ⟨trivial, ?_⟩; gi_at_call 45; refine (CallsIn.inRound l (callsIn_wide.2 (WriteBlank (w.heap.size + 3) o _ hIW (by omega) hh3))).mono ?_)
            rintro e w7 ⟨rfl, hI7, hb7, hk7⟩
            have hs7 := hsW.kept hb7 hk7
            have hk7' := hkW.trans (keeps_of_kept hIW hb7.size hk7)
            have hb7' := hbW.trans (hb7.mono (show w.heap.size ≤ w.heap.size + 3 by omega))
            have d4 := hs7.2.2.2.1.cell
            have g4 := hs7.2.2.2.1.frozen
            have hh7 : w.heap.size + 3 ≤ w7.heap.size := by have := hs7.2.2.2.2.lt; omega
            clear c4 f4 hb7 hk7
            gi_wp2_with (refine ⟨trivial, ?_⟩; gi_at_call 34; refine (CallsIn.inRound l (callsIn_wide.2 (WriteRune (w.heap.size + 3) (w.heap.size + 3) (o ++ [32]) x.1.2 hx32.1 hx32.2 _ (isB_set hI7 hs7.2.2.2.1 (by omega) (by decide)) (by simp; omega) (by simp; omega)))).mono ?_)
            rintro e w9 ⟨⟨nn, rfl⟩, hI9, hb9, hk9⟩
            gi_wp2
            have q1 := hs7.set false
            have hp : pstep m (psq m (snds pre)) x.1.2 = (o ++ [32] ++ enc1 x.1.2, false) := by rw [Hst.out, (show pstep m (o, _) x.1.2 = _ by unfold pstep; rw [if_pos (.inl Hm.out)])]; simp [ho]
            exact SI.next hall hz hp h5 (q1.kept hb9 hk9) hI9 ((hk7'.trans (KeepsOthers.setCell _ _ _)).trans (keeps_of_kept (isB_set hI7 hs7.2.2.2.1 (by omega) (by decide)) hb9.size hk9)) hB ((hb7'.setCell (p := ⟨w.heap.size + 4, 0, none⟩) (by simp) _).trans (hb9.mono (by omega)))
    · have hz1 : x.1.2 = -1 := by simpa using hz
      have c1 := hs0.2.1.cell
      have f1 := hs0.2.1.frozen
      have c2 := hs0.2.2.1.cell
      have f2 := hs0.2.2.1.frozen
      have Hz := Lib.hid hz1
      clear hz1
      gi_wp2
      have m0 := (hs0.2.1.set (.string ⟨#[]⟩)).other (B' := w.heap.size + 2) (by omega) (.int .i64 6)
      have m1 := (hs0.2.2.1.other (B' := w.heap.size + 1) (by omega) (.string ⟨#[]⟩)).set (.int .i64 6)
      exact ⟨((KeepsOthers.setCell _ _ _).trans (KeepsOthers.setCell _ _ _)).from _, ⟨rfl, ⟨pre, x, rfl, Hz.out⟩, m0, m1⟩, (hB.setCell (p := ⟨w.heap.size + 1, 0, none⟩) (by simp) _).setCell (p := ⟨w.heap.size + 2, 0, none⟩) (by simp) _⟩
  case done =>
    rintro D ys W hD hys ⟨⟨hs0, hI, hall⟩, hB⟩ hK
    rw [hys] at hall
    obtain ⟨hrest, hitems⟩ := items_done hall
    have hsn : snds ys = cs := by unfold snds; rw [hys, hitems, items_snd]
    rw [hsn] at hI hs0
    have Hr := Lib.hid hrest
    have hh3 : w.heap.size + 3 ≤ W.heap.size := by have := hs0.2.2.2.2.lt; omega
    clear hrest hitems hsn hall
    obtain ⟨R, hR⟩ : ∃ R, (psq m cs).1 = R := ⟨_, rfl⟩
    rw [hR] at hI
    have HR := Lib.hid hR
    have hs1 := hs0
    clear hs0 hR
    gi_wp2_with (refine ⟨trivial, ?_⟩; gi_at_call 35; refine (callsIn_wide.2 (Tryd.Builder_String_any_k (w.heap.size + 3) (w.heap.size + 3) _ _ hI hh3)).mono ?_)
    rintro e w1 ⟨rfl, _, hb1, hk1⟩
    have k0 := boxed_below hs1.2.1 hb1 (by omega)
    have k1 := boxed_below hs1.2.2.1 hb1 (by omega)
    have hK1 := (keeps_of_kept hI hb1.size hk1).same D _ hK rfl
    have hB1 := hB.trans (hb1.mono (show w.heap.size ≤ w.heap.size + 3 by omega))
    have c0 := k0.cell
    have f0 := k0.frozen
    have c1 := k1.cell
    have f1 := k1.frozen
    clear hB hK hb1 hk1 hs1 hI
    gi_wp2
    have m0 := (k0.set (.string ⟨R.toArray⟩)).other (B' := w.heap.size + 2) (by omega) (.int .i64 0)
    have m1 := (k1.other (B' := w.heap.size + 1) (by omega) (.string ⟨R.toArray⟩)).set (.int .i64 0)
    have hK' := ((KeepsOthers.setCell w1 ⟨w.heap.size + 1, 0, none⟩ (.string ⟨R.toArray⟩)).trans (KeepsOthers.setCell _ ⟨w.heap.size + 2, 0, none⟩ (.int .i64 0))).same D _ hK1 rfl
    have hB' := (hB1.setCell (p := ⟨w.heap.size + 1, 0, none⟩) (by simp) (.string ⟨R.toArray⟩)).setCell (p := ⟨w.heap.size + 2, 0, none⟩) (by simp) (.int .i64 0)
    have q0 := (boxed_putObj (o' := .deferred none) m0 hK' rfl).cell
    have q1 := (boxed_putObj (o' := .deferred none) m1 hK' rfl).cell
    refine ⟨by simp, .inl ⟨_, _, rfl, run_takeDeferred hK', ?_⟩⟩
    refine ⟨.tuple #[.string ⟨R.toArray⟩, .int .i64 0], ?_, .inl ⟨Hr.out, by rw [HR.out]⟩, hB'.trans (belowK_b (w := w) (Nat.le_refl _) _ D _ _ (by omega) hK' rfl rfl)⟩
    simp [results, Tryd.f27, go_sem, q0, q1]
  case stop =>
    rintro D c pre W hD hpre ⟨⟨rfl, ⟨ini, last, rfl, e2⟩, h0, h1⟩, hB⟩ hK
    have hpre' : vals ini ++ [last.1] <+: items cs rest := by simpa [vals] using hpre
    obtain ⟨hrest, _⟩ := items_stop hS hpre' e2
    gi_wp2
    have q0 := (boxed_putObj (o' := .deferred none) h0 hK rfl).cell
    have q1 := (boxed_putObj (o' := .deferred none) h1 hK rfl).cell
    refine ⟨by simp, .inl ⟨_, _, rfl, run_takeDeferred hK, ?_⟩⟩
    refine ⟨.tuple #[.string ⟨#[]⟩, .int .i64 6], ?_, .inr ⟨hrest, rfl⟩, hB.trans (belowK_b (w := w) (Nat.le_refl _) _ D _ _ (by omega) hK rfl rfl)⟩
    simp [results, Tryd.f27, go_sem, q0, q1]

set_option maxRecDepth 100000 in
set_option maxHeartbeats 1000000 in
/-- A mode that is none. -/
theorem Squeeze_arg (s : ByteArray) (m : Int) (hm : m < 0 ∨ 2 < m) (w : World) :
    Calls Tryd.prog 27 #[.string s, .int .i64 m] w fun e w' => e = .returned (.tuple #[.string ⟨#[]⟩, .int .i64 2]) ∧ Below w.heap.size w w' := by
  have fin : ∀ W' : World, W' = ((w.alloc (.cells #[.int .i64 m] 3)).alloc (.cells #[.string ⟨#[]⟩] 9)).alloc (.cells #[.int .i64 2] 27) → Below w.heap.size w W' := by
    rintro _ rfl
    exact (((Below.refl _ w).alloc (Nat.le_refl _) _).alloc (by simp) _).alloc (by simp; omega) _
  rcases hm with hm | hm
  · have hd : decide (m < 0) = true := decide_eq_true hm
    clear hm
    go_enter Tryd.func27, Tryd.ntmps27
    go_wp2
    exact bodyPost_ret (v := .tuple #[.string ⟨#[]⟩, .int .i64 2]) (by simp [results, Tryd.results27, go_sem]) rfl ⟨rfl, fin _ rfl⟩
  · have hd : decide (m < 0) = false := decide_eq_false (by omega)
    have hd2 : decide (2 < m) = true := decide_eq_true hm
    clear hm
    go_enter Tryd.func27, Tryd.ntmps27
    go_wp2
    exact bodyPost_ret (v := .tuple #[.string ⟨#[]⟩, .int .i64 2]) (by simp [results, Tryd.results27, go_sem]) rfl ⟨rfl, fin _ rfl⟩
end Ck
end Go.Proofs.YthfmnhhennbjnaaDoor
