/- Plain mathematics of Squeeze: the program's steps and the reference's. -/
import Derived.Test.YthfmnhhennbjnaaDoorCkDec
namespace Go.Proofs.YthfmnhhennbjnaaDoor
namespace Ck

/-- The program's step: what has been written, and whether a blank waits. -/
def pstep (m : Int) (st : List UInt8 × Bool) (c : Int) : List UInt8 × Bool :=
  if m = 0 ∨ blankB c = false then (st.1 ++ (if st.2 = true ∧ st.1 ≠ [] then [32] else []) ++ enc1 c, false)
  else if m = 1 then (st.1 ++ [32], st.2)
  else (st.1, true)
def psq (m : Int) (cs : List Int) : List UInt8 × Bool := cs.foldl (pstep m) ([], false)
theorem psq_snoc (m : Int) (cs : List Int) (c : Int) : psq m (cs ++ [c]) = pstep m (psq m cs) c := by simp [psq]
theorem pstep_len (m : Int) (st : List UInt8 × Bool) (c : Int) : (pstep m st c).1.length ≤ st.1.length + 5 := by
  unfold pstep
  have := enc1_len c
  repeat' split
  all_goals simp only [List.length_append, List.length_cons, List.length_nil]
  all_goals omega
theorem psq_len (m : Int) (cs : List Int) : (psq m cs).1.length ≤ 5 * cs.length := by
  have : ∀ (l : List Int) (st : List UInt8 × Bool), (l.foldl (pstep m) st).1.length ≤ st.1.length + 5 * l.length := by
    intro l
    induction l with
    | nil => intro st; simp
    | cons c l ih =>
      intro st
      have h1 := ih (pstep m st c)
      have h2 := pstep_len m st c
      simp only [List.foldl_cons, List.length_cons]
      omega
  simpa [psq] using this cs ([], false)

/-- The reference's step, byte by byte. -/
def bl (b : UInt8) : UInt8 := if blankB (b.toNat : Int) then 32 else b
def skipB (m : Int) (o : List UInt8) (b : UInt8) : Bool := decide (m = 2) && (bl b == 32) && (decide (o = []) || o.getLast? == some 32)
def rstep (m : Int) (o : List UInt8) (b : UInt8) : List UInt8 := if skipB m o b then o else o ++ [bl b]
def rsq (m : Int) (l : List UInt8) : List UInt8 := l.foldl (rstep m) []
def rfin (m : Int) (o : List UInt8) : List UInt8 := if m = 2 ∧ o.getLast? = some 32 then o.dropLast else o

theorem blank_iff (c : Int) : blankB c = true ↔ (c = 9 ∨ c = 10 ∨ c = 13 ∨ c = 32) := by unfold blankB; exact decide_eq_true_iff
theorem blank_no (c : Int) : blankB c = false ↔ ¬ (c = 9 ∨ c = 10 ∨ c = 13 ∨ c = 32) := by unfold blankB; exact decide_eq_false_iff_not
theorem bl_no {b : UInt8} (h : blankB (b.toNat : Int) = false) : bl b = b := by unfold bl; rw [h]; rfl
theorem rstep_no (m : Int) (o : List UInt8) {b : UInt8} (h : blankB (b.toNat : Int) = false) : rstep m o b = o ++ [b] := by
  have h32 : b ≠ 32 := by rintro rfl; exact absurd h (by decide)
  unfold rstep skipB
  rw [bl_no h, beq_eq_false_iff_ne.2 h32]
  simp
/-- The bytes of a character that is no blank go in as they are; the last one is no blank. -/
theorem rsteps_no (m : Int) (o : List UInt8) {c : Int} (hv : validB c = true) (h : blankB c = false) : (enc1 c).foldl (rstep m) o = o ++ enc1 c ∧ (∀ q, (q ++ enc1 c).getLast? ≠ some 32) := by
  have hi : ∀ x : Int, 128 ≤ x → x < 256 → blankB ((u x).toNat : Int) = false := by
    intro x h1 h2
    rw [u_nat' (by omega) h2, blank_no]; omega
  have ne : ∀ x : Int, 128 ≤ x → x < 256 → u x ≠ 32 := by
    intro x h1 h2 e
    have := hi x h1 h2
    rw [e] at this
    exact absurd this (by decide)
  rcases valid_cases hv with ⟨h0, h1⟩ | ⟨h0, h1⟩ | h0 | ⟨h0, h1⟩
  · rw [enc1_one h0 h1]
    have e := u_nat' (x := c) h0 (by omega)
    have hb : blankB ((u c).toNat : Int) = false := by rw [e]; exact h
    refine ⟨by simp only [List.foldl_cons, List.foldl_nil]; exact rstep_no m o hb, fun q => ?_⟩
    rw [List.getLast?_append]
    simp only [List.getLast?_singleton, Option.some_or]
    intro e2
    rw [Option.some.inj e2] at hb
    exact absurd hb (by decide)
  · rw [enc1_two h0 h1]
    refine ⟨?_, fun q => ?_⟩
    · simp only [List.foldl_cons, List.foldl_nil]
      rw [rstep_no m o (hi _ (by omega) (by omega)), rstep_no m _ (hi _ (by omega) (by omega))]; simp
    · rw [List.getLast?_append]
      simp only [List.getLast?_cons_cons, List.getLast?_singleton, Option.some_or]
      intro e2
      exact ne _ (by omega) (by omega) (Option.some.inj e2)
  · rw [enc1_three h0]
    refine ⟨?_, fun q => ?_⟩
    · simp only [List.foldl_cons, List.foldl_nil]
      rw [rstep_no m o (hi _ (by omega) (by omega)), rstep_no m _ (hi _ (by omega) (by omega)), rstep_no m _ (hi _ (by omega) (by omega))]; simp
    · rw [List.getLast?_append]
      simp only [List.getLast?_cons_cons, List.getLast?_singleton, Option.some_or]
      intro e2
      exact ne _ (by omega) (by omega) (Option.some.inj e2)
  · rw [enc1_four h0 h1]
    refine ⟨?_, fun q => ?_⟩
    · simp only [List.foldl_cons, List.foldl_nil]
      rw [rstep_no m o (hi _ (by omega) (by omega)), rstep_no m _ (hi _ (by omega) (by omega)), rstep_no m _ (hi _ (by omega) (by omega)), rstep_no m _ (hi _ (by omega) (by omega))]; simp
    · rw [List.getLast?_append]
      simp only [List.getLast?_cons_cons, List.getLast?_singleton, Option.some_or]
      intro e2
      exact ne _ (by omega) (by omega) (Option.some.inj e2)
theorem rsteps_blank (m : Int) (o : List UInt8) {c : Int} (h : blankB c = true) : (enc1 c).foldl (rstep m) o = if m = 2 ∧ (o = [] ∨ o.getLast? = some 32) then o else o ++ [32] := by
  have hc := (blank_iff c).1 h
  rw [enc1_one (by omega) (by omega)]
  have e := u_nat' (x := c) (by omega) (by omega)
  simp only [List.foldl_cons, List.foldl_nil]
  have hb : bl (u c) = 32 := by unfold bl; rw [e, h]; rfl
  unfold rstep skipB
  rw [hb]
  by_cases h1 : m = 2 <;> by_cases h2 : o = [] <;> by_cases h3 : o.getLast? = some 32 <;> simp [h1, h2, h3]

theorem pstep_no (m : Int) (st : List UInt8 × Bool) {c : Int} (h : blankB c = false) : pstep m st c = (st.1 ++ (if st.2 = true ∧ st.1 ≠ [] then [32] else []) ++ enc1 c, false) := by
  unfold pstep; rw [if_pos (.inr h)]
theorem pstep_one (st : List UInt8 × Bool) {c : Int} (h : blankB c = true) : pstep 1 st c = (st.1 ++ [32], st.2) := by
  unfold pstep
  rw [if_neg (by rw [h]; decide), if_pos rfl]
theorem pstep_two (st : List UInt8 × Bool) {c : Int} (h : blankB c = true) : pstep 2 st c = (st.1, true) := by
  unfold pstep
  rw [if_neg (by rw [h]; decide), if_neg (by decide)]
/-- With the modes 1 and 2 both are the same. -/
theorem sq_inv (m : Int) (hm : m = 1 ∨ m = 2) : ∀ (cs : List Int), (∀ c ∈ cs, validB c = true) → ∀ (st : List UInt8 × Bool) (o : List UInt8),
    o = st.1 ++ (if st.2 = true ∧ st.1 ≠ [] then [32] else []) → (m = 1 → st.2 = false) → (m = 2 → st.1.getLast? ≠ some 32) →
    (encL cs).foldl (rstep m) o = (cs.foldl (pstep m) st).1 ++ (if (cs.foldl (pstep m) st).2 = true ∧ (cs.foldl (pstep m) st).1 ≠ [] then [32] else []) ∧ (m = 1 → (cs.foldl (pstep m) st).2 = false) ∧ (m = 2 → (cs.foldl (pstep m) st).1.getLast? ≠ some 32)
  | [], _, st, o, ho, h1, h2 => ⟨by simp only [encL, List.flatMap_nil, List.foldl_nil]; exact ho, h1, h2⟩
  | c :: cs, hv, st, o, ho, h1, h2 => by
    have hc := hv c (by simp)
    have hcs : ∀ x ∈ cs, validB x = true := fun x hx => hv x (by simp [hx])
    have he : encL (c :: cs) = enc1 c ++ encL cs := rfl
    rw [he, List.foldl_append]
    simp only [List.foldl_cons]
    refine sq_inv m hm cs hcs (pstep m st c) _ ?_ ?_ ?_
    · cases hb : blankB c
      · rw [(rsteps_no m o hc hb).1, pstep_no m st hb, ho]
        simp
      · rw [rsteps_blank m o hb]
        rcases hm with rfl | rfl
        · have hw := h1 rfl
          rw [pstep_one st hb, ho, hw]
          simp
        · have hl := h2 rfl
          rw [pstep_two st hb]
          by_cases hw : st.2 = true ∧ st.1 ≠ []
          · rw [ho, if_pos hw]
            simp only [true_and]
            rw [if_pos (.inr (by simp)), if_pos hw.2]
          · rw [ho, if_neg hw, List.append_nil]
            by_cases hn : st.1 = []
            · simp [hn]
            · rw [if_neg (by rintro ⟨_, h | h⟩; · exact hn h
                             · exact hl h)]
              simp [hn]
    · intro h; subst h
      cases hb : blankB c
      · rw [pstep_no 1 st hb]
      · rw [pstep_one st hb]; exact h1 rfl
    · intro h; subst h
      cases hb : blankB c
      · rw [pstep_no 2 st hb]
        exact (rsteps_no 2 o hc hb).2 _
      · rw [pstep_two st hb]; exact h2 rfl
theorem sq_same (m : Int) (hm : m = 1 ∨ m = 2) (cs : List Int) (hv : ∀ c ∈ cs, validB c = true) : rfin m (rsq m (encL cs)) = (psq m cs).1 := by
  obtain ⟨h, h1, h2⟩ := sq_inv m hm cs hv ([], false) [] (by simp) (fun _ => rfl) (by simp)
  unfold rsq psq
  rw [h]
  unfold rfin
  rcases hm with rfl | rfl
  · rw [if_neg (by rintro ⟨h, _⟩; exact absurd h (by decide)), h1 rfl]; simp
  · by_cases hw : (cs.foldl (pstep 2) ([], false)).2 = true ∧ (cs.foldl (pstep 2) ([], false)).1 ≠ []
    · rw [if_pos hw, if_pos ⟨rfl, by simp⟩]; simp
    · rw [if_neg hw, List.append_nil, if_neg (fun e => h2 rfl e.2)]
theorem sq_zero (cs : List Int) : (psq 0 cs).1 = encL cs := by
  have : ∀ (l : List Int) (o : List UInt8), (l.foldl (pstep 0) (o, false)) = (o ++ encL l, false) := by
    intro l
    induction l with
    | nil => intro o; simp [encL]
    | cons c l ih =>
      intro o
      simp only [List.foldl_cons]
      have : pstep 0 (o, false) c = (o ++ enc1 c, false) := by unfold pstep; simp
      rw [this, ih]
      simp [encL]
  unfold psq
  rw [this]; simp
end Ck
end Go.Proofs.YthfmnhhennbjnaaDoor
