/- Plain mathematics of the way back: Unescape of Escape, Squeeze of Squeeze. -/
import Derived.Test.YthfmnhhennbjnaaDoorCkBoth
namespace Go.Proofs.YthfmnhhennbjnaaDoor
namespace Ck

theorem encL_app (a b : List Int) : encL (a ++ b) = encL a ++ encL b := by simp [encL]
theorem encL_one (c : Int) : encL [c] = enc1 c := by simp [encL]
theorem encL_cons (c : Int) (cs : List Int) : encL (c :: cs) = enc1 c ++ encL cs := rfl
theorem split_enc {xs : List Int} (h : ∀ c ∈ xs, validB c = true) : Split (encL xs) xs [] := ⟨by simp, h, .inl rfl⟩

/-! ### Unescape of Escape -/
theorem Un.cons {p : Nat} {x : UInt8} {l o : List UInt8} (hx : x ≠ 38) (h : Un (p + 1) l (.ok o)) : Un p (x :: l) (.ok (x :: o)) := by
  generalize hr : (Except.ok o : Except Nat (List UInt8)) = R at h
  cases h with
  | done h =>
    cases hr
    exact .done (by intro hm; rcases List.mem_cons.1 hm with e | e
                    · exact hx e.symm
                    · exact h e)
  | open_ h hr' => cases hr
  | none_ h hb he => cases hr
  | @step _ pl body t c res h hb he hn =>
    cases res with
    | error q => cases hr
    | ok y =>
      simp only [Except.map, Except.ok.injEq] at hr
      have h1 : (38 : UInt8) ∉ x :: pl := by
        intro hm; rcases List.mem_cons.1 hm with e | e
        · exact hx e.symm
        · exact h e
      have := Un.step (p := p) h1 hb he (res := .ok y) (by
        rw [show p + (x :: pl).length + (body.length + 2) = p + 1 + pl.length + (body.length + 2) by simp only [List.length_cons]; omega]
        exact hn)
      rw [hr]
      exact this
theorem Un.pre : ∀ {e : List UInt8} {p : Nat} {l o : List UInt8}, (38 : UInt8) ∉ e → Un (p + e.length) l (.ok o) → Un p (e ++ l) (.ok (e ++ o))
  | [], p, l, o, _, h => h
  | x :: e, p, l, o, h, hu => by
    refine Un.cons (fun hx => h (by simp [hx])) (Un.pre (fun hm => h (List.mem_cons_of_mem _ hm)) ?_)
    rw [show p + 1 + e.length = p + (x :: e).length by simp only [List.length_cons]; omega]
    exact hu
theorem Un.esc {p : Nat} {body : List UInt8} {c : Int} {l o : List UInt8} (hb : (59 : UInt8) ∉ body) (he : escV body = some c) (h : Un (p + (38 :: (body ++ [59])).length) l (.ok o)) : Un p ((38 :: (body ++ [59])) ++ l) (.ok (enc1 c ++ o)) := by
  have := Un.step (p := p) (pl := []) (by simp) hb he (res := .ok o) (t := l) (by
    rw [show p + ([] : List UInt8).length + (body.length + 2) = p + (38 :: (body ++ [59])).length by simp only [List.length_cons, List.length_append, List.length_nil]; omega]
    exact h)
  simpa [Except.map] using this
theorem enc_no38 {c : Int} (hv : validB c = true) (h : c ≠ 38) : (38 : UInt8) ∉ enc1 c := by
  have ne : ∀ x : Int, 128 ≤ x → x < 256 → (38 : UInt8) ≠ u x := by
    intro x h1 h2 e
    have := congrArg UInt8.toNat e
    rw [u_nat (by omega) h2] at this
    have h38 : (38 : UInt8).toNat = 38 := rfl
    omega
  rcases valid_cases hv with ⟨h0, h1⟩ | ⟨h0, h1⟩ | h0 | ⟨h0, h1⟩
  · rw [enc1_one h0 h1]
    intro hm
    have e := List.mem_singleton.1 hm
    have := congrArg UInt8.toNat e
    rw [u_nat (by omega) (by omega)] at this
    have h38 : (38 : UInt8).toNat = 38 := rfl
    omega
  · rw [enc1_two h0 h1]
    simp only [List.mem_cons, List.mem_nil_iff, or_false, not_or]
    exact ⟨ne _ (by omega) (by omega), ne _ (by omega) (by omega)⟩
  · rw [enc1_three h0]
    simp only [List.mem_cons, List.mem_nil_iff, or_false, not_or]
    exact ⟨ne _ (by omega) (by omega), ne _ (by omega) (by omega), ne _ (by omega) (by omega)⟩
  · rw [enc1_four h0 h1]
    simp only [List.mem_cons, List.mem_nil_iff, or_false, not_or]
    exact ⟨ne _ (by omega) (by omega), ne _ (by omega) (by omega), ne _ (by omega) (by omega), ne _ (by omega) (by omega)⟩
/-- The seven escapes that are written. -/
inductive Written (c : Int) : List UInt8 → Prop
  | mk (body : List UInt8) (hb : (59 : UInt8) ∉ body) (he : escV body = some c) (ha : ∀ b ∈ body, b.toNat < 128 ∧ 32 ≤ b.toNat) : Written c (38 :: (body ++ [59]))
theorem opt_written {a : Bool} {c : Int} {E : List UInt8} (h : escOpt a c = some E) : Written c E := by
  have k : ∀ {c' : Int} (body : List UInt8), (59 : UInt8) ∉ body → escV body = some c' → (body.all fun b => decide (b.toNat < 128) && decide (32 ≤ b.toNat)) = true → Written c' (38 :: (body ++ [59])) := fun body h1 h2 h3 => .mk body h1 h2 (fun b hb => by simpa using List.all_eq_true.1 h3 b hb)
  unfold escOpt at h
  repeat' split at h
  all_goals first
    | (cases h; rename_i e; subst e; first
        | exact k [108, 116] (by decide) (by decide) (by decide)
        | exact k [103, 116] (by decide) (by decide) (by decide)
        | exact k [97, 109, 112] (by decide) (by decide) (by decide)
        | exact k [35, 49, 51] (by decide) (by decide) (by decide)
        | exact k [113, 117, 111, 116] (by decide) (by decide) (by decide)
        | exact k [35, 57] (by decide) (by decide) (by decide)
        | exact k [35, 49, 48] (by decide) (by decide) (by decide))
    | cases h
theorem opt_38 (a : Bool) : escOpt a 38 = some [38, 97, 109, 112, 59] := by cases a <;> rfl
theorem un_esc (a : Bool) : ∀ (cs : List Int) (p : Nat), (∀ c ∈ cs, validB c = true) → Un p (escL a cs) (.ok (encL cs))
  | [], p, _ => .done (by simp [escL])
  | c :: cs, p, h => by
    have hc := h c (by simp)
    have hcs : ∀ x ∈ cs, validB x = true := fun x hx => h x (by simp [hx])
    have e1 : escL a (c :: cs) = escB a c ++ escL a cs := rfl
    rw [e1, encL_cons]
    cases ho : escOpt a c with
    | none =>
      have e2 : escB a c = enc1 c := by unfold escB; rw [ho]
      rw [e2]
      refine Un.pre (enc_no38 hc ?_) (un_esc a cs _ hcs)
      rintro rfl
      rw [opt_38] at ho
      cases ho
    | some E =>
      have e2 : escB a c = E := by unfold escB; rw [ho]
      rw [e2]
      obtain ⟨body, hb, he, _⟩ := opt_written ho
      exact Un.esc hb he (un_esc a cs _ hcs)
def escC (a : Bool) (c : Int) : List Int := match escOpt a c with | some l => l.map (fun b => (b.toNat : Int)) | none => [c]
theorem enc_ascii : ∀ (l : List UInt8), (∀ b ∈ l, b.toNat < 128 ∧ 32 ≤ b.toNat) → encL (l.map (fun b => (b.toNat : Int))) = l ∧ ∀ c ∈ l.map (fun b => (b.toNat : Int)), validB c = true
  | [], _ => ⟨rfl, by simp⟩
  | b :: l, h => by
    have hb := h b (by simp)
    have ih := enc_ascii l (fun x hx => h x (by simp [hx]))
    simp only [List.map_cons]
    refine ⟨?_, fun c hc => ?_⟩
    · rw [encL_cons, ih.1, enc1_one (by omega) (by omega), u_eq rfl]; rfl
    · rcases List.mem_cons.1 hc with rfl | hc
      · rw [valid_iff]; omega
      · exact ih.2 c hc
theorem split_esc (a : Bool) : ∀ (cs : List Int), (∀ c ∈ cs, validB c = true) → escL a cs = encL (cs.flatMap (escC a)) ∧ ∀ c ∈ cs.flatMap (escC a), validB c = true
  | [], _ => ⟨rfl, by simp⟩
  | c :: cs, h => by
    have hc := h c (by simp)
    have ih := split_esc a cs (fun x hx => h x (by simp [hx]))
    have e1 : escL a (c :: cs) = escB a c ++ escL a cs := rfl
    have key : escB a c = encL (escC a c) ∧ ∀ x ∈ escC a c, validB x = true := by
      unfold escB escC
      cases ho : escOpt a c with
      | none => exact ⟨(encL_one c).symm, by simpa using hc⟩
      | some E =>
        have hE : ∀ b ∈ E, b.toNat < 128 ∧ 32 ≤ b.toNat := by
          obtain ⟨body, _, _, ha⟩ := opt_written ho
          intro b hb
          rcases List.mem_cons.1 hb with rfl | hb
          · decide
          · rcases List.mem_append.1 hb with hb | hb
            · exact ha b hb
            · rw [List.mem_singleton.1 hb]; decide
        have := enc_ascii E hE
        exact ⟨this.1.symm, this.2⟩
    rw [e1, List.flatMap_cons, encL_app, ← ih.1, key.1]
    refine ⟨rfl, fun x hx => ?_⟩
    rcases List.mem_append.1 hx with hx | hx
    · exact key.2 x hx
    · exact ih.2 x hx

/-! ### Squeeze of Squeeze -/
def b1 (c : Int) : Int := if blankB c then 32 else c
theorem b1_no {c : Int} (h : blankB c = false) : b1 c = c := by unfold b1; rw [h]; rfl
theorem b1_yes {c : Int} (h : blankB c = true) : b1 c = 32 := by unfold b1; rw [h]; rfl
theorem b1_b1 (c : Int) : b1 (b1 c) = b1 c := by
  cases h : blankB c
  · rw [b1_no h, b1_no h]
  · rw [b1_yes h]; rfl
theorem b1_valid {c : Int} (h : validB c = true) : validB (b1 c) = true := by
  cases hb : blankB c
  · rw [b1_no hb]; exact h
  · rw [b1_yes hb]; rfl
theorem enc_blank {c : Int} (h : blankB c = true) : (enc1 c).length = 1 := by
  have := (blank_iff c).1 h
  rw [enc1_one (by omega) (by omega)]; rfl
theorem enc_32 : enc1 32 = [32] := by decide
theorem psq_one_aux : ∀ (cs : List Int) (o : List UInt8), cs.foldl (pstep 1) (o, false) = (o ++ encL (cs.map b1), false)
  | [], o => by simp [encL]
  | c :: cs, o => by
    simp only [List.foldl_cons, List.map_cons, encL_cons]
    cases h : blankB c
    · rw [pstep_no 1 _ h, b1_no h]
      simp only [Bool.false_eq_true, false_and, if_false, List.append_nil]
      rw [psq_one_aux cs, List.append_assoc]
    · rw [pstep_one _ h, b1_yes h, enc_32]
      simp only
      rw [psq_one_aux cs, List.append_assoc]
theorem psq_one (cs : List Int) : (psq 1 cs).1 = encL (cs.map b1) := by unfold psq; rw [psq_one_aux]; rfl
theorem len_one : ∀ cs : List Int, (encL (cs.map b1)).length = (encL cs).length
  | [] => rfl
  | c :: cs => by
    simp only [List.map_cons, encL_cons, List.length_append, len_one cs]
    cases h : blankB c
    · rw [b1_no h]
    · rw [b1_yes h, enc_32, enc_blank h]; rfl
theorem map_b1_b1 (cs : List Int) : (cs.map b1).map b1 = cs.map b1 := by simp [List.map_map, Function.comp_def, b1_b1]
theorem psq_two_b1 (cs : List Int) : psq 2 (cs.map b1) = psq 2 cs := by
  unfold psq
  rw [List.foldl_map]
  congr 1
  funext st c
  cases h : blankB c
  · rw [b1_no h]
  · rw [b1_yes h, pstep_two st h, pstep_two st (by decide)]
def cstep (st : List Int × Bool) (c : Int) : List Int × Bool :=
  if blankB c = false then (st.1 ++ (if st.2 = true ∧ st.1 ≠ [] then [32] else []) ++ [c], false) else (st.1, true)
theorem encL_nil_iff (l : List Int) : encL l = [] ↔ l = [] := by
  cases l with
  | nil => simp [encL]
  | cons c l =>
    have := enc1_len c
    constructor
    · intro h
      have h2 := congrArg List.length h
      rw [encL_cons, List.length_append] at h2
      simp only [List.length_nil] at h2
      omega
    · intro h; cases h
theorem csim (st : List Int × Bool) (c : Int) : pstep 2 (encL st.1, st.2) c = (encL (cstep st c).1, (cstep st c).2) := by
  unfold cstep
  cases h : blankB c
  · rw [pstep_no 2 _ h, if_pos rfl]
    simp only [encL_app, encL_one]
    by_cases hw : st.2 = true ∧ st.1 ≠ []
    · rw [if_pos hw, if_pos ⟨hw.1, fun e => hw.2 ((encL_nil_iff _).1 e)⟩, encL_one, enc_32]
    · rw [if_neg hw, if_neg (fun e => hw ⟨e.1, fun e2 => e.2 ((encL_nil_iff _).2 e2)⟩)]; rfl
  · rw [pstep_two _ h, if_neg (by decide)]
theorem csims : ∀ (cs : List Int) (st : List Int × Bool), cs.foldl (pstep 2) (encL st.1, st.2) = (encL (cs.foldl cstep st).1, (cs.foldl cstep st).2)
  | [], st => rfl
  | c :: cs, st => by simp only [List.foldl_cons]; rw [csim, csims cs]
theorem psq_two (cs : List Int) : (psq 2 cs).1 = encL (cs.foldl cstep ([], false)).1 := by
  have := csims cs ([], false)
  unfold psq
  rw [show (([] : List UInt8), false) = (encL ([] : List Int), false) from rfl]
  exact congrArg Prod.fst this
def CInv (st : List Int × Bool) : Prop := st.1.foldl cstep ([], false) = (st.1, false) ∧ ∀ c ∈ st.1, validB c = true
theorem cinv_step {st : List Int × Bool} {c : Int} (hc : validB c = true) (h : CInv st) : CInv (cstep st c) := by
  unfold cstep
  cases hb : blankB c
  · rw [if_pos rfl]
    have hstep : ∀ w : Bool, cstep (st.1, w) c = (st.1 ++ (if w = true ∧ st.1 ≠ [] then [32] else []) ++ [c], false) := by
      intro w; unfold cstep; rw [hb, if_pos rfl]
    by_cases hw : st.2 = true ∧ st.1 ≠ []
    · rw [if_pos hw]
      refine ⟨?_, ?_⟩
      · simp only [List.foldl_append, List.foldl_cons, List.foldl_nil]
        rw [h.1]
        have e1 : cstep (st.1, false) 32 = (st.1, true) := by unfold cstep; rw [if_neg (by decide)]
        rw [e1, hstep true, if_pos ⟨rfl, hw.2⟩]
      · intro x hx
        simp only [List.mem_append, List.mem_singleton] at hx
        rcases hx with (hx | rfl) | rfl
        · exact h.2 x hx
        · rfl
        · exact hc
    · rw [if_neg hw, List.append_nil]
      refine ⟨?_, ?_⟩
      · simp only [List.foldl_append, List.foldl_cons, List.foldl_nil]
        rw [h.1, hstep false]
        simp
      · intro x hx
        simp only [List.mem_append, List.mem_singleton] at hx
        rcases hx with hx | rfl
        · exact h.2 x hx
        · exact hc
  · rw [if_neg (by decide)]
    exact h
theorem cinv_all : ∀ (cs : List Int) (st : List Int × Bool), (∀ c ∈ cs, validB c = true) → CInv st → CInv (cs.foldl cstep st)
  | [], st, _, h => h
  | c :: cs, st, hv, h => by
    simp only [List.foldl_cons]
    exact cinv_all cs _ (fun x hx => hv x (by simp [hx])) (cinv_step (hv c (by simp)) h)
/-- What mode 2 leaves: a text of valid characters that mode 2 leaves as it is. -/
theorem two_again (cs : List Int) (hv : ∀ c ∈ cs, validB c = true) : ∃ ds : List Int, (psq 2 cs).1 = encL ds ∧ (∀ c ∈ ds, validB c = true) ∧ (psq 2 ds).1 = encL ds := by
  have h := cinv_all cs ([], false) hv ⟨rfl, by simp⟩
  refine ⟨_, psq_two cs, h.2, ?_⟩
  rw [psq_two, h.1]
end Ck
end Go.Proofs.YthfmnhhennbjnaaDoor
