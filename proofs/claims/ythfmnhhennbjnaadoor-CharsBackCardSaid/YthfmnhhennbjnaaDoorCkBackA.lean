/- What CharsBack calls, part by part. -/
import Derived.Test.YthfmnhhennbjnaaDoorCkSqueezed
namespace Go.Proofs.YthfmnhhennbjnaaDoor
open Go.RowKit Go.Shelf
namespace Ck

theorem enc_len4 : ∀ l : List Int, (encL l).length ≤ 4 * l.length
  | [] => by simp [encL]
  | c :: l => by
    have := enc1_len c
    have := enc_len4 l
    rw [encL_cons, List.length_append, List.length_cons]
    omega
theorem back_is {s : ByteArray} {cs : List Int} (h : Split s.data.toList cs []) : (⟨(encL cs).toArray⟩ : ByteArray) = s := by
  have := h.eq
  rw [List.append_nil] at this
  rw [← this]
theorem esc_len (a : Bool) : ∀ l : List Int, (escL a l).length ≤ 6 * l.length
  | [] => by simp [escL]
  | c :: l => by
    have h1 := esc_len a l
    have h2 : (escB a c).length ≤ 6 := by
      unfold escB
      split
      · rename_i E ho
        unfold escOpt at ho
        repeat' split at ho
        all_goals first | (cases ho; decide) | cases ho
      · have := enc1_len c; omega
    have e1 : escL a (c :: l) = escB a c ++ escL a l := rfl
    rw [e1, List.length_append, List.length_cons]
    omega

/-- What the law's first and third part call, of a text. -/
structure Part (s : ByteArray) (ok : Bool) (ds : List Int) (P E : Int) (X : Bool → ByteArray) : Prop where
  err : E = if ok then 0 else 6
  dec : ∀ W, G W → Calls Tryd.prog 18 #[.string s] W (DU ds P E W)
  enc : ok = true → ∀ W v, G W → Reads32 W v ds → Calls Tryd.prog 20 #[v] W (SU s 0 W)
  esc : ∀ a W, G W → Calls Tryd.prog 23 #[.string s, .bool a] W (SU (X a) E W)
  un : ok = true → ∀ a W, G W → Calls Tryd.prog 25 #[.string (X a)] W (PU s 0 0 W)
theorem part_of (s : ByteArray) (hs : s.size ≤ 5000) : ∃ ok ds P E X, Part s ok ds P E X := by
  obtain ⟨cs, rest, hS⟩ := splits s
  by_cases hr : rest = []
  · subst hr
    have hcl := cs_len hS
    have hb := back_is hS
    refine ⟨true, cs, 0, 0, fun a => ⟨(escL a cs).toArray⟩, rfl, ?_, ?_, ?_, ?_⟩
    · exact fun W hG => (Decode_any s (by omega) cs [] hS W hG).mono fun _ _ h => du_yes rfl h
    · intro _ W v hG ha
      refine (Encode_any v cs (by omega) (fun x hx => by have := valid_pos (hS.valid x hx); omega) W hG ha).mono fun e w' ⟨h, hbl⟩ => ⟨?_, hbl⟩
      rcases h with ⟨_, h⟩ | ⟨h, _⟩
      · rw [h, hb]
      · rw [List.all_eq_true.2 hS.valid] at h; cases h
    · exact fun a W hG => (Escape_any s a (by omega) cs [] hS W hG).mono fun _ _ ⟨h, hbl⟩ => ⟨h.elim (fun h => h.2) (fun h => absurd rfl h.1), hbl⟩
    · intro _ a W hG
      have hsp := split_esc a cs hS.valid
      have hun := un_esc a cs 0 hS.valid
      have hl := esc_len a cs
      have hS2 : Split (⟨(escL a cs).toArray⟩ : ByteArray).data.toList (cs.flatMap (escC a)) [] := by
        show Split (escL a cs) _ _
        rw [hsp.1]
        exact split_enc hsp.2
      refine (Unescape_any ⟨(escL a cs).toArray⟩ (by rw [list_size]; show (escL a cs).length ≤ _; omega) _ [] hS2 _ hun W hG).mono fun e w' ⟨h, hbl⟩ => ⟨?_, hbl⟩
      rcases h with ⟨_, h⟩ | ⟨h, _⟩
      · rw [h]; unfold unV; simp only [hb]
      · exact absurd rfl h
  · refine ⟨false, [], ((encL cs).length : Nat), 6, fun _ => ⟨#[]⟩, rfl, ?_, ?_, ?_, ?_⟩
    · exact fun W hG => (Decode_any s (by omega) cs rest hS W hG).mono fun _ _ h => du_no hr h
    · intro h; cases h
    · exact fun a W hG => (Escape_any s a (by omega) cs rest hS W hG).mono fun _ _ ⟨h, hbl⟩ => ⟨h.elim (fun h => absurd h.1 hr) (fun h => h.2), hbl⟩
    · intro h; cases h
/-- What the second part calls, of a slice of numbers. -/
structure Part2 (v : Value) (xs : List Int) (ok : Bool) (t : ByteArray) (E : Int) : Prop where
  err : E = if ok then 0 else 2
  enc : ∀ W, G W → Reads32 W v xs → Calls Tryd.prog 20 #[v] W (SU t E W)
  dec : ok = true → ∀ W, G W → Calls Tryd.prog 18 #[.string t] W (DU xs 0 0 W)
theorem part2_of (v : Value) (xs : List Int) (hx : xs.length ≤ 5000) (hr : ∀ x ∈ xs, -2147483648 ≤ x ∧ x ≤ 2147483647) : ∃ ok t E, Part2 v xs ok t E := by
  cases hv : xs.all validB with
  | true =>
    have hval : ∀ c ∈ xs, validB c = true := List.all_eq_true.1 hv
    have hl := enc_len4 xs
    refine ⟨true, ⟨(encL xs).toArray⟩, 0, rfl, ?_, ?_⟩
    · exact fun W hG ha => (Encode_any v xs (by omega) hr W hG ha).mono fun _ _ ⟨h, hbl⟩ => ⟨h.elim (fun h => h.2) (fun h => by rw [hv] at h; cases h.1), hbl⟩
    · exact fun _ W hG => (Decode_any ⟨(encL xs).toArray⟩ (by rw [list_size]; show (encL xs).length ≤ _; omega) xs [] (split_enc hval) W hG).mono fun _ _ h => du_yes rfl h
  | false =>
    refine ⟨false, ⟨#[]⟩, 2, rfl, ?_, ?_⟩
    · exact fun W hG ha => (Encode_any v xs (by omega) hr W hG ha).mono fun _ _ ⟨h, hbl⟩ => ⟨h.elim (fun h => by rw [hv] at h; cases h.1) (fun h => h.2), hbl⟩
    · intro h; cases h
end Ck
end Go.Proofs.YthfmnhhennbjnaaDoor
