/- What the program and the reference say alike: Decode, Encode, Escape, Unescape, Squeeze. -/
import Derived.Test.YthfmnhhennbjnaaDoorCkKinds
namespace Go.Proofs.YthfmnhhennbjnaaDoor
open Go.RowKit Go.Shelf
namespace Ck

def DU (ds : List Int) (P E : Int) (W : World) (e : Ending) (w' : World) : Prop :=
  (∃ v, e = .returned (.tuple #[v, .int .i64 P, .int .i64 E]) ∧ Reads32 w' v ds) ∧ Below W.heap.size W w'
def SU (st : ByteArray) (E : Int) (W : World) (e : Ending) (w' : World) : Prop :=
  e = .returned (.tuple #[.string st, .int .i64 E]) ∧ Below W.heap.size W w'
def PU (st : ByteArray) (P E : Int) (W : World) (e : Ending) (w' : World) : Prop :=
  e = .returned (.tuple #[.string st, .int .i64 P, .int .i64 E]) ∧ Below W.heap.size W w'
theorem reads_nil (W : World) : Reads32 W (.slice none 0 0) [] := ⟨none, 0, rfl, fun j hj => absurd hj (by simp)⟩
theorem du_yes {cs : List Int} {rest : List UInt8} (hr : rest = []) {W : World} {e : Ending} {w' : World} (h : DecSays W.heap.size cs rest e w' ∧ Below W.heap.size W w') : DU cs 0 0 W e w' := by
  obtain ⟨⟨_, v, he, hv⟩ | ⟨h, _⟩, hb⟩ := h
  · exact ⟨⟨v, he, reads_of_row hv⟩, hb⟩
  · exact absurd hr h
theorem du_no {cs : List Int} {rest : List UInt8} (hr : rest ≠ []) {W : World} {e : Ending} {w' : World} (h : DecSays W.heap.size cs rest e w' ∧ Below W.heap.size W w') : DU [] ((encL cs).length : Nat) 6 W e w' := by
  obtain ⟨⟨h, _⟩ | ⟨_, he⟩, hb⟩ := h
  · exact absurd h hr
  · exact ⟨⟨_, he, reads_nil _⟩, hb⟩
theorem dec_both (s : ByteArray) (hs : s.size ≤ 1048576) : ∃ (ds : List Int) (P E : Int), ds.length ≤ 1099511627776 ∧
    (∀ W, G W → Calls Tryd.prog 18 #[.string s] W (DU ds P E W)) ∧ (∀ W, Calls Tryd.prog 19 #[.string s] W (DU ds P E W)) := by
  obtain ⟨cs, rest, hS⟩ := splits s
  by_cases hr : rest = []
  · refine ⟨cs, 0, 0, ?_, fun W hG => (Decode_any s hs cs rest hS W hG).mono fun e w' h => du_yes hr h, fun W => (refDecode_any s hs cs rest hS W).mono fun e w' h => du_yes hr h⟩
    have h1 : cs.length ≤ (encL cs).length := by
      clear hS
      induction cs with
      | nil => simp [encL]
      | cons c cs ih =>
        have := enc1_len c
        simp only [encL, List.flatMap_cons, List.length_append, List.length_cons] at ih ⊢
        omega
    have h2 := congrArg List.length hS.eq
    rw [List.length_append, ← list_size] at h2
    omega
  · exact ⟨[], _, 6, by simp, fun W hG => (Decode_any s hs cs rest hS W hG).mono fun e w' h => du_no hr h, fun W => (refDecode_any s hs cs rest hS W).mono fun e w' h => du_no hr h⟩
theorem enc_both (v : Value) (xs : List Int) (hx : xs.length ≤ 1048576) (hr : ∀ x ∈ xs, -2147483648 ≤ x ∧ x ≤ 2147483647) : ∃ (st : ByteArray) (E : Int),
    (∀ W, G W → Reads32 W v xs → Calls Tryd.prog 20 #[v] W (SU st E W)) ∧ (∀ W, Reads32 W v xs → Calls Tryd.prog 21 #[v] W (SU st E W)) := by
  have key : ∃ (st : ByteArray) (E : Int), ∀ W e w', EncSays xs e ∧ Below W.heap.size W w' → SU st E W e w' := by
    cases hv : xs.all validB with
    | true => exact ⟨_, 0, fun W e w' ⟨h, hb⟩ => ⟨h.elim (fun h => h.2) (fun h => by rw [hv] at h; cases h.1), hb⟩⟩
    | false => exact ⟨_, 2, fun W e w' ⟨h, hb⟩ => ⟨h.elim (fun h => by rw [hv] at h; cases h.1) (fun h => h.2), hb⟩⟩
  obtain ⟨st, E, k⟩ := key
  exact ⟨st, E, fun W hG ha => (Encode_any v xs hx hr W hG ha).mono fun e w' h => k W e w' h, fun W ha => (refEncode_any v xs hx W ha).mono fun e w' h => k W e w' h⟩
theorem esc_both (s : ByteArray) (hs : s.size ≤ 1048576) (a : Bool) : ∃ (st : ByteArray) (E : Int),
    (∀ W, G W → Calls Tryd.prog 23 #[.string s, .bool a] W (SU st E W)) ∧ (∀ W, Calls Tryd.prog 24 #[.string s, .bool a] W (SU st E W)) := by
  obtain ⟨cs, rest, hS⟩ := splits s
  by_cases hr : rest = []
  · exact ⟨_, _, fun W hG => (Escape_any s a hs cs rest hS W hG).mono fun e w' ⟨h, hb⟩ => ⟨h.elim (fun h => h.2) (fun h => absurd hr h.1), hb⟩,
      fun W => (refEscape_any s a hs cs rest hS W).mono fun e w' ⟨h, hb⟩ => ⟨h.elim (fun h => h.2) (fun h => absurd hr h.1), hb⟩⟩
  · exact ⟨_, _, fun W hG => (Escape_any s a hs cs rest hS W hG).mono fun e w' ⟨h, hb⟩ => ⟨h.elim (fun h => absurd h.1 hr) (fun h => h.2), hb⟩,
      fun W => (refEscape_any s a hs cs rest hS W).mono fun e w' ⟨h, hb⟩ => ⟨h.elim (fun h => absurd h.1 hr) (fun h => h.2), hb⟩⟩
theorem un_pu (cs : List Int) (rest : List UInt8) (res : Except Nat (List UInt8)) : ∃ (st : ByteArray) (P E : Int), ∀ W e w', UnSays cs rest res e ∧ Below W.heap.size W w' → PU st P E W e w' := by
  by_cases hr : rest = []
  · cases res with
    | ok o => exact ⟨_, _, _, fun W e w' ⟨h, hb⟩ => ⟨h.elim (fun h => h.2) (fun h => absurd hr h.1), hb⟩⟩
    | error p => exact ⟨_, _, _, fun W e w' ⟨h, hb⟩ => ⟨h.elim (fun h => h.2) (fun h => absurd hr h.1), hb⟩⟩
  · exact ⟨_, _, _, fun W e w' ⟨h, hb⟩ => ⟨h.elim (fun h => absurd h.1 hr) (fun h => h.2), hb⟩⟩
theorem un_both (s : ByteArray) (hs : s.size ≤ 1048576) : ∃ (st : ByteArray) (P E : Int),
    (∀ W, G W → Calls Tryd.prog 25 #[.string s] W (PU st P E W)) ∧ (∀ W, Calls Tryd.prog 26 #[.string s] W (PU st P E W)) := by
  obtain ⟨cs, rest, hS⟩ := splits s
  obtain ⟨res, hU⟩ := un_exists s.size s.data.toList 0 (by rw [← list_size]; exact Nat.le_refl _)
  obtain ⟨st, P, E, k⟩ := un_pu cs rest res
  exact ⟨st, P, E, fun W hG => (Unescape_any s hs cs rest hS res hU W hG).mono fun e w' h => k W e w' h, fun W => (refUnescape_any s hs cs rest hS res hU W).mono fun e w' h => k W e w' h⟩
theorem sq_su (m : Int) (cs : List Int) (rest : List UInt8) : ∃ (st : ByteArray) (E : Int), ∀ W e w', SqSays m cs rest e ∧ Below W.heap.size W w' → SU st E W e w' := by
  by_cases hr : rest = []
  · exact ⟨_, _, fun W e w' ⟨h, hb⟩ => ⟨h.elim (fun h => h.2) (fun h => absurd hr h.1), hb⟩⟩
  · exact ⟨_, _, fun W e w' ⟨h, hb⟩ => ⟨h.elim (fun h => absurd h.1 hr) (fun h => h.2), hb⟩⟩
theorem sq_both (s : ByteArray) (hs : s.size ≤ 1048576) (m : Int) : ∃ (st : ByteArray) (E : Int),
    (∀ W, G W → Calls Tryd.prog 27 #[.string s, .int .i64 m] W (SU st E W)) ∧ (∀ W, Calls Tryd.prog 28 #[.string s, .int .i64 m] W (SU st E W)) := by
  by_cases hm : 0 ≤ m ∧ m ≤ 2
  · obtain ⟨cs, rest, hS⟩ := splits s
    obtain ⟨st, E, k⟩ := sq_su m cs rest
    exact ⟨st, E, fun W hG => (Squeeze_any s m hm hs cs rest hS W hG).mono fun e w' h => k W e w' h, fun W => (refSqueeze_any s m hm hs cs rest hS W).mono fun e w' h => k W e w' h⟩
  · have hm' : m < 0 ∨ 2 < m := by omega
    exact ⟨_, _, fun W hG => (Squeeze_arg s m hm' W).mono fun e w' h => h, fun W => (refSqueeze_arg s m hm' W).mono fun e w' h => h⟩
end Ck
end Go.Proofs.YthfmnhhennbjnaaDoor
