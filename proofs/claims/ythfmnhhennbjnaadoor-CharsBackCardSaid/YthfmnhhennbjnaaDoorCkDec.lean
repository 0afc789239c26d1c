/- Plain mathematics of layer 2 (chars): texts, their characters, and the first place where none stands. -/
import Derived.Test.YthfmnhhennbjnaaDoorCkPlain
import Derived.Shelf.Unicode.DecodeSlow
namespace Go.Proofs.YthfmnhhennbjnaaDoor
namespace Ck
open Go.Lib

abbrev enc1 (c : Int) : List UInt8 := Lib.encodeRune c
def encL (cs : List Int) : List UInt8 := cs.flatMap enc1

def decL (l : List UInt8) : Nat × Nat := decodeN l.length (l.getD 0 0).toNat (l.getD 1 0).toNat (l.getD 2 0).toNat (l.getD 3 0).toNat

theorem get_list (s : ByteArray) (i : Nat) : s.get! i = s.data.toList.getD i 0 := by
  cases s with
  | mk a =>
    cases a with
    | mk l =>
      simp only [ByteArray.get!]
      by_cases h : i < l.length
      · simp [h]
      · simp [h]; rfl

theorem decodeGo_list (s : ByteArray) (h : s.size ≠ 0) : Lib.decodeGo s = decL s.data.toList := by
  unfold Lib.decodeGo decL
  rw [if_neg h, decode_at, Lib.size_eq]
  simp only [get_list, Nat.sub_zero, Nat.zero_add]

def u (x : Int) : UInt8 := x.toNat.toUInt8
theorem u_nat {x : Int} (_h0 : 0 ≤ x) (h1 : x < 256) : (u x).toNat = x.toNat := by
  simp [u]; omega
theorem u_eq {x : Int} {b : UInt8} (h : x = (b.toNat : Int)) : u x = b := by
  subst h; simp [u]
theorem enc1_one {c : Int} (h0 : 0 ≤ c) (h1 : c ≤ 127) : enc1 c = [u c] := by
  simp [enc1, encodeRune, encodeRuneZ_one h0 h1, u]
theorem enc1_two {c : Int} (h0 : 128 ≤ c) (h1 : c ≤ 2047) : enc1 c = [u (192 + c / 64), u (128 + c % 64)] := by
  simp [enc1, encodeRune, encodeRuneZ_two h0 h1, u]
theorem enc1_three {c : Int} (h : (2048 ≤ c ∧ c < 55296) ∨ (57343 < c ∧ c ≤ 65535)) : enc1 c = [u (224 + c / 4096), u (128 + c / 64 % 64), u (128 + c % 64)] := by
  simp [enc1, encodeRune, encodeRuneZ_three h, u]
theorem enc1_four {c : Int} (h0 : 65536 ≤ c) (h1 : c ≤ 1114111) : enc1 c = [u (240 + c / 262144), u (128 + c / 4096 % 64), u (128 + c / 64 % 64), u (128 + c % 64)] := by
  simp [enc1, encodeRune, encodeRuneZ_four h0 h1, u]
theorem valid_iff (c : Int) : validB c = true ↔ (c = 9 ∨ c = 10 ∨ c = 13 ∨ (32 ≤ c ∧ c ≤ 55295) ∨ (57344 ≤ c ∧ c ≤ 65533) ∨ (65536 ≤ c ∧ c ≤ 1114111)) := by
  unfold validB; exact decide_eq_true_iff
/-- Which of the four lengths a character has. -/
theorem valid_cases {c : Int} (h : validB c = true) : (0 ≤ c ∧ c ≤ 127) ∨ (128 ≤ c ∧ c ≤ 2047) ∨ ((2048 ≤ c ∧ c < 55296) ∨ (57343 < c ∧ c ≤ 65535)) ∨ (65536 ≤ c ∧ c ≤ 1114111) := by
  rw [valid_iff] at h; omega
theorem valid_pos {c : Int} (h : validB c = true) : 9 ≤ c ∧ c ≤ 1114111 := by
  rw [valid_iff] at h; omega

set_option maxRecDepth 100000 in
set_option maxHeartbeats 4000000 in
/-- The bytes of a character are decoded as this character. -/
theorem dec_enc {c : Int} (h : validB c = true) (r : List UInt8) : decL (enc1 c ++ r) = (c.toNat, (enc1 c).length) := by
  rcases valid_cases h with ⟨h0, h1⟩ | ⟨h0, h1⟩ | h0 | ⟨h0, h1⟩
  · rw [enc1_one h0 h1]
    have e0 := u_nat (x := c) h0 (by omega)
    simp only [decL, List.cons_append, List.nil_append, List.getD_cons_zero, e0, List.length_cons, List.length_nil]
    unfold decodeN
    rw [if_pos (by omega)]
  · rw [enc1_two h0 h1]
    have e0 := u_nat (x := 192 + c / 64) (by omega) (by omega)
    have e1 := u_nat (x := 128 + c % 64) (by omega) (by omega)
    simp only [decL, List.cons_append, List.nil_append, List.getD_cons_zero, List.getD_cons_succ, e0, e1, List.length_cons, List.length_nil]
    generalize (r.getD 0 0).toNat = b2
    generalize (r.getD 1 0).toNat = b3
    unfold decodeN
    rw [if_neg (by omega), if_pos (by omega), if_pos (by omega)]
    apply Prod.ext <;> simp only <;> omega
  · rw [enc1_three h0]
    have e0 := u_nat (x := 224 + c / 4096) (by omega) (by omega)
    have e1 := u_nat (x := 128 + c / 64 % 64) (by omega) (by omega)
    have e2 := u_nat (x := 128 + c % 64) (by omega) (by omega)
    simp only [decL, List.cons_append, List.nil_append, List.getD_cons_zero, List.getD_cons_succ, e0, e1, e2, List.length_cons, List.length_nil]
    generalize (r.getD 0 0).toNat = b3
    unfold decodeN
    rw [if_neg (by omega), if_neg (by omega), if_pos (by omega), if_pos (by omega)]
    apply Prod.ext <;> simp only <;> omega
  · rw [enc1_four h0 h1]
    have e0 := u_nat (x := 240 + c / 262144) (by omega) (by omega)
    have e1 := u_nat (x := 128 + c / 4096 % 64) (by omega) (by omega)
    have e2 := u_nat (x := 128 + c / 64 % 64) (by omega) (by omega)
    have e3 := u_nat (x := 128 + c % 64) (by omega) (by omega)
    simp only [decL, List.cons_append, List.nil_append, List.getD_cons_zero, List.getD_cons_succ, e0, e1, e2, e3, List.length_cons, List.length_nil]
    unfold decodeN
    rw [if_neg (by omega), if_neg (by omega), if_neg (by omega), if_pos (by omega), if_pos (by omega)]
    apply Prod.ext <;> simp only <;> omega

/-- Does the decoder say that no character stands here? -/
def bad (d : Nat × Nat) : Bool := decide ((d.1 = 65533 ∧ d.2 = 1) ∨ validB (d.1 : Int) = false)

set_option maxRecDepth 100000 in
set_option maxHeartbeats 4000000 in
/-- What is decoded as a character begins with its bytes. -/
theorem dec_good {l : List UInt8} (hl : l ≠ []) (h : bad (decL l) = false) : ∃ r, l = enc1 ((decL l).1 : Int) ++ r ∧ validB ((decL l).1 : Int) = true ∧ (decL l).2 = (enc1 ((decL l).1 : Int)).length := by
  have h' : ¬ ((decL l).1 = 65533 ∧ (decL l).2 = 1) ∧ validB ((decL l).1 : Int) = true := by
    unfold bad at h
    rw [decide_eq_false_iff_not] at h
    constructor
    · exact fun e => h (.inl e)
    · cases hv : validB ((decL l).1 : Int) with
      | true => rfl
      | false => exact absurd (.inr hv) h
  obtain ⟨hb, hv⟩ := h'
  suffices H : ∃ r, l = enc1 ((decL l).1 : Int) ++ r from by
    obtain ⟨r, hr⟩ := H
    refine ⟨r, hr, hv, ?_⟩
    have := dec_enc hv r
    rw [← hr] at this
    rw [this]
    simp
  clear h
  cases l with
  | nil => exact absurd rfl hl
  | cons b0 t =>
    have B0 := b0.toNat_lt
    by_cases h0 : b0.toNat < 128
    · have e : decL (b0 :: t) = (b0.toNat, 1) := by simp [decL, decodeN, h0]
      rw [e, enc1_one (by simp only; omega) (by simp only; omega)]
      exact ⟨t, by rw [u_eq (b := b0) (by simp only)]; rfl⟩
    · cases t with
      | nil => exact absurd (by simp [decL, decodeN, h0]) hb
      | cons b1 t =>
        have B1 := b1.toNat_lt
        by_cases h1 : b0.toNat / 32 = 6 ∧ b1.toNat / 64 = 2
        · have e : decL (b0 :: b1 :: t) = if b0.toNat % 32 * 64 + b1.toNat % 64 ≥ 128 then (b0.toNat % 32 * 64 + b1.toNat % 64, 2) else (65533, 1) := by
            simp only [decL, List.length_cons, List.getD_cons_zero, List.getD_cons_succ]
            unfold decodeN
            rw [if_neg h0, if_pos ⟨h1.1, by omega, h1.2⟩]
          split at e
          · rename_i h2
            rw [e, enc1_two (by simp only; omega) (by simp only; omega)]
            exact ⟨t, by rw [u_eq (b := b0) (by simp only; omega), u_eq (b := b1) (by simp only; omega)]; rfl⟩
          · exact absurd (by rw [e]; exact ⟨rfl, rfl⟩) hb
        · cases t with
          | nil => exact absurd (by simp only [decL, List.length_cons, List.length_nil, List.getD_cons_zero, List.getD_cons_succ]; unfold decodeN; rw [if_neg h0, if_neg (by omega), if_neg (by omega), if_neg (by omega)]; exact ⟨rfl, rfl⟩) hb
          | cons b2 t =>
            have B2 := b2.toNat_lt
            by_cases h2 : b0.toNat / 16 = 14 ∧ b1.toNat / 64 = 2 ∧ b2.toNat / 64 = 2
            · have e : decL (b0 :: b1 :: b2 :: t) = if b0.toNat % 16 * 4096 + b1.toNat % 64 * 64 + b2.toNat % 64 ≥ 2048 ∧ (b0.toNat % 16 * 4096 + b1.toNat % 64 * 64 + b2.toNat % 64 < 55296 ∨ (57344 ≤ b0.toNat % 16 * 4096 + b1.toNat % 64 * 64 + b2.toNat % 64 ∧ b0.toNat % 16 * 4096 + b1.toNat % 64 * 64 + b2.toNat % 64 ≤ 1114111)) then (b0.toNat % 16 * 4096 + b1.toNat % 64 * 64 + b2.toNat % 64, 3) else (65533, 1) := by
                simp only [decL, List.length_cons, List.getD_cons_zero, List.getD_cons_succ]
                unfold decodeN
                rw [if_neg h0, if_neg (by omega), if_pos ⟨h2.1, ⟨by omega, h2.2.1⟩, by omega, h2.2.2⟩]
              split at e
              · rename_i h3
                rw [e, enc1_three (by simp only; omega)]
                exact ⟨t, by rw [u_eq (b := b0) (by simp only; omega), u_eq (b := b1) (by simp only; omega), u_eq (b := b2) (by simp only; omega)]; rfl⟩
              · exact absurd (by rw [e]; exact ⟨rfl, rfl⟩) hb
            · cases t with
              | nil => exact absurd (by simp only [decL, List.length_cons, List.length_nil, List.getD_cons_zero, List.getD_cons_succ]; unfold decodeN; rw [if_neg h0, if_neg (by omega), if_neg (by omega), if_neg (by omega)]; exact ⟨rfl, rfl⟩) hb
              | cons b3 t =>
                have B3 := b3.toNat_lt
                by_cases h3 : b0.toNat / 8 = 30 ∧ b1.toNat / 64 = 2 ∧ b2.toNat / 64 = 2 ∧ b3.toNat / 64 = 2
                · have e : decL (b0 :: b1 :: b2 :: b3 :: t) = if b0.toNat % 8 * 262144 + b1.toNat % 64 * 4096 + b2.toNat % 64 * 64 + b3.toNat % 64 ≥ 65536 ∧ (b0.toNat % 8 * 262144 + b1.toNat % 64 * 4096 + b2.toNat % 64 * 64 + b3.toNat % 64 < 55296 ∨ (57344 ≤ b0.toNat % 8 * 262144 + b1.toNat % 64 * 4096 + b2.toNat % 64 * 64 + b3.toNat % 64 ∧ b0.toNat % 8 * 262144 + b1.toNat % 64 * 4096 + b2.toNat % 64 * 64 + b3.toNat % 64 ≤ 1114111)) then (b0.toNat % 8 * 262144 + b1.toNat % 64 * 4096 + b2.toNat % 64 * 64 + b3.toNat % 64, 4) else (65533, 1) := by
                    simp only [decL, List.length_cons, List.getD_cons_zero, List.getD_cons_succ]
                    unfold decodeN
                    rw [if_neg h0, if_neg (by omega), if_neg (by omega), if_pos ⟨h3.1, ⟨by omega, h3.2.1⟩, ⟨by omega, h3.2.2.1⟩, by omega, h3.2.2.2⟩]
                  split at e
                  · rename_i h4
                    rw [e, enc1_four (by simp only; omega) (by simp only; omega)]
                    exact ⟨t, by rw [u_eq (b := b0) (by simp only; omega), u_eq (b := b1) (by simp only; omega), u_eq (b := b2) (by simp only; omega), u_eq (b := b3) (by simp only; omega)]; rfl⟩
                  · exact absurd (by rw [e]; exact ⟨rfl, rfl⟩) hb
                · exact absurd (by simp only [decL, List.length_cons, List.getD_cons_zero, List.getD_cons_succ]; unfold decodeN; rw [if_neg h0, if_neg (by omega), if_neg (by omega), if_neg (by omega)]; exact ⟨rfl, rfl⟩) hb

/-- No character stands at the beginning of these bytes. -/
def NoneAt (l : List UInt8) : Prop := l = [] ∨ bad (decL l) = true

/-- A list of bytes: characters, and what is left where none stands. -/
structure Split (l : List UInt8) (cs : List Int) (rest : List UInt8) : Prop where
  eq : l = encL cs ++ rest
  valid : ∀ c ∈ cs, validB c = true
  stop : NoneAt rest

theorem enc1_len (c : Int) : 1 ≤ (enc1 c).length ∧ (enc1 c).length ≤ 4 := by
  have := Lib.runeCells_le c
  rw [Lib.runeCells_length] at this
  exact this

theorem split_exists : ∀ (n : Nat) (l : List UInt8), l.length ≤ n → ∃ cs rest, Split l cs rest
  | 0, l, h => ⟨[], l, ⟨rfl, by simp, .inl (List.eq_nil_of_length_eq_zero (by omega))⟩⟩
  | n + 1, l, h => by
    by_cases hl : l = []
    · exact ⟨[], l, ⟨rfl, by simp, .inl hl⟩⟩
    · cases hb : bad (decL l) with
      | true => exact ⟨[], l, ⟨rfl, by simp, .inr hb⟩⟩
      | false =>
        obtain ⟨r, hr, hv, _⟩ := dec_good hl hb
        have hlen := congrArg List.length hr
        rw [List.length_append] at hlen
        have := enc1_len ((decL l).1 : Int)
        obtain ⟨cs, rest, hs⟩ := split_exists n r (by omega)
        refine ⟨((decL l).1 : Int) :: cs, rest, ?_, ?_, hs.stop⟩
        · calc l = enc1 ((decL l).1 : Int) ++ r := hr
            _ = encL (((decL l).1 : Int) :: cs) ++ rest := by rw [hs.eq]; simp [encL]
        · intro c hc
          rcases List.mem_cons.1 hc with rfl | hc
          · exact hv
          · exact hs.valid c hc

/-- The places and characters that the program's iterator produces, from a place on. -/
def itemsFrom (p : Nat) : List Int → List (Nat × Int)
  | [] => []
  | c :: cs => (p, c) :: itemsFrom (p + (enc1 c).length) cs
/-- The last one, where none stands. -/
def tailItem (p : Nat) (rest : List UInt8) : List (Nat × Int) := if rest = [] then [] else [(p, -1)]
def items (cs : List Int) (rest : List UInt8) : List (Nat × Int) := itemsFrom 0 cs ++ tailItem (encL cs).length rest

theorem itemsFrom_len (p : Nat) (cs : List Int) : (itemsFrom p cs).length = cs.length := by
  induction cs generalizing p with
  | nil => rfl
  | cons c cs ih => simp [itemsFrom, ih]
theorem itemsFrom_append (p : Nat) (a b : List Int) : itemsFrom p (a ++ b) = itemsFrom p a ++ itemsFrom (p + (encL a).length) b := by
  induction a generalizing p with
  | nil => simp [itemsFrom, encL]
  | cons c cs ih => simp [itemsFrom, ih, encL, Nat.add_assoc]
theorem items_len (cs : List Int) (rest : List UInt8) : (items cs rest).length ≤ cs.length + 1 := by
  unfold items tailItem
  split <;> simp [itemsFrom_len]
theorem encL_append (a b : List Int) : encL (a ++ b) = encL a ++ encL b := by simp [encL]
theorem encL_take_snoc (cs : List Int) (k : Nat) (h : k < cs.length) : encL (cs.take (k + 1)) = encL (cs.take k) ++ enc1 cs[k] := by
  rw [List.take_succ_eq_append_getElem h, encL_append]; simp [encL]
theorem encL_split (cs : List Int) (k : Nat) : encL cs = encL (cs.take k) ++ encL (cs.drop k) := by
  rw [← encL_append, List.take_append_drop]
theorem encL_len (cs : List Int) : cs.length ≤ (encL cs).length ∧ (encL cs).length ≤ 4 * cs.length := by
  induction cs with
  | nil => simp [encL]
  | cons c cs ih =>
    have := enc1_len c
    simp only [encL, List.flatMap_cons, List.length_append, List.length_cons] at ih ⊢
    omega
theorem encL_drop (cs : List Int) (k : Nat) (h : k < cs.length) : encL (cs.drop k) = enc1 cs[k] ++ encL (cs.drop (k + 1)) := by
  unfold encL
  rw [List.drop_eq_getElem_cons h, List.flatMap_cons]
/-- What stands behind the first k characters. -/
theorem Split.drop {l : List UInt8} {cs : List Int} {rest : List UInt8} (h : Split l cs rest) (k : Nat) : l.drop (encL (cs.take k)).length = encL (cs.drop k) ++ rest := by
  rw [h.eq, encL_split cs k, List.append_assoc, List.drop_left]
theorem Split.len {l : List UInt8} {cs : List Int} {rest : List UInt8} (h : Split l cs rest) : l.length = (encL cs).length + rest.length := by
  rw [h.eq, List.length_append]
theorem take_len_le (cs : List Int) (k : Nat) : (encL (cs.take k)).length ≤ (encL cs).length := by
  have := congrArg List.length (encL_split cs k)
  rw [List.length_append] at this
  omega
theorem items_take (cs : List Int) (k : Nat) (h : k < cs.length) : itemsFrom 0 (cs.take (k + 1)) = itemsFrom 0 (cs.take k) ++ [((encL (cs.take k)).length, cs[k])] := by
  rw [List.take_succ_eq_append_getElem h, itemsFrom_append]; simp [itemsFrom]

/-- Does this item leave a local name one? -/
def okI (x : Nat × Int) : Bool := !((x.1 == 0 && !firstB x.2) || !innerB x.2)
def localB (l : List UInt8) (cs : List Int) (rest : List UInt8) : Bool :=
  decide (l ≠ []) && decide (l.length ≤ 200) && (items cs rest).all okI

/-- The reference's way of reading the bytes that follow. -/
def moreL : Int → List UInt8 → Nat → Option Int
  | n, _, 0 => some n
  | _, [], _ + 1 => none
  | n, b :: t, k + 1 => if 128 ≤ b.toNat ∧ b.toNat ≤ 191 then moreL (n * 64 + ((b.toNat : Int) - 128)) t k else none
theorem moreL_short : ∀ (k : Nat) (n : Int) (l : List UInt8), l.length < k → moreL n l k = none
  | 0, _, _, h => absurd h (Nat.not_lt_zero _)
  | k + 1, n, [], _ => rfl
  | k + 1, n, b :: t, h => by
    unfold moreL
    split
    · exact moreL_short k _ t (by simpa using h)
    · rfl
theorem moreL_cons (n : Int) (b : UInt8) (t : List UInt8) (k : Nat) : moreL n (b :: t) (k + 1) = if 128 ≤ b.toNat ∧ b.toNat ≤ 191 then moreL (n * 64 + ((b.toNat : Int) - 128)) t k else none := rfl
theorem moreL_zero (n : Int) (l : List UInt8) : moreL n l 0 = some n := by cases l <;> rfl
/-- How great a number is behind so many bytes. -/
def cap (k : Nat) : Int := if k ≤ 1 then 32 else if k ≤ 2 then 2048 else if k ≤ 3 then 131072 else 8388608
theorem cap_step {k : Nat} {m x : Int} (h1 : 1 ≤ k) (h3 : k ≤ 3) (h : m < cap k) (hx : x ≤ 63) : m * 64 + x < cap (k + 1) := by
  unfold cap at *
  repeat' split at h
  all_goals (repeat' split)
  all_goals omega
theorem cap_le {k : Nat} (h3 : k ≤ 3) : cap k ≤ 131072 := by
  unfold cap
  repeat' split
  all_goals omega

/-- The reference's candidate for the character at the beginning. -/
def cand : List UInt8 → Option Int
  | [] => none
  | b :: t => if b.toNat < 128 then some b.toNat else if b.toNat < 192 then none else if b.toNat < 224 then moreL ((b.toNat : Int) - 192) t 1 else if b.toNat < 240 then moreL ((b.toNat : Int) - 224) t 2 else if b.toNat < 248 then moreL ((b.toNat : Int) - 240) t 3 else none
def nextB (l : List UInt8) (c : Int) : Bool := decide ((enc1 c).length ≤ l.length) && (l.take (enc1 c).length == enc1 c)
def nextR (l : List UInt8) : Int × Bool :=
  match cand l with
  | none => (0, false)
  | some c => if validB c then (c, nextB l c) else (0, false)
theorem u_nat' {x : Int} (h0 : 0 ≤ x) (h1 : x < 256) : ((u x).toNat : Int) = x := by rw [u_nat h0 h1]; omega
theorem cand_enc {c : Int} (h : validB c = true) (r : List UInt8) : cand (enc1 c ++ r) = some c := by
  rcases valid_cases h with ⟨h0, h1⟩ | ⟨h0, h1⟩ | h0 | ⟨h0, h1⟩
  · rw [enc1_one h0 h1]
    have e0 := u_nat' (x := c) h0 (by omega)
    simp only [cand, List.cons_append, List.nil_append]
    rw [if_pos (by omega), e0]
  · rw [enc1_two h0 h1]
    have e0 := u_nat' (x := 192 + c / 64) (by omega) (by omega)
    have e1 := u_nat' (x := 128 + c % 64) (by omega) (by omega)
    simp only [cand, List.cons_append, List.nil_append]
    rw [if_neg (by omega), if_neg (by omega), if_pos (by omega), moreL_cons, if_pos (by omega), moreL_zero, e0, e1]
    congr 1; omega
  · rw [enc1_three h0]
    have e0 := u_nat' (x := 224 + c / 4096) (by omega) (by omega)
    have e1 := u_nat' (x := 128 + c / 64 % 64) (by omega) (by omega)
    have e2 := u_nat' (x := 128 + c % 64) (by omega) (by omega)
    simp only [cand, List.cons_append, List.nil_append]
    rw [if_neg (by omega), if_neg (by omega), if_neg (by omega), if_pos (by omega), moreL_cons, if_pos (by omega), moreL_cons, if_pos (by omega), moreL_zero, e0, e1, e2]
    congr 1; omega
  · rw [enc1_four h0 h1]
    have e0 := u_nat' (x := 240 + c / 262144) (by omega) (by omega)
    have e1 := u_nat' (x := 128 + c / 4096 % 64) (by omega) (by omega)
    have e2 := u_nat' (x := 128 + c / 64 % 64) (by omega) (by omega)
    have e3 := u_nat' (x := 128 + c % 64) (by omega) (by omega)
    simp only [cand, List.cons_append, List.nil_append]
    rw [if_neg (by omega), if_neg (by omega), if_neg (by omega), if_neg (by omega), if_pos (by omega), moreL_cons, if_pos (by omega), moreL_cons, if_pos (by omega), moreL_cons, if_pos (by omega), moreL_zero, e0, e1, e2, e3]
    congr 1; omega
theorem nextR_good {c : Int} (h : validB c = true) (r : List UInt8) : nextR (enc1 c ++ r) = (c, true) := by
  unfold nextR
  rw [cand_enc h]
  simp only [h, if_true, nextB]
  simp
theorem nextR_bad {l : List UInt8} (hl : l ≠ []) (h : NoneAt l) : (nextR l).2 = false := by
  have hb := h.resolve_left hl
  unfold nextR
  cases hc : cand l with
  | none => rfl
  | some c =>
    simp only
    split
    · rename_i hv
      simp only
      cases hn : nextB l c with
      | false => rfl
      | true =>
        exfalso
        unfold nextB at hn
        rw [Bool.and_eq_true, beq_iff_eq] at hn
        have e : l = enc1 c ++ l.drop (enc1 c).length := by
          conv => lhs; rw [← List.take_append_drop (enc1 c).length l]
          rw [hn.2]
        have hd := dec_enc hv (l.drop (enc1 c).length)
        rw [← e] at hd
        rw [hd] at hb
        unfold bad at hb
        rw [decide_eq_true_iff] at hb
        simp only at hb
        have hp := valid_pos hv
        rw [show ((c.toNat : Nat) : Int) = c by omega] at hb
        rcases hb with ⟨h1, h2⟩ | h1
        · have : c = 65533 := by omega
          subst this
          revert h2; decide
        · rw [hv] at h1; exact absurd h1 (by decide)
    · rfl

theorem items_snd (p : Nat) (cs : List Int) : (itemsFrom p cs).map (·.2) = cs := by
  induction cs generalizing p with
  | nil => rfl
  | cons c cs ih => simp [itemsFrom, ih]
theorem items_valid {l : List UInt8} {cs : List Int} {rest : List UInt8} (h : Split l cs rest) : ∀ x ∈ itemsFrom 0 cs, x.2 ≠ -1 := by
  intro x hx e
  have : x.2 ∈ (itemsFrom 0 cs).map (·.2) := List.mem_map_of_mem hx
  rw [items_snd, e] at this
  have := valid_pos (h.valid _ this)
  omega
/-- The place where an item says that none stands. -/
theorem items_stop {l : List UInt8} {cs : List Int} {rest : List UInt8} (h : Split l cs rest) {pre : List (Nat × Int)} {x : Nat × Int} (hp : pre ++ [x] <+: items cs rest) (hx : x.2 = -1) : rest ≠ [] ∧ x.1 = (encL cs).length := by
  have hm : x ∈ items cs rest := hp.subset (by simp)
  unfold items tailItem at hm
  rw [List.mem_append] at hm
  rcases hm with hm | hm
  · exact absurd hx (items_valid h x hm)
  · split at hm
    · simp at hm
    · rename_i hr
      rw [List.mem_singleton] at hm
      subst hm
      exact ⟨hr, rfl⟩
theorem items_done {cs : List Int} {rest : List UInt8} (h : ∀ x ∈ items cs rest, x.2 ≠ -1) : rest = [] ∧ items cs rest = itemsFrom 0 cs := by
  by_cases hr : rest = []
  · exact ⟨hr, by unfold items tailItem; rw [if_pos hr, List.append_nil]⟩
  · exact absurd rfl (h ((encL cs).length, -1) (by unfold items tailItem; rw [if_neg hr]; simp))
end Ck
end Go.Proofs.YthfmnhhennbjnaaDoor
