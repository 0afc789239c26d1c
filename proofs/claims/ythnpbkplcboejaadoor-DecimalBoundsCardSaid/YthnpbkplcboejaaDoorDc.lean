/- Decimal: plain mathematics of decimals. -/
import Derived.Test.YthnpbkplcboejaaDoorDb
import Derived.Lib.TrimByte
set_option linter.unusedSimpArgs false
set_option linter.unusedVariables false
namespace Go.Proofs.YthnpbkplcboejaaDoor
namespace Dc
open Go.Lib

/-- A decimal as data, valid or not. -/
structure D where
  neg : Bool
  s : ByteArray
  sc : Int
deriving DecidableEq
def D.zero : D := ⟨false, ⟨#[]⟩, 0⟩
/-- A decimal as a number. -/
structure V where
  neg : Bool
  n : Nat
  s : Nat
deriving DecidableEq
def V.d (v : V) : D := ⟨v.neg, decB v.n, v.s⟩
def V.zero : V := ⟨false, 0, 0⟩
structure V.ok (v : V) : Prop where
  n : v.n < 10 ^ 60
  s : v.s ≤ 60
  zero : v.n = 0 → v.neg = false ∧ v.s = 0
  last : 0 < v.s → v.n % 10 ≠ 0
inductive R where
  | ok (v : V)
  | err (e : Int)
def R.d : R → D
  | .ok v => v.d
  | .err _ => D.zero
def R.no : R → Int
  | .ok _ => 0
  | .err e => e
/-- Is a decimal valid? -/
def D.check (d : D) : Bool :=
  decide (1 ≤ d.s.data.toList.length) && decide (d.s.data.toList.length ≤ 60) && digs d.s.data.toList && decide (0 ≤ d.sc) && decide (d.sc ≤ 60) &&
    (if d.s.data.toList = [48] then !d.neg && decide (d.sc = 0) else !(d.s.data.toList.head? == some 48) && (decide (d.sc ≤ 0) || !(d.s.data.toList.getLast? == some 48)))
theorem mk_toList (s : ByteArray) : (⟨s.data.toList.toArray⟩ : ByteArray) = s := by cases s; simp
theorem dec_last (n : Nat) : (dec n).getLast? = some (UInt8.ofNat (48 + n % 10)) := by
  by_cases h : n < 10
  · rw [dec_small h, Nat.mod_eq_of_lt h]; rfl
  · rw [dec_big h]; simp
theorem last_zero (n : Nat) : ((dec n).getLast? == some 48) = decide (n % 10 = 0) := by
  rw [dec_last, Bool.eq_iff_iff, beq_iff_eq, decide_eq_true_iff, Option.some.injEq]
  constructor
  · intro h; have := congrArg UInt8.toNat h; rw [ofNat_dig (Nat.mod_lt _ (by decide))] at this; simp at this; omega
  · intro h; rw [h]; rfl
theorem V.check {v : V} (h : v.ok) : v.d.check = true := by
  unfold D.check V.d decB
  have h1 : 1 ≤ (dec v.n).length := List.length_pos_iff.2 (dec_ne_nil _)
  have h2 : (dec v.n).length ≤ 60 := (dec_len (by decide)).2 h.n
  have h3 := digs_dec v.n
  have h5 := h.s
  simp only [List.toList_toArray, h1, h2, h3, decide_true, Bool.true_and, Bool.and_true, Int.natCast_nonneg, Bool.and_eq_true, decide_eq_true_eq]
  refine ⟨by omega, ?_⟩
  by_cases h0 : v.n = 0
  · rw [h0, dec_zero, if_pos rfl, (h.zero h0).1, (h.zero h0).2]; rfl
  · have hh := dec_head h0
    rw [if_neg (fun e => by rw [e] at hh; exact hh rfl), last_zero]
    have : ((dec v.n).head? == some 48) = false := by simpa using hh
    rw [this]
    by_cases hs : 0 < v.s
    · have := h.last hs; simp [this]
    · have : v.s = 0 := by omega
      simp [this]
theorem D.of_check {d : D} (h : d.check = true) : ∃ v : V, v.ok ∧ d = v.d := by
  obtain ⟨neg, s, sc⟩ := d
  unfold D.check at h
  simp only [Bool.and_eq_true, decide_eq_true_eq] at h
  obtain ⟨⟨⟨⟨⟨h1, h2⟩, h3⟩, h4⟩, h5⟩, h6⟩ := h
  have hne : s.data.toList ≠ [] := fun e => by rw [e] at h1; simp at h1
  obtain ⟨k, rfl⟩ := Int.eq_ofNat_of_zero_le h4
  by_cases h0 : s.data.toList = [48]
  · rw [if_pos h0] at h6
    simp only [Bool.and_eq_true, Bool.not_eq_true', decide_eq_true_eq] at h6
    refine ⟨⟨false, 0, 0⟩, ⟨by decide, by decide, fun _ => ⟨rfl, rfl⟩, by simp⟩, ?_⟩
    obtain ⟨rfl, h6⟩ := h6
    unfold V.d decB
    rw [h6, dec_zero, ← h0, mk_toList]; rfl
  · rw [if_neg h0] at h6
    simp only [Bool.and_eq_true, Bool.not_eq_true', beq_eq_false_iff_ne, Bool.or_eq_true, decide_eq_true_eq] at h6
    obtain ⟨e, e0⟩ := eq_dec _ _ rfl h3 hne h6.1
    refine ⟨⟨neg, dv s.data.toList, k⟩, ⟨?_, by show k ≤ 60; have : (k : Int) ≤ 60 := h5; omega, fun h => absurd h e0, fun hk => ?_⟩, ?_⟩
    · exact (dec_len (by decide)).1 (by rw [← e]; exact h2)
    · rcases h6.2 with h | h
      · simp at hk; omega
      · rw [e] at h
        have := last_zero (dv s.data.toList)
        rw [beq_eq_false_iff_ne.2 h] at this
        simpa using this.symm
    · unfold V.d decB
      rw [← e, mk_toList]
/-- Zeros at the end are taken away, s at most. -/
def norm : Nat → Nat → Nat × Nat
  | n, 0 => (n, 0)
  | n, s + 1 => if n % 10 = 0 then norm (n / 10) s else (n, s + 1)
theorem norm_spec : ∀ (s n : Nat), (norm n s).2 ≤ s ∧ n = (norm n s).1 * 10 ^ (s - (norm n s).2) ∧ (0 < (norm n s).2 → (norm n s).1 % 10 ≠ 0)
  | 0, n => by simp [norm]
  | s + 1, n => by
    unfold norm
    by_cases h : n % 10 = 0
    · rw [if_pos h]
      obtain ⟨h1, h2, h3⟩ := norm_spec s (n / 10)
      refine ⟨by omega, ?_, h3⟩
      rw [show s + 1 - (norm (n / 10) s).2 = (s - (norm (n / 10) s).2) + 1 by omega, Nat.pow_succ, ← Nat.mul_assoc, ← h2]; omega
    · rw [if_neg h]; simp [h]
theorem norm_unique : ∀ (k s m : Nat), k ≤ s → (s - k = 0 ∨ m % 10 ≠ 0) → norm (m * 10 ^ k) s = (m, s - k)
  | 0, 0, m, _, _ => by simp [norm]
  | 0, s + 1, m, _, h => by
    unfold norm
    rw [Nat.pow_zero, Nat.mul_one, if_neg (by omega)]; rfl
  | k + 1, s + 1, m, hk, h => by
    unfold norm
    rw [show m * 10 ^ (k + 1) = m * 10 ^ k * 10 by rw [Nat.pow_succ, Nat.mul_assoc], if_pos (by omega), show m * 10 ^ k * 10 / 10 = m * 10 ^ k by omega, norm_unique k s m (by omega) (by omega)]
    congr 1; omega
/-- The decimal of n, divided by 10 s times. -/
def mk (neg : Bool) (n s : Nat) : R :=
  if n = 0 then .ok V.zero else if 10 ^ 60 ≤ (norm n s).1 ∨ 60 < (norm n s).2 then .err 7 else .ok ⟨neg, (norm n s).1, (norm n s).2⟩
theorem V.zero_ok : V.zero.ok := ⟨by decide, by decide, fun _ => ⟨rfl, rfl⟩, by decide⟩
theorem mk_ok {neg : Bool} {n s : Nat} {v : V} (h : mk neg n s = .ok v) : v.ok := by
  unfold mk at h
  by_cases h0 : n = 0
  · rw [if_pos h0] at h; injection h with h; subst h; exact V.zero_ok
  · rw [if_neg h0] at h
    by_cases h1 : 10 ^ 60 ≤ (norm n s).1 ∨ 60 < (norm n s).2
    · rw [if_pos h1] at h; cases h
    · rw [if_neg h1] at h; injection h with h; subst h
      obtain ⟨h2, h3, h4⟩ := norm_spec s n
      exact ⟨by show (norm n s).1 < _; omega, by show (norm n s).2 ≤ _; omega, fun e => by rw [show (norm n s).1 = 0 from e] at h3; omega, h4⟩
/-! ### what the program makes of digits -/
/-- How many zeros stand at the end. -/
def tz (l : List UInt8) : Nat := (l.reverse.takeWhile (· == 48)).length
theorem trimR_len (l : List UInt8) : l.length - (trimRightB l 48).length = tz l := by
  unfold trimRightB tz
  have : l.reverse.length = (l.reverse.takeWhile (· == 48)).length + (l.reverse.dropWhile (· == 48)).length := by
    rw [← List.length_append, List.takeWhile_append_dropWhile]
  rw [List.length_reverse] at this ⊢
  omega
theorem trimR_le (l : List UInt8) : (trimRightB l 48).length ≤ l.length := by
  unfold trimRightB
  have : l.reverse.length = (l.reverse.takeWhile (· == 48)).length + (l.reverse.dropWhile (· == 48)).length := by
    rw [← List.length_append, List.takeWhile_append_dropWhile]
  rw [List.length_reverse] at this ⊢
  omega
theorem tz_le (l : List UInt8) : tz l ≤ l.length := by
  have := trimR_len l; omega
theorem takeWhile_rep : ∀ l : List UInt8, l.takeWhile (· == 48) = List.replicate (l.takeWhile (· == 48)).length 48
  | [] => rfl
  | c :: l => by
    by_cases h : c = 48
    · subst h
      rw [List.takeWhile_cons_of_pos (by decide), List.length_cons, List.replicate_succ, ← takeWhile_rep l]
    · rw [List.takeWhile_cons_of_neg (by simpa using h)]; rfl
theorem tz_split (l : List UInt8) : l = l.take (l.length - tz l) ++ List.replicate (tz l) 48 := by
  have h1 := List.takeWhile_append_dropWhile (p := (· == (48 : UInt8))) (l := l.reverse)
  have h2 := congrArg List.reverse h1
  rw [List.reverse_append, List.reverse_reverse, takeWhile_rep, List.reverse_replicate] at h2
  have h3 : (l.reverse.dropWhile (· == 48)).reverse = l.take (l.length - tz l) := by
    have := congrArg (List.take (l.length - tz l)) h2
    rw [List.take_append_of_le_length (by
      have := trimR_len l
      unfold trimRightB at this
      have h4 := trimR_le l
      unfold trimRightB at h4
      omega), List.take_of_length_le (by
      have := trimR_len l
      unfold trimRightB at this
      have h4 := trimR_le l
      unfold trimRightB at h4
      omega)] at this
    exact this
  rw [← h3]; exact h2.symm
theorem cut_split (l : List UInt8) (k : Nat) (hk : k ≤ tz l) : l = l.take (l.length - k) ++ List.replicate k 48 := by
  have h := tz_split l
  have hz := tz_le l
  have h2 : l.take (l.length - k) = l.take (l.length - tz l) ++ List.replicate (tz l - k) 48 := by
    have := congrArg (List.take (l.length - k)) h
    rw [List.take_append, List.take_take, List.length_take, List.take_replicate, show min (l.length - k) (l.length - tz l) = l.length - tz l by omega,
      show min (l.length - k - min (l.length - tz l) l.length) (tz l) = tz l - k by omega] at this
    exact this
  rw [h2, List.append_assoc, List.replicate_append_replicate, show tz l - k + k = tz l by omega]
  exact h
theorem tz_last (l : List UInt8) (h : tz l < l.length) : (l.take (l.length - tz l)).getLast? ≠ some 48 := by
  have h1 : l.take (l.length - tz l) = (l.reverse.dropWhile (· == 48)).reverse := by
    have h := tz_split l
    have h1 := List.takeWhile_append_dropWhile (p := (· == (48 : UInt8))) (l := l.reverse)
    have h2 := congrArg List.reverse h1
    rw [List.reverse_append, List.reverse_reverse, takeWhile_rep, List.reverse_replicate] at h2
    exact List.append_cancel_right (h.symm.trans h2.symm)
  rw [h1, List.getLast?_reverse]
  exact strip_head l.reverse
theorem dv_last {l : List UInt8} (h : l ≠ []) (hd : digs l = true) (hl : l.getLast? ≠ some 48) : dv l % 10 ≠ 0 := by
  have e := List.dropLast_concat_getLast h
  rw [← e, dv_snoc]
  have hc := digs_iff.1 hd (l.getLast h) (List.getLast_mem h)
  have : (l.getLast h).toNat ≠ 48 := fun e' => hl (by rw [List.getLast?_eq_some_getLast h]; congr 1; exact UInt8.toNat_inj.1 (by rw [e']; rfl))
  omega
/-- What the program makes: its digits. -/
theorem made_says (neg : Bool) {l : List UInt8} (hd : digs l = true) (s k : Nat) (hk : k = min s (tz l)) :
    (strip (l.take (l.length - k)) = [] → mk neg (dv l) s = .ok V.zero) ∧
    (strip (l.take (l.length - k)) ≠ [] → strip (l.take (l.length - k)) = dec (norm (dv l) s).1 ∧ s - k = (norm (dv l) s).2 ∧ dv l ≠ 0) := by
  have hsp := cut_split l k (by omega)
  have hm : dv l = dv (l.take (l.length - k)) * 10 ^ k := by
    have := dv_trail k (l.take (l.length - k))
    rw [← hsp] at this; exact this
  have hdt : digs (l.take (l.length - k)) = true := by
    rw [hsp, digs_append, Bool.and_eq_true] at hd; exact hd.1
  constructor
  · intro h
    have : dv (l.take (l.length - k)) = 0 := by rw [← dv_strip, h]; rfl
    rw [this, Nat.zero_mul] at hm
    unfold mk; rw [if_pos hm]
  · intro h
    have h0 : dv (l.take (l.length - k)) ≠ 0 := fun e => h (strip_nil hdt e)
    have h1 : dv l ≠ 0 := by rw [hm]; exact Nat.mul_ne_zero h0 (Nat.ne_of_gt (Nat.pow_pos (by decide)))
    have hn := norm_unique k s (dv (l.take (l.length - k))) (by omega) (by
      by_cases hz : s ≤ tz l
      · left; omega
      · right
        have ek : k = tz l := by omega
        have hlt : tz l < l.length := by
          rcases Nat.lt_or_ge (tz l) l.length with h2 | h2
          · exact h2
          · exfalso; apply h0; rw [ek, show l.length - tz l = 0 by omega]; rfl
        rw [ek]
        rw [ek] at hdt
        exact dv_last (fun e => by rw [ek, e] at h0; exact h0 rfl) hdt (tz_last l hlt))
    rw [← hm] at hn
    rw [hn]
    exact ⟨strip_dec hdt h0, rfl, h1⟩
end Dc
end Go.Proofs.YthnpbkplcboejaaDoor
