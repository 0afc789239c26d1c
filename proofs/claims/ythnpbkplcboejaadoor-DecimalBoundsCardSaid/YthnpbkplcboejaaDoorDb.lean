/- Decimal: plain mathematics of digits. -/
import Derived.Test.YthnpbkplcboejaaDoorDa
set_option linter.unusedSimpArgs false
set_option linter.unusedVariables false
namespace Go.Proofs.YthnpbkplcboejaaDoor
namespace Dc
open Go.Lib

def digB (c : UInt8) : Bool := decide (48 ≤ c.toNat) && decide (c.toNat ≤ 57)
def digs (l : List UInt8) : Bool := l.all digB
theorem digB_iff (c : UInt8) : digB c = true ↔ 48 ≤ c.toNat ∧ c.toNat ≤ 57 := by unfold digB; simp
theorem digs_iff {l : List UInt8} : digs l = true ↔ ∀ c ∈ l, 48 ≤ c.toNat ∧ c.toNat ≤ 57 := by
  unfold digs; rw [List.all_eq_true]; exact forall_congr' fun c => forall_congr' fun _ => digB_iff c
theorem digs_append {l m : List UInt8} : digs (l ++ m) = (digs l && digs m) := by unfold digs; exact List.all_append
/-- The number that digits write. -/
def dv (l : List UInt8) : Nat := l.foldl (fun n c => n * 10 + (c.toNat - 48)) 0
theorem dv_nil : dv [] = 0 := rfl
theorem dv_snoc (l : List UInt8) (c : UInt8) : dv (l ++ [c]) = dv l * 10 + (c.toNat - 48) := by unfold dv; rw [List.foldl_append]; rfl
theorem dv_from (l : List UInt8) : ∀ n, l.foldl (fun n c => n * 10 + (c.toNat - 48)) n = n * 10 ^ l.length + dv l := by
  induction l with
  | nil => intro n; simp [dv]
  | cons c l ih =>
    intro n
    unfold dv
    rw [List.foldl_cons, List.foldl_cons, ih, ih (0 * 10 + _), List.length_cons, Nat.pow_succ, Nat.add_mul, Nat.mul_assoc, Nat.mul_comm 10, Nat.zero_mul, Nat.zero_add]
    omega
theorem dv_append (l m : List UInt8) : dv (l ++ m) = dv l * 10 ^ m.length + dv m := by
  show (l ++ m).foldl _ 0 = _
  rw [List.foldl_append, dv_from m]; rfl
theorem dv_cons (c : UInt8) (l : List UInt8) : dv (c :: l) = (c.toNat - 48) * 10 ^ l.length + dv l := by
  show l.foldl _ (0 * 10 + (c.toNat - 48)) = _
  rw [dv_from, Nat.zero_mul, Nat.zero_add]
theorem dv_lt : ∀ {l : List UInt8}, digs l = true → dv l < 10 ^ l.length
  | [], _ => by decide
  | c :: l, h => by
    have h1 := digs_iff.1 h c (by simp)
    have h2 : digs l = true := digs_iff.2 fun x hx => digs_iff.1 h x (by simp [hx])
    have ih := dv_lt h2
    rw [dv_cons, List.length_cons, Nat.pow_succ]
    have : (c.toNat - 48) * 10 ^ l.length ≤ 9 * 10 ^ l.length := Nat.mul_le_mul_right _ (by omega)
    omega
theorem dv_zeros (n : Nat) : dv (List.replicate n 48) = 0 := by
  induction n with
  | zero => rfl
  | succ n ih => rw [List.replicate_succ, dv_cons, ih, show (48 : UInt8).toNat - 48 = 0 from rfl, Nat.zero_mul]
theorem dv_lead (n : Nat) (l : List UInt8) : dv (List.replicate n 48 ++ l) = dv l := by rw [dv_append, dv_zeros]; omega
theorem dv_trail (n : Nat) (l : List UInt8) : dv (l ++ List.replicate n 48) = dv l * 10 ^ n := by rw [dv_append, dv_zeros, List.length_replicate]; rfl
theorem digs_zeros (n : Nat) : digs (List.replicate n 48) = true := digs_iff.2 fun c hc => by
  have := List.eq_of_mem_replicate hc; subst this; decide

abbrev dec (n : Nat) : List UInt8 := decDigits n
abbrev decB (n : Nat) : ByteArray := ⟨(dec n).toArray⟩
theorem dec_small {n : Nat} (h : n < 10) : dec n = [UInt8.ofNat (48 + n)] := by unfold dec; rw [decDigits, dif_pos h]
theorem dec_big {n : Nat} (h : ¬ n < 10) : dec n = dec (n / 10) ++ [UInt8.ofNat (48 + n % 10)] := by unfold dec; rw [decDigits, dif_neg h]
theorem ofNat_dig {d : Nat} (h : d < 10) : (UInt8.ofNat (48 + d)).toNat = 48 + d := by
  rw [UInt8.toNat_ofNat']; omega
theorem dec_ne_nil (n : Nat) : dec n ≠ [] := by
  by_cases h : n < 10
  · rw [dec_small h]; simp
  · rw [dec_big h]; simp
theorem dv_dec (n : Nat) : dv (dec n) = n := by
  induction n using Nat.strongRecOn with
  | _ n ih =>
    by_cases h : n < 10
    · rw [dec_small h]; show 0 * 10 + ((UInt8.ofNat (48 + n)).toNat - 48) = n; rw [ofNat_dig h]; omega
    · rw [dec_big h, dv_snoc, ih _ (by omega), ofNat_dig (by omega)]; omega
theorem digs_dec (n : Nat) : digs (dec n) = true := by
  induction n using Nat.strongRecOn with
  | _ n ih =>
    by_cases h : n < 10
    · rw [dec_small h]; refine digs_iff.2 fun c hc => ?_; rw [List.mem_singleton] at hc; subst hc; rw [ofNat_dig h]; omega
    · rw [dec_big h, digs_append, ih _ (by omega), Bool.true_and]
      refine digs_iff.2 fun c hc => ?_; rw [List.mem_singleton] at hc; subst hc; rw [ofNat_dig (Nat.mod_lt _ (by decide))]; omega
theorem dec_head {n : Nat} (h0 : n ≠ 0) : (dec n).head? ≠ some 48 := by
  induction n using Nat.strongRecOn with
  | _ n ih =>
    by_cases h : n < 10
    · rw [dec_small h]; simp only [List.head?_cons, ne_eq, Option.some.injEq]
      intro e; have := congrArg UInt8.toNat e; rw [ofNat_dig h] at this; simp at this; omega
    · rw [dec_big h]
      have := ih (n / 10) (by omega) (by omega)
      cases hd : dec (n / 10) with
      | nil => exact absurd hd (dec_ne_nil _)
      | cons a r => rw [hd] at this; simpa using this
theorem eq_dec : ∀ (k : Nat) (l : List UInt8), l.length = k → digs l = true → l ≠ [] → l.head? ≠ some 48 → l = dec (dv l) ∧ dv l ≠ 0
  | 0, l, hk, _, hn, _ => absurd (List.eq_nil_of_length_eq_zero hk) hn
  | k + 1, l, hk, hd, hn, hh => by
    have hl := List.dropLast_concat_getLast hn
    obtain ⟨m, hm⟩ : ∃ m, l.dropLast = m := ⟨_, rfl⟩
    obtain ⟨c, hc⟩ : ∃ c, l.getLast hn = c := ⟨_, rfl⟩
    rw [hm, hc] at hl
    rw [← hl] at hd hh hk ⊢
    rw [digs_append, Bool.and_eq_true] at hd
    have hcd := digs_iff.1 hd.2 c (by simp)
    rw [dv_snoc]
    by_cases he : m = []
    · subst he
      simp only [List.nil_append, List.head?_cons, ne_eq, Option.some.injEq] at hh
      have hne : c.toNat ≠ 48 := fun e => hh (UInt8.toNat_inj.1 (by rw [e]; rfl))
      rw [dv_nil, dec_small (by omega), List.nil_append]
      refine ⟨?_, by omega⟩
      congr 1
      refine UInt8.toNat_inj.1 ?_
      rw [ofNat_dig (by omega)]
      omega
    · have hh' : m.head? ≠ some 48 := by
        cases m with
        | nil => exact absurd rfl he
        | cons a r => simpa using hh
      have ih := eq_dec k m (by simp at hk; omega) hd.1 he hh'
      have e1 : (dv m * 10 + (c.toNat - 48)) / 10 = dv m := by omega
      have e2 : (dv m * 10 + (c.toNat - 48)) % 10 = c.toNat - 48 := by omega
      rw [dec_big (n := dv m * 10 + (c.toNat - 48)) (by have := ih.2; omega), e1, e2, ← ih.1]
      refine ⟨?_, by have := ih.2; omega⟩
      congr 2
      refine UInt8.toNat_inj.1 ?_
      rw [ofNat_dig (by omega)]
      omega
/-- Without the zeros in front. -/
def strip (l : List UInt8) : List UInt8 := l.dropWhile (· == 48)
theorem strip_split (l : List UInt8) : ∃ n, l = List.replicate n 48 ++ strip l := by
  induction l with
  | nil => exact ⟨0, rfl⟩
  | cons c l ih =>
    by_cases h : c = 48
    · subst h
      obtain ⟨n, hn⟩ := ih
      refine ⟨n + 1, ?_⟩
      show 48 :: l = 48 :: (List.replicate n 48 ++ strip l)
      rw [← hn]
    · refine ⟨0, ?_⟩
      unfold strip
      rw [List.dropWhile_cons_of_neg (by simpa using h)]; rfl
theorem strip_head (l : List UInt8) : (strip l).head? ≠ some 48 := by
  induction l with
  | nil => simp [strip]
  | cons c l ih =>
    by_cases h : c = 48
    · subst h; exact ih
    · unfold strip; rw [List.dropWhile_cons_of_neg (by simpa using h)]; simpa using h
theorem dv_strip (l : List UInt8) : dv (strip l) = dv l := by
  obtain ⟨n, hn⟩ := strip_split l
  have := dv_lead n (strip l)
  rw [← hn] at this; exact this.symm
theorem digs_strip {l : List UInt8} (h : digs l = true) : digs (strip l) = true := by
  obtain ⟨n, hn⟩ := strip_split l
  rw [hn, digs_append, Bool.and_eq_true] at h; exact h.2
theorem strip_dec {l : List UInt8} (h : digs l = true) (h0 : dv l ≠ 0) : strip l = dec (dv l) := by
  have := eq_dec _ (strip l) rfl (digs_strip h) (fun e => h0 (by rw [← dv_strip, e]; rfl)) (strip_head l)
  rw [dv_strip] at this
  exact this.1
theorem strip_nil {l : List UInt8} (h : digs l = true) (h0 : dv l = 0) : strip l = [] := by
  by_cases e : strip l = []
  · exact e
  · have := eq_dec _ (strip l) rfl (digs_strip h) e (strip_head l)
    rw [dv_strip] at this
    exact absurd h0 this.2
theorem dec_len {n k : Nat} (hk : 0 < k) : (dec n).length ≤ k ↔ n < 10 ^ k := by
  constructor
  · intro h
    have := dv_lt (digs_dec n)
    rw [dv_dec] at this
    exact Nat.lt_of_lt_of_le this (Nat.pow_le_pow_right (by decide) h)
  · intro h
    by_cases h0 : n = 0
    · subst h0; rw [dec_small (by decide)]; exact hk
    · by_cases hl : (dec n).length ≤ k
      · exact hl
      · exfalso
        cases hd : dec n with
        | nil => exact dec_ne_nil _ hd
        | cons c r =>
          have hh := dec_head h0
          have hv := dv_dec n
          have hg := digs_dec n
          rw [hd] at hh hv hl hg
          have hc := digs_iff.1 hg c (by simp)
          rw [dv_cons] at hv
          simp only [List.head?_cons, ne_eq, Option.some.injEq] at hh
          have hne : c.toNat ≠ 48 := fun e => hh (UInt8.toNat_inj.1 (by rw [e]; rfl))
          have h1 : 1 * 10 ^ r.length ≤ (c.toNat - 48) * 10 ^ r.length := Nat.mul_le_mul_right _ (by omega)
          have h2 : 10 ^ k ≤ 10 ^ r.length := Nat.pow_le_pow_right (by decide) (by simp at hl; omega)
          omega
theorem dec_zero : dec 0 = [48] := by rw [dec_small (by decide)]; rfl

/-! ### the parts of digits -/
/-- The j-th part when the digits' number is m so far, and r digits are still to be read. -/
def pt (m r j : Nat) : Nat := if r ≤ 9 * j then m / 10 ^ (9 * j - r) % 1000000000 else if r ≤ 9 * j + 9 then m % 10 ^ (9 * j + 9 - r) else 0
theorem pt_zero (r j : Nat) : pt 0 r j = 0 := by unfold pt; simp
theorem pt_end (m j : Nat) : pt m 0 j = lim m j := by unfold pt lim; rw [if_pos (by omega), pw_ten, Nat.sub_zero]
theorem pt_other {m r j d : Nat} (hd : d < 10) (hj : r / 9 ≠ j) : pt (m * 10 + d) r j = pt m (r + 1) j := by
  unfold pt
  by_cases h : r + 1 ≤ 9 * j
  · rw [if_pos (by omega), if_pos h, show 9 * j - r = (9 * j - (r + 1)) + 1 by omega, Nat.pow_succ, Nat.mul_comm (10 ^ _), ← Nat.div_div_eq_div_mul, show (m * 10 + d) / 10 = m by omega]
  · have h1 : 9 * j + 9 ≤ r := by omega
    rw [if_neg (by omega), if_neg h]
    by_cases h2 : r ≤ 9 * j + 9
    · rw [if_pos h2, if_neg (by omega), show 9 * j + 9 - r = 0 by omega]; omega
    · rw [if_neg h2, if_neg (by omega)]
theorem pt_this {m r d : Nat} (hd : d < 10) : pt (m * 10 + d) r (r / 9) = pt m (r + 1) (r / 9) * 10 + d := by
  unfold pt
  have hp : ∀ k : Nat, (m * 10 + d) % 10 ^ (k + 1) = m % 10 ^ k * 10 + d := fun k => by
    rw [Nat.pow_succ, Nat.mul_comm (10 ^ k), Nat.mod_mul, show (m * 10 + d) % 10 = d by omega, show (m * 10 + d) / 10 = m by omega]; omega
  by_cases h : r % 9 = 0
  · have e : r = 9 * (r / 9) := by omega
    rw [if_pos (by omega), if_neg (by omega), if_pos (by omega), show 9 * (r / 9) - r = 0 by omega, Nat.pow_zero, Nat.div_one, show 9 * (r / 9) + 9 - (r + 1) = 8 by omega]
    exact hp 8
  · rw [if_neg (by omega), if_pos (by omega), if_neg (by omega), if_pos (by omega), show 9 * (r / 9) + 9 - r = (9 * (r / 9) + 9 - (r + 1)) + 1 by omega]
    exact hp _
theorem pt_small {m r : Nat} : pt m (r + 1) (r / 9) < 100000000 := by
  unfold pt
  rw [if_neg (by omega), if_pos (by omega)]
  have : 10 ^ (9 * (r / 9) + 9 - (r + 1)) ≤ 10 ^ 8 := Nat.pow_le_pow_right (by decide) (by omega)
  have h2 := Nat.mod_lt m (Nat.pow_pos (n := 9 * (r / 9) + 9 - (r + 1)) (show 0 < 10 by decide))
  omega
/-- The parts of 10 to the n. -/
theorem lim_pow (n j : Nat) : lim (10 ^ n) j = if j = n / 9 then 10 ^ (n % 9) else 0 := by
  unfold lim
  rw [pw_ten]
  by_cases h : j = n / 9
  · rw [if_pos h]
    have e : 10 ^ n = 10 ^ (n % 9) * 10 ^ (9 * j) := by rw [← Nat.pow_add]; congr 1; omega
    rw [e, Nat.mul_div_cancel _ (Nat.pow_pos (by decide))]
    refine Nat.mod_eq_of_lt (Nat.lt_of_lt_of_le (Nat.pow_lt_pow_right (by decide) (Nat.mod_lt n (show 0 < 9 by decide))) (by decide))
  · rw [if_neg h]
    by_cases h2 : n < 9 * j
    · rw [Nat.div_eq_of_lt (Nat.pow_lt_pow_right (by decide) h2)]
    · have e : 10 ^ n = 10 ^ (9 * j) * (10 ^ 9 * 10 ^ (n - 9 * j - 9)) := by rw [← Nat.pow_add, ← Nat.pow_add]; congr 1; omega
      rw [e, Nat.mul_div_cancel_left _ (Nat.pow_pos (by decide))]
      exact Nat.mul_mod_right ..
/-! ### the text of a number -/
/-- What is left of the j-th part behind i digits. -/
def rest (n i j : Nat) : Nat := lim n j / 10 ^ (i - 9 * j)
theorem rest_zero (n j : Nat) : rest n 0 j = lim n j := by unfold rest; simp
theorem rest_dig (n i : Nat) : rest n i (i / 9) % 10 = n / 10 ^ i % 10 := by
  unfold rest lim
  rw [pw_ten]
  obtain ⟨r, hr⟩ : ∃ r, i - 9 * (i / 9) = r := ⟨_, rfl⟩
  obtain ⟨s, hs⟩ : ∃ s, r + (s + 1) = 9 := ⟨8 - r, by omega⟩
  rw [hr, show (1000000000 : Nat) = 10 ^ r * 10 ^ (s + 1) by rw [← Nat.pow_add, hs], Nat.mod_mul_right_div_self, Nat.mod_mod_of_dvd _ (by rw [Nat.pow_succ]; exact Nat.dvd_mul_left _ _), Nat.div_div_eq_div_mul, ← Nat.pow_add, show 9 * (i / 9) + r = i by omega]
theorem rest_this (n i : Nat) : rest n (i + 1) (i / 9) = rest n i (i / 9) / 10 := by
  unfold rest
  rw [show i + 1 - 9 * (i / 9) = (i - 9 * (i / 9)) + 1 by omega, Nat.pow_succ, Nat.div_div_eq_div_mul]
theorem rest_other {n i j : Nat} (h : i / 9 ≠ j) : rest n (i + 1) j = rest n i j := by
  unfold rest
  by_cases h1 : i < 9 * j
  · rw [show i + 1 - 9 * j = 0 by omega, show i - 9 * j = 0 by omega]
  · rw [Nat.div_eq_of_lt (Nat.lt_of_lt_of_le (lim_lt n j) ?_), Nat.div_eq_of_lt (Nat.lt_of_lt_of_le (lim_lt n j) ?_)]
    · exact Nat.pow_le_pow_right (n := 10) (i := 9) (by decide) (by omega)
    · exact Nat.pow_le_pow_right (n := 10) (i := 9) (by decide) (by omega)
theorem rest_lt (n i j : Nat) : rest n i j < 1000000000 := Nat.lt_of_le_of_lt (Nat.div_le_self _ _) (lim_lt n j)
/-- The last k digits of n. -/
def txt (n : Nat) : Nat → List UInt8
  | 0 => []
  | k + 1 => UInt8.ofNat (48 + n / 10 ^ k % 10) :: txt n k
theorem txt_len (n : Nat) : ∀ k, (txt n k).length = k
  | 0 => rfl
  | k + 1 => by rw [txt, List.length_cons, txt_len n k]
theorem digs_txt (n : Nat) : ∀ k, digs (txt n k) = true
  | 0 => rfl
  | k + 1 => digs_iff.2 fun c hc => by
    rcases List.mem_cons.1 hc with rfl | hc
    · rw [ofNat_dig (Nat.mod_lt _ (by decide))]; have := Nat.mod_lt (n / 10 ^ k) (show 0 < 10 by decide); omega
    · exact digs_iff.1 (digs_txt n k) c hc
theorem dv_txt (n : Nat) : ∀ k, dv (txt n k) = n % 10 ^ k
  | 0 => by simp [txt, dv_nil]; omega
  | k + 1 => by
    rw [txt, dv_cons, txt_len, dv_txt n k, ofNat_dig (Nat.mod_lt _ (by decide)), Nat.pow_succ, Nat.mod_mul, Nat.mul_comm (10 ^ k), Nat.add_sub_cancel_left]
    omega
theorem txt_get (n : Nat) : ∀ (k p : Nat) (h : p < (txt n k).length), (txt n k)[p] = UInt8.ofNat (48 + n / 10 ^ (k - 1 - p) % 10)
  | 0, p, h => absurd h (by simp [txt])
  | k + 1, 0, h => rfl
  | k + 1, p + 1, h => by
    show (txt n k)[p]'(by rw [txt_len] at h ⊢; omega) = _
    rw [txt_get n k p, show k + 1 - 1 - (p + 1) = k - 1 - p by omega]
end Dc
end Go.Proofs.YthnpbkplcboejaaDoor
