/- Decimal: plain mathematics of numbers in parts of nine digits. -/
import Derived.RowKit
import Derived.Lib.ItoaNum
set_option linter.unusedSimpArgs false
set_option linter.unusedVariables false
namespace Go.Proofs.YthnpbkplcboejaaDoor
namespace Dc

/-- 1000000000 to the i. -/
def pw (i : Nat) : Nat := 1000000000 ^ i
theorem pw_zero : pw 0 = 1 := rfl
theorem pw_succ (i : Nat) : pw (i + 1) = pw i * 1000000000 := Nat.pow_succ ..
theorem pw_pos (i : Nat) : 0 < pw i := Nat.pow_pos (by decide)
theorem pw_add (i j : Nat) : pw (i + j) = pw i * pw j := Nat.pow_add ..
theorem pw_mono {i j : Nat} (h : i ≤ j) : pw i ≤ pw j := Nat.pow_le_pow_right (by decide) h
theorem pw_ten (i : Nat) : pw i = 10 ^ (9 * i) := by unfold pw; rw [Nat.pow_mul]
/-- The i-th part of n. -/
def lim (n i : Nat) : Nat := n / pw i % 1000000000
theorem lim_lt (n i : Nat) : lim n i < 1000000000 := Nat.mod_lt _ (by decide)
theorem lim_zero (i : Nat) : lim 0 i = 0 := by simp [lim]
theorem div_succ (n i : Nat) : n / pw (i + 1) = n / pw i / 1000000000 := by rw [pw_succ, Nat.div_div_eq_div_mul]
theorem div_split (n i : Nat) : n / pw i = n / pw (i + 1) * 1000000000 + lim n i := by
  rw [div_succ]; unfold lim; omega
theorem mod_succ (n i : Nat) : n % pw (i + 1) = n % pw i + lim n i * pw i := by
  rw [pw_succ, Nat.mod_mul, Nat.mul_comm (pw i)]; rfl
theorem mod_zero (n : Nat) : n % pw 0 = 0 := by rw [pw_zero]; omega
theorem lim_small {n i : Nat} (h : n < pw i) : lim n i = 0 := by unfold lim; rw [Nat.div_eq_of_lt h]
theorem lim_first {n : Nat} (h : n < 1000000000) : lim n 0 = n := by unfold lim; rw [pw_zero, Nat.div_one, Nat.mod_eq_of_lt h]

/-! ### carrying -/
/-- The number that raw parts say, up to the k-th. -/
def tot (t : Nat → Int) : Nat → Int
  | 0 => 0
  | k + 1 => tot t k + t k * (pw k : Int)
theorem pwi (i : Nat) : (0 : Int) < (pw i : Int) := by have := pw_pos i; omega
theorem tot_div (t : Nat → Int) (k : Nat) : tot t (k + 1) / (pw k : Int) = t k + tot t k / (pw k : Int) := by
  have h := pwi k
  show (tot t k + t k * (pw k : Int)) / _ = _
  rw [Int.add_mul_ediv_right _ _ (by omega), Int.add_comm]
theorem carry_next (t : Nat → Int) (k : Nat) : (t k + tot t k / (pw k : Int)) / 1000000000 = tot t (k + 1) / (pw (k + 1) : Int) := by
  rw [← tot_div, pw_succ, Int.natCast_mul, Int.ediv_ediv_of_nonneg (Int.le_of_lt (pwi k))]
  rfl
theorem tot_more (t : Nat → Int) (k : Nat) : ∀ d, ∃ q, tot t (k + d) = tot t k + q * (pw k : Int)
  | 0 => ⟨0, by simp⟩
  | d + 1 => by
    obtain ⟨q, hq⟩ := tot_more t k d
    refine ⟨q + t (k + d) * (pw d : Int), ?_⟩
    show tot t (k + d) + t (k + d) * (pw (k + d) : Int) = _
    rw [hq, pw_add, Int.natCast_mul, Int.add_mul, ← Int.add_assoc, Int.mul_assoc, Int.mul_comm (pw d : Int)]
theorem part_is {t : Nat → Int} {n m k : Nat} (h : tot t m = (n : Int)) (hk : k < m) : (t k + tot t k / (pw k : Int)) % 1000000000 = (lim n k : Int) := by
  obtain ⟨q, hq⟩ := tot_more t (k + 1) (m - (k + 1))
  rw [show k + 1 + (m - (k + 1)) = m by omega, h] at hq
  have h2 : (n : Int) / (pw k : Int) = tot t (k + 1) / (pw k : Int) + q * 1000000000 := by
    rw [hq, pw_succ, Int.natCast_mul, show q * ((pw k : Int) * ((1000000000 : Nat) : Int)) = (q * 1000000000) * (pw k : Int) by rw [Int.mul_comm (pw k : Int), ← Int.mul_assoc]; rfl, Int.add_mul_ediv_right _ _ (by have := pwi k; omega)]
  unfold lim
  rw [Int.natCast_emod, Int.natCast_ediv, h2, tot_div]
  omega
theorem tot_plus (a b : Nat) : ∀ k, tot (fun j => (lim a j : Int) + lim b j) k = ((a % pw k : Nat) : Int) + (b % pw k : Nat)
  | 0 => by simp [tot, mod_zero]
  | k + 1 => by
    show tot _ k + ((lim a k : Int) + lim b k) * (pw k : Int) = _
    rw [tot_plus a b k, mod_succ, mod_succ]
    simp only [Int.natCast_add, Int.natCast_mul, Int.add_mul]
    omega
theorem tot_minus (a b : Nat) : ∀ k, tot (fun j => (lim a j : Int) - lim b j) k = ((a % pw k : Nat) : Int) - (b % pw k : Nat)
  | 0 => by simp [tot, mod_zero]
  | k + 1 => by
    show tot _ k + ((lim a k : Int) - lim b k) * (pw k : Int) = _
    rw [tot_minus a b k, mod_succ, mod_succ]
    simp only [Int.natCast_add, Int.natCast_mul, Int.sub_mul]
    omega
/-- What a round of times adds: m times b, i parts up. -/
def raw (p m b i : Nat) (j : Nat) : Int := if j < i then (lim p j : Int) else (lim p j : Int) + m * lim b (j - i)
theorem tot_raw_low (p m b i : Nat) : ∀ k, k ≤ i → tot (raw p m b i) k = ((p % pw k : Nat) : Int)
  | 0, _ => by simp [tot, mod_zero]
  | k + 1, h => by
    show tot _ k + raw p m b i k * (pw k : Int) = _
    rw [tot_raw_low p m b i k (by omega), mod_succ]
    unfold raw
    rw [if_pos (by omega)]
    simp only [Int.natCast_add, Int.natCast_mul]
theorem tot_raw (p m b i : Nat) : ∀ d, tot (raw p m b i) (i + d) = ((p % pw (i + d) + m * (b % pw d) * pw i : Nat) : Int)
  | 0 => by rw [Nat.add_zero, tot_raw_low p m b i i (Nat.le_refl _), mod_zero]; simp
  | d + 1 => by
    show tot _ (i + d) + raw p m b i (i + d) * (pw (i + d) : Int) = _
    rw [tot_raw p m b i d, show i + (d + 1) = (i + d) + 1 from rfl, mod_succ p, mod_succ b]
    unfold raw
    rw [if_neg (by omega), show i + d - i = d by omega]
    simp only [Int.natCast_add, Int.natCast_mul, Int.add_mul, Int.mul_add]
    have e : (m : Int) * (lim b d * pw d) * pw i = m * lim b d * (pw (i + d) : Int) := by
      rw [pw_add, Int.natCast_mul, Int.mul_comm (pw i : Int)]
      simp only [Int.mul_assoc]
    rw [e]
    omega
theorem carry_low (p m b i : Nat) : tot (raw p m b i) i / (pw i : Int) = 0 := by
  rw [tot_raw_low p m b i i (Nat.le_refl _), ← Int.natCast_ediv, Nat.div_eq_of_lt (Nat.mod_lt _ (pw_pos i))]; rfl
theorem tot_raw_all {p m b i : Nat} (hi : i ≤ 20) (hm : 0 < m) (h : p + m * b * pw i < pw 20) : tot (raw p m b i) 20 = ((p + m * b * pw i : Nat) : Int) := by
  have := tot_raw p m b i (20 - i)
  rw [show i + (20 - i) = 20 by omega] at this
  rw [this]
  have hb : b < pw (20 - i) := by
    have h1 : b * pw i ≤ m * b * pw i := Nat.mul_le_mul_right _ (Nat.le_mul_of_pos_left _ hm)
    have h2 : pw (20 - i) * pw i = pw 20 := by rw [← pw_add]; congr 1; omega
    exact Nat.lt_of_mul_lt_mul_right (a := pw i) (by omega)
  rw [Nat.mod_eq_of_lt hb, Nat.mod_eq_of_lt (a := p) (by omega)]
/-- A carry of two parts below the bound is small. -/
theorem lim_keep {p q i j : Nat} (h : j < i) : lim (p + q * pw i) j = lim p j := by
  unfold lim
  obtain ⟨d, rfl⟩ : ∃ d, i = j + 1 + d := ⟨i - (j + 1), by omega⟩
  rw [pw_add, pw_succ, show q * (pw j * 1000000000 * pw d) = pw j * (1000000000 * (q * pw d)) by
    rw [Nat.mul_comm q, Nat.mul_assoc, Nat.mul_assoc, Nat.mul_comm (pw d)], Nat.add_mul_div_left _ _ (pw_pos j), Nat.add_mul_mod_self_left]
end Dc
end Go.Proofs.YthnpbkplcboejaaDoor
