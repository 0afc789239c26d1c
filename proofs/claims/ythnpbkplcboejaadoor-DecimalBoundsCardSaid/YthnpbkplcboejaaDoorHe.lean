/- Decimal: plain mathematics of rounding. -/
import Derived.Test.YthnpbkplcboejaaDoorHd
set_option linter.unusedSimpArgs false
set_option linter.unusedVariables false
namespace Go.Proofs.YthnpbkplcboejaaDoor
open Go.RowKit Go.Shelf Go.Lib Go.Sort
namespace Dc
theorem twice_small {rest : V} {c : Bool} {X : Nat} (sc : Nat) (hsc : sc ≤ 10) (hr : rest.ok) (h1 : rest.sv 100 = sg c * (X : Int)) (h2 : rest.s ≤ 20) (h3 : rest.n ≤ 10 ^ 10) (h4 : X + X ≤ 10 ^ (100 - sc)) :
    ∃ twice : V, twice.ok ∧ addS rest rest = .ok twice ∧ lowS twice.abs (unitV sc).abs true = true := by
  have hX := sv_ab h1
  obtain ⟨t, ht, htm, t1, t2, _⟩ := sum_small (a := rest) (b := rest) (ng := rest.neg) (c := c) (X := X + X) (B := rest.n + rest.n) (M := 100) (by omega) (by
    rw [← sv_def, h1, Int.natCast_add, Int.mul_add]) (by
    rw [← hX, Nat.max_self, Nat.add_mul]; exact Nat.le_refl _) (by
    exact Nat.lt_of_le_of_lt (Nat.add_le_add h3 h3) (by decide)) (by omega)
  refine ⟨t, ht, htm, ?_⟩
  have ha := sv_ab t1
  refine low_le ht (unit_ok (by omega)) 100 (by show max t.s sc ≤ 100; omega) ?_
  rw [ha]
  show _ ≤ 1 * 10 ^ (100 - sc)
  rw [Nat.one_mul]; exact h4
theorem up_twice {Q l u : Nat} (hl : l < u) : (upB Q l u = true → u - l + (u - l) ≤ u) ∧ (upB Q l u = false → l + l ≤ u) := by
  unfold upB
  constructor
  · intro h
    rw [Bool.or_eq_true, Bool.and_eq_true] at h
    simp only [decide_eq_true_eq] at h
    omega
  · intro h
    rw [Bool.or_eq_false_iff] at h
    have := h.1
    rw [decide_eq_false_iff_not] at this
    omega
/-- The rounded number and its bounds. -/
theorem round_bounds (a : V) (ha : a.ok) (h1 : a.n < 10 ^ 20) (h3 : a.s ≤ 10) (sc : Nat) (hsc : sc ≤ 10) :
    ∃ r rest twice : V, r.ok ∧ rest.ok ∧ twice.ok ∧ roundS a sc = .ok r ∧ subS a r = .ok rest ∧ addS rest rest = .ok twice ∧ r.s ≤ sc ∧ lowS twice.abs (unitV sc).abs true = true := by
  by_cases hle : a.s ≤ sc
  · have hround : roundS a sc = .ok a := by unfold roundS; rw [if_pos hle]
    obtain ⟨rest, hr, hrm, r1, r2, r3⟩ := sub_small (a := a) (b := a) (c := false) (X := 0) (B := 0) (M := 100) (by omega) (by rw [sg_f, Int.sub_self]; rfl) (Nat.zero_le _) (by decide) (by omega)
    obtain ⟨t, ht, htm, hlow⟩ := twice_small sc hsc hr r1 (by omega) (by omega) (Nat.zero_le _)
    exact ⟨a, rest, t, ha, hr, ht, hround, hrm, htm, hle, hlow⟩
  · obtain ⟨k, hk⟩ : ∃ k, a.s - sc = k := ⟨_, rfl⟩
    have hU10 := pow_le k 10 (by omega)
    have hU0 : 0 < 10 ^ k := Nat.pow_pos (by decide)
    have hround : roundS a sc = mk a.neg (a.n / 10 ^ k + (if upB (a.n / 10 ^ k) (a.n % 10 ^ k) (10 ^ k) = true then 1 else 0)) sc := by unfold roundS; rw [if_neg hle, hk]
    have eT : 10 ^ (100 - sc) = 10 ^ k * 10 ^ (100 - a.s) := by rw [← Nat.pow_add]; congr 1; omega
    have aA : a.ab 100 = a.n * 10 ^ (100 - a.s) := rfl
    obtain ⟨U, hU⟩ : ∃ U, 10 ^ k = U := ⟨_, rfl⟩
    obtain ⟨T, hT⟩ : ∃ T, 10 ^ (100 - a.s) = T := ⟨_, rfl⟩
    rw [hU] at hU10 hU0 hround eT
    rw [hT] at eT aA
    have hQlt : a.n / U ≤ a.n := Nat.div_le_self _ _
    have hdm := Nat.div_add_mod a.n U
    have hml := Nat.mod_lt a.n hU0
    have hup := up_twice (Q := a.n / U) hml
    obtain ⟨Q, hQ⟩ : ∃ Q, a.n / U = Q := ⟨_, rfl⟩
    obtain ⟨l, hl⟩ : ∃ l, a.n % U = l := ⟨_, rfl⟩
    rw [hQ, hl] at hround hdm hup
    rw [hQ] at hQlt
    rw [hl] at hml
    have hTen : 10 ^ 20 + 1 < 10 ^ 60 := by decide
    cases hb : upB Q l U with
    | true =>
      have h5 := hup.1 hb
      rw [hb, if_pos rfl] at hround
      obtain ⟨r, hr, hrm⟩ := mk_is_ok (neg := a.neg) (n := Q + 1) (s := sc) (by omega) (by omega)
      obtain ⟨r1, r2⟩ := mk_sv hrm 100 (by omega)
      rw [eT] at r2
      have e1 : (Q + 1) * (U * T) = a.n * T + (U - l) * T := by
        rw [← Nat.mul_assoc, ← Nat.add_mul]; congr 1
        rw [Nat.add_mul, Nat.one_mul, Nat.mul_comm]; omega
      have hv : a.sv 100 - r.sv 100 = sg (!a.neg) * (((U - l) * T : Nat) : Int) := by
        rw [sv_def a, r2, aA, e1, Int.natCast_add, Int.mul_add, sg_not, Int.neg_mul]; omega
      obtain ⟨rest, hs, hsm, s1, s2, s3⟩ := sub_small (a := a) (b := r) (B := U) (M := 100) (by omega) hv (by
        rw [show max a.s r.s = a.s by omega, hT]; exact Nat.mul_le_mul_right _ (by omega)) (by omega) (by omega)
      obtain ⟨t, ht, htm, hlow⟩ := twice_small sc hsc hs s1 (by omega) (by omega) (by
        rw [eT, ← Nat.add_mul]; exact Nat.mul_le_mul_right _ h5)
      exact ⟨r, rest, t, hr, hs, ht, hround.trans hrm, hsm, htm, r1, hlow⟩
    | false =>
      have h5 := hup.2 hb
      rw [hb, if_neg Bool.false_ne_true, Nat.add_zero] at hround
      obtain ⟨r, hr, hrm⟩ := mk_is_ok (neg := a.neg) (n := Q) (s := sc) (by omega) (by omega)
      obtain ⟨r1, r2⟩ := mk_sv hrm 100 (by omega)
      rw [eT] at r2
      have e1 : a.n * T = Q * (U * T) + l * T := by
        rw [← Nat.mul_assoc, ← Nat.add_mul]; congr 1
        rw [Nat.mul_comm Q U]; omega
      have hv : a.sv 100 - r.sv 100 = sg a.neg * ((l * T : Nat) : Int) := by
        rw [sv_def a, r2, aA, e1, Int.natCast_add, Int.mul_add]; omega
      obtain ⟨rest, hs, hsm, s1, s2, s3⟩ := sub_small (a := a) (b := r) (B := U) (M := 100) (by omega) hv (by
        rw [show max a.s r.s = a.s by omega, hT]; exact Nat.mul_le_mul_right _ (by omega)) (by omega) (by omega)
      obtain ⟨t, ht, htm, hlow⟩ := twice_small sc hsc hs s1 (by omega) (by omega) (by
        rw [eT, ← Nat.add_mul]; exact Nat.mul_le_mul_right _ h5)
      exact ⟨r, rest, t, hr, hs, ht, hround.trans hrm, hsm, htm, r1, hlow⟩
end Dc
end Go.Proofs.YthnpbkplcboejaaDoor
