/- Decimal: plain mathematics of the bounds. -/
import Derived.Test.YthnpbkplcboejaaDoorHb
import Derived.Test.YthnpbkplcboejaaDoorDu0
import Derived.Test.YthnpbkplcboejaaDoorDw
set_option linter.unusedSimpArgs false
set_option linter.unusedVariables false
namespace Go.Proofs.YthnpbkplcboejaaDoor
open Go.RowKit Go.Shelf Go.Lib Go.Sort
namespace Dc
/-- The absolute value, times 10 so often. -/
def V.ab (v : V) (M : Nat) : Nat := v.n * 10 ^ (M - v.s)
def V.abs (v : V) : V := ⟨false, v.n, v.s⟩
theorem V.abs_ok {v : V} (h : v.ok) : v.abs.ok := ⟨h.n, h.s, fun e => ⟨rfl, (h.zero e).2⟩, h.last⟩
theorem sv_def (v : V) (M : Nat) : v.sv M = sg v.neg * (v.ab M : Int) := rfl
theorem sv_ab {v : V} {M : Nat} {c : Bool} {x : Nat} (h : v.sv M = sg c * (x : Int)) : v.ab M = x := (sg_eq (sv_def v M ▸ h)).1
theorem mk_is_ok {neg : Bool} {n s : Nat} (hn : n < 10 ^ 60) (hs : s ≤ 60) : ∃ v, v.ok ∧ mk neg n s = .ok v := by
  rcases mk_two neg n s with h | h
  · exact h
  · exfalso
    unfold mk at h
    by_cases h0 : n = 0
    · rw [if_pos h0] at h; cases h
    · obtain ⟨h2, h3, h4⟩ := norm_spec s n
      have h5 : (norm n s).1 ≤ n := by
        obtain ⟨p, hp⟩ : ∃ p, (norm n s).1 = p := ⟨_, rfl⟩
        rw [hp] at h3 ⊢
        rw [h3]
        exact Nat.le_mul_of_pos_right _ (Nat.pow_pos (by decide))
      rw [if_neg h0, if_neg (by omega)] at h
      cases h
theorem mk_le {neg : Bool} {n s : Nat} {v : V} (h : mk neg n s = .ok v) : v.n ≤ n := by
  obtain ⟨h1, h2⟩ := mk_sv h s (Nat.le_refl _)
  have h3 := sv_ab h2
  rw [Nat.sub_self, Nat.pow_zero, Nat.mul_one] at h3
  unfold V.ab at h3
  rw [← h3]
  exact Nat.le_mul_of_pos_right _ (Nat.pow_pos (by decide))
theorem mul_ab {a b p : V} (h : mulS a b = .ok p) (M : Nat) (ha : a.s ≤ M) (hb : b.s ≤ M) : p.ab (M + M) = a.ab M * b.ab M := by
  obtain ⟨_, h2⟩ := mul_sv h M ha hb
  refine sv_ab (c := a.neg != b.neg) ?_
  rw [h2, sv_def, sv_def, sg_ne, Int.natCast_mul]
  simp only [Int.mul_assoc, Int.mul_left_comm]
/-- Is u below v (or equal, if also is set)? -/
def lowS (u v : V) (also : Bool) : Bool := decide (cmpS u v < 0) || (also && decide (cmpS u v = 0))
theorem abs_sv (v : V) (M : Nat) : v.abs.sv M = (v.ab M : Int) := by show sg false * _ = _; rw [sg_f, Int.one_mul]; rfl
theorem low_le {u v : V} (hu : u.ok) (hv : v.ok) (M : Nat) (hM : max u.s v.s ≤ M) (h : u.ab M ≤ v.ab M) : lowS u.abs v.abs true = true := by
  have hc := cmp_sv (V.abs_ok hu) (V.abs_ok hv) M hM
  rw [abs_sv, abs_sv] at hc
  unfold lowS
  rw [hc]
  by_cases e : (u.ab M : Int) < (v.ab M : Int)
  · rw [if_pos e]; decide
  · rw [if_neg e, if_neg (by omega)]; decide
theorem low_lt {u v : V} (hu : u.ok) (hv : v.ok) (M : Nat) (hM : max u.s v.s ≤ M) (h : u.ab M < v.ab M) : lowS u.abs v.abs false = true := by
  have hc := cmp_sv (V.abs_ok hu) (V.abs_ok hv) M hM
  rw [abs_sv, abs_sv] at hc
  unfold lowS
  rw [hc, if_pos (by omega)]; decide
theorem sum_small {a b : V} {ng c : Bool} {X B M : Nat} (hM : max a.s b.s ≤ M) (h : a.sv M + sg ng * (b.ab M : Int) = sg c * (X : Int)) (hX : X ≤ B * 10 ^ (M - max a.s b.s)) (hB : B < 10 ^ 60) (hs : max a.s b.s ≤ 60) :
    ∃ v, v.ok ∧ sumS a b ng = .ok v ∧ v.sv M = sg c * (X : Int) ∧ v.s ≤ max a.s b.s ∧ v.n ≤ B := by
  obtain ⟨neg, n, h1, h2⟩ := sum_num a b ng M hM
  have h3 : sg neg * ((n * 10 ^ (M - max a.s b.s) : Nat) : Int) = sg c * (X : Int) := h2.trans h
  have h4 := (sg_eq h3).1
  have hn : n ≤ B := Nat.le_of_mul_le_mul_right (h4 ▸ hX) (Nat.pow_pos (by decide))
  obtain ⟨v, hv, hm⟩ := mk_is_ok (neg := neg) (n := n) (s := max a.s b.s) (by omega) hs
  obtain ⟨h5, h6⟩ := mk_sv hm M hM
  exact ⟨v, hv, h1.trans hm, h6.trans h3, h5, Nat.le_trans (mk_le hm) hn⟩
theorem sub_small {a b : V} {c : Bool} {X B M : Nat} (hM : max a.s b.s ≤ M) (h : a.sv M - b.sv M = sg c * (X : Int)) (hX : X ≤ B * 10 ^ (M - max a.s b.s)) (hB : B < 10 ^ 60) (hs : max a.s b.s ≤ 60) :
    ∃ v, v.ok ∧ subS a b = .ok v ∧ v.sv M = sg c * (X : Int) ∧ v.s ≤ max a.s b.s ∧ v.n ≤ B :=
  sum_small (ng := !b.neg) hM (by rw [sg_not, Int.neg_mul, ← h]; rfl) hX hB hs
theorem pow_le (a b : Nat) (h : a ≤ b) : 10 ^ a ≤ 10 ^ b := Nat.pow_le_pow_right (by decide) h
def unitV (sc : Nat) : V := ⟨false, 1, sc⟩
theorem unit_ok {sc : Nat} (h : sc ≤ 60) : (unitV sc).ok := ⟨(by show 1 < _; decide), h, (fun e => absurd (show (1 : Nat) = 0 from e) (by decide)), (fun _ => by show 1 % 10 ≠ 0; decide)⟩
/-- The quotient and its bounds. -/
theorem quot_bounds (a b : V) (ha : a.ok) (hb : b.ok) (h1 : a.n < 10 ^ 20) (h2 : b.n < 10 ^ 20) (h3 : a.s ≤ 10) (h4 : b.s ≤ 10) (sc : Nat) (hsc : sc ≤ 10) (hb0 : b.n ≠ 0) :
    ∃ q p rest small : V, q.ok ∧ p.ok ∧ rest.ok ∧ small.ok ∧ divS a b sc = .ok q ∧ mulS q b = .ok p ∧ subS a p = .ok rest ∧ mulS b (unitV sc) = .ok small ∧ lowS p.abs a.abs true = true ∧ lowS rest.abs small.abs false = true ∧ q.s ≤ sc := by
  obtain ⟨N, hN⟩ : ∃ N, a.n * 10 ^ (sc + b.s - a.s) = N := ⟨_, rfl⟩
  obtain ⟨D, hD⟩ : ∃ D, b.n * 10 ^ (a.s - (sc + b.s)) = D := ⟨_, rfl⟩
  have hdiv : divS a b sc = mk (a.neg != b.neg) (N / D) sc := by unfold divS; rw [hN, hD]
  have hD0 : 0 < D := by rw [← hD]; exact Nat.mul_pos (Nat.pos_of_ne_zero hb0) (Nat.pow_pos (by decide))
  have hNlt : N < 10 ^ 40 := by
    rw [← hN]
    have e1 := pow_le (sc + b.s - a.s) 20 (by omega)
    have e2 : a.n * 10 ^ (sc + b.s - a.s) ≤ a.n * 10 ^ 20 := Nat.mul_le_mul_left _ e1
    have e3 : a.n * 10 ^ 20 < 10 ^ 20 * 10 ^ 20 := Nat.mul_lt_mul_of_pos_right h1 (by decide)
    exact Nat.lt_of_le_of_lt e2 (Nat.lt_of_lt_of_le e3 (by decide))
  have hQlt : N / D < 10 ^ 40 := Nat.lt_of_le_of_lt (Nat.div_le_self _ _) hNlt
  have hQ1 : N / D * D ≤ N := Nat.div_mul_le_self N D
  have hQ2 : N < (N / D + 1) * D := by rw [Nat.add_mul, Nat.one_mul, Nat.mul_comm]; have := Nat.div_add_mod N D; have h5 := Nat.mod_lt N hD0; omega
  obtain ⟨Q, hQ⟩ : ∃ Q, N / D = Q := ⟨_, rfl⟩
  rw [hQ] at hdiv hQlt hQ1 hQ2
  obtain ⟨q, hq, hqm⟩ := mk_is_ok (neg := a.neg != b.neg) (n := Q) (s := sc) (Nat.lt_trans hQlt (by decide)) (by omega)
  obtain ⟨q1, q2⟩ := mk_sv hqm 100 (by omega)
  have q3 := mk_le hqm
  have hqb : q.n * b.n < 10 ^ 60 := by
    have e1 : q.n * b.n ≤ 10 ^ 40 * b.n := Nat.mul_le_mul_right _ (by omega)
    have e2 : 10 ^ 40 * b.n < 10 ^ 40 * 10 ^ 20 := Nat.mul_lt_mul_of_pos_left h2 (by decide)
    exact Nat.lt_of_le_of_lt e1 (Nat.lt_of_lt_of_le e2 (by decide))
  obtain ⟨p, hp, hpm⟩ := mk_is_ok (neg := q.neg != b.neg) (n := q.n * b.n) (s := q.s + b.s) hqb (by omega)
  have hpm' : mulS q b = .ok p := hpm
  obtain ⟨p1, p2⟩ := mul_sv hpm' 100 (by omega) (by omega)
  obtain ⟨small, hsm, hsmm⟩ := mk_is_ok (neg := b.neg != (unitV sc).neg) (n := b.n * (unitV sc).n) (s := b.s + (unitV sc).s) (by show b.n * 1 < _; rw [Nat.mul_one]; exact Nat.lt_trans h2 (by decide)) (by show b.s + sc ≤ 60; omega)
  have hsmm' : mulS b (unitV sc) = .ok small := hsmm
  have s1 := mul_ab hsmm' 100 (by omega) (by show sc ≤ 100; omega)
  have s2 := (mul_sv hsmm' 100 (by omega) (by show sc ≤ 100; omega)).1
  -- all in one scale
  obtain ⟨K, hK⟩ : ∃ K, 200 - a.s - (sc + b.s - a.s) = K := ⟨_, rfl⟩
  have eA : a.ab 200 = N * 10 ^ K := by
    unfold V.ab; rw [← hN, Nat.mul_assoc, ← Nat.pow_add]; congr 2; omega
  have eD : b.ab 100 * 10 ^ (100 - sc) = D * 10 ^ K := by
    unfold V.ab; rw [← hD, Nat.mul_assoc, Nat.mul_assoc, ← Nat.pow_add, ← Nat.pow_add]; congr 2; omega
  have eS : small.ab (100 + 100) = D * 10 ^ K := by
    rw [s1, ← eD]; congr 1
    show 1 * _ = _; rw [Nat.one_mul]; rfl
  obtain ⟨T, hT⟩ : ∃ T, 10 ^ K = T := ⟨_, rfl⟩
  have hT0 : 0 < T := by rw [← hT]; exact Nat.pow_pos (by decide)
  rw [hT] at eA eD eS
  have eP : p.sv (100 + 100) = sg a.neg * ((Q * (D * T) : Nat) : Int) := by
    rw [p2, q2, sv_def b, sg_ne, ← eD]
    simp only [Int.natCast_mul]
    have hsg : sg b.neg * sg b.neg = 1 := by cases b.neg <;> rfl
    have : ∀ u v x y z t : Int, v * v = 1 → u * v * (x * y) * (v * z) = u * (x * (z * y)) := fun u v x y z t h => by
      have : u * v * (x * y) * (v * z) = u * (v * v) * (x * (z * y)) := by
        simp only [Int.mul_assoc, Int.mul_left_comm, Int.mul_comm]
      rw [this, h, Int.mul_one]
    exact this _ _ _ _ _ 0 hsg
  have aP : p.ab 200 = Q * (D * T) := sv_ab eP
  have lo : Q * (D * T) ≤ N * T := by rw [← Nat.mul_assoc]; exact Nat.mul_le_mul_right _ hQ1
  have hi : N * T < Q * (D * T) + D * T := by
    have := Nat.mul_lt_mul_of_pos_right hQ2 hT0
    rw [Nat.add_mul, Nat.one_mul, Nat.add_mul, Nat.mul_assoc] at this
    exact this
  have hmax : max a.s p.s ≤ 20 := by omega
  have hal := al_sv a p 200 (by omega)
  have hrv : a.sv 200 - p.sv 200 = sg a.neg * ((N * T - Q * (D * T) : Nat) : Int) := by
    rw [sv_def a, eA, show p.sv 200 = _ from eP, Int.ofNat_sub lo, Int.mul_sub]
  have hBl : al a p < 10 ^ 60 := by
    unfold al
    have e1 := pow_le (max a.s p.s - a.s) 20 (by omega)
    have e2 : a.n * 10 ^ (max a.s p.s - a.s) ≤ a.n * 10 ^ 20 := Nat.mul_le_mul_left _ e1
    have e3 : a.n * 10 ^ 20 < 10 ^ 20 * 10 ^ 20 := Nat.mul_lt_mul_of_pos_right h1 (by decide)
    exact Nat.lt_of_le_of_lt e2 (Nat.lt_of_lt_of_le e3 (by decide))
  obtain ⟨rest, hr, hrm, r1, r2, _⟩ := sub_small (a := a) (b := p) (c := a.neg) (B := al a p) (by omega : max a.s p.s ≤ 200) hrv (by
    rw [hal, show a.n * 10 ^ (200 - a.s) = a.ab 200 from rfl, eA]; omega) hBl (by omega)
  have aR := sv_ab r1
  refine ⟨q, p, rest, small, hq, hp, hr, hsm, hdiv.trans hqm, hpm', hrm, hsmm', ?_, ?_, q1⟩
  · exact low_le hp ha 200 (by omega) (by rw [aP, eA]; exact lo)
  · have s3 : small.s ≤ 20 := by have : small.s ≤ b.s + sc := s2; omega
    exact low_lt hr hsm 200 (by omega) (by rw [aR, show small.ab 200 = D * T from eS]; omega)
end Dc
end Go.Proofs.YthnpbkplcboejaaDoor
