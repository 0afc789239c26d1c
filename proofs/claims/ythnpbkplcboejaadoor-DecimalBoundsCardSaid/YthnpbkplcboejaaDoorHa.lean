/- Decimal: plain mathematics of the laws. -/
import Derived.Test.YthnpbkplcboejaaDoorDs
import Derived.Test.YthnpbkplcboejaaDoorDt
import Derived.Test.YthnpbkplcboejaaDoorDx
import Derived.Test.YthnpbkplcboejaaDoorDp
set_option linter.unusedSimpArgs false
set_option linter.unusedVariables false
namespace Go.Proofs.YthnpbkplcboejaaDoor
open Go.RowKit Go.Shelf Go.Lib Go.Sort
namespace Dc
/-- The sign. -/
def sg (b : Bool) : Int := if b = true then -1 else 1
theorem sg_t : sg true = -1 := rfl
theorem sg_f : sg false = 1 := rfl
theorem sg_eq {b c : Bool} {x y : Nat} (h : sg b * (x : Int) = sg c * (y : Int)) : x = y ∧ (x ≠ 0 → b = c) := by
  cases b <;> cases c <;> simp only [sg_t, sg_f] at h
  · exact ⟨by omega, fun _ => rfl⟩
  · exact ⟨by omega, fun _ => by omega⟩
  · exact ⟨by omega, fun _ => by omega⟩
  · exact ⟨by omega, fun _ => rfl⟩
theorem sg_ne (b c : Bool) : sg (b != c) = sg b * sg c := by cases b <;> cases c <;> rfl
theorem sg_not (b : Bool) : sg (!b) = - sg b := by cases b <;> rfl
/-- The number of a decimal, times 10 so often. -/
def V.sv (v : V) (M : Nat) : Int := sg v.neg * ((v.n * 10 ^ (M - v.s) : Nat) : Int)
theorem L_norm_ok {a : V} (h : a.ok) : norm a.n a.s = (a.n, a.s) := by
  have := norm_unique 0 a.s a.n (Nat.zero_le _) (by have := h.last; omega)
  rwa [Nat.pow_zero, Nat.mul_one, Nat.sub_zero] at this
theorem mk_zero (neg : Bool) (s : Nat) : mk neg 0 s = .ok V.zero := by unfold mk; rw [if_pos rfl]
theorem zero_of {a : V} (h : a.ok) (h0 : a.n = 0) : a = V.zero := by
  obtain ⟨h1, h2⟩ := h.zero h0
  obtain ⟨an, ax, az⟩ := a
  simp only at h0 h1 h2
  rw [h0, h1, h2]; rfl
/-- What is made has the number that it is made of. -/
theorem mk_sv {neg : Bool} {n s : Nat} {v : V} (h : mk neg n s = .ok v) (M : Nat) (hM : s ≤ M) : v.s ≤ s ∧ v.sv M = sg neg * ((n * 10 ^ (M - s) : Nat) : Int) := by
  unfold mk at h
  by_cases h0 : n = 0
  · rw [if_pos h0] at h
    injection h with h
    subst h h0
    refine ⟨Nat.zero_le _, ?_⟩
    unfold V.sv V.zero
    simp
  · rw [if_neg h0] at h
    by_cases h1 : 10 ^ 60 ≤ (norm n s).1 ∨ 60 < (norm n s).2
    · rw [if_pos h1] at h; cases h
    · rw [if_neg h1] at h; injection h with h; subst h
      obtain ⟨h2, h3, h4⟩ := norm_spec s n
      refine ⟨h2, ?_⟩
      unfold V.sv
      simp only
      have : (norm n s).1 * 10 ^ (M - (norm n s).2) = n * 10 ^ (M - s) := by
        obtain ⟨p, hp⟩ : ∃ p, (norm n s).1 = p := ⟨_, rfl⟩
        obtain ⟨q, hq⟩ : ∃ q, (norm n s).2 = q := ⟨_, rfl⟩
        rw [hp, hq] at h3 ⊢
        rw [hq] at h2
        rw [h3, Nat.mul_assoc, ← Nat.pow_add]
        congr 2
        omega
      rw [this]
theorem mk_neg {neg : Bool} {n s : Nat} {v : V} (h : mk neg n s = .ok v) : (n = 0 → v = V.zero) ∧ (n ≠ 0 → v.neg = neg ∧ v.n ≠ 0) := by
  unfold mk at h
  by_cases h0 : n = 0
  · rw [if_pos h0] at h
    injection h with h
    exact ⟨fun _ => h.symm, fun e => absurd h0 e⟩
  · rw [if_neg h0] at h
    by_cases h1 : 10 ^ 60 ≤ (norm n s).1 ∨ 60 < (norm n s).2
    · rw [if_pos h1] at h; cases h
    · rw [if_neg h1] at h; injection h with h; subst h
      obtain ⟨h2, h3, h4⟩ := norm_spec s n
      exact ⟨fun e => absurd e h0, fun _ => ⟨rfl, fun e => by rw [show (norm n s).1 = 0 from e] at h3; omega⟩⟩
/-- A decimal that is right is made of its number. -/
theorem mk_from {neg : Bool} {n s M : Nat} {a : V} (ha : a.ok) (hs : s ≤ M) (has : a.s ≤ M) (h : sg neg * ((n * 10 ^ (M - s) : Nat) : Int) = a.sv M) : mk neg n s = .ok a := by
  unfold V.sv at h
  obtain ⟨h1, h2⟩ := sg_eq h
  have hp : ∀ k, 0 < 10 ^ k := fun k => Nat.pow_pos (by decide)
  by_cases h0 : n = 0
  · have h3 : a.n = 0 := by
      rw [h0, Nat.zero_mul] at h1
      rcases Nat.mul_eq_zero.1 h1.symm with e | e
      · exact e
      · have := hp (M - a.s); omega
    rw [h0, mk_zero, zero_of ha h3]
  · have hne : n * 10 ^ (M - s) ≠ 0 := fun e => by
      rcases Nat.mul_eq_zero.1 e with e | e
      · exact h0 e
      · have := hp (M - s); omega
    have hneg := h2 hne
    obtain ⟨n2, n3, n4⟩ := norm_spec s n
    have e1 := norm_unique (M - (norm n s).2) M (norm n s).1 (by omega) (by
      by_cases hz : 0 < (norm n s).2
      · exact .inr (n4 hz)
      · left; omega)
    have e2 := norm_unique (M - a.s) M a.n (by omega) (by
      by_cases hz : 0 < a.s
      · exact .inr (ha.last hz)
      · left; omega)
    have e3 : (norm n s).1 * 10 ^ (M - (norm n s).2) = a.n * 10 ^ (M - a.s) := by
      rw [← h1]
      obtain ⟨p, hp⟩ : ∃ p, (norm n s).1 = p := ⟨_, rfl⟩
      obtain ⟨q, hq⟩ : ∃ q, (norm n s).2 = q := ⟨_, rfl⟩
      rw [hp, hq] at n3 ⊢
      rw [hq] at n2
      rw [n3, Nat.mul_assoc, ← Nat.pow_add]
      congr 2
      omega
    rw [e3, e2] at e1
    injection e1 with e4 e5
    have h6 := ha.n
    have h7 := ha.s
    unfold mk
    rw [if_neg h0, ← e4, show (norm n s).2 = a.s by omega, if_neg (by omega), hneg]
theorem mk_congr {b c : Bool} {x y s : Nat} (h : sg b * (x : Int) = sg c * (y : Int)) : mk b x s = mk c y s := by
  obtain ⟨h1, h2⟩ := sg_eq h
  subst h1
  by_cases h0 : x = 0
  · rw [h0, mk_zero, mk_zero]
  · rw [h2 h0]
theorem al_sv (a b : V) (M : Nat) (hM : max a.s b.s ≤ M) : al a b * 10 ^ (M - max a.s b.s) = a.n * 10 ^ (M - a.s) := by
  unfold al
  rw [Nat.mul_assoc, ← Nat.pow_add]
  congr 2
  omega
/-- What a sum is made of. -/
theorem sum_parts (a b : V) (ng : Bool) : ∃ neg n, sumS a b ng = mk neg n (max a.s b.s) ∧ sg neg * (n : Int) = sg a.neg * (al a b : Int) + sg ng * (al b a : Int) := by
  unfold sumS
  by_cases h : a.neg = ng
  · refine ⟨ng, _, by rw [if_pos h], ?_⟩
    rw [h, Int.natCast_add, Int.mul_add]
  · have h2 : sg a.neg = - sg ng := by
      rw [← sg_not]; congr 1
      cases ha : a.neg <;> cases hn : ng <;> simp_all
    by_cases h1 : al a b < al b a
    · refine ⟨ng, _, by rw [if_neg h, if_pos h1], ?_⟩
      rw [h2, Int.ofNat_sub (Nat.le_of_lt h1), Int.mul_sub, Int.neg_mul]; omega
    · refine ⟨a.neg, _, by rw [if_neg h, if_neg h1], ?_⟩
      have h3 : sg ng = - sg a.neg := by rw [h2, Int.neg_neg]
      rw [h3, Int.ofNat_sub (by omega), Int.mul_sub, Int.neg_mul]; omega
theorem scaled {p q r : Int} (h : p = q + r) (k : Int) : p * k = q * k + r * k := by rw [h, Int.add_mul]
/-- The number of what a sum is made of. -/
theorem sum_num (a b : V) (ng : Bool) (M : Nat) (hM : max a.s b.s ≤ M) : ∃ neg n, sumS a b ng = mk neg n (max a.s b.s) ∧ sg neg * ((n * 10 ^ (M - max a.s b.s) : Nat) : Int) = a.sv M + sg ng * ((b.n * 10 ^ (M - b.s) : Nat) : Int) := by
  obtain ⟨neg, n, h1, h2⟩ := sum_parts a b ng
  refine ⟨neg, n, h1, ?_⟩
  have h3 := scaled h2 ((10 ^ (M - max a.s b.s) : Nat) : Int)
  rw [Int.mul_assoc, Int.mul_assoc, Int.mul_assoc, ← Int.natCast_mul, ← Int.natCast_mul, ← Int.natCast_mul, al_sv a b M hM] at h3
  have h4 := al_sv b a M (by rw [Nat.max_comm]; exact hM)
  rw [Nat.max_comm b.s a.s] at h4
  rw [h4] at h3
  exact h3
theorem add_sv {a b x : V} (h : addS a b = .ok x) (M : Nat) (hM : max a.s b.s ≤ M) : x.s ≤ max a.s b.s ∧ x.sv M = a.sv M + b.sv M := by
  obtain ⟨neg, n, h1, h2⟩ := sum_num a b b.neg M hM
  have h3 : mk neg n (max a.s b.s) = .ok x := by rw [← h1]; exact h
  obtain ⟨h4, h5⟩ := mk_sv h3 M hM
  exact ⟨h4, by rw [h5, h2]; rfl⟩
theorem sub_sv {a b x : V} (h : subS a b = .ok x) (M : Nat) (hM : max a.s b.s ≤ M) : x.s ≤ max a.s b.s ∧ x.sv M = a.sv M - b.sv M := by
  obtain ⟨neg, n, h1, h2⟩ := sum_num a b (!b.neg) M hM
  have h3 : mk neg n (max a.s b.s) = .ok x := by rw [← h1]; exact h
  obtain ⟨h4, h5⟩ := mk_sv h3 M hM
  refine ⟨h4, ?_⟩
  rw [h5, h2, sg_not, Int.neg_mul]; rfl
theorem add_of {a b x : V} (hx : x.ok) (M : Nat) (hM : max a.s b.s ≤ M) (hxs : x.s ≤ M) (h : x.sv M = a.sv M + b.sv M) : addS a b = .ok x := by
  obtain ⟨neg, n, h1, h2⟩ := sum_num a b b.neg M hM
  rw [show addS a b = sumS a b b.neg from rfl, h1]
  exact mk_from hx hM hxs (by rw [h2, h]; rfl)
theorem sub_of {a b x : V} (hx : x.ok) (M : Nat) (hM : max a.s b.s ≤ M) (hxs : x.s ≤ M) (h : x.sv M = a.sv M - b.sv M) : subS a b = .ok x := by
  obtain ⟨neg, n, h1, h2⟩ := sum_num a b (!b.neg) M hM
  rw [show subS a b = sumS a b (!b.neg) from rfl, h1]
  exact mk_from hx hM hxs (by rw [h2, h, sg_not, Int.neg_mul]; rfl)
theorem add_comm' (a b : V) : addS a b = addS b a := by
  obtain ⟨p, n, h1, h2⟩ := sum_parts a b b.neg
  obtain ⟨q, m, h3, h4⟩ := sum_parts b a a.neg
  rw [show addS a b = sumS a b b.neg from rfl, show addS b a = sumS b a a.neg from rfl, h1, h3, Nat.max_comm b.s a.s]
  exact mk_congr (by rw [h2, h4, Int.add_comm])
theorem mul_comm' (a b : V) : mulS a b = mulS b a := by
  unfold mulS
  rw [Nat.mul_comm, Nat.add_comm, bne_comm]
theorem add_back {a b x : V} (ha : a.ok) (hb : b.ok) (h : addS a b = .ok x) : subS x b = .ok a := by
  have h1 := ha.s
  have h2 := hb.s
  obtain ⟨h3, h4⟩ := add_sv h 200 (by omega)
  exact sub_of ha 200 (by omega) (by omega) (by rw [h4]; omega)
theorem mul_sv {a b p : V} (h : mulS a b = .ok p) (M : Nat) (ha : a.s ≤ M) (hb : b.s ≤ M) : p.s ≤ a.s + b.s ∧ p.sv (M + M) = a.sv M * b.sv M := by
  obtain ⟨h1, h2⟩ := mk_sv h (M + M) (by omega)
  refine ⟨h1, ?_⟩
  rw [h2, sg_ne]
  unfold V.sv
  have : a.n * b.n * 10 ^ (M + M - (a.s + b.s)) = a.n * 10 ^ (M - a.s) * (b.n * 10 ^ (M - b.s)) := by
    rw [show M + M - (a.s + b.s) = (M - a.s) + (M - b.s) by omega, Nat.pow_add]
    simp only [Nat.mul_assoc, Nat.mul_left_comm]
  rw [this, Int.natCast_mul]
  simp only [Int.mul_assoc, Int.mul_left_comm]
theorem sv_more (a : V) (M k : Nat) (h : a.s ≤ M) : a.sv (M + k) = a.sv M * ((10 ^ k : Nat) : Int) := by
  unfold V.sv
  rw [Int.mul_assoc, ← Int.natCast_mul, Nat.mul_assoc, ← Nat.pow_add]
  congr 4
  omega
theorem distr {a b c x left one two : V} (ha : a.ok) (hb : b.ok) (hc : c.ok) (hx : x.ok) (hl : left.ok) (ho : one.ok) (ht : two.ok) (h : addS a b = .ok x) (h1 : mulS x c = .ok left) (h2 : mulS a c = .ok one) (h3 : mulS b c = .ok two) : addS one two = .ok left := by
  have a1 := ha.s
  have b1 := hb.s
  have c1 := hc.s
  have x1 := hx.s
  have l1 := hl.s
  have o1 := ho.s
  have t1 := ht.s
  obtain ⟨_, e0⟩ := add_sv h 200 (by omega)
  obtain ⟨_, e1⟩ := mul_sv h1 200 (by omega) (by omega)
  obtain ⟨_, e2⟩ := mul_sv h2 200 (by omega) (by omega)
  obtain ⟨_, e3⟩ := mul_sv h3 200 (by omega) (by omega)
  exact add_of hl (200 + 200) (by omega) (by omega) (by rw [e1, e2, e3, e0, Int.add_mul])
theorem ord_ite {x y : Nat} {p q : Int} (h1 : x < y ↔ p < q) (h2 : y < x ↔ q < p) : ord x y = if p < q then -1 else if q < p then 1 else 0 := by
  unfold ord
  by_cases e1 : p < q
  · rw [if_pos e1, if_pos (h1.2 e1)]
  · rw [if_neg e1, if_neg (fun e => e1 (h1.1 e))]
    by_cases e2 : q < p
    · rw [if_pos e2, if_pos (h2.2 e2)]
    · rw [if_neg e2, if_neg (fun e => e2 (h2.1 e))]
theorem pos_neg {u v : V} (hu : u.ok) (hn : u.neg = true) : 0 < al u v := Nat.mul_pos (Nat.pos_of_ne_zero fun e => by rw [(hu.zero e).1] at hn; cases hn) (Nat.pow_pos (by decide))
/-- The order, by the numbers. -/
theorem cmp_num {a b : V} (ha : a.ok) (hb : b.ok) : cmpS a b = if sg a.neg * (al a b : Int) < sg b.neg * (al b a : Int) then -1 else if sg b.neg * (al b a : Int) < sg a.neg * (al a b : Int) then 1 else 0 := by
  have p1 := fun h => pos_neg (v := b) ha h
  have p2 := fun h => pos_neg (v := a) hb h
  unfold cmpS
  cases hna : a.neg <;> cases hnb : b.neg
  · rw [if_neg Bool.false_ne_true, if_neg Bool.false_ne_true]
    exact ord_ite (by rw [sg_f]; omega) (by rw [sg_f]; omega)
  · have := p2 hnb
    rw [if_neg Bool.false_ne_true, if_pos rfl, if_neg (by rw [sg_f, sg_t]; omega), if_pos (by rw [sg_f, sg_t]; omega)]
  · have := p1 hna
    rw [if_pos rfl, if_neg Bool.false_ne_true, if_pos (by rw [sg_f, sg_t]; omega)]
  · rw [if_pos rfl, if_pos rfl]
    exact ord_ite (by rw [sg_t]; omega) (by rw [sg_t]; omega)
theorem cmp_sv {a b : V} (ha : a.ok) (hb : b.ok) (M : Nat) (hM : max a.s b.s ≤ M) : cmpS a b = if a.sv M < b.sv M then -1 else if b.sv M < a.sv M then 1 else 0 := by
  rw [cmp_num ha hb]
  have hp : 0 < 10 ^ (M - max a.s b.s) := Nat.pow_pos (by decide)
  have h1 := al_sv a b M hM
  have h2 := al_sv b a M (by rw [Nat.max_comm]; exact hM)
  rw [Nat.max_comm b.s a.s] at h2
  obtain ⟨P, hP⟩ : ∃ P : Nat, 10 ^ (M - max a.s b.s) = P := ⟨_, rfl⟩
  rw [hP] at hp h1 h2
  have e1 : a.sv M = (sg a.neg * (al a b : Int)) * (P : Int) := by unfold V.sv; rw [← h1, Int.natCast_mul, Int.mul_assoc]
  have e2 : b.sv M = (sg b.neg * (al b a : Int)) * (P : Int) := by unfold V.sv; rw [← h2, Int.natCast_mul, Int.mul_assoc]
  rw [e1, e2]
  have hP0 : (0 : Int) < (P : Int) := by omega
  have key : ∀ x y : Int, (x * (P : Int) < y * (P : Int)) ↔ x < y := fun x y => ⟨fun h => Int.lt_of_mul_lt_mul_right h (Int.le_of_lt hP0), fun h => Int.mul_lt_mul_of_pos_right h hP0⟩
  simp only [key]
theorem sub_cmp {a b d : V} (ha : a.ok) (hb : b.ok) (h : subS a b = .ok d) : d.neg = decide (cmpS a b < 0) ∧ (d.n = 0 ↔ cmpS a b = 0) := by
  obtain ⟨neg, n, h1, h2⟩ := sum_parts a b (!b.neg)
  have h3 : mk neg n (max a.s b.s) = .ok d := by rw [← h1]; exact h
  obtain ⟨z1, z2⟩ := mk_neg h3
  rw [sg_not, Int.neg_mul] at h2
  rw [cmp_num ha hb]
  obtain ⟨p, hp⟩ : ∃ p, sg a.neg * (al a b : Int) = p := ⟨_, rfl⟩
  obtain ⟨q, hq⟩ : ∃ q, sg b.neg * (al b a : Int) = q := ⟨_, rfl⟩
  rw [hp, hq] at h2 ⊢
  by_cases h0 : n = 0
  · subst h0
    rw [z1 rfl]
    have : p = q := by rw [Int.natCast_zero, Int.mul_zero] at h2; omega
    subst this
    rw [if_neg (by omega), if_neg (by omega)]
    exact ⟨rfl, by simp [V.zero]⟩
  · obtain ⟨z3, z4⟩ := z2 h0
    rw [z3]
    cases neg
    · rw [sg_f, Int.one_mul] at h2
      rw [if_neg (by omega), if_pos (by omega)]
      exact ⟨rfl, by constructor <;> intro e <;> omega⟩
    · rw [sg_t] at h2
      rw [if_pos (by omega)]
      exact ⟨rfl, by constructor <;> intro e <;> omega⟩
end Dc
end Go.Proofs.YthnpbkplcboejaaDoor
