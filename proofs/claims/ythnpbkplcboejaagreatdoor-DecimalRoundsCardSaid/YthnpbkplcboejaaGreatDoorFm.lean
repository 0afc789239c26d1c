/- Decimal: program and reference say the same: plain mathematics. -/
import Derived.Test.YthnpbkplcboejaaGreatDoorFj
import Derived.Test.YthnpbkplcboejaaGreatDoorFl
import Derived.Test.YthnpbkplcboejaaGreatDoorFc
import Derived.Test.YthnpbkplcboejaaGreatDoorDs
import Derived.Test.YthnpbkplcboejaaGreatDoorDt
import Derived.Test.YthnpbkplcboejaaGreatDoorDu0
import Derived.Test.YthnpbkplcboejaaGreatDoorDw
import Derived.Test.YthnpbkplcboejaaGreatDoorDx
set_option linter.unusedSimpArgs false
set_option linter.unusedVariables false
namespace Go.Proofs.YthnpbkplcboejaaGreatDoor
open Go.RowKit Go.Shelf Go.Lib Go.Sort
namespace Dc
theorem sub_opp (a b : V) (hb : b.ok) : addS a b.opp = subS a b := by
  have e1 : al a b.opp = al a b := rfl
  have e2 : al b.opp a = al b a := rfl
  have e3 : b.opp.s = b.s := rfl
  unfold addS subS sumS
  rw [e1, e2, e3]
  by_cases h0 : b.n = 0
  · obtain ⟨hn, hs⟩ := hb.zero h0
    have en : b.opp.neg = false := by show (!b.neg && decide (b.n ≠ 0)) = false; rw [h0]; simp
    have ez : al b a = 0 := by unfold al; rw [h0, Nat.zero_mul]
    rw [en, hn, ez]
    cases a.neg <;> simp
  · have en : b.opp.neg = !b.neg := by show (!b.neg && decide (b.n ≠ 0)) = _; rw [decide_eq_true h0, Bool.and_true]
    rw [en]
theorem norm_ok {a : V} (h : a.ok) : norm a.n a.s = (a.n, a.s) := by
  have := norm_unique 0 a.s a.n (Nat.zero_le _) (by have := h.last; omega)
  rwa [Nat.pow_zero, Nat.mul_one, Nat.sub_zero] at this
theorem opp_mk {a : V} (h : a.ok) : mk (!a.neg) a.n a.s = .ok a.opp := by
  unfold mk V.opp
  by_cases h0 : a.n = 0
  · rw [if_pos h0, h0, (h.zero h0).2]; simp [V.zero]
  · have h1 := h.n
    have h2 := h.s
    rw [if_neg h0, norm_ok h, if_neg (by show ¬ (10 ^ 60 ≤ a.n ∨ 60 < a.s); omega), decide_eq_true h0, Bool.and_true]
theorem same_num {a b : V} (ha : a.ok) (hb : b.ok) (hn : a.neg = b.neg) (h : al a b = al b a) : a = b := by
  have h1 := norm_unique (max a.s b.s - a.s) (max a.s b.s) a.n (by omega) (by have := ha.last; omega)
  have h2 := norm_unique (max a.s b.s - b.s) (max a.s b.s) b.n (by omega) (by have := hb.last; omega)
  unfold al at h
  rw [Nat.max_comm b.s a.s] at h
  rw [h, h2] at h1
  injection h1 with h3 h4
  obtain ⟨an, ax, az⟩ := a
  obtain ⟨bn, bx, bz⟩ := b
  simp only at hn h3 h4 ⊢
  rw [hn, h3, show az = bz by omega]
theorem pos_al {a b : V} (h : a.n ≠ 0) : 0 < al a b := Nat.mul_pos (by omega) (Nat.pow_pos (by decide))
/-- Is a below b, as the reference asks? -/
def lowB (a b : V) : Bool := a.neg && !b.neg || a.neg == b.neg && decide (al a b < al b a) != a.neg
theorem cmp_eq {a b : V} (ha : a.ok) (hb : b.ok) : cmpS a b = if a = b then 0 else if lowB a b = true then -1 else 1 := by
  by_cases e : a = b
  · subst e
    rw [if_pos rfl]
    unfold cmpS ord
    cases a.neg <;> simp
  · rw [if_neg e]
    have hne : a.neg = b.neg → al a b ≠ al b a := fun h1 h2 => e (same_num ha hb h1 h2)
    unfold cmpS lowB ord
    cases hna : a.neg <;> cases hnb : b.neg
    · have := hne (by rw [hna, hnb])
      by_cases h : al a b < al b a
      · simp [h]
      · have h2 : al b a < al a b := by omega
        simp [h, h2]
    · simp
    · simp
    · have := hne (by rw [hna, hnb])
      by_cases h : al a b < al b a
      · have h2 : ¬ al b a < al a b := by omega
        simp [h, h2]
      · have h2 : al b a < al a b := by omega
        simp [h, h2]
theorem d_inj {a b : V} (h : a.d = b.d) : a = b := by
  obtain ⟨an, ax, az⟩ := a
  obtain ⟨bn, bx, bz⟩ := b
  unfold V.d at h
  injection h with h1 h2 h3
  have h4 : ax = bx := by
    have := congrArg (fun x : ByteArray => dv x.data.toList) h2
    simp only [decB_dv, dv_dec] at this
    exact this
  simp only at h1 h3
  rw [h1, h4, show az = bz by omega]
set_option maxRecDepth 100000 in
set_option maxHeartbeats 2000000 in
theorem eqD_any (a : Bool) (b : ByteArray) (c : Int) (a' : Bool) (b' : ByteArray) (c' : Int) (w : World) : (binOp .eql 23 (.agg #[.bool a, .string b, .int .i64 c]) (.agg #[.bool a', .string b', .int .i64 c'])).run Tryz.prog w = .ok (.bool (decide (D.mk a b c = D.mk a' b' c'))) w := by
  by_cases h : D.mk a b c = D.mk a' b' c'
  · rw [decide_eq_true h]
    injection h with h1 h2 h3
    subst h1 h2 h3
    exact eqD_self a b c w
  · rw [decide_eq_false h]
    have hS : Tryz.prog.underlying 23 = some (.struct (Tryz.prog.fieldsOf 23)) := by kernel_rfl
    have hp : Tryz.prog.stoodInHeld 23 = false := by kernel_rfl
    have u3 := Tryz.underlying9
    have a3 := Tryz.isAgg9
    have z3 := Tryz.sizeOf9
    have u4 := Tryz.underlying4
    have a4 := Tryz.isAgg4
    have z4 := Tryz.sizeOf4
    have u5 := Tryz.underlying3
    have a5 := Tryz.isAgg3
    have z5 := Tryz.sizeOf3
    rw [run_eql_struct, show (10000 : Nat) = 9999 + 1 from rfl, run_equalIn_agg w 9999 23 _ _ hS hp]
    simp only [Program.fieldsOf, Tryz.underlying23]
    by_cases h1 : a = a'
    · subst h1
      by_cases h2 : b = b'
      · subst h2
        have h3 : c ≠ c' := fun e => h (by rw [e])
        go_simp
      · have h2'' : ¬ b.toList = b'.toList := fun e => h2 (ba_inj'.2 e)
        have h2' : (b.toList == b'.toList) = false := beq_eq_false_iff_ne.2 h2''
        go_simp
    · have h1' : (a == a') = false := beq_eq_false_iff_ne.2 h1
      go_simp
/-- A quotient does not change when both are multiplied. -/
theorem quot_eq (x y p q p' q' t : Nat) (hp : p = p' + t) (hq : q = q' + t) : x * 10 ^ p / (y * 10 ^ q) = x * 10 ^ p' / (y * 10 ^ q') := by
  rw [hp, hq, Nat.pow_add, Nat.pow_add, ← Nat.mul_assoc, ← Nat.mul_assoc, Nat.mul_div_mul_right _ _ (Nat.pow_pos (by decide))]
theorem div_eq (a b : V) (sc : Nat) : al a b * 10 ^ sc / al b a = a.n * 10 ^ (sc + b.s - a.s) / (b.n * 10 ^ (a.s - (sc + b.s))) := by
  unfold al
  rw [Nat.mul_assoc, ← Nat.pow_add, Nat.max_comm b.s a.s]
  by_cases h : a.s ≤ sc + b.s
  · exact quot_eq _ _ _ _ _ _ (max a.s b.s - b.s) (by omega) (by omega)
  · exact quot_eq _ _ _ _ _ _ (max a.s b.s - a.s + sc) (by omega) (by omega)
end Dc
end Go.Proofs.YthnpbkplcboejaaGreatDoor
