/- Decimal: Read of the text of a decimal; decimals compared. -/
import Derived.Test.YthnpbkplcboejaaDoorHa
import Derived.Test.YthnpbkplcboejaaDoorEc
import Derived.Test.YthnpbkplcboejaaDoorFb
set_option linter.unusedSimpArgs false
set_option linter.unusedVariables false
namespace Go.Proofs.YthnpbkplcboejaaDoor
open Go.RowKit Go.Shelf Go.Lib Go.Sort
namespace Dc
theorem L_mk_self {v : V} (hv : v.ok) : mk v.neg v.n v.s = .ok v :=
  mk_from hv (M := v.s) (Nat.le_refl _) (Nat.le_refl _) (by unfold V.sv; rfl)
theorem digs_take {l : List UInt8} (h : digs l = true) (k : Nat) : digs (l.take k) = true := digs_iff.2 fun c hc => digs_iff.1 h c (List.mem_of_mem_take hc)
theorem no46 {l : List UInt8} (h : digs l = true) (j : Nat) : l[j]? ≠ some 46 := fun e => by
  have := digs_iff.1 h 46 (List.mem_of_getElem? e)
  revert this; decide
theorem wide_digs (v : V) : digs (wide v) = true := by unfold wide; rw [digs_append, digs_zeros, digs_dec]; rfl
theorem wide_dv (v : V) : dv (wide v) = v.n := by unfold wide; rw [dv_lead, dv_dec]
theorem wide_len (v : V) : v.s + 1 ≤ (wide v).length := by unfold wide; rw [List.length_append, List.length_replicate]; omega
/-- The text behind the sign. -/
def bodyL (v : V) : List UInt8 := (wide v).take ((wide v).length - v.s) ++ (if 0 < v.s then 46 :: (wide v).drop ((wide v).length - v.s) else [])
theorem text_body (v : V) : textL v = (if v.neg = true then [45] else []) ++ bodyL v := rfl
theorem body_head (v : V) : ∃ c r, bodyL v = c :: r ∧ 48 ≤ c.toNat ∧ c.toNat ≤ 57 := by
  have hl := wide_len v
  have hd := wide_digs v
  unfold bodyL
  obtain ⟨W, hW⟩ : ∃ W, wide v = W := ⟨_, rfl⟩
  rw [hW] at hl hd ⊢
  match W, hl, hd with
  | c :: W', hl, hd =>
    obtain ⟨k, hk⟩ : ∃ k, (c :: W').length - v.s = k + 1 := ⟨(c :: W').length - v.s - 1, by omega⟩
    rw [hk, List.take_succ_cons, List.cons_append]
    have := digs_iff.1 hd c (List.mem_cons_self ..)
    exact ⟨c, _, rfl, this.1, this.2⟩
theorem sign_text (v : V) : signOf (textL v) = (v.neg, bodyL v) := by
  obtain ⟨c, r, hb, h1, h2⟩ := body_head v
  rw [text_body, hb]
  unfold signOf Lib.trimPrefix Lib.hasPrefix
  cases v.neg
  · have e1 : ((45 : UInt8) == c) = false := beq_eq_false_iff_ne.2 fun e => by subst e; revert h1; decide
    have e2 : ((43 : UInt8) == c) = false := beq_eq_false_iff_ne.2 fun e => by subst e; revert h1; decide
    simp [List.isPrefixOf, e1, e2]
  · simp [List.isPrefixOf]
theorem body_all (v : V) : allOf (bodyL v) = wide v ∧ (Lib.cut (bodyL v) [46]).2.1.length = v.s := by
  have hl := wide_len v
  have hd := wide_digs v
  unfold bodyL
  obtain ⟨W, hW⟩ : ∃ W, wide v = W := ⟨_, rfl⟩
  rw [hW] at hl hd ⊢
  by_cases h0 : 0 < v.s
  · rw [if_pos h0]
    have ht : (W.take (W.length - v.s)).length = W.length - v.s := by rw [List.length_take]; omega
    obtain ⟨h1, h2⟩ := cut_found (l := W.take (W.length - v.s) ++ 46 :: W.drop (W.length - v.s)) (i := W.length - v.s) (fun j hj => by
      rw [List.getElem?_append, ht, if_pos hj]
      exact no46 (digs_take hd _) j) (by
      rw [List.getElem?_append, ht, if_neg (Nat.lt_irrefl _), Nat.sub_self]; rfl)
    refine ⟨?_, ?_⟩
    · have e1 : (W.take (W.length - v.s) ++ 46 :: W.drop (W.length - v.s)).take (W.length - v.s) = W.take (W.length - v.s) := by
        rw [List.take_append, ht, Nat.sub_self, List.take_zero, List.append_nil, List.take_take, Nat.min_self]
      have e2 : (W.take (W.length - v.s) ++ 46 :: W.drop (W.length - v.s)).drop (W.length - v.s + 1) = W.drop (W.length - v.s) := by
        rw [List.drop_append, ht, show W.length - v.s + 1 - (W.length - v.s) = 1 by omega, List.drop_of_length_le (by rw [ht]; omega)]; rfl
      rw [h1, e1, e2, List.take_append_drop]
    · rw [h2, List.length_append, ht, List.length_cons, List.length_drop]; omega
  · rw [if_neg h0, List.append_nil, show v.s = 0 by omega, Nat.sub_zero, List.take_length]
    exact cut_none fun j => no46 hd j
theorem read_text {v : V} (hv : v.ok) : readS (textL v) = .ok v := by
  obtain ⟨h1, h2⟩ := body_all v
  have hl := wide_len v
  unfold readS
  rw [sign_text]
  simp only
  rw [h1, h2, wide_dv, wide_digs, if_neg (by
    rintro (e | e)
    · rw [e] at hl; simp at hl
    · cases e), L_mk_self hv]
theorem text_len {v : V} (hv : v.ok) : (textL v).length ≤ 200 := by
  have h1 : (dec v.n).length ≤ 60 := (dec_len (by decide)).2 hv.n
  have h2 := hv.s
  rw [text_body, List.length_append]
  have h3 : (wide v).length ≤ 121 := by unfold wide; rw [List.length_append, List.length_replicate]; omega
  have h4 : (bodyL v).length ≤ 122 := by
    unfold bodyL
    rw [List.length_append, List.length_take]
    split
    · rw [List.length_cons, List.length_drop]; omega
    · simp; omega
  split <;> simp <;> omega
theorem L_inj {a b : ByteArray} : a = b ↔ a.toList = b.toList := by
  constructor
  · rintro rfl; rfl
  · intro h
    rw [ByteArray.toList_eq, ByteArray.toList_eq] at h
    rw [← mk_toList a, h, mk_toList]
theorem L_guard (op : BinOp) (x y : Operand) (a : Bool) (b : ByteArray) (c : Int) (a' : Bool) (b' : ByteArray) (c' : Int) (w : World) : (eqGuard op 23 x y (.agg #[.bool a, .string b, .int .i64 c]) (.agg #[.bool a', .string b', .int .i64 c'])).run Tryd.prog w = .ok () w := run_eqGuard_agg w op 23 x y _ _ (by kernel_rfl)
set_option maxRecDepth 100000 in
set_option maxHeartbeats 2000000 in
theorem L_eq_self (a : Bool) (b : ByteArray) (c : Int) (w : World) : (binOp .eql 23 (.agg #[.bool a, .string b, .int .i64 c]) (.agg #[.bool a, .string b, .int .i64 c])).run Tryd.prog w = .ok (.bool true) w := by
  have hS : Tryd.prog.underlying 23 = some (.struct (Tryd.prog.fieldsOf 23)) := by kernel_rfl
  have hp : Tryd.prog.stoodInHeld 23 = false := by kernel_rfl
  have u3 := Tryd.underlying9
  have a3 := Tryd.isAgg9
  have z3 := Tryd.sizeOf9
  have u4 := Tryd.underlying4
  have a4 := Tryd.isAgg4
  have z4 := Tryd.sizeOf4
  have u5 := Tryd.underlying3
  have a5 := Tryd.isAgg3
  have z5 := Tryd.sizeOf3
  rw [run_eql_struct, show (10000 : Nat) = 9999 + 1 from rfl, run_equalIn_agg w 9999 23 _ _ hS hp]
  simp only [Program.fieldsOf, Tryd.underlying23]
  go_simp
theorem L_ne_self (a : Bool) (b : ByteArray) (c : Int) (w : World) : (binOp .neq 23 (.agg #[.bool a, .string b, .int .i64 c]) (.agg #[.bool a, .string b, .int .i64 c])).run Tryd.prog w = .ok (.bool false) w := by
  have h := L_eq_self a b c w
  rw [run_eql_struct] at h
  rw [run_neq_struct]
  cases hr : (Op.equalIn 10000 23 (.agg #[.bool a, .string b, .int .i64 c]) (.agg #[.bool a, .string b, .int .i64 c])).run Tryd.prog w with
  | ok b w' => rw [hr] at h; simp only [Result.andThen_ok, Result.ok.injEq, Value.bool.injEq] at h ⊢; rw [h.1]; exact ⟨rfl, h.2⟩
  | halt x w' => rw [hr] at h; simp [Result.andThen] at h
/-- What is made is right, or it is out of range. -/
theorem mk_two (neg : Bool) (n s : Nat) : (∃ v, v.ok ∧ mk neg n s = .ok v) ∨ mk neg n s = .err 7 := by
  cases h : mk neg n s with
  | ok v => exact .inl ⟨v, mk_ok h, rfl⟩
  | err k =>
    refine .inr ?_
    unfold mk at h
    by_cases h0 : n = 0
    · rw [if_pos h0] at h; cases h
    · rw [if_neg h0] at h
      by_cases h1 : 10 ^ 60 ≤ (norm n s).1 ∨ 60 < (norm n s).2
      · rw [if_pos h1] at h; injection h with h; rw [← h]
      · rw [if_neg h1] at h; cases h
theorem add_two (a b : V) : (∃ v, v.ok ∧ addS a b = .ok v) ∨ addS a b = .err 7 := by
  obtain ⟨neg, n, h, _⟩ := sum_parts a b b.neg
  rw [show addS a b = sumS a b b.neg from rfl, h]; exact mk_two _ _ _
theorem sub_two (a b : V) : (∃ v, v.ok ∧ subS a b = .ok v) ∨ subS a b = .err 7 := by
  obtain ⟨neg, n, h, _⟩ := sum_parts a b (!b.neg)
  rw [show subS a b = sumS a b (!b.neg) from rfl, h]; exact mk_two _ _ _
theorem mul_two (a b : V) : (∃ v, v.ok ∧ mulS a b = .ok v) ∨ mulS a b = .err 7 := mk_two _ _ _
end Dc
end Go.Proofs.YthnpbkplcboejaaDoor
