/- Decimal, the reference: less, long. -/
import Derived.Test.YthnpbkplcboejaaGreatDoorEf
set_option linter.unusedSimpArgs false
set_option linter.unusedVariables false
namespace Go.Proofs.YthnpbkplcboejaaGreatDoor
open Go.RowKit Go.Shelf
namespace Dc
set_option maxHeartbeats 2000000 in
theorem rlong_any (s : ByteArray) (n : Nat) (hn : n ≤ 2000) (hs : s.size ≤ n) (w : World) :
    Calls Tryz.prog 79 #[.string s, .int .i64 (n : Int)] w fun e w' => e = .returned (.string (zs (n - s.size) ++ s)) ∧ w = w' := by
  obtain ⟨k, hk⟩ : ∃ k, n - s.size = k := ⟨_, rfl⟩
  have hZ := fun W => rzeros_any k (by omega) W
  have hk' : (n : Int) - (s.size : Int) = (k : Int) := by omega
  have hzs := zs_size k
  rw [hk]
  obtain ⟨z, hz⟩ : ∃ z, zs k = z := ⟨_, rfl⟩
  rw [hz] at hZ hzs ⊢
  have hsum : ¬ 9223372036854775807 < z.size + s.size := by omega
  obtain ⟨x, hx⟩ : ∃ x, z ++ s = x := ⟨_, rfl⟩
  rw [hx]
  clear hz hzs hk
  go_enter Tryz.func79, Tryz.ntmps79
  go_wp2_with (go_at_call 41; refine (hZ _).mono ?_; rintro e w' ⟨rfl, rfl⟩)
  go_ret
  exact ⟨by first | rfl | (rw [hx]; rfl) | rw [hx], rfl⟩
theorem len_lt {x y : Nat} (h : (dec x).length < (dec y).length) : x < y := by
  have hp : 0 < (dec x).length := List.length_pos_iff.2 (dec_ne_nil x)
  have h1 := (dec_len (n := x) hp).1 (Nat.le_refl _)
  have h2 : ¬ y < 10 ^ (dec x).length := fun e => by have := (dec_len (n := y) hp).2 e; omega
  omega
theorem less_dv : ∀ (l m : List UInt8), l.length = m.length → digs l = true → digs m = true → (Op.bytesLess l m = true ↔ dv l < dv m)
  | [], [], _, _, _ => by simp [Op.bytesLess, dv_nil]
  | a :: l, b :: m, h, h1, h2 => by
    have hl : l.length = m.length := by simpa using h
    have a1 := digs_iff.1 h1 a (List.mem_cons_self ..)
    have b1 := digs_iff.1 h2 b (List.mem_cons_self ..)
    have d1 : digs l = true := digs_iff.2 fun c hc => digs_iff.1 h1 c (List.mem_cons_of_mem _ hc)
    have d2 : digs m = true := digs_iff.2 fun c hc => digs_iff.1 h2 c (List.mem_cons_of_mem _ hc)
    have ih := less_dv l m hl d1 d2
    have x1 := dv_lt d1
    have x2 := dv_lt d2
    rw [hl] at x1
    rw [dv_cons, dv_cons, hl]
    obtain ⟨P, hP⟩ : ∃ P, 10 ^ m.length = P := ⟨_, rfl⟩
    rw [hP] at x1 x2 ⊢
    by_cases hab : a = b
    · subst hab
      unfold Op.bytesLess
      have : ¬ a < a := by rw [UInt8.lt_iff_toNat_lt]; omega
      simp only [this, decide_false, beq_self_eq_true, Bool.false_or, Bool.true_and]
      rw [ih]; omega
    · have hne : a.toNat ≠ b.toNat := fun e => hab (UInt8.toNat_inj.1 e)
      unfold Op.bytesLess
      by_cases hlt : a.toNat < b.toNat
      · have : a < b := UInt8.lt_iff_toNat_lt.2 hlt
        simp only [this, decide_true, Bool.true_or, true_iff]
        have : (a.toNat - 48 + 1) * P ≤ (b.toNat - 48) * P := Nat.mul_le_mul_right _ (by omega)
        rw [Nat.add_mul] at this
        omega
      · have h3 : ¬ a < b := by rw [UInt8.lt_iff_toNat_lt]; omega
        have h4 : (a == b) = false := beq_eq_false_iff_ne.2 hab
        simp only [h3, h4, decide_false, Bool.false_or, Bool.false_and, Bool.false_eq_true, false_iff]
        have : (b.toNat - 48 + 1) * P ≤ (a.toNat - 48) * P := Nat.mul_le_mul_right _ (by omega)
        rw [Nat.add_mul] at this
        omega
  | [], _ :: _, h, _, _ => by simp at h
  | _ :: _, [], h, _, _ => by simp at h
set_option maxHeartbeats 4000000 in
theorem rless_any (a b : ByteArray) (ha : digs a.data.toList = true) (hb : digs b.data.toList = true) (ha0 : 0 < a.size) (hb0 : 0 < b.size) (hsa : a.size ≤ 2000) (hsb : b.size ≤ 2000) (w : World) :
    Calls Tryz.prog 54 #[.string a, .string b] w fun e w' => e = .returned (.bool (decide (dv a.data.toList < dv b.data.toList))) ∧ w = w' := by
  have hA := fun W => bare_any a (by unfold maxLen; omega) ha0 ha W
  have hB := fun W => bare_any b (by unfold maxLen; omega) hb0 hb W
  obtain ⟨x, hx⟩ : ∃ x, dv a.data.toList = x := ⟨_, rfl⟩
  obtain ⟨y, hy⟩ : ∃ y, dv b.data.toList = y := ⟨_, rfl⟩
  rw [hx] at hA ⊢
  rw [hy] at hB ⊢
  have hxl := decB_size' x
  have hyl := decB_size' y
  obtain ⟨A, hAA⟩ : ∃ A, decB x = A := ⟨_, rfl⟩
  obtain ⟨B, hBB⟩ : ∃ B, decB y = B := ⟨_, rfl⟩
  rw [hAA] at hA hxl
  rw [hBB] at hB hyl
  obtain ⟨r, hr⟩ : ∃ r, decide (x < y) = r := ⟨_, rfl⟩
  rw [hr]
  have HR := Lib.hid hr
  have HA := Lib.hid hAA
  have HB := Lib.hid hBB
  clear hx hy hAA hBB hr ha hb ha0 hb0
  go_enter Tryz.func54, Tryz.ntmps54
  go_wp2_with (go_at_call 65; first | ((with_reducible refine (hA _).mono ?_); rintro e w' ⟨rfl, rfl⟩) | ((with_reducible refine (hB _).mono ?_); rintro e w' ⟨rfl, rfl⟩))
  · go_ret
    refine ⟨?_, rfl⟩
    have hl : (dec x).length = (dec y).length := by omega
    have h := less_dv (dec x) (dec y) hl (digs_dec x) (digs_dec y)
    rw [dv_dec, dv_dec] at h
    have e : (decide ((dec x).length < (dec y).length) || Op.bytesLess A.toList B.toList) = r := by
      rw [← HR.out, decide_eq_false (by omega), Bool.false_or, ← HA.out, ← HB.out, ByteArray.toList_eq, ByteArray.toList_eq]
      show Op.bytesLess (dec x) (dec y) = _
      rw [Bool.eq_iff_iff, h, decide_eq_true_iff]
    show Ending.returned (Value.bool _) = _
    rw [e]
  · go_ret
    refine ⟨?_, rfl⟩
    have e : decide ((dec x).length < (dec y).length) = r := by
      rw [← HR.out, decide_eq_false (by omega), eq_comm, decide_eq_false_iff_not]
      have := len_lt (x := y) (y := x) (by omega)
      omega
    show Ending.returned (Value.bool _) = _
    rw [e]
  · go_ret
    refine ⟨?_, rfl⟩
    have e : true = r := by
      rw [← HR.out, eq_comm, decide_eq_true_iff]
      exact len_lt (by omega)
    show Ending.returned (Value.bool true) = _
    rw [e]
end Dc
end Go.Proofs.YthnpbkplcboejaaGreatDoor
