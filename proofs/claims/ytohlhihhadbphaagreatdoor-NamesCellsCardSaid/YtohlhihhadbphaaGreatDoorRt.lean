/- Rows of bools are alike. -/
import Derived.Test.YtohlhihhadbphaaGreatDoorRe
set_option linter.unusedSimpArgs false
set_option linter.unusedVariables false
namespace Go.Proofs.YtohlhihhadbphaaGreatDoor
open Go.RowKit Go.Shelf Go.Lib Go.Maps
namespace Np
def encB (b : Bool) : List Value := [.bool b]
theorem encB_len (b : Bool) : (encB b).length = 1 := rfl
theorem encB_one (b : Bool) : ∀ u ∈ encB b, u.oneCell' = true := by intro u hu; simp [encB] at hu; subst hu; rfl
theorem rwB_at {A : Nat → Prop} {W : World} {a : Option Addr} {l : List Bool} (h : Rw 1 encB A W a l) {k : Nat} (hk : k < l.length) : ∃ b o, a = some ⟨b, o, none⟩ ∧ A b ∧ W.cell? ⟨b, o + k, none⟩ = some (.bool l[k]) := by
  obtain ⟨b, o, e, hb, hc⟩ := h.cells (List.ne_nil_of_length_pos (by omega))
  refine ⟨b, o, e, hb, ?_⟩
  have := hc k hk 0 _ rfl
  simpa using this
theorem bools_eq {l m : List Bool} (h : l.length = m.length) (k : Nat) (hk : l.length ≤ k) (e : l.take k = m.take k) : l = m := by
  rwa [List.take_of_length_le hk, List.take_of_length_le (by omega)] at e
theorem bools_ne {l m : List Bool} {k : Nat} (hk : k < l.length) (hm : k < m.length) (e : l[k] ≠ m[k]) : l ≠ m := by
  intro h; subst h; exact e rfl
set_option maxRecDepth 100000 in
set_option maxHeartbeats 1000000 in
theorem rsameBools_any (A A' : Nat → Prop) (a a' : Option Addr) (c c' : Nat) (l m : List Bool) (w : World) (hr : Rw 1 encB A w a l) (hm : Rw 1 encB A' w a' m) (hA : ∀ b, A b → b < w.heap.size) (hA' : ∀ b, A' b → b < w.heap.size) (hlm : l.length = m.length) :
    Calls Tryz.prog 71 #[.slice a l.length c, .slice a' m.length c'] w fun e w' => e = .returned (.bool (decide (l = m))) ∧ Below w.heap.size w w' := by
  obtain ⟨r, hr'⟩ : ∃ r, decide (l = m) = r := ⟨_, rfl⟩
  rw [hr']
  have Hr := Lib.hid hr'
  clear hr'
  have hll := hr.len
  have hml := hm.len
  have hbw : Below w.heap.size w w := Below.refl _ _
  have Hlm := Lib.hid hlm
  clear hlm
  go_enter Tryz.func71, Tryz.ntmps71
  go_wp2
  go_loopw [5] (fun i wr => ∃ k : Nat, k ≤ l.length ∧ i = .int .i64 k ∧ Hid (l.take k = m.take k) ∧ Below w.heap.size w wr) (fun i _ => l.length - (intOf i).toNat)
  case atStart => exact ⟨0, by omega, rfl, Lib.hid (by simp), hbw⟩
  case round =>
    obtain ⟨k, hk, rfl, HI, hb⟩ := hrel
    have hbs := hb.size
    by_cases hlt : k < l.length
    · have hmt : k < m.length := by rw [← Hlm.out]; exact hlt
      have d1 : decide ((k : Int) < (l.length : Int)) = true := decide_eq_true (by omega)
      have d2 : decide (k < l.length) = true := decide_eq_true hlt
      have d3 : decide ((k : Int) < (m.length : Int)) = true := decide_eq_true (by omega)
      have d4 : decide (k < m.length) = true := decide_eq_true hmt
      obtain ⟨b, o, hao, hbA, u0⟩ := rwB_at (hr.later hA hb) hlt
      obtain ⟨b', o', hao', hbA', u0'⟩ := rwB_at (hm.later hA' hb) hmt
      obtain ⟨x, hx⟩ : ∃ x, l[k] = x := ⟨_, rfl⟩
      obtain ⟨y, hy⟩ : ∃ x, m[k] = x := ⟨_, rfl⟩
      rw [hx] at u0
      rw [hy] at u0'
      have Hx := Lib.hid hx
      have Hy := Lib.hid hy
      obtain ⟨b1, hb1⟩ : ∃ b, (x == y) = b := ⟨_, rfl⟩
      have hb2 : (!x == y) = !b1 := by rw [← hb1]
      have hb3 : (x != y) = !b1 := by rw [← hb1]; rfl
      have Hb1 := Lib.hid hb1
      subst hao
      subst hao'
      clear hx hy
      cases b1
      · have H2 : Hid (r = false) := Lib.hid (by
          rw [← Hr.out]
          refine decide_eq_false (bools_ne hlt hmt ?_)
          rw [Hx.out, Hy.out]
          intro e
          have := Hb1.out
          rw [e] at this
          simp at this)
        go_wp2
        go_quiet (fail)
        go_wp2
        go_ret
        exact ⟨ret_bool H2.out.symm, below_drewN hb _⟩
      · have H2 : Hid (l.take (k + 1) = m.take (k + 1)) := Lib.hid (by
          rw [List.take_succ_eq_append_getElem hlt, List.take_succ_eq_append_getElem hmt, HI.out, Hx.out, Hy.out, eq_of_beq Hb1.out])
        go_wp2
        go_quiet (fail)
        go_wp2
        go_roundw
        case rel =>
          first
            | exact ⟨k + 1, by omega, by go_num, H2, below_drewN hb _⟩
            | ((repeat apply Exists.intro); exact ⟨⟨k + 1, by omega, by go_num, H2, below_drewN hb _⟩, rfl⟩)
        case measure =>
          have e3 : ((k : Int) + 1).toNat = k + 1 := by omega
          simp only [intOf, e3, Int.toNat_natCast]
          omega
    · have d1 : decide ((k : Int) < (l.length : Int)) = false := decide_eq_false (by omega)
      have d2 : decide (k < l.length) = false := decide_eq_false hlt
      have H2 : Hid (r = true) := Lib.hid (by
        rw [← Hr.out]
        exact decide_eq_true (bools_eq Hlm.out k (by omega) HI.out))
      go_wp2
      go_ret
      exact ⟨ret_bool H2.out.symm, hb⟩
set_option maxRecDepth 100000 in
set_option maxHeartbeats 1000000 in
theorem SameBools_any (A A' : Nat → Prop) (a a' : Option Addr) (c c' : Nat) (l m : List Bool) (w : World) (hr : Rw 1 encB A w a l) (hm : Rw 1 encB A' w a' m) (hA : ∀ b, A b → b < w.heap.size) (hA' : ∀ b, A' b → b < w.heap.size) :
    Calls Tryz.prog 72 #[.slice a l.length c, .slice a' m.length c'] w fun e w' => e = .returned (.bool (decide (l = m))) ∧ Below w.heap.size w w' := by
  obtain ⟨r, hr'⟩ : ∃ r, decide (l = m) = r := ⟨_, rfl⟩
  rw [hr']
  have Hr := Lib.hid hr'
  clear hr'
  have hll := hr.len
  have hml := hm.len
  have hbw : Below w.heap.size w w := Below.refl _ _
  by_cases hlm : ¬ l.length = m.length
  · have g1 : ((l.length : Int) == (m.length : Int)) = false := by simp; omega
    have g2 : ((l.length : Int) != (m.length : Int)) = true := by simp; omega
    have g3 : (l.length == m.length) = false := by simpa using hlm
    have g4 : (l.length != m.length) = true := by simpa using hlm
    have H2 : Hid (r = false) := Lib.hid (by rw [← Hr.out]; exact decide_eq_false (fun h => hlm (by rw [h])))
    clear hlm
    go_enter Tryz.func72, Tryz.ntmps72
    go_wp2
    go_ret
    exact ⟨ret_bool H2.out.symm, hbw⟩
  have hlm : l.length = m.length := Decidable.of_not_not hlm
  have g1 : ((l.length : Int) == (m.length : Int)) = true := by simp; omega
  have g2 : ((l.length : Int) != (m.length : Int)) = false := by simp; omega
  have g3 : (l.length == m.length) = true := by simpa using hlm
  have g4 : (l.length != m.length) = false := by simpa using hlm
  have Hlm := Lib.hid hlm
  clear hlm
  go_enter Tryz.func72, Tryz.ntmps72
  go_wp2
  go_loopw [5] (fun i wr => ∃ k : Nat, k ≤ l.length ∧ i = .int .i64 k ∧ Hid (l.take k = m.take k) ∧ Below w.heap.size w wr) (fun i _ => l.length - (intOf i).toNat)
  case atStart => exact ⟨0, by omega, rfl, Lib.hid (by simp), hbw⟩
  case round =>
    obtain ⟨k, hk, rfl, HI, hb⟩ := hrel
    have hbs := hb.size
    by_cases hlt : k < l.length
    · have hmt : k < m.length := by rw [← Hlm.out]; exact hlt
      have d1 : decide ((k : Int) < (l.length : Int)) = true := decide_eq_true (by omega)
      have d2 : decide (k < l.length) = true := decide_eq_true hlt
      have d3 : decide ((k : Int) < (m.length : Int)) = true := decide_eq_true (by omega)
      have d4 : decide (k < m.length) = true := decide_eq_true hmt
      obtain ⟨b, o, hao, hbA, u0⟩ := rwB_at (hr.later hA hb) hlt
      obtain ⟨b', o', hao', hbA', u0'⟩ := rwB_at (hm.later hA' hb) hmt
      obtain ⟨x, hx⟩ : ∃ x, l[k] = x := ⟨_, rfl⟩
      obtain ⟨y, hy⟩ : ∃ x, m[k] = x := ⟨_, rfl⟩
      rw [hx] at u0
      rw [hy] at u0'
      have Hx := Lib.hid hx
      have Hy := Lib.hid hy
      obtain ⟨b1, hb1⟩ : ∃ b, (x == y) = b := ⟨_, rfl⟩
      have hb2 : (!x == y) = !b1 := by rw [← hb1]
      have hb3 : (x != y) = !b1 := by rw [← hb1]; rfl
      have Hb1 := Lib.hid hb1
      subst hao
      subst hao'
      clear hx hy
      cases b1
      · have H2 : Hid (r = false) := Lib.hid (by
          rw [← Hr.out]
          refine decide_eq_false (bools_ne hlt hmt ?_)
          rw [Hx.out, Hy.out]
          intro e
          have := Hb1.out
          rw [e] at this
          simp at this)
        go_wp2
        go_quiet (fail)
        go_wp2
        go_ret
        exact ⟨ret_bool H2.out.symm, below_drewN hb _⟩
      · have H2 : Hid (l.take (k + 1) = m.take (k + 1)) := Lib.hid (by
          rw [List.take_succ_eq_append_getElem hlt, List.take_succ_eq_append_getElem hmt, HI.out, Hx.out, Hy.out, eq_of_beq Hb1.out])
        go_wp2
        go_quiet (fail)
        go_wp2
        go_roundw
        case rel =>
          first
            | exact ⟨k + 1, by omega, by go_num, H2, below_drewN hb _⟩
            | ((repeat apply Exists.intro); exact ⟨⟨k + 1, by omega, by go_num, H2, below_drewN hb _⟩, rfl⟩)
        case measure =>
          have e3 : ((k : Int) + 1).toNat = k + 1 := by omega
          simp only [intOf, e3, Int.toNat_natCast]
          omega
    · have d1 : decide ((k : Int) < (l.length : Int)) = false := decide_eq_false (by omega)
      have d2 : decide (k < l.length) = false := decide_eq_false hlt
      have H2 : Hid (r = true) := Lib.hid (by
        rw [← Hr.out]
        exact decide_eq_true (bools_eq Hlm.out k (by omega) HI.out))
      go_wp2
      go_ret
      exact ⟨ret_bool H2.out.symm, hb⟩
end Np
end Go.Proofs.YtohlhihhadbphaaGreatDoor
