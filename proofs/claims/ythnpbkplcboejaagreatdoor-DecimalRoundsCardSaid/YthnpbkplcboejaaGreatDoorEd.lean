/- Decimal, the reference: Check. -/
import Derived.Test.YthnpbkplcboejaaGreatDoorEc
set_option linter.unusedSimpArgs false
set_option linter.unusedVariables false
namespace Go.Proofs.YthnpbkplcboejaaGreatDoor
open Go.RowKit Go.Shelf
namespace Dc
theorem d_box' (neg : Bool) (s : ByteArray) (sc : Int) : (D.mk neg s sc).val = .agg #[.bool neg, .string s, .int .i64 sc] := rfl
set_option maxRecDepth 100000 in
set_option maxHeartbeats 4000000 in
theorem rCheck_any (d : D) (hs : d.s.size ≤ maxLen) (w : World) :
    Calls Tryz.prog 12 #[d.val] w fun e w' => e = .returned (.int .i64 (if d.check = true then 0 else 2)) ∧ Below w.heap.size w w' := by
  obtain ⟨neg, s, sc⟩ := d
  have hs' : s.size ≤ maxLen := hs
  clear hs
  rw [d_box']
  obtain ⟨r, hr⟩ : ∃ r : Int, (if (D.mk neg s sc).check = true then (0 : Int) else 2) = r := ⟨_, rfl⟩
  rw [hr]
  have hl := size_list' s
  have HR := Lib.hid hr
  clear hr
  have hD := rdigits_any s hs'
  unfold maxLen at hs'
  have HB : Hid (∀ o : Obj, Below w.heap.size w (w.alloc o)) := fun o => (Below.refl _ w).alloc (Nat.le_refl _) o
  obtain ⟨dg, hdg⟩ : ∃ dg, (digs s.data.toList && !s.data.toList.isEmpty) = dg := ⟨_, rfl⟩
  rw [hdg] at hD
  cases dg with
  | false =>
    have e : Hid (r = 2) := by
      show _ = _
      rw [← HR.out, if_neg]; unfold D.check; rw [hl]
      intro h
      simp only [Bool.and_eq_true, decide_eq_true_eq] at h
      rw [h.1.1.1.2, Bool.true_and, Bool.not_eq_false'] at hdg
      have := List.isEmpty_iff.1 hdg
      have h1 := h.1.1.1.1.1
      rw [← hl, this, List.length_nil] at h1
      omega
    clear hdg hl
    go_enter Tryz.func12, Tryz.ntmps12
    go_wp2_with (go_at_call 37; refine (hD _).mono ?_; rintro e w' ⟨rfl, rfl⟩)
    go_ret
    exact ⟨by rw [e.out]; rfl, HB.out _⟩
  | true =>
    obtain ⟨h3, h1⟩ := Bool.and_eq_true_iff.1 hdg
    have h0 : 0 < s.size := by
      rw [← hl, List.length_pos_iff]; intro e; rw [e] at h1; cases h1
    have H3 := Lib.hid h3
    clear hdg h1 h3
    by_cases h2 : 60 < s.size
    · have e : Hid (r = 2) := by
        show _ = _
        rw [← HR.out, if_neg]; unfold D.check; rw [hl]; simp; omega
      have g2 : decide (60 < (s.size : Int)) = true := decide_eq_true (by omega)
      clear hl h2 H3 h0
      go_enter Tryz.func12, Tryz.ntmps12
      go_wp2_with (go_at_call 37; refine (hD _).mono ?_; rintro e w' ⟨rfl, rfl⟩)
      go_ret
      exact ⟨by rw [e.out]; rfl, HB.out _⟩
    · have g2 : decide (60 < (s.size : Int)) = false := decide_eq_false (by omega)
      by_cases h4 : sc < 0
      · have e : Hid (r = 2) := by
          show _ = _
          rw [← HR.out, if_neg]; unfold D.check
          intro h; simp only [Bool.and_eq_true, decide_eq_true_eq] at h
          have := h.1.1.2; omega
        have g4 : decide (sc < 0) = true := decide_eq_true h4
        clear hl h2 H3 h0 h4
        go_enter Tryz.func12, Tryz.ntmps12
        go_wp2_with (go_at_call 37; refine (hD _).mono ?_; rintro e w' ⟨rfl, rfl⟩)
        go_ret
        exact ⟨by rw [e.out]; rfl, HB.out _⟩
      · have g4 : decide (sc < 0) = false := decide_eq_false h4
        by_cases h5 : 60 < sc
        · have e : Hid (r = 2) := by
            show _ = _
            rw [← HR.out, if_neg]; unfold D.check
            intro h; simp only [Bool.and_eq_true, decide_eq_true_eq] at h
            have := h.1.2; omega
          have g5 : decide (60 < sc) = true := decide_eq_true h5
          clear hl h2 H3 h0 h4 h5
          go_enter Tryz.func12, Tryz.ntmps12
          go_wp2_with (go_at_call 37; refine (hD _).mono ?_; rintro e w' ⟨rfl, rfl⟩)
          go_ret
          exact ⟨by rw [e.out]; rfl, HB.out _⟩
        · have g5 : decide (60 < sc) = false := decide_eq_false h5
          have hb60 : s.size ≤ 60 := by omega
          have hv := check_open neg s sc h0 hb60 H3.out (by unfold scB; rw [decide_eq_true (show 0 ≤ sc by omega), decide_eq_true (show sc ≤ 60 by omega)]; rfl) (toList_data s)
          rw [HR.out] at hv
          obtain ⟨c, hc⟩ : ∃ c, s[0] = c := ⟨_, rfl⟩
          obtain ⟨l, hll⟩ : ∃ l : Nat, l = s.size - 1 := ⟨_, rfl⟩
          have hls : l < s.size := by omega
          have hle : s[s.size - 1] = s[l] := by subst hll; rfl
          have hlI : (s.size : Int) - 1 = (l : Int) := by omega
          obtain ⟨c2, hc2⟩ : ∃ c, s[l] = c := ⟨_, rfl⟩
          have h48 : s.toList = [48] → s.size = 1 := fun e => by rw [ByteArray.toList_eq] at e; rw [← hl, e]; rfl
          have hc48 : s.toList = [48] → c.toNat = 48 := fun e => by
            obtain ⟨r, hr⟩ := get0 s h0
            rw [ByteArray.toList_eq] at e
            rw [e, hc] at hr
            injection hr with h _
            rw [← h]; rfl
          rw [hc, hle, hc2] at hv
          have HV := Lib.hid hv
          have HC := Lib.hid hc48
          clear hl h2 hv H3 h4 h5 HR hll hle h48 hc48
          cases neg with
          | true =>
            go_enter Tryz.func12, Tryz.ntmps12
            go_wp2_with (go_at_call 37; refine (hD _).mono ?_; rintro e w' ⟨rfl, rfl⟩)
            all_goals
              go_ret
              refine ⟨ret_int ?_, HB.out _⟩
              rw [HV.out]
              have hh := HC.out
              clear HV HC hD HB
              first | simp_all | skip
              all_goals (intro h7; omega)
          | false =>
            go_enter Tryz.func12, Tryz.ntmps12
            go_wp2_with (go_at_call 37; refine (hD _).mono ?_; rintro e w' ⟨rfl, rfl⟩)
            all_goals
              go_ret
              refine ⟨ret_int ?_, HB.out _⟩
              rw [HV.out]
              have hh := HC.out
              clear HV HC hD HB
              first | simp_all | skip
              all_goals (intro h7; omega)
end Dc
end Go.Proofs.YthnpbkplcboejaaGreatDoor
