/- Decimal, the reference: opposite. -/
import Derived.Test.YthnpbkplcboejaaGreatDoorFi
import Derived.Test.YthnpbkplcboejaaGreatDoorFg
set_option linter.unusedSimpArgs false
set_option linter.unusedVariables false
namespace Go.Proofs.YthnpbkplcboejaaGreatDoor
open Go.RowKit Go.Shelf
namespace Dc
/-- The opposite. -/
def V.opp (a : V) : V := ⟨!a.neg && decide (a.n ≠ 0), a.n, a.s⟩
theorem V.opp_ok {a : V} (h : a.ok) : a.opp.ok := ⟨h.n, h.s, fun e => ⟨by show (!a.neg && decide (a.n ≠ 0)) = false; rw [show a.n = 0 from e]; simp, (h.zero e).2⟩, h.last⟩
set_option maxRecDepth 100000 in
set_option maxHeartbeats 2000000 in
theorem ropp_any (a : V) (w : World) :
    Calls Tryz.prog 46 #[a.d.val] w fun e w' => e = .returned a.opp.d.val ∧ RowKit.Below w.heap.size w w' := by
  obtain ⟨hb0, h1, h2⟩ := two_start w (.bool a.neg) (.string (decB a.n)) (.int .i64 (a.s : Int)) (.bool false) (.string ⟨#[]⟩) (.int .i64 0)
  obtain ⟨W0, hW0⟩ : ∃ W0, ((w.alloc (.cells #[.bool a.neg, .string (decB a.n), .int .i64 (a.s : Int)] 23)).alloc (.cells #[.bool false, .string ⟨#[]⟩, .int .i64 0] 23)) = W0 := ⟨_, rfl⟩
  rw [hW0] at hb0 h1 h2
  obtain ⟨a0, a1, a2, f0, f1, f2⟩ := h1.three
  obtain ⟨b0, b1, b2, g0, g1, g2⟩ := h2.three
  have hz : (dec a.n = [48]) ↔ a.n = 0 := ⟨fun h => by have := congrArg dv h; rw [dv_dec] at this; exact this, fun h => by rw [h]; exact dec_zero⟩
  obtain ⟨n2, hn2⟩ : ∃ x, a.opp.neg = x := ⟨_, rfl⟩
  have hv : a.opp.d.val = .agg #[.bool n2, .string (decB a.n), .int .i64 (a.s : Int)] := by rw [← hn2]; rfl
  rw [hv, V.d_val]
  have hA : Blk (W0.setCell ⟨w.heap.size, 0, none⟩ (.bool n2)) w.heap.size #[.bool n2, .string (decB a.n), .int .i64 (a.s : Int)] 23 := h1.set 0 (.bool n2)
  have hBx := h2.other (i := 0) (show w.heap.size + 1 ≠ w.heap.size by omega) (.bool n2)
  have hBw := hb0.setCell (p := ⟨w.heap.size, 0, none⟩) (Nat.le_refl _) (.bool n2)
  have HA := Lib.hid hA
  have HBx := Lib.hid hBx
  have HBw := Lib.hid hBw
  have HN := Lib.hid hn2
  clear h1 h2 hA hBx hBw hb0 hv hn2
  go_enter Tryz.func46, Tryz.ntmps46
  cases hneg : a.neg with
  | true =>
    have e : n2 = false := by rw [← HN.out]; show (!a.neg && _) = false; rw [hneg]; rfl
    subst e
    rw [hneg] at hW0 a0
    clear hneg
    go_upto_region 2 with fail
    have hA2 := HA.out
    have hB2 := HBx.out
    obtain ⟨a0, a1, a2, _, _, _⟩ := hA2.three
    obtain ⟨b0, b1, b2, g0, g1, g2⟩ := hB2.three
    clear HA HBx hA2 hW0
    go_wp2
    refine bodyPost_ret (v := .agg #[.bool false, .string (decB a.n), .int .i64 (a.s : Int)]) (results_cell_row (by rfl) _ _ _ _ _ _ _ (by rfl) (hB2.set3 _ _ _) Tryz.underlying23 rfl sizeDec) rfl ⟨rfl, b_set3 HBw.out (by omega) _ _ _⟩
  | false =>
    rw [hneg] at hW0 a0
    by_cases h0 : a.n = 0
    · have e : n2 = false := by rw [← HN.out]; show (!a.neg && decide (a.n ≠ 0)) = false; rw [h0]; simp
      subst e
      have hzz : dec a.n = [48] := hz.2 h0
      have hzb : (dec a.n == [48]) = true := by rw [hzz]; rfl
      clear hneg hz HN h0
      go_upto_region 2 with fail
      have hA2 := HA.out
      have hB2 := HBx.out
      obtain ⟨a0, a1, a2, _, _, _⟩ := hA2.three
      obtain ⟨b0, b1, b2, g0, g1, g2⟩ := hB2.three
      clear HA HBx hA2 hW0
      go_wp2
      refine bodyPost_ret (v := .agg #[.bool false, .string (decB a.n), .int .i64 (a.s : Int)]) (results_cell_row (by rfl) _ _ _ _ _ _ _ (by rfl) (hB2.set3 _ _ _) Tryz.underlying23 rfl sizeDec) rfl ⟨rfl, b_set3 HBw.out (by omega) _ _ _⟩
    · have e : n2 = true := by rw [← HN.out]; show (!a.neg && decide (a.n ≠ 0)) = true; rw [hneg, decide_eq_true h0]; rfl
      subst e
      have hzz : ¬ dec a.n = [48] := fun h => h0 (hz.1 h)
      have hzb : (dec a.n == [48]) = false := beq_eq_false_iff_ne.2 hzz
      clear hneg hz HN h0
      go_upto_region 2 with fail
      have hA2 := HA.out
      have hB2 := HBx.out
      obtain ⟨a0, a1, a2, _, _, _⟩ := hA2.three
      obtain ⟨b0, b1, b2, g0, g1, g2⟩ := hB2.three
      clear HA HBx hA2 hW0
      go_wp2
      refine bodyPost_ret (v := .agg #[.bool true, .string (decB a.n), .int .i64 (a.s : Int)]) (results_cell_row (by rfl) _ _ _ _ _ _ _ (by rfl) (hB2.set3 _ _ _) Tryz.underlying23 rfl sizeDec) rfl ⟨rfl, b_set3 HBw.out (by omega) _ _ _⟩
end Dc
end Go.Proofs.YthnpbkplcboejaaGreatDoor
