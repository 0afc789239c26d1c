/- CharsEscapes. -/
import Derived.Test.YthfmnhhennbjnaaDoorCkBoth
namespace Go.Proofs.YthfmnhhennbjnaaDoor
open Go.RowKit Go.Shelf
namespace Ck

set_option maxRecDepth 100000 in
set_option maxHeartbeats 4000000 in
theorem Escapes_any (s : ByteArray) (m : Int) (w : World) (hG : G w) :
    Calls Tryd.prog 5 #[.string s, .int .i64 m] w fun e w' => e = .returned (.bool true) ∧ Below w.heap.size w w' := by
  by_cases hlen : 5000 < s.size
  · have hd : decide ((5000 : Int) < s.size) = true := by rw [decide_eq_true_iff]; omega
    clear hlen
    go_enter Tryd.func5, Tryd.ntmps5
    go_wp2_with (go_at_call 7; refine (shown_any _ hG).mono ?_; rintro e w1 ⟨rfl, hb⟩)
    go_ret
    exact ⟨rfl, hb⟩
  · have hd : decide ((5000 : Int) < s.size) = false := by rw [decide_eq_false_iff_not]; omega
    have hs : s.size ≤ 1048576 := by omega
    clear hlen
    obtain ⟨a, ha⟩ : ∃ a : Bool, (Int.tmod m 2 == 0) = a := ⟨_, rfl⟩
    obtain ⟨st0, E0, hA0, hR0⟩ := esc_both s hs a
    obtain ⟨st1, P1, E1, hA1, hR1⟩ := un_both s hs
    obtain ⟨st2, E2, hA2, hR2⟩ := sq_both s hs m
    have gs0 : (st0.toList == st0.toList) = true := by simp
    have gs1 : (st1.toList == st1.toList) = true := by simp
    have gs2 : (st2.toList == st2.toList) = true := by simp
    have ge0 : (E0 == E0) = true := by simp
    have ge1 : (E1 == E1) = true := by simp
    have ge2 : (E2 == E2) = true := by simp
    have gp1 : (P1 == P1) = true := by simp
    have HA0 := Lib.hid hA0
    have HR0 := Lib.hid hR0
    have HA1 := Lib.hid hA1
    have HR1 := Lib.hid hR1
    have HA2 := Lib.hid hA2
    have HR2 := Lib.hid hR2
    clear hA0 hR0 hA1 hR1 hA2 hR2 hs
    have hbw : Below w.heap.size w w := Below.refl _ _
    go_enter Tryd.func5, Tryd.ntmps5
    go_wp2_with (go_at_call 23; refine (HA0.out _ hG).mono ?_)
    rintro e w1 ⟨rfl, hbn⟩
    have hG1 := hG.below hG.size hbn
    replace hbw := hbw.trans (hbn.mono hbw.size)
    clear hbn
    go_wp2_with (go_at_call 24; refine (HR0.out _).mono ?_)
    rintro e w2 ⟨rfl, hbn⟩
    have hG2 := hG1.below hG1.size hbn
    replace hbw := hbw.trans (hbn.mono hbw.size)
    clear hbn
    go_wp2_with (go_at_call 25; refine (HA1.out _ hG2).mono ?_)
    rintro e w3 ⟨rfl, hbn⟩
    have hG3 := hG2.below hG2.size hbn
    replace hbw := hbw.trans (hbn.mono hbw.size)
    clear hbn
    go_wp2_with (go_at_call 26; refine (HR1.out _).mono ?_)
    rintro e w4 ⟨rfl, hbn⟩
    have hG4 := hG3.below hG3.size hbn
    replace hbw := hbw.trans (hbn.mono hbw.size)
    clear hbn
    go_wp2_with (go_at_call 27; refine (HA2.out _ hG4).mono ?_)
    rintro e w5 ⟨rfl, hbn⟩
    have hG5 := hG4.below hG4.size hbn
    replace hbw := hbw.trans (hbn.mono hbw.size)
    clear hbn
    go_wp2_with (go_at_call 28; refine (HR2.out _).mono ?_)
    rintro e w6 ⟨rfl, hbn⟩
    have hG6 := hG5.below hG5.size hbn
    replace hbw := hbw.trans (hbn.mono hbw.size)
    clear hbn
    go_wp2_with (go_at_call 7; refine (shown_any _ hG6).mono ?_; rintro e w9 ⟨rfl, hb⟩)
    go_ret
    exact ⟨rfl, hbw.trans (hb.mono hbw.size)⟩
end Ck
end Go.Proofs.YthfmnhhennbjnaaDoor
