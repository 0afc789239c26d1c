/- CharsTexts. -/
import Derived.Test.YthfmnhhennbjnaaDoorCkBoth
namespace Go.Proofs.YthfmnhhennbjnaaDoor
open Go.RowKit Go.Shelf
namespace Ck

set_option maxRecDepth 100000 in
set_option maxHeartbeats 4000000 in
theorem Texts_any (s : ByteArray) (ao : Option Addr) (cap : Nat) (xs : List Int) (hr : ∀ x ∈ xs, -2147483648 ≤ x ∧ x ≤ 2147483647) (w : World) (hG : G w) (ha : Reads32 w (.slice ao xs.length cap) xs) :
    Calls Tryd.prog 4 #[.string s, .slice ao xs.length cap] w fun e w' => e = .returned (.bool true) ∧ Below w.heap.size w w' := by
  by_cases hlen : 5000 < s.size
  · have hd : decide ((5000 : Int) < s.size) = true := by rw [decide_eq_true_iff]; omega
    clear hlen ha hr
    go_enter Tryd.func4, Tryd.ntmps4
    go_wp2_with (go_at_call 7; refine (shown_any _ hG).mono ?_; rintro e w1 ⟨rfl, hb⟩)
    go_ret
    exact ⟨rfl, hb⟩
  by_cases hxl : 5000 < xs.length
  · have hd : decide ((5000 : Int) < s.size) = false := by rw [decide_eq_false_iff_not]; omega
    have hd2 : decide ((5000 : Int) < (xs.length : Int)) = true := by rw [decide_eq_true_iff]; omega
    clear hlen ha hr hxl
    go_enter Tryd.func4, Tryd.ntmps4
    go_wp2_with (go_at_call 7; refine (shown_any _ hG).mono ?_; rintro e w1 ⟨rfl, hb⟩)
    go_ret
    exact ⟨rfl, hb⟩
  · have hd : decide ((5000 : Int) < s.size) = false := by rw [decide_eq_false_iff_not]; omega
    have hd2 : decide ((5000 : Int) < (xs.length : Int)) = false := by rw [decide_eq_false_iff_not]; omega
    have hs : s.size ≤ 1048576 := by omega
    have hx : xs.length ≤ 1048576 := by omega
    clear hlen hxl
    obtain ⟨ds, P1, E1, hds, hA1, hR1⟩ := dec_both s hs
    obtain ⟨st2, E2, hA2, hR2⟩ := enc_both (.slice ao xs.length cap) xs hx hr
    have gs2 : (st2.toList == st2.toList) = true := by simp
    have ge1 : (E1 == E1) = true := by simp
    have ge2 : (E2 == E2) = true := by simp
    have gp1 : (P1 == P1) = true := by simp
    have HA1 := Lib.hid hA1
    have HR1 := Lib.hid hR1
    have HA2 := Lib.hid hA2
    have HR2 := Lib.hid hR2
    clear hA1 hR1 hA2 hR2 hs hx hr
    go_enter Tryd.func4, Tryd.ntmps4
    go_wp2_with (go_at_call 18; refine (HA1.out _ hG).mono ?_)
    rintro e w1 ⟨⟨l1, rfl, hl1⟩, hb⟩
    have hG1 := hG.below hG.size hb
    have ha1 := reads_below ha (hb.mono (Nat.le_refl _))
    go_wp2_with (go_at_call 19; refine (HR1.out _).mono ?_)
    rintro e w2 ⟨⟨l2, rfl, hl2⟩, hbn⟩
    have hG2 := hG1.below hG1.size hbn
    have ha2 := reads_below ha1 hbn
    replace hl1 := reads_below hl1 hbn
    replace hb := hb.trans (hbn.mono hb.size)
    clear hbn
    go_wp2_with (go_at_call 20; refine (HA2.out _ hG2 ha2).mono ?_)
    rintro e w3 ⟨rfl, hbn⟩
    have hG3 := hG2.below hG2.size hbn
    have ha3 := reads_below ha2 hbn
    replace hl1 := reads_below hl1 hbn
    replace hl2 := reads_below hl2 hbn
    replace hb := hb.trans (hbn.mono hb.size)
    clear hbn
    go_wp2_with (go_at_call 21; refine (HR2.out _ ha3).mono ?_)
    rintro e w4 ⟨rfl, hbn⟩
    have hG4 := hG3.below hG3.size hbn
    replace hl1 := reads_below hl1 hbn
    replace hl2 := reads_below hl2 hbn
    replace hb := hb.trans (hbn.mono hb.size)
    clear hbn
    have HS := Lib.hid (SameChars_any l1 l2 ds ds hds hds w4 hl1 hl2)
    rw [decide_eq_true rfl] at HS
    go_wp2_with (go_at_call 22; refine HS.out.mono ?_)
    rintro e w5 ⟨rfl, n, hw5⟩
    have hb5 : Below w.heap.size w w5 := by rw [hw5]; exact below_drewN hb n
    have hG5 := hG.below hG.size hb5
    clear hw5
    go_wp2_with (go_at_call 7; refine (shown_any _ hG5).mono ?_; rintro e w9 ⟨rfl, hbn⟩)
    go_ret
    exact ⟨rfl, hb5.trans (hbn.mono hb5.size)⟩
end Ck
end Go.Proofs.YthfmnhhennbjnaaDoor
