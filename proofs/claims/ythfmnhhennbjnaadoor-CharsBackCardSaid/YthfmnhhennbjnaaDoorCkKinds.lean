/- CharsKinds. -/
import Derived.Test.YthfmnhhennbjnaaDoorCkShownW
namespace Go.Proofs.YthfmnhhennbjnaaDoor
open Go.RowKit Go.Shelf
namespace Ck

theorem splits (s : ByteArray) : ∃ cs rest, Split s.data.toList cs rest := split_exists s.size s.data.toList (by rw [← list_size]; exact Nat.le_refl _)

set_option maxRecDepth 100000 in
set_option maxHeartbeats 4000000 in
theorem Kinds_any (c : Int) (s : ByteArray) (w : World) (hG : G w) :
    Calls Tryd.prog 3 #[.int .i32 c, .string s] w fun e w' => e = .returned (.bool true) ∧ Below w.heap.size w w' := by
  by_cases hlen : 2000 < s.size
  · have hd : decide ((2000 : Int) < s.size) = true := by rw [decide_eq_true_iff]; omega
    clear hlen
    go_enter Tryd.func3, Tryd.ntmps3
    go_wp2_with (go_at_call 7; refine (shown_any _ hG).mono ?_; rintro e w1 ⟨rfl, hb⟩)
    go_ret
    exact ⟨rfl, hb⟩
  · have hd : decide ((2000 : Int) < s.size) = false := by rw [decide_eq_false_iff_not]; omega
    have hs : s.size ≤ 1048576 := by omega
    obtain ⟨cs, rest, hS⟩ := splits s
    obtain ⟨v0, hv0⟩ : ∃ v, validB c = v := ⟨_, rfl⟩
    have HA0 : Hid (∀ W, G W → Calls Tryd.prog 8 #[.int .i32 c] W fun e w' => e = .returned (.bool v0) ∧ Below W.heap.size W w') := Lib.hid (by rw [← hv0]; exact fun W h => Valid_any c W h)
    have HR0 : Hid (∀ W, Calls Tryd.prog 9 #[.int .i32 c] W fun e w' => e = .returned (.bool v0) ∧ W = w') := Lib.hid (by rw [← hv0]; exact fun W => refValid_any c W)
    have g0 : (v0 == v0) = true := by simp
    clear hv0
    obtain ⟨v1, hv1⟩ : ∃ v, blankB c = v := ⟨_, rfl⟩
    have HA1 : Hid (∀ W, G W → Calls Tryd.prog 10 #[.int .i32 c] W fun e w' => e = .returned (.bool v1) ∧ Below W.heap.size W w') := Lib.hid (by rw [← hv1]; exact fun W h => Blank_any c W h)
    have HR1 : Hid (∀ W, Calls Tryd.prog 11 #[.int .i32 c] W fun e w' => e = .returned (.bool v1) ∧ W = w') := Lib.hid (by rw [← hv1]; exact fun W => refBlank_any c W)
    have g1 : (v1 == v1) = true := by simp
    clear hv1
    obtain ⟨v2, hv2⟩ : ∃ v, firstB c = v := ⟨_, rfl⟩
    have HA2 : Hid (∀ W, G W → Calls Tryd.prog 12 #[.int .i32 c] W fun e w' => e = .returned (.bool v2) ∧ Below W.heap.size W w') := Lib.hid (by rw [← hv2]; exact fun W h => First_any c W h)
    have HR2 : Hid (∀ W, Calls Tryd.prog 13 #[.int .i32 c] W fun e w' => e = .returned (.bool v2) ∧ W = w') := Lib.hid (by rw [← hv2]; exact fun W => refFirst_any c W)
    have g2 : (v2 == v2) = true := by simp
    clear hv2
    obtain ⟨v3, hv3⟩ : ∃ v, innerB c = v := ⟨_, rfl⟩
    have HA3 : Hid (∀ W, G W → Calls Tryd.prog 14 #[.int .i32 c] W fun e w' => e = .returned (.bool v3) ∧ Below W.heap.size W w') := Lib.hid (by rw [← hv3]; exact fun W h => Inner_any c W h)
    have HR3 : Hid (∀ W, Calls Tryd.prog 15 #[.int .i32 c] W fun e w' => e = .returned (.bool v3) ∧ W = w') := Lib.hid (by rw [← hv3]; exact fun W => refInner_any c W)
    have g3 : (v3 == v3) = true := by simp
    clear hv3
    obtain ⟨v4, hv4⟩ : ∃ v, localB s.data.toList cs rest = v := ⟨_, rfl⟩
    have HA4 : Hid (∀ W, G W → Calls Tryd.prog 16 #[.string s] W fun e w' => e = .returned (.bool v4) ∧ Below W.heap.size W w') := Lib.hid (by rw [← hv4]; exact fun W h => Local_any s cs rest hS W h (by omega))
    have HR4 : Hid (∀ W, Calls Tryd.prog 17 #[.string s] W fun e w' => e = .returned (.bool v4) ∧ Below W.heap.size W w') := Lib.hid (by rw [← hv4, local_same hS]; exact fun W => refLocal_any s hs cs rest hS W)
    have g4 : (v4 == v4) = true := by simp
    clear hv4 hS hlen hs
    have hbw : Below w.heap.size w w := Below.refl _ _
    go_enter Tryd.func3, Tryd.ntmps3
    go_wp2_with (go_at_call 8; refine (HA0.out _ hG).mono ?_)
    first | rintro e w1 rfl hbn | rintro e w1 ⟨rfl, hbn⟩
    have hG1 := hG.below hG.size hbn
    replace hbw := hbw.trans (hbn.mono hbw.size)
    clear hbn
    go_wp2_with (go_at_call 9; refine (HR0.out _).mono ?_)
    first | rintro e w' rfl rfl | rintro e w' ⟨rfl, rfl⟩
    go_wp2_with (go_at_call 10; refine (HA1.out _ hG1).mono ?_)
    first | rintro e w2 rfl hbn | rintro e w2 ⟨rfl, hbn⟩
    have hG2 := hG1.below hG1.size hbn
    replace hbw := hbw.trans (hbn.mono hbw.size)
    clear hbn
    go_wp2_with (go_at_call 11; refine (HR1.out _).mono ?_)
    first | rintro e w' rfl rfl | rintro e w' ⟨rfl, rfl⟩
    go_wp2_with (go_at_call 12; refine (HA2.out _ hG2).mono ?_)
    first | rintro e w3 rfl hbn | rintro e w3 ⟨rfl, hbn⟩
    have hG3 := hG2.below hG2.size hbn
    replace hbw := hbw.trans (hbn.mono hbw.size)
    clear hbn
    go_wp2_with (go_at_call 13; refine (HR2.out _).mono ?_)
    first | rintro e w' rfl rfl | rintro e w' ⟨rfl, rfl⟩
    go_wp2_with (go_at_call 14; refine (HA3.out _ hG3).mono ?_)
    first | rintro e w4 rfl hbn | rintro e w4 ⟨rfl, hbn⟩
    have hG4 := hG3.below hG3.size hbn
    replace hbw := hbw.trans (hbn.mono hbw.size)
    clear hbn
    go_wp2_with (go_at_call 15; refine (HR3.out _).mono ?_)
    first | rintro e w' rfl rfl | rintro e w' ⟨rfl, rfl⟩
    go_wp2_with (go_at_call 16; refine (HA4.out _ hG4).mono ?_)
    first | rintro e w5 rfl hbn | rintro e w5 ⟨rfl, hbn⟩
    have hG5 := hG4.below hG4.size hbn
    replace hbw := hbw.trans (hbn.mono hbw.size)
    clear hbn
    go_wp2_with (go_at_call 17; refine (HR4.out _).mono ?_)
    first | rintro e w6 rfl hbn | rintro e w6 ⟨rfl, hbn⟩
    have hG6 := hG5.below hG5.size hbn
    replace hbw := hbw.trans (hbn.mono hbw.size)
    clear hbn
    go_wp2_with (go_at_call 7; refine (shown_any _ hG6).mono ?_; rintro e w9 ⟨rfl, hb⟩)
    go_ret
    exact ⟨rfl, hbw.trans (hb.mono hbw.size)⟩
end Ck
end Go.Proofs.YthfmnhhennbjnaaDoor
