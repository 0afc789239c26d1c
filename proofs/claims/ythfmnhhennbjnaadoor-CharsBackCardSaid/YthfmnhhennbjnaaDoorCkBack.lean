/- CharsBack. -/
import Derived.Test.YthfmnhhennbjnaaDoorCkBackA
namespace Go.Proofs.YthfmnhhennbjnaaDoor
open Go.RowKit Go.Shelf
namespace Ck

set_option maxRecDepth 100000 in
set_option maxHeartbeats 8000000 in
theorem Back_any (s : ByteArray) (ao : Option Addr) (cap : Nat) (xs : List Int) (hr : ∀ x ∈ xs, -2147483648 ≤ x ∧ x ≤ 2147483647) (w : World) (hG : G w) (ha : Reads32 w (.slice ao xs.length cap) xs) :
    Calls Tryd.prog 6 #[.string s, .slice ao xs.length cap] w fun e w' => e = .returned (.bool true) ∧ Below w.heap.size w w' := by
  by_cases hlen : 5000 < s.size
  · have hd : decide ((5000 : Int) < s.size) = true := by rw [decide_eq_true_iff]; omega
    clear hlen ha hr
    go_enter Tryd.func6, Tryd.ntmps6
    go_wp2_with (go_at_call 7; refine (shown_any _ hG).mono ?_; rintro e w1 ⟨rfl, hb⟩)
    go_ret
    exact ⟨rfl, hb⟩
  by_cases hxl : 5000 < xs.length
  · have hd : decide ((5000 : Int) < s.size) = false := by rw [decide_eq_false_iff_not]; omega
    have hd2 : decide ((5000 : Int) < (xs.length : Int)) = true := by rw [decide_eq_true_iff]; omega
    clear hlen ha hr hxl
    go_enter Tryd.func6, Tryd.ntmps6
    go_wp2_with (go_at_call 7; refine (shown_any _ hG).mono ?_; rintro e w1 ⟨rfl, hb⟩)
    go_ret
    exact ⟨rfl, hb⟩
  have hd : decide ((5000 : Int) < s.size) = false := by rw [decide_eq_false_iff_not]; omega
  have hd2 : decide ((5000 : Int) < (xs.length : Int)) = false := by rw [decide_eq_false_iff_not]; omega
  obtain ⟨ok, ds, P, E, X, hp⟩ := part_of s (by omega)
  obtain ⟨ok2, t, E2, hp2⟩ := part2_of (.slice ao xs.length cap) xs (by omega) hr
  have KQ := Lib.hid (fun W hW => squeezed_any s (by omega) W hW)
  have hx63 : xs.length ≤ 1099511627776 := by omega
  have gs : (s.toList == s.toList) = true := by simp
  have gs' : (s.toList != s.toList) = false := by simp
  clear hlen hxl hr
  cases ok
  · obtain rfl : E = 6 := hp.err
    have KD := Lib.hid hp.dec
    have KX := Lib.hid hp.esc
    clear hp
    cases ok2
    · obtain rfl : E2 = 2 := hp2.err
      have KT := Lib.hid hp2.enc
      clear hp2
      go_enter Tryd.func6, Tryd.ntmps6
      go_wp2_with (go_at_call 18; refine (KD.out _ hG).mono ?_)
      rintro e w1 ⟨⟨l1, rfl, hl1⟩, hb⟩
      have hG1 := hG.below hG.size hb
      replace ha := reads_below ha (hb.mono (Nat.le_refl _))
      clear hl1
      go_wp2_with (go_at_call 20; refine (KT.out _ hG1 ha).mono ?_)
      rintro e w3 ⟨rfl, hbn⟩
      have hG3 := hG1.below hG1.size hbn
      replace ha := reads_below ha hbn
      replace hb := hb.trans (hbn.mono hb.size)
      clear hbn
      go_wp2
      clear ha
      go_loopw [14] (fun i wr => ∃ k : Nat, k ≤ 2 ∧ i = .int .i64 (k : Int) ∧ Below w.heap.size w wr) (fun i _ => 2 - (intOf i).toNat)
      case atStart => exact ⟨0, by omega, rfl, hb⟩
      case round =>
        obtain ⟨k, hk, rfl, hbr⟩ := hrel
        have hGr := hG.below hG.size hbr
        by_cases hlt : k < 2
        · have hdk : decide ((k : Int) < 2) = true := by rw [decide_eq_true_iff]; omega
          go_wp2_with (go_at_call 23; refine (KX.out _ _ hGr).mono ?_)
          rintro e w6 ⟨rfl, hbn⟩
          have hG6 := hGr.below hGr.size hbn
          have hb6 := hbr.trans (hbn.mono hbr.size)
          clear hbn
          go_wp2
          go_roundw
          case rel => exact ⟨k + 1, by omega, by go_num, hb6⟩
          case measure => simp [intOf]; omega
        · have hdk : decide ((k : Int) < 2) = false := by rw [decide_eq_false_iff_not]; omega
          go_wp2_with (go_at_call 29; refine (KQ.out _ hGr).mono ?_)
          rintro e w8 ⟨rfl, hbn⟩
          have hG8 := hGr.below hGr.size hbn
          have hb8 := hbr.trans (hbn.mono hbr.size)
          clear hbn
          go_wp2_with (go_at_call 7; refine (shown_any _ hG8).mono ?_; rintro e w9 ⟨rfl, hbn⟩)
          go_ret
          exact ⟨rfl, hb8.trans (hbn.mono hb8.size)⟩
    · obtain rfl : E2 = 0 := hp2.err
      have KT := Lib.hid hp2.enc
      have KB := Lib.hid (hp2.dec rfl)
      clear hp2
      go_enter Tryd.func6, Tryd.ntmps6
      go_wp2_with (go_at_call 18; refine (KD.out _ hG).mono ?_)
      rintro e w1 ⟨⟨l1, rfl, hl1⟩, hb⟩
      have hG1 := hG.below hG.size hb
      replace ha := reads_below ha (hb.mono (Nat.le_refl _))
      clear hl1
      go_wp2_with (go_at_call 20; refine (KT.out _ hG1 ha).mono ?_)
      rintro e w3 ⟨rfl, hbn⟩
      have hG3 := hG1.below hG1.size hbn
      replace ha := reads_below ha hbn
      replace hb := hb.trans (hbn.mono hb.size)
      clear hbn
      go_wp2_with (go_at_call 18; refine (KB.out _ hG3).mono ?_)
      rintro e w4 ⟨⟨l2, rfl, hl2⟩, hbn⟩
      replace ha := reads_below ha hbn
      replace hb := hb.trans (hbn.mono hb.size)
      clear hbn
      have HS := Lib.hid (SameChars_any l2 (.slice ao xs.length cap) xs xs hx63 hx63 w4 hl2 ha)
      rw [decide_eq_true rfl] at HS
      go_wp2_with (go_at_call 22; refine HS.out.mono ?_)
      rintro e w5 ⟨rfl, n, hw5⟩
      replace hb : Below w.heap.size w w5 := by rw [hw5]; exact below_drewN hb n
      clear hw5 hl2 HS
      go_wp2
      clear ha
      go_loopw [14] (fun i wr => ∃ k : Nat, k ≤ 2 ∧ i = .int .i64 (k : Int) ∧ Below w.heap.size w wr) (fun i _ => 2 - (intOf i).toNat)
      case atStart => exact ⟨0, by omega, rfl, hb⟩
      case round =>
        obtain ⟨k, hk, rfl, hbr⟩ := hrel
        have hGr := hG.below hG.size hbr
        by_cases hlt : k < 2
        · have hdk : decide ((k : Int) < 2) = true := by rw [decide_eq_true_iff]; omega
          go_wp2_with (go_at_call 23; refine (KX.out _ _ hGr).mono ?_)
          rintro e w6 ⟨rfl, hbn⟩
          have hG6 := hGr.below hGr.size hbn
          have hb6 := hbr.trans (hbn.mono hbr.size)
          clear hbn
          go_wp2
          go_roundw
          case rel => exact ⟨k + 1, by omega, by go_num, hb6⟩
          case measure => simp [intOf]; omega
        · have hdk : decide ((k : Int) < 2) = false := by rw [decide_eq_false_iff_not]; omega
          go_wp2_with (go_at_call 29; refine (KQ.out _ hGr).mono ?_)
          rintro e w8 ⟨rfl, hbn⟩
          have hG8 := hGr.below hGr.size hbn
          have hb8 := hbr.trans (hbn.mono hbr.size)
          clear hbn
          go_wp2_with (go_at_call 7; refine (shown_any _ hG8).mono ?_; rintro e w9 ⟨rfl, hbn⟩)
          go_ret
          exact ⟨rfl, hb8.trans (hbn.mono hb8.size)⟩
  · obtain rfl : E = 0 := hp.err
    have KD := Lib.hid hp.dec
    have KE := Lib.hid (hp.enc rfl)
    have KX := Lib.hid hp.esc
    have KU := Lib.hid (hp.un rfl)
    clear hp
    cases ok2
    · obtain rfl : E2 = 2 := hp2.err
      have KT := Lib.hid hp2.enc
      clear hp2
      go_enter Tryd.func6, Tryd.ntmps6
      go_wp2_with (go_at_call 18; refine (KD.out _ hG).mono ?_)
      rintro e w1 ⟨⟨l1, rfl, hl1⟩, hb⟩
      have hG1 := hG.below hG.size hb
      replace ha := reads_below ha (hb.mono (Nat.le_refl _))
      go_wp2_with (go_at_call 20; refine (KE.out _ _ hG1 hl1).mono ?_)
      rintro e w2 ⟨rfl, hbn⟩
      have hG2 := hG1.below hG1.size hbn
      replace ha := reads_below ha hbn
      replace hb := hb.trans (hbn.mono hb.size)
      clear hbn
      clear hl1
      go_wp2_with (go_at_call 20; refine (KT.out _ hG2 ha).mono ?_)
      rintro e w3 ⟨rfl, hbn⟩
      have hG3 := hG2.below hG2.size hbn
      replace ha := reads_below ha hbn
      replace hb := hb.trans (hbn.mono hb.size)
      clear hbn
      go_wp2
      clear ha
      go_loopw [14] (fun i wr => ∃ k : Nat, k ≤ 2 ∧ i = .int .i64 (k : Int) ∧ Below w.heap.size w wr) (fun i _ => 2 - (intOf i).toNat)
      case atStart => exact ⟨0, by omega, rfl, hb⟩
      case round =>
        obtain ⟨k, hk, rfl, hbr⟩ := hrel
        have hGr := hG.below hG.size hbr
        by_cases hlt : k < 2
        · have hdk : decide ((k : Int) < 2) = true := by rw [decide_eq_true_iff]; omega
          go_wp2_with (go_at_call 23; refine (KX.out _ _ hGr).mono ?_)
          rintro e w6 ⟨rfl, hbn⟩
          have hG6 := hGr.below hGr.size hbn
          have hb6 := hbr.trans (hbn.mono hbr.size)
          clear hbn
          go_wp2_with (go_at_call 25; refine (KU.out _ _ hG6).mono ?_)
          rintro e w7 ⟨rfl, hbn⟩
          have hb7 := hb6.trans (hbn.mono hb6.size)
          clear hbn
          go_wp2
          go_roundw
          case rel => exact ⟨k + 1, by omega, by go_num, hb7⟩
          case measure => simp [intOf]; omega
        · have hdk : decide ((k : Int) < 2) = false := by rw [decide_eq_false_iff_not]; omega
          go_wp2_with (go_at_call 29; refine (KQ.out _ hGr).mono ?_)
          rintro e w8 ⟨rfl, hbn⟩
          have hG8 := hGr.below hGr.size hbn
          have hb8 := hbr.trans (hbn.mono hbr.size)
          clear hbn
          go_wp2_with (go_at_call 7; refine (shown_any _ hG8).mono ?_; rintro e w9 ⟨rfl, hbn⟩)
          go_ret
          exact ⟨rfl, hb8.trans (hbn.mono hb8.size)⟩
    · obtain rfl : E2 = 0 := hp2.err
      have KT := Lib.hid hp2.enc
      have KB := Lib.hid (hp2.dec rfl)
      clear hp2
      go_enter Tryd.func6, Tryd.ntmps6
      go_wp2_with (go_at_call 18; refine (KD.out _ hG).mono ?_)
      rintro e w1 ⟨⟨l1, rfl, hl1⟩, hb⟩
      have hG1 := hG.below hG.size hb
      replace ha := reads_below ha (hb.mono (Nat.le_refl _))
      go_wp2_with (go_at_call 20; refine (KE.out _ _ hG1 hl1).mono ?_)
      rintro e w2 ⟨rfl, hbn⟩
      have hG2 := hG1.below hG1.size hbn
      replace ha := reads_below ha hbn
      replace hb := hb.trans (hbn.mono hb.size)
      clear hbn
      clear hl1
      go_wp2_with (go_at_call 20; refine (KT.out _ hG2 ha).mono ?_)
      rintro e w3 ⟨rfl, hbn⟩
      have hG3 := hG2.below hG2.size hbn
      replace ha := reads_below ha hbn
      replace hb := hb.trans (hbn.mono hb.size)
      clear hbn
      go_wp2_with (go_at_call 18; refine (KB.out _ hG3).mono ?_)
      rintro e w4 ⟨⟨l2, rfl, hl2⟩, hbn⟩
      replace ha := reads_below ha hbn
      replace hb := hb.trans (hbn.mono hb.size)
      clear hbn
      have HS := Lib.hid (SameChars_any l2 (.slice ao xs.length cap) xs xs hx63 hx63 w4 hl2 ha)
      rw [decide_eq_true rfl] at HS
      go_wp2_with (go_at_call 22; refine HS.out.mono ?_)
      rintro e w5 ⟨rfl, n, hw5⟩
      replace hb : Below w.heap.size w w5 := by rw [hw5]; exact below_drewN hb n
      clear hw5 hl2 HS
      go_wp2
      clear ha
      go_loopw [14] (fun i wr => ∃ k : Nat, k ≤ 2 ∧ i = .int .i64 (k : Int) ∧ Below w.heap.size w wr) (fun i _ => 2 - (intOf i).toNat)
      case atStart => exact ⟨0, by omega, rfl, hb⟩
      case round =>
        obtain ⟨k, hk, rfl, hbr⟩ := hrel
        have hGr := hG.below hG.size hbr
        by_cases hlt : k < 2
        · have hdk : decide ((k : Int) < 2) = true := by rw [decide_eq_true_iff]; omega
          go_wp2_with (go_at_call 23; refine (KX.out _ _ hGr).mono ?_)
          rintro e w6 ⟨rfl, hbn⟩
          have hG6 := hGr.below hGr.size hbn
          have hb6 := hbr.trans (hbn.mono hbr.size)
          clear hbn
          go_wp2_with (go_at_call 25; refine (KU.out _ _ hG6).mono ?_)
          rintro e w7 ⟨rfl, hbn⟩
          have hb7 := hb6.trans (hbn.mono hb6.size)
          clear hbn
          go_wp2
          go_roundw
          case rel => exact ⟨k + 1, by omega, by go_num, hb7⟩
          case measure => simp [intOf]; omega
        · have hdk : decide ((k : Int) < 2) = false := by rw [decide_eq_false_iff_not]; omega
          go_wp2_with (go_at_call 29; refine (KQ.out _ hGr).mono ?_)
          rintro e w8 ⟨rfl, hbn⟩
          have hG8 := hGr.below hGr.size hbn
          have hb8 := hbr.trans (hbn.mono hbr.size)
          clear hbn
          go_wp2_with (go_at_call 7; refine (shown_any _ hG8).mono ?_; rintro e w9 ⟨rfl, hbn⟩)
          go_ret
          exact ⟨rfl, hb8.trans (hbn.mono hb8.size)⟩
end Ck
end Go.Proofs.YthfmnhhennbjnaaDoor
