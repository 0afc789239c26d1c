/- Unescape: the reference's escapes. -/
import Derived.Test.YthfmnhhennbjnaaDoorCkMean2
import Derived.Test.YthfmnhhennbjnaaDoorCkRefEsc
import Derived.WalkLawsBesides
namespace Go.Proofs.YthfmnhhennbjnaaDoor
open Go.RowKit Go.Shelf
namespace Ck

def refDig (b : UInt8) (base : Int) : Int := if base ≤ digV b then -1 else digV b
set_option maxRecDepth 100000 in
set_option maxHeartbeats 2000000 in
theorem refdigit_any (b : UInt8) (base : Int) (hb : base = 10 ∨ base = 16) (w : World) :
    Calls Tryd.prog 54 #[.int .u8 (b.toNat : Int), .int .i64 base] w fun e w' => e = .returned (.int .i64 (refDig b base)) ∧ w = w' := by
  have B := b.toNat_lt
  obtain ⟨R, hR⟩ : ∃ R, refDig b base = R := ⟨_, rfl⟩
  rw [hR]
  have HR := Lib.hid hR
  clear hR
  rcases hb with rfl | rfl
  all_goals
    go_enter Tryd.func54, Tryd.ntmps54
    go_wp2
    all_goals
      go_ret
      refine ⟨ret_int ?_, rfl⟩
      rw [← HR.out]
      unfold refDig digV
      repeat' split
      all_goals first | rfl | omega

def namesL : List (List UInt8) := [[108, 116], [103, 116], [97, 109, 112], [113, 117, 111, 116], [97, 112, 111, 115]]
theorem nm_of_names {l : List UInt8} (h : ∀ j, j < 5 → l ≠ namesL.getD j []) : nmV l = none := by
  unfold nmV
  rw [if_neg (show l ≠ [108, 116] from h 0 (by omega))]
  rw [if_neg (show l ≠ [103, 116] from h 1 (by omega))]
  rw [if_neg (show l ≠ [97, 109, 112] from h 2 (by omega))]
  rw [if_neg (show l ≠ [113, 117, 111, 116] from h 3 (by omega))]
  rw [if_neg (show l ≠ [97, 112, 111, 115] from h 4 (by omega))]
def escR : Option Int → Value
  | some c => .tuple #[.int .i32 c, .bool true]
  | none => .tuple #[.int .i32 0, .bool false]

set_option maxRecDepth 100000 in
set_option maxHeartbeats 4000000 in
theorem Escaped_any (s : ByteArray) (hs : s.size ≤ 1048576) (w : World) :
    Calls Tryd.prog 43 #[.string s] w fun e w' => e = .returned (escR (escV s.data.toList)) ∧ Below w.heap.size w w' := by
  obtain ⟨R, hR⟩ : ∃ R, escV s.data.toList = R := ⟨_, rfl⟩
  rw [hR]
  have HR := Lib.hid hR
  clear hR
  have htl : s.toList = s.data.toList := Lib.toList_data s
  have Htl := Lib.hid htl
  clear htl
  go_enter Tryd.func43, Tryd.ntmps43
  go_wp2
  go_loop [6] (fun i => ∃ k : Nat, k ≤ 5 ∧ i = .int .i64 (k : Int) ∧ ∀ j, j < k → s.data.toList ≠ namesL.getD j []) (fun i => 5 - (intOf i).toNat)
  case atStart => exact ⟨0, by omega, rfl, fun j hj => absurd hj (by omega)⟩
  case round =>
    obtain ⟨k, hk, rfl, hno⟩ := hrel
    have Hno := Lib.hid hno
    clear hno
    by_cases hlt : k < 5
    · match k, hlt with
      | 0, _ =>
        by_cases he : s.data.toList = [108, 116]
        · have g : (s.toList == [108, 116]) = true := by rw [Htl.out, he]; rfl
          have hv : R = some 60 := by rw [← HR.out, he]; rfl
          have Hv := Lib.hid hv
          clear he hv
          go_wp2
          go_ret2
          exact ⟨by rw [Hv.out]; rfl, ((Below.refl _ _).alloc (Nat.le_refl _) _).alloc (by simp) _⟩
        · have g : (s.toList == [108, 116]) = false := by rw [Htl.out, beq_eq_false_iff_ne]; exact he
          have He := Lib.hid he
          clear he
          go_wp2
          go_round
          case rel => exact ⟨1, by omega, rfl, fun j hj => by
            rcases Nat.lt_succ_iff_lt_or_eq.1 hj with h | rfl
            · exact Hno.out j h
            · exact He.out⟩
          case measure => simp [intOf]
      | 1, _ =>
        by_cases he : s.data.toList = [103, 116]
        · have g : (s.toList == [103, 116]) = true := by rw [Htl.out, he]; rfl
          have hv : R = some 62 := by rw [← HR.out, he]; rfl
          have Hv := Lib.hid hv
          clear he hv
          go_wp2
          go_ret2
          exact ⟨by rw [Hv.out]; rfl, ((Below.refl _ _).alloc (Nat.le_refl _) _).alloc (by simp) _⟩
        · have g : (s.toList == [103, 116]) = false := by rw [Htl.out, beq_eq_false_iff_ne]; exact he
          have He := Lib.hid he
          clear he
          go_wp2
          go_round
          case rel => exact ⟨2, by omega, rfl, fun j hj => by
            rcases Nat.lt_succ_iff_lt_or_eq.1 hj with h | rfl
            · exact Hno.out j h
            · exact He.out⟩
          case measure => simp [intOf]
      | 2, _ =>
        by_cases he : s.data.toList = [97, 109, 112]
        · have g : (s.toList == [97, 109, 112]) = true := by rw [Htl.out, he]; rfl
          have hv : R = some 38 := by rw [← HR.out, he]; rfl
          have Hv := Lib.hid hv
          clear he hv
          go_wp2
          go_ret2
          exact ⟨by rw [Hv.out]; rfl, ((Below.refl _ _).alloc (Nat.le_refl _) _).alloc (by simp) _⟩
        · have g : (s.toList == [97, 109, 112]) = false := by rw [Htl.out, beq_eq_false_iff_ne]; exact he
          have He := Lib.hid he
          clear he
          go_wp2
          go_round
          case rel => exact ⟨3, by omega, rfl, fun j hj => by
            rcases Nat.lt_succ_iff_lt_or_eq.1 hj with h | rfl
            · exact Hno.out j h
            · exact He.out⟩
          case measure => simp [intOf]
      | 3, _ =>
        by_cases he : s.data.toList = [113, 117, 111, 116]
        · have g : (s.toList == [113, 117, 111, 116]) = true := by rw [Htl.out, he]; rfl
          have hv : R = some 34 := by rw [← HR.out, he]; rfl
          have Hv := Lib.hid hv
          clear he hv
          go_wp2
          go_ret2
          exact ⟨by rw [Hv.out]; rfl, ((Below.refl _ _).alloc (Nat.le_refl _) _).alloc (by simp) _⟩
        · have g : (s.toList == [113, 117, 111, 116]) = false := by rw [Htl.out, beq_eq_false_iff_ne]; exact he
          have He := Lib.hid he
          clear he
          go_wp2
          go_round
          case rel => exact ⟨4, by omega, rfl, fun j hj => by
            rcases Nat.lt_succ_iff_lt_or_eq.1 hj with h | rfl
            · exact Hno.out j h
            · exact He.out⟩
          case measure => simp [intOf]
      | 4, _ =>
        by_cases he : s.data.toList = [97, 112, 111, 115]
        · have g : (s.toList == [97, 112, 111, 115]) = true := by rw [Htl.out, he]; rfl
          have hv : R = some 39 := by rw [← HR.out, he]; rfl
          have Hv := Lib.hid hv
          clear he hv
          go_wp2
          go_ret2
          exact ⟨by rw [Hv.out]; rfl, ((Below.refl _ _).alloc (Nat.le_refl _) _).alloc (by simp) _⟩
        · have g : (s.toList == [97, 112, 111, 115]) = false := by rw [Htl.out, beq_eq_false_iff_ne]; exact he
          have He := Lib.hid he
          clear he
          go_wp2
          go_round
          case rel => exact ⟨5, by omega, rfl, fun j hj => by
            rcases Nat.lt_succ_iff_lt_or_eq.1 hj with h | rfl
            · exact Hno.out j h
            · exact He.out⟩
          case measure => simp [intOf]
      | k + 5, h => exact absurd h (by omega)
    · obtain rfl : k = 5 := by omega
      have hnm := nm_of_names Hno.out
      have hR2 : R = escN s.data.toList := by rw [← HR.out, escV_or, hnm]
      clear hnm
      have hbw0 : Below w.heap.size w ((w.alloc (.cells #[.string ⟨#[108, 116]⟩, .string ⟨#[103, 116]⟩, .string ⟨#[97, 109, 112]⟩, .string ⟨#[113, 117, 111, 116]⟩, .string ⟨#[97, 112, 111, 115]⟩] 77)).alloc (.cells #[.int .i32 60, .int .i32 62, .int .i32 38, .int .i32 34, .int .i32 39] 78)) := ((Below.refl _ _).alloc (Nat.le_refl _) _).alloc (by simp) _
      cases hl : s.data.toList with
      | nil =>
        have e2 : s.toList.isEmpty = true := by rw [Lib.toList_data, hl]; rfl
        have hv : R = none := by rw [hR2, hl]; rfl
        have Hv := Lib.hid hv
        clear hl hv hR2
        go_wp2
        go_ret2
        exact ⟨by rw [Hv.out]; rfl, hbw0⟩
      | cons b t =>
        have e2 : s.toList.isEmpty = false := isEmpty_no (by rw [hl]; simp)
        have h0 : 0 < s.size := by rw [list_size, hl]; simp
        have h0' : (0 : Int) < (s.size : Int) := by omega
        have hb0 : s[0] = b := by
          have := drop_cons s 0 h0
          rw [List.drop_zero, hl] at this
          exact (List.cons.inj this).1.symm
        by_cases h35 : b = 35
        · have g35 : ((s[0].toNat : Int) == 35) = true := by rw [hb0, h35]; rfl
          have g35' : ((s[0].toNat : Int) != 35) = false := by rw [bne, g35]; rfl
          have h1s : (1 : Int) ≤ (s.size : Int) := by omega
          have hqd : (s.extract 1 s.size).data.toList = t := by rw [ext_drop, hl]; rfl
          have hqs : (s.extract 1 s.size).size ≤ 1048576 := by rw [list_size, ext_drop, List.length_drop, ← list_size]; omega
          have hR3 : R = escN (35 :: t) := by rw [hR2, hl, h35]
          have HR3 := Lib.hid hR3
          have Hqd := Lib.hid hqd
          have Hqs := Lib.hid hqs
          clear hl hR2 hR3 hb0 h35 hqd hqs
          go_wp2
          go_quiet (fail)
          obtain ⟨q, hqe⟩ : ∃ q, s.extract 1 s.size = q := ⟨_, rfl⟩
          rw [hqe] at Hqd Hqs
          rw [hqe]
          have hbw := fun n => below_drewN hbw0 n
          clear hbw0 Htl HR
          by_cases hx : ∃ t2, t = 120 :: t2
          · obtain ⟨t2, rfl⟩ := hx
            have hR4 : R = numV 16 t2 := by rw [HR3.out]; unfold escN; rfl
            have hq0 : 0 < q.size := by rw [list_size, Hqd.out]; simp
            have hq0' : (0 : Int) < (q.size : Int) := by omega
            have hqb : q[0] = 120 := by
              have := drop_cons q 0 hq0
              rw [List.drop_zero, Hqd.out] at this
              exact (List.cons.inj this).1.symm
            have g120 : ((q[0].toNat : Int) == 120) = true := by rw [hqb]; rfl
            have e3 : q.toList.isEmpty = false := isEmpty_no (by rw [Hqd.out]; simp)
            have h1q : (1 : Int) ≤ (q.size : Int) := by omega
            have hqd2 : (q.extract 1 q.size).data.toList = t2 := by rw [ext_drop, Hqd.out]; rfl
            have hqs2 : (q.extract 1 q.size).size ≤ 1048576 := by rw [list_size, ext_drop, List.length_drop, ← list_size]; have := Hqs.out; omega
            have HRn := Lib.hid hR4
            have Hqd2 := Lib.hid hqd2
            have Hqs2 := Lib.hid hqs2
            clear hR4 hqb hqd2 hqs2 HR3
            go_wp2
            go_quiet (fail)
            obtain ⟨q2, hqe2⟩ : ∃ q2, q.extract 1 q.size = q2 := ⟨_, rfl⟩
            rw [hqe2] at Hqd2 Hqs2
            rw [hqe2]

            have hq : q2.data.toList = t2 := Hqd2.out
            clear e3 g120 hq0' h1q
            by_cases hne : t2 = []
            · have e2 : q2.toList.isEmpty = true := by rw [Lib.toList_data, hq, hne]; rfl
              have hv : R = none := by rw [HRn.out]; unfold numV; rw [if_pos (.inl hne)]
              have Hv := Lib.hid hv
              clear hne hv hq
              go_wp2
              go_ret2
              exact ⟨by rw [Hv.out]; rfl, hbw _⟩
            · have e2 : q2.toList.isEmpty = false := isEmpty_no (by rw [hq]; exact hne)
              by_cases hsz : 20 < q2.size
              · have hd : decide ((20 : Int) < q2.size) = true := by rw [decide_eq_true_iff]; omega
                have hv : R = none := by rw [HRn.out]; unfold numV; rw [if_pos (.inr (by rw [← hq, ← list_size]; exact hsz))]
                have Hv := Lib.hid hv
                clear hne hv hq hsz
                go_wp2
                go_ret2
                exact ⟨by rw [Hv.out]; rfl, hbw _⟩
              · have hd : decide ((20 : Int) < q2.size) = false := by rw [decide_eq_false_iff_not]; omega
                have hv : R = vld (numR 16 0 t2) := by
                  rw [HRn.out, numV_some hne (by rw [← hq, ← list_size]; omega), num_same 16 (by decide) t2 0 (by decide) (by decide)]
                have Hv := Lib.hid hv
                have hs20 : q2.size ≤ 20 := by omega
                have Hq := Lib.hid hq
                clear hne hv hq hsz
                go_wp2
                go_loop [8, 9] (fun x i => ∃ (k : Nat) (c : Int), k ≤ q2.size ∧ i = .int .i64 (k : Int) ∧ x = .int .i64 c ∧ 0 ≤ c ∧ c ≤ 2000000 ∧ R = vld (numR 16 c (q2.data.toList.drop k))) (fun _ i => q2.size - (intOf i).toNat)
                case atStart => exact ⟨0, 0, Nat.zero_le _, rfl, rfl, by omega, by omega, by rw [Hq.out]; exact Hv.out⟩
                case round =>
                  obtain ⟨k, c, hk, rfl, rfl, hc0, hc1, hn⟩ := hrel
                  by_cases hlt : k < q2.size
                  · rw [drop_cons q2 k hlt] at hn
                    unfold numR at hn
                    have hdr := digV_range q2[k]
                    obtain ⟨x, hx⟩ : ∃ x, q2[k] = x := ⟨_, rfl⟩
                    rw [hx] at hn hdr
                    have HD := Lib.hid (fun W => refdigit_any x 16 (by decide) W)
                    have Hx := Lib.hid hx
                    by_cases hlow : digV x < 0 ∨ 16 ≤ digV x
                    · rw [if_pos hlow] at hn
                      have hd1 : refDig x 16 = -1 ∨ refDig x 16 = digV x := by unfold refDig; split <;> simp
                      have hd2 : refDig x 16 < 0 := by unfold refDig; split <;> omega
                      obtain ⟨d, hdd⟩ : ∃ d, refDig x 16 = d := ⟨_, rfl⟩
                      rw [hdd] at hd2
                      have hd3 : decide (d < 0) = true := decide_eq_true hd2
                      have HD2 : Hid (∀ W, Calls Tryd.prog 54 #[.int .u8 (x.toNat : Int), .int .i64 16] W fun e w' => e = .returned (.int .i64 d) ∧ W = w') := Lib.hid (by rw [← hdd]; exact HD.out)
                      have Hn := Lib.hid hn
                      clear hn hlow hd1 hd2 hdd HD hdr
                      go_wp2_with (go_at_call 54; refine (HD2.out _).mono ?_; rintro e w' ⟨rfl, rfl⟩)
                      go_ret2
                      exact ⟨by rw [Hn.out]; rfl, hbw _⟩
                    · rw [if_neg hlow] at hn
                      have hd1 : refDig x 16 = digV x := by unfold refDig; rw [if_neg (by omega)]
                      have HD2 : Hid (∀ W, Calls Tryd.prog 54 #[.int .u8 (x.toNat : Int), .int .i64 16] W fun e w' => e = .returned (.int .i64 (digV x)) ∧ W = w') := Lib.hid (by rw [← hd1]; exact HD.out)
                      obtain ⟨d, hdd⟩ : ∃ d, digV x = d := ⟨_, rfl⟩
                      rw [hdd] at hn hlow HD2
                      have hd0 : 0 ≤ d := by omega
                      have hd15 : d ≤ 15 := by rw [hdd] at hdr; omega
                      have Hn := Lib.hid hn
                      clear hn hlow hd1 hdd HD hdr
                      go_wp2_with (go_at_call 54; refine (HD2.out _).mono ?_; rintro e w' ⟨rfl, rfl⟩)
                      go_round
                      case rel => exact ⟨k + 1, min (c * 16 + d) 2000000, by omega, by go_num, rfl, by omega, by omega, Hn.out⟩
                      case measure => simp [intOf]; omega
                  · obtain rfl : k = q2.size := by omega
                    have hdr0 : q2.data.toList.drop q2.size = [] := List.drop_of_length_le (by rw [← list_size]; exact Nat.le_refl _)
                    rw [hdr0] at hn
                    have hn' : R = if validB c then some c else none := hn
                    have Hn := Lib.hid hn'
                    clear hn hn' hdr0
                    cases hv : validB c
                    · have Hv2 := Lib.hid hv
                      clear hv
                      go_wp2_with (go_at_call 9; refine (refValid_is _ false Hv2.out _).mono ?_; rintro e w' ⟨rfl, rfl⟩)
                      go_ret2
                      exact ⟨by rw [Hn.out, Hv2.out]; rfl, hbw _⟩
                    · have Hv2 := Lib.hid hv
                      clear hv
                      go_wp2_with (go_at_call 9; refine (refValid_is _ true Hv2.out _).mono ?_; rintro e w' ⟨rfl, rfl⟩)
                      go_ret2
                      exact ⟨by rw [Hn.out, Hv2.out]; rfl, hbw _⟩
          · have hR4 : R = numV 10 t := by
              rw [HR3.out]; unfold escN
              split
              · rename_i heq; cases heq; exact absurd ⟨_, rfl⟩ hx
              · rename_i heq; cases heq; rfl
              · rename_i h1 h2; exact absurd rfl (h2 _)
            have HRn := Lib.hid hR4
            have hq : q.data.toList = t := Hqd.out
            have Hx := Lib.hid hx
            clear hR4 hx HR3
            by_cases hne : t = []
            · have e2 : q.toList.isEmpty = true := by rw [Lib.toList_data, hq, hne]; rfl
              have hv : R = none := by rw [HRn.out]; unfold numV; rw [if_pos (.inl hne)]
              have Hv := Lib.hid hv
              clear hne hv hq
              go_wp2
              go_ret2
              exact ⟨by rw [Hv.out]; rfl, hbw _⟩
            · have e2 : q.toList.isEmpty = false := isEmpty_no (by rw [hq]; exact hne)
              have hq0 : 0 < q.size := by rw [list_size]; exact List.length_pos_iff.2 (by rw [hq]; exact hne)
              have hq0' : (0 : Int) < (q.size : Int) := by omega
              have g120 : ((q[0].toNat : Int) == 120) = false := by
                rw [beq_eq_false_iff_ne]; intro e
                have h1 : q[0] = 120 := UInt8.toNat_inj.1 (by have : (120 : UInt8).toNat = 120 := rfl; omega)
                have := drop_cons q 0 hq0
                rw [List.drop_zero, hq, h1] at this
                exact Hx.out ⟨_, this⟩
              by_cases hsz : 20 < q.size
              · have hd : decide ((20 : Int) < q.size) = true := by rw [decide_eq_true_iff]; omega
                have hv : R = none := by rw [HRn.out]; unfold numV; rw [if_pos (.inr (by rw [← hq, ← list_size]; exact hsz))]
                have Hv := Lib.hid hv
                clear hne hv hq hsz
                go_wp2
                go_ret2
                exact ⟨by rw [Hv.out]; rfl, hbw _⟩
              · have hd : decide ((20 : Int) < q.size) = false := by rw [decide_eq_false_iff_not]; omega
                have hv : R = vld (numR 10 0 t) := by
                  rw [HRn.out, numV_some hne (by rw [← hq, ← list_size]; omega), num_same 10 (by decide) t 0 (by decide) (by decide)]
                have Hv := Lib.hid hv
                have hs20 : q.size ≤ 20 := by omega
                have Hq := Lib.hid hq
                clear hne hv hq hsz
                go_wp2
                go_loop [8, 9] (fun x i => ∃ (k : Nat) (c : Int), k ≤ q.size ∧ i = .int .i64 (k : Int) ∧ x = .int .i64 c ∧ 0 ≤ c ∧ c ≤ 2000000 ∧ R = vld (numR 10 c (q.data.toList.drop k))) (fun _ i => q.size - (intOf i).toNat)
                case atStart => exact ⟨0, 0, Nat.zero_le _, rfl, rfl, by omega, by omega, by rw [Hq.out]; exact Hv.out⟩
                case round =>
                  obtain ⟨k, c, hk, rfl, rfl, hc0, hc1, hn⟩ := hrel
                  by_cases hlt : k < q.size
                  · rw [drop_cons q k hlt] at hn
                    unfold numR at hn
                    have hdr := digV_range q[k]
                    obtain ⟨x, hx⟩ : ∃ x, q[k] = x := ⟨_, rfl⟩
                    rw [hx] at hn hdr
                    have HD := Lib.hid (fun W => refdigit_any x 10 (by decide) W)
                    have Hx := Lib.hid hx
                    by_cases hlow : digV x < 0 ∨ 10 ≤ digV x
                    · rw [if_pos hlow] at hn
                      have hd1 : refDig x 10 = -1 ∨ refDig x 10 = digV x := by unfold refDig; split <;> simp
                      have hd2 : refDig x 10 < 0 := by unfold refDig; split <;> omega
                      obtain ⟨d, hdd⟩ : ∃ d, refDig x 10 = d := ⟨_, rfl⟩
                      rw [hdd] at hd2
                      have hd3 : decide (d < 0) = true := decide_eq_true hd2
                      have HD2 : Hid (∀ W, Calls Tryd.prog 54 #[.int .u8 (x.toNat : Int), .int .i64 10] W fun e w' => e = .returned (.int .i64 d) ∧ W = w') := Lib.hid (by rw [← hdd]; exact HD.out)
                      have Hn := Lib.hid hn
                      clear hn hlow hd1 hd2 hdd HD hdr
                      go_wp2_with (go_at_call 54; refine (HD2.out _).mono ?_; rintro e w' ⟨rfl, rfl⟩)
                      go_ret2
                      exact ⟨by rw [Hn.out]; rfl, hbw _⟩
                    · rw [if_neg hlow] at hn
                      have hd1 : refDig x 10 = digV x := by unfold refDig; rw [if_neg (by omega)]
                      have HD2 : Hid (∀ W, Calls Tryd.prog 54 #[.int .u8 (x.toNat : Int), .int .i64 10] W fun e w' => e = .returned (.int .i64 (digV x)) ∧ W = w') := Lib.hid (by rw [← hd1]; exact HD.out)
                      obtain ⟨d, hdd⟩ : ∃ d, digV x = d := ⟨_, rfl⟩
                      rw [hdd] at hn hlow HD2
                      have hd0 : 0 ≤ d := by omega
                      have hd15 : d ≤ 15 := by rw [hdd] at hdr; omega
                      have Hn := Lib.hid hn
                      clear hn hlow hd1 hdd HD hdr
                      go_wp2_with (go_at_call 54; refine (HD2.out _).mono ?_; rintro e w' ⟨rfl, rfl⟩)
                      go_round
                      case rel => exact ⟨k + 1, min (c * 10 + d) 2000000, by omega, by go_num, rfl, by omega, by omega, Hn.out⟩
                      case measure => simp [intOf]; omega
                  · obtain rfl : k = q.size := by omega
                    have hdr0 : q.data.toList.drop q.size = [] := List.drop_of_length_le (by rw [← list_size]; exact Nat.le_refl _)
                    rw [hdr0] at hn
                    have hn' : R = if validB c then some c else none := hn
                    have Hn := Lib.hid hn'
                    clear hn hn' hdr0
                    cases hv : validB c
                    · have Hv2 := Lib.hid hv
                      clear hv
                      go_wp2_with (go_at_call 9; refine (refValid_is _ false Hv2.out _).mono ?_; rintro e w' ⟨rfl, rfl⟩)
                      go_ret2
                      exact ⟨by rw [Hn.out, Hv2.out]; rfl, hbw _⟩
                    · have Hv2 := Lib.hid hv
                      clear hv
                      go_wp2_with (go_at_call 9; refine (refValid_is _ true Hv2.out _).mono ?_; rintro e w' ⟨rfl, rfl⟩)
                      go_ret2
                      exact ⟨by rw [Hn.out, Hv2.out]; rfl, hbw _⟩
        · have g35 : ((s[0].toNat : Int) == 35) = false := by
            rw [hb0, beq_eq_false_iff_ne]; intro e
            exact h35 (UInt8.toNat_inj.1 (by have : (35 : UInt8).toNat = 35 := rfl; omega))
          have g35' : ((s[0].toNat : Int) != 35) = true := by rw [bne, g35]; rfl
          have hv : R = none := by
            rw [hR2, hl]; unfold escN
            split
            · rename_i heq; cases heq; exact absurd rfl h35
            · rename_i heq; cases heq; exact absurd rfl h35
            · rfl
          have Hv := Lib.hid hv
          clear hl hv hR2 hb0 h35
          go_wp2
          go_ret2
          exact ⟨by rw [Hv.out]; rfl, hbw0⟩
end Ck
end Go.Proofs.YthfmnhhennbjnaaDoor
