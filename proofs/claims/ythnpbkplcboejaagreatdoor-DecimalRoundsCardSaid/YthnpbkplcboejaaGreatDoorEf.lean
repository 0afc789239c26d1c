/- Decimal, the reference: Of. -/
import Derived.Test.YthnpbkplcboejaaGreatDoorEe
import Derived.Laws.IdiomStrings
set_option linter.unusedSimpArgs false
set_option linter.unusedVariables false
namespace Go.Proofs.YthnpbkplcboejaaGreatDoor
open Go.RowKit Go.Shelf
namespace Dc
/-- The digits of a number, none of 0. -/
def od (n : Nat) : List UInt8 := if n = 0 then [] else dec n
theorem od_step (n : Nat) (h : n ≠ 0) : od n = od (n / 10) ++ [UInt8.ofNat (48 + n % 10)] := by
  unfold od
  rw [if_neg h]
  by_cases h1 : n < 10
  · rw [dec_small h1, if_pos (by omega), Nat.mod_eq_of_lt h1]; rfl
  · rw [dec_big h1, if_neg (by omega)]
theorem tmod10 (k : Int) : k.tmod 10 = if k < 0 then -((k.natAbs % 10 : Nat) : Int) else ((k.natAbs % 10 : Nat) : Int) := by
  by_cases h : k < 0
  · rw [if_pos h]
    obtain ⟨a, ha⟩ : ∃ a : Nat, k = -(a : Int) := ⟨k.natAbs, by omega⟩
    subst ha
    rw [Int.neg_tmod, show ((a : Int).tmod 10) = ((a % 10 : Nat) : Int) from rfl]
    simp
  · rw [if_neg h]
    obtain ⟨a, rfl⟩ : ∃ a : Nat, k = (a : Int) := ⟨k.natAbs, by omega⟩
    rfl
theorem tdiv10 (k : Int) : (k.tdiv 10).natAbs = k.natAbs / 10 ∧ (0 ≤ k → 0 ≤ k.tdiv 10) ∧ (k ≤ 0 → k.tdiv 10 ≤ 0) := by
  by_cases h : k < 0
  · obtain ⟨a, ha⟩ : ∃ a : Nat, k = -(a : Int) := ⟨k.natAbs, by omega⟩
    subst ha
    rw [Int.neg_tdiv, show ((a : Int).tdiv 10) = ((a / 10 : Nat) : Int) from rfl]
    omega
  · obtain ⟨a, rfl⟩ : ∃ a : Nat, k = (a : Int) := ⟨k.natAbs, by omega⟩
    rw [show ((a : Int).tdiv 10) = ((a / 10 : Nat) : Int) from rfl]
    omega
set_option maxRecDepth 100000 in
set_option maxHeartbeats 4000000 in
theorem rOf_any (n : Int) (h0 : -9223372036854775808 ≤ n) (h1 : n ≤ 9223372036854775807) (w : World) :
    Calls Tryz.prog 14 #[.int .i64 n] w fun e w' => e = .returned (V.mk (decide (n < 0)) n.natAbs 0).d.val ∧ Below w.heap.size w w' := by
  obtain ⟨W0, hW0⟩ : ∃ W0, w.alloc (.cells #[.bool false, .string ⟨#[]⟩, .int .i64 0] 23) = W0 := ⟨_, rfl⟩
  have hb0 : Below w.heap.size w W0 := by rw [← hW0]; exact (Below.refl _ w).alloc (Nat.le_refl _) _
  have hB0 : Blk W0 w.heap.size #[.bool false, .string ⟨#[]⟩, .int .i64 0] 23 := by rw [← hW0]; exact Blk.new w _ _
  obtain ⟨R0, hR0⟩ : ∃ r, (V.mk (decide (n < 0)) n.natAbs 0).d.val = r := ⟨_, rfl⟩
  rw [hR0]
  have HR0 := Lib.hid hR0
  have HL : Hid ((od n.natAbs).length ≤ 20) := by
    show _ ≤ _
    unfold od
    split
    · simp
    · exact (dec_len (by decide)).2 (by omega)
  clear hR0
  go_enter Tryz.func14, Tryz.ntmps14
  go_wp2
  go_loopw [3, 4] (fun s3 s4 wx => ∃ (x : ByteArray) (k : Int), s3 = .string x ∧ s4 = .int .i64 k ∧ -9223372036854775808 ≤ k ∧ k ≤ 9223372036854775807 ∧ Hid (od n.natAbs = od k.natAbs ++ x.data.toList ∧ x.size ≤ 20) ∧ Below w.heap.size w wx ∧ Blk wx w.heap.size #[.bool false, .string ⟨#[]⟩, .int .i64 0] 23) (fun _ s4 _ => (intOf s4).natAbs)
  case atStart => exact ⟨⟨#[]⟩, n, rfl, rfl, h0, h1, ⟨by simp, by show 0 ≤ 20; omega⟩, hb0, hB0⟩
  case round =>
    clear hb0 hB0 hW0
    obtain ⟨x, k, rfl, rfl, hk0, hk1, HX, hb1, hB1⟩ := hrel
    by_cases hk : k = 0
    · subst hk
      have hxn : od n.natAbs = x.data.toList := HX.out.1
      obtain ⟨f0, f1, f2, r0, r1, r2⟩ := hB1.three
      have HB1 := Lib.hid hb1
      by_cases hn : n = 0
      · subst hn
        have hx0 : x = ⟨#[]⟩ := bytes_eq (by rw [← hxn]; rfl)
        subst hx0
        clear HX hxn h0 h1 hb1
        go_wp2
        refine bodyPost_ret (v := .agg #[.bool false, .string ⟨#[48]⟩, .int .i64 0]) (results_cell_row (by rfl) _ _ _ _ _ _ _ (by rfl) (hB1.set3 _ _ _) Tryz.underlying23 rfl sizeDec) rfl ⟨by rw [← HR0.out]; show _ = Ending.returned (.agg #[.bool false, .string (decB 0), .int .i64 0]); rw [show decB 0 = ⟨#[48]⟩ from congrArg (fun l => (⟨l.toArray⟩ : ByteArray)) dec_zero], b_set3 HB1.out (Nat.le_refl _) _ _ _⟩
      · have hxd : Hid (decB n.natAbs = x) := bytes_eq (by rw [← hxn]; unfold od; rw [if_neg (by omega)])
        have hne : ¬ x.toList = [] := fun e => by
          rw [ByteArray.toList_eq, ← hxn] at e
          unfold od at e
          rw [if_neg (by omega)] at e
          exact dec_ne_nil _ e
        have hne2 : x.toList.isEmpty = false := by rw [Bool.eq_false_iff]; intro e; exact hne (List.isEmpty_iff.1 e)
        obtain ⟨sg, hsg⟩ : ∃ sg, decide (n < 0) = sg := ⟨_, rfl⟩
        have HE : Hid (R0 = .agg #[.bool sg, .string x, .int .i64 0]) := by show _ = _; rw [← HR0.out, hsg, ← hxd.out]; rfl
        clear HX hxn h0 h1 hb1 hn hxd
        go_wp2
        refine bodyPost_ret (v := .agg #[.bool sg, .string x, .int .i64 0]) (results_cell_row (by rfl) _ _ _ _ _ _ _ (by rfl) (hB1.set3 _ _ _) Tryz.underlying23 rfl sizeDec) rfl ⟨by rw [HE.out], b_set3 HB1.out (Nat.le_refl _) _ _ _⟩
    · have g0 : (k == 0) = false := beq_eq_false_iff_ne.2 hk
      have hmod := tmod10 k
      obtain ⟨hq1, hq2, hq3⟩ := tdiv10 k
      obtain ⟨m, hm⟩ : ∃ m, k.natAbs % 10 = m := ⟨_, rfl⟩
      obtain ⟨d, hd⟩ : ∃ d, k.tmod 10 = d := ⟨_, rfl⟩
      obtain ⟨q, hq⟩ : ∃ q, k.tdiv 10 = q := ⟨_, rfl⟩
      rw [hm, hd] at hmod
      rw [hq] at hq1 hq2 hq3
      have hm10 : m < 10 := by omega
      have HM := Lib.hid hm
      have HMOD := Lib.hid hmod
      clear hm hmod
      go_upto_if 14 with fail
      go_cut [5] (fun s5 wx => wr = wx ∧ s5 = .int .i64 (m : Int))
      case first =>
        by_cases hk2 : k < 0
        · have hd2 : Hid (d = -(m : Int)) := by show _ = _; rw [HMOD.out, if_pos hk2]
          by_cases hm0 : m = 0
          · have hd0 : d = 0 := by rw [hd2.out, hm0]; rfl
            subst hd0 hm0
            clear hd2 HMOD hm10 HM
            go_wp2
            go_meet
            exact ⟨rfl, rfl⟩
          · have g1 : decide (d < 0) = true := decide_eq_true (by rw [hd2.out]; omega)
            have hdd : -d = (m : Int) := by rw [hd2.out]; omega
            clear HMOD HM
            go_wp2
            go_meet
            exact ⟨rfl, by first | rfl | rw [hdd]⟩
        · have hd2 : d = (m : Int) := by rw [HMOD.out, if_neg hk2]
          have g1 : decide ((m : Int) < 0) = false := decide_eq_false (by omega)
          subst hd2
          clear HMOD HM
          go_wp2
          go_meet
          exact ⟨rfl, rfl⟩
      case rest =>
        obtain ⟨rfl, rfl⟩ := hcut
        go_upto_region 8 with fail
        have hc1l : (⟨#[UInt8.ofNat (48 + m)]⟩ : ByteArray).data.toList = [UInt8.ofNat (48 + m)] := rfl
        have hcv : ∀ W : World, (convert 56 9 (.slice (some ⟨W.heap.size, 0, none⟩) 1 1)).run Tryz.prog (W.alloc (.cells #[.int .u8 (48 + (m : Int))] 5)) = .ok (.string ⟨#[UInt8.ofNat (48 + m)]⟩) (W.alloc (.cells #[.int .u8 (48 + (m : Int))] 5)) := fun W => by
          have h := run_convert_bytes_back (P := Tryz.prog) (W.alloc (.cells #[.int .u8 (48 + (m : Int))] 5)) 56 9 5 ⟨W.heap.size, 0, none⟩ 1 [UInt8.ofNat (48 + m)] Tryz.underlying56 Tryz.underlying5 Tryz.underlying9 (fun j hj => by
            obtain rfl : j = 0 := by simp at hj; omega
            have := (Blk.new W #[.int .u8 (48 + (m : Int))] 5).cell 0
            rw [show (⟨W.heap.size, 0, none⟩ : Addr).add 0 = ⟨W.heap.size, 0, none⟩ from rfl, this]
            show some (Value.int .u8 (48 + (m : Int))) = some (Value.int .u8 (((UInt8.ofNat (48 + m)).toNat : Nat) : Int))
            rw [show (UInt8.ofNat (48 + m)).toNat = 48 + m from ofNat_dig (by omega)]
            rfl)
          exact h
        obtain ⟨c1, hc1⟩ : ∃ c : ByteArray, (⟨#[UInt8.ofNat (48 + m)]⟩ : ByteArray) = c := ⟨_, rfl⟩
        rw [hc1] at hc1l
        simp only [hc1] at hcv
        have hc1s : c1.size = 1 := by rw [← size_list', hc1l]; rfl
        have hxs : x.size ≤ 20 := HX.out.2
        have hsum : ¬ 9223372036854775807 < c1.size + x.size := by have := HX.out.2; omega
        obtain ⟨y, hy⟩ : ∃ y, c1 ++ x = y := ⟨_, rfl⟩
        have hX2 : Hid (od n.natAbs = od q.natAbs ++ y.data.toList ∧ y.size ≤ 20) := by
          have e1 : od n.natAbs = od q.natAbs ++ y.data.toList := by
            rw [HX.out.1, od_step k.natAbs (by omega), HM.out, hq1, ← hy, app_list', hc1l, List.append_assoc]
          refine ⟨e1, ?_⟩
          have h5 := HL.out
          rw [e1, List.length_append, size_list'] at h5
          omega
        have hq0 : -9223372036854775808 ≤ q := by omega
        have hq9 : q ≤ 9223372036854775807 := by omega
        have hqm : q.natAbs < k.natAbs := by omega
        clear hc1 hc1l HX HM HMOD hq1 hq2 hq3 hc1s
        go_wp2
        go_roundw
        case rel => exact ⟨y, q, rfl, rfl, hq0, hq9, hX2, b_alloc hb1, hB1.alloc _⟩
        case measure => simp [intOf]; omega
end Dc
end Go.Proofs.YthnpbkplcboejaaGreatDoor
