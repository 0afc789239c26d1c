/- Decimal, the reference: zeros, Text. -/
import Derived.Test.YthnpbkplcboejaaGreatDoorEd
import Derived.Test.YthnpbkplcboejaaGreatDoorDp
set_option linter.unusedSimpArgs false
set_option linter.unusedVariables false
namespace Go.Proofs.YthnpbkplcboejaaGreatDoor
open Go.RowKit Go.Shelf
namespace Dc
/-- So many zeros. -/
def zs (k : Nat) : ByteArray := ⟨(List.replicate k (48 : UInt8)).toArray⟩
theorem zs_list (k : Nat) : (zs k).data.toList = List.replicate k 48 := by unfold zs; simp
theorem zs_size (k : Nat) : (zs k).size = k := by rw [← size_list', zs_list, List.length_replicate]
theorem bytes_eq {a b : ByteArray} (h : a.data.toList = b.data.toList) : a = b := by rw [← mk_toList a, h, mk_toList]
theorem zs_succ (k : Nat) : zs k ++ ⟨#[48]⟩ = zs (k + 1) := bytes_eq (by
  rw [app_list', zs_list, zs_list, List.replicate_succ'])
set_option maxHeartbeats 1000000 in
theorem rzeros_any (n : Nat) (hn : n ≤ 2000) (w : World) :
    Calls Tryz.prog 41 #[.int .i64 (n : Int)] w fun e w' => e = .returned (.string (zs n)) ∧ w = w' := by
  have hz0 : (⟨#[]⟩ : ByteArray) = zs 0 := rfl
  have HZ := Lib.hid hz0
  clear hz0
  go_enter Tryz.func41, Tryz.ntmps41
  go_wp2
  go_loop [3, 4] (fun s i => ∃ (k : Nat) (x : ByteArray), k ≤ n ∧ s = .string x ∧ i = .int .i64 (k : Int) ∧ Hid (x = zs k)) (fun _ i => n - (intOf i).toNat)
  case atStart => exact ⟨0, ⟨#[]⟩, Nat.zero_le _, rfl, rfl, rfl⟩
  case round =>
    obtain ⟨k, x, hk, rfl, rfl, HX⟩ := hrel
    by_cases hlt : k < n
    · have hxs : x.size = k := by rw [HX.out]; exact zs_size k
      have hs1 : ¬ 9223372036854775807 < x.size + 1 := by omega
      have hy : Hid (x ++ ⟨#[48]⟩ = zs (k + 1)) := by show _ = _; rw [HX.out]; exact zs_succ k
      clear hxs HX
      go_wp2
      go_round
      case rel => exact ⟨k + 1, _, by omega, rfl, by go_num, hy⟩
      case measure => simp [intOf]; omega
    · obtain rfl : k = n := by omega
      go_wp2
      go_ret
      exact ⟨by rw [HX.out]; rfl, rfl⟩
theorem text_wide (v : V) (x : ByteArray) (hx : x.data.toList = wide v) (h0 : ¬ 0 < v.s) : textL v = (if v.neg = true then [45] else []) ++ x.data.toList := by
  unfold textL
  rw [if_neg h0, hx, show v.s = 0 by omega, Nat.sub_zero, List.take_length, List.append_nil]
set_option maxRecDepth 100000 in
set_option maxHeartbeats 2000000 in
theorem rText_no (d : D) (hs : d.s.size ≤ maxLen) (hc : d.check = false) (w : World) :
    Calls Tryz.prog 10 #[d.val] w fun e w' => e = .returned (.tuple #[.string ⟨#[]⟩, .int .i64 2]) ∧ Below w.heap.size w w' := by
  have hC := fun W => rCheck_any d hs W
  rw [hc, if_neg Bool.false_ne_true] at hC
  rw [d_box] at hC ⊢
  obtain ⟨W1, hW1⟩ : ∃ W1, w.alloc (.cells #[.bool d.neg, .string d.s, .int .i64 d.sc] 23) = W1 := ⟨_, rfl⟩
  have hb1 : Below w.heap.size w W1 := by rw [← hW1]; exact (Below.refl _ w).alloc (Nat.le_refl _) _
  have hB1 : Blk W1 w.heap.size #[.bool d.neg, .string d.s, .int .i64 d.sc] 23 := by rw [← hW1]; exact Blk.new w _ _
  obtain ⟨d0, d1, d2, _, _, _⟩ := hB1.three
  have HB := Lib.hid hb1
  clear hc hs hB1 hb1
  go_enter Tryz.func10, Tryz.ntmps10
  go_wp2_with (go_at_call 12; refine (hC _).mono ?_; first | rintro e5 w5 rfl hb5 | rintro e5 w5 ⟨rfl, hb5⟩)
  go_ret2
  exact ⟨rfl, b_step hb5 HB.out⟩
set_option maxRecDepth 100000 in
set_option maxHeartbeats 4000000 in
theorem rText_ok (v : V) (hv : v.ok) (w : World) :
    Calls Tryz.prog 10 #[v.d.val] w fun e w' => e = .returned (.tuple #[.string ⟨(textL v).toArray⟩, .int .i64 0]) ∧ Below w.heap.size w w' := by
  have hlen := hv.len
  have hC := fun W => rCheck_any v.d (by show (decB v.n).size ≤ _; unfold maxLen; omega) W
  rw [V.check hv, if_pos rfl] at hC
  rw [V.d_val] at hC ⊢
  obtain ⟨W1, hW1⟩ : ∃ W1, w.alloc (.cells #[.bool v.neg, .string (decB v.n), .int .i64 (v.s : Int)] 23) = W1 := ⟨_, rfl⟩
  have hb1 : Below w.heap.size w W1 := by rw [← hW1]; exact (Below.refl _ w).alloc (Nat.le_refl _) _
  have hB1 : Blk W1 w.heap.size #[.bool v.neg, .string (decB v.n), .int .i64 (v.s : Int)] 23 := by rw [← hW1]; exact Blk.new w _ _
  have hs60 := hv.s
  obtain ⟨neg, n, s⟩ := v
  simp only at hC hW1 hb1 hB1 hlen hs60 ⊢
  obtain ⟨dg, hdg⟩ : ∃ dg, decB n = dg := ⟨_, rfl⟩
  have hdgl : dg.data.toList = dec n := by rw [← hdg]
  have hdl : (dec n).length = dg.size := by rw [← hdgl, size_list']
  rw [hdg] at hW1 hB1 hlen hC ⊢
  have hd1 : 0 < dg.size := by rw [← hdl]; exact List.length_pos_iff.2 (dec_ne_nil n)
  obtain ⟨x, hx⟩ : ∃ x : ByteArray, zs (s + 1 - dg.size) ++ dg = x := ⟨_, rfl⟩
  have hxl : x.data.toList = wide ⟨neg, n, s⟩ := by
    rw [← hx, app_list', zs_list, hdgl]; unfold wide; rw [hdl]
  have hxs : x.size = (s + 1 - dg.size) + dg.size := by rw [← size_list', ← hx, app_list', List.length_append, zs_list, List.length_replicate, size_list']
  obtain ⟨d0, d1, d2, _, _, _⟩ := hB1.three
  have HB := Lib.hid hb1
  have HBl := Lib.hid hB1
  have HXL := Lib.hid hxl
  clear hv hb1 hdg hdgl hdl hB1
  go_enter Tryz.func10, Tryz.ntmps10
  go_wp2_with (go_at_call 12; refine (hC _).mono ?_)
  first | rintro e5 w5 rfl hb5 | rintro e5 w5 ⟨rfl, hb5⟩
  have hB5 := HBl.out.below HBl.out.lt hb5
  have HB5 := Lib.hid (b_step hb5 HB.out)
  clear d0 d1 d2 hb5 hW1 HBl
  obtain ⟨d0, d1, d2, _, _, _⟩ := hB5.three
  clear hB5 hC
  go_upto_region 4 with fail
  go_cut [14] (fun s14 wx => w5 = wx ∧ s14 = .bool (decide (dg.size ≤ s)))
  case first =>
    have g0 : decide ((dg.size : Int) ≤ (s : Int)) = decide (dg.size ≤ s) := by by_cases h : dg.size ≤ s <;> simp [h]
    go_wp2
    go_meet
    exact ⟨rfl, by simp⟩
  case rest =>
    obtain ⟨rfl, rfl⟩ := hcut
    go_upto_if 14 with fail
    go_cut [4] (fun s4 wx => w5 = wx ∧ s4 = .string x)
    case first =>
      by_cases hle : dg.size ≤ s
      · obtain ⟨k, hk⟩ : ∃ k, s + 1 - dg.size = k := ⟨_, rfl⟩
        have hZ := fun W => rzeros_any k (by omega) W
        have hk' : (s : Int) - (dg.size : Int) + 1 = (k : Int) := by omega
        rw [hk] at hx
        have hzs := zs_size k
        have hsum : ¬ 9223372036854775807 < (zs k).size + dg.size := by omega
        obtain ⟨z, hz⟩ : ∃ z, zs k = z := ⟨_, rfl⟩
        rw [hz] at hZ hx hsum
        have g0 : decide (dg.size ≤ s) = true := decide_eq_true hle
        clear hz hzs hk HXL
        go_wp2_with (go_at_call 41; refine (hZ _).mono ?_; rintro e w' ⟨rfl, rfl⟩)
        go_meet
        exact ⟨rfl, by first | rfl | rw [hx]⟩
      · have g0 : decide (dg.size ≤ s) = false := decide_eq_false hle
        have hxd : dg = x := by
          rw [← hx, show s + 1 - dg.size = 0 by omega]
          exact bytes_eq (by rw [app_list', zs_list]; rfl)
        have HXD := Lib.hid hxd
        clear hxd HXL hx
        go_wp2
        go_meet
        exact ⟨rfl, by rw [← HXD.out]⟩
    case rest =>
      obtain ⟨rfl, rfl⟩ := hcut
      by_cases h0 : 0 < s
      · obtain ⟨p, hp⟩ : ∃ p, x.size - s = p := ⟨_, rfl⟩
        have hp' : (x.size : Int) - (s : Int) = (p : Int) := by omega
        have hw : IntKind.i64.wrap ((x.size : Int) - (s : Int)) = (p : Int) := by rw [hp']; exact IntWalk.i64_in _ (by omega)
        have hpx : p ≤ x.size := by omega
        have hx121 : x.size ≤ 200 := by omega
        have g0 : decide (0 < (s : Int)) = true := decide_eq_true (by omega)
        have g0n : decide (0 < s) = true := decide_eq_true h0
        obtain ⟨fr, hfr⟩ : ∃ fr, x.extract 0 p = fr := ⟨_, rfl⟩
        obtain ⟨bk, hbk⟩ : ∃ bk, x.extract p x.size = bk := ⟨_, rfl⟩
        have hfl : fr.data.toList = (wide ⟨neg, n, s⟩).take p := by rw [← hfr, Lib.extract_data, List.drop_zero, HXL.out]; simp
        have hbl : bk.data.toList = (wide ⟨neg, n, s⟩).drop p := by rw [← hbk, Lib.extract_to_end, HXL.out]
        have hwl : (wide ⟨neg, n, s⟩).length = x.size := by rw [← HXL.out, size_list']
        have hfs : fr.size ≤ 200 := by rw [← size_list', hfl, List.length_take]; omega
        have hbs : bk.size ≤ 200 := by rw [← size_list', hbl, List.length_drop]; omega
        obtain ⟨y1, hy1⟩ : ∃ y, fr ++ ⟨#[46]⟩ = y := ⟨_, rfl⟩
        have hy1l : y1.data.toList = fr.data.toList ++ [46] := by rw [← hy1, app_list']
        have hy1s : y1.size ≤ 201 := by rw [← size_list', hy1l, List.length_append, size_list']; simp; omega
        obtain ⟨y, hy⟩ : ∃ y, y1 ++ bk = y := ⟨_, rfl⟩
        have hyl : y.data.toList = fr.data.toList ++ 46 :: bk.data.toList := by rw [← hy, app_list', hy1l]; simp
        have hys : y.size ≤ 401 := by rw [← size_list', hyl, List.length_append, List.length_cons, size_list', size_list']; omega
        have HT : Hid (textL ⟨neg, n, s⟩ = (if neg = true then [45] else []) ++ y.data.toList) := by
          show _ = _
          unfold textL
          simp only []
          rw [if_pos h0, hwl, hp, hyl, hfl, hbl]
        have s1 : ¬ 9223372036854775807 < fr.size + 1 := by omega
        have s2 : ¬ 9223372036854775807 < y1.size + bk.size := by omega
        have s3 : ¬ 9223372036854775807 < 1 + y.size := by omega
        clear hp hfl hbl hwl hy1l hyl hx hxs HXL hlen hd1 hp' h0
        go_upto_region 7 with fail
        go_region
        all_goals
          cases neg with
          | true =>
            go_wp2
            go_ret2
            exact ⟨str_eq (by rw [app_list']; show _ = textL _; rw [HT.out]; rfl), b_drew HB5.out⟩
          | false =>
            go_wp2
            go_ret2
            exact ⟨str_eq (by show _ = textL _; rw [HT.out]; rfl), b_drew HB5.out⟩
      · have g0 : decide (0 < (s : Int)) = false := decide_eq_false (by omega)
        have g0n : decide (0 < s) = false := decide_eq_false h0
        have hx121 : x.size ≤ 200 := by omega
        have s3 : ¬ 9223372036854775807 < 1 + x.size := by omega
        have HT : Hid (textL ⟨neg, n, s⟩ = (if neg = true then [45] else []) ++ x.data.toList) := text_wide ⟨neg, n, s⟩ x HXL.out h0
        clear hx hxs HXL hlen hd1 h0
        cases neg with
        | true =>
          go_wp2
          go_ret2
          exact ⟨str_eq (by rw [app_list']; show _ = textL _; rw [HT.out]; rfl), HB5.out⟩
        | false =>
          go_wp2
          go_ret2
          exact ⟨str_eq (by show _ = textL _; rw [HT.out]; rfl), HB5.out⟩
end Dc
end Go.Proofs.YthnpbkplcboejaaGreatDoor
