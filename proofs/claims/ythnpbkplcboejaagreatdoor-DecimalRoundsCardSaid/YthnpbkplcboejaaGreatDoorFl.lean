/- Decimal, the reference: over. -/
import Derived.Test.YthnpbkplcboejaaGreatDoorFk
set_option linter.unusedSimpArgs false
set_option linter.unusedVariables false
namespace Go.Proofs.YthnpbkplcboejaaGreatDoor
open Go.RowKit Go.Shelf
namespace Dc
/-- What the loop of over knows: i digits of A are done. -/
structure Ov (b : Nat) (A : List UInt8) (i : Nat) (s : ByteArray) (r : Nat) : Prop where
  dig : digs s.data.toList = true
  len : s.size = i
  val : dv s.data.toList * b + r = dv (A.take i)
  lt : r < b
theorem Ov.start {b : Nat} (h : 0 < b) (A : List UInt8) : Ov b A 0 ⟨#[]⟩ 0 := ⟨rfl, rfl, by rw [List.take_zero, dv_nil]; show 0 * b + 0 = 0; omega, h⟩
theorem over_fit {b m k r : Nat} (h : k * b + r = m) (hm : m < 10 * b) : k < 10 := by
  by_cases hk : k < 10
  · exact hk
  · have : 10 * b ≤ k * b := Nat.mul_le_mul_right _ (by omega)
    omega
theorem Ov.step {b : Nat} {A : List UInt8} {i : Nat} {s : ByteArray} {r : Nat} (h : Ov b A i s r) {c : UInt8} (hc : A[i]? = some c) {k r' : Nat} (hk : k < 10) (hr : k * b + r' = r * 10 + (c.toNat - 48)) (hlt : r' < b) : Ov b A (i + 1) (s ++ ⟨#[UInt8.ofNat (48 + k)]⟩) r' := by
  have e : (s ++ ⟨#[UInt8.ofNat (48 + k)]⟩ : ByteArray).data.toList = s.data.toList ++ [UInt8.ofNat (48 + k)] := by rw [app_list']
  have hz : (s ++ ⟨#[UInt8.ofNat (48 + k)]⟩ : ByteArray).size = s.size + 1 := by rw [← size_list', e, List.length_append, size_list']; rfl
  refine ⟨?_, by rw [hz, h.len], ?_, hlt⟩
  · rw [e, digs_append, h.dig, Bool.true_and]
    refine digs_iff.2 fun x hx => ?_
    rw [List.mem_singleton] at hx; subst hx; rw [ofNat_dig hk]; omega
  · have ht : A.take (i + 1) = A.take i ++ [c] := by rw [List.take_add_one, hc]; rfl
    rw [ht, dv_snoc, e, dv_snoc, ofNat_dig hk, ← h.val, Nat.add_sub_cancel_left, Nat.add_mul]
    have e2 : (dv s.data.toList * b + r) * 10 = dv s.data.toList * 10 * b + r * 10 := by
      rw [Nat.add_mul, Nat.mul_assoc, Nat.mul_comm b 10, ← Nat.mul_assoc]
    rw [e2]; omega
theorem Ov.done {b : Nat} {A : List UInt8} {s : ByteArray} {r : Nat} (h : Ov b A A.length s r) : dv s.data.toList = dv A / b ∧ r = dv A % b := by
  have hv := h.val
  rw [List.take_length] at hv
  have hb : 0 < b := by have := h.lt; omega
  rw [← hv, Nat.add_comm, Nat.add_mul_div_right _ _ hb, Nat.div_eq_of_lt h.lt, Nat.add_mul_mod_self_right, Nat.mod_eq_of_lt h.lt]
  exact ⟨by omega, rfl⟩
theorem ext_one (a : ByteArray) (i : Nat) (h : i < a.size) : (a.extract i (i + 1)).data.toList = [a[i]] := by
  have h1 : i < a.data.toList.length := by rw [size_list']; exact h
  rw [Lib.extract_data, show i + 1 - i = 1 by omega, List.drop_eq_getElem_cons h1]
  rfl
/-- One digit, converted. -/
theorem conv_dig (m : Nat) (hm : m < 10) (W : World) : (convert 56 9 (.slice (some ⟨W.heap.size, 0, none⟩) 1 1)).run Tryz.prog (W.alloc (.cells #[.int .u8 (48 + (m : Int))] 5)) = .ok (.string ⟨#[UInt8.ofNat (48 + m)]⟩) (W.alloc (.cells #[.int .u8 (48 + (m : Int))] 5)) := by
  have h := run_convert_bytes_back (P := Tryz.prog) (W.alloc (.cells #[.int .u8 (48 + (m : Int))] 5)) 56 9 5 ⟨W.heap.size, 0, none⟩ 1 [UInt8.ofNat (48 + m)] Tryz.underlying56 Tryz.underlying5 Tryz.underlying9 (fun j hj => by
    obtain rfl : j = 0 := by simp at hj; omega
    have := (Blk.new W #[.int .u8 (48 + (m : Int))] 5).cell 0
    rw [show (⟨W.heap.size, 0, none⟩ : Addr).add 0 = ⟨W.heap.size, 0, none⟩ from rfl, this]
    show some (Value.int .u8 (48 + (m : Int))) = some (Value.int .u8 (((UInt8.ofNat (48 + m)).toNat : Nat) : Int))
    rw [show (UInt8.ofNat (48 + m)).toNat = 48 + m from ofNat_dig (by omega)]
    rfl)
  exact h
set_option maxRecDepth 100000 in
set_option maxHeartbeats 4000000 in
theorem rover_any (a b : ByteArray) (ha : digs a.data.toList = true) (hb : digs b.data.toList = true) (ha0 : 0 < a.size) (hb0 : 0 < b.size) (hsa : a.size ≤ 500) (hsb : b.size ≤ 500) (hbn : 0 < dv b.data.toList) (w : World) :
    Calls Tryz.prog 57 #[.string a, .string b] w fun e w' => e = .returned (.tuple #[.string (decB (dv a.data.toList / dv b.data.toList)), .string (decB (dv a.data.toList % dv b.data.toList))]) ∧ Below w.heap.size w w' := by
  obtain ⟨n, hn⟩ : ∃ n, a.size = n := ⟨_, rfl⟩
  have HA := Lib.hid ha
  have HB := Lib.hid hb
  have HN : Hid (a.data.toList.length = n) := by show _ = _; rw [size_list', hn]
  have HLB : Hid (dv b.data.toList < 10 ^ b.size) := by have h := dv_lt hb; rw [size_list'] at h; exact h
  have hn2 : n ≤ 500 := by omega
  have HBB : Hid (∀ (x : ByteArray) (q : Nat), x = decB q → x.size ≤ 600 → ∀ W, Calls Tryz.prog 54 #[.string x, .string b] W fun e w' => e = .returned (.bool (decide (q < dv b.data.toList))) ∧ W = w') := by
    intro x q hx hs W
    have := rless_any x b (by rw [hx]; exact decB_digs q) hb (by rw [hx]; exact decB_pos q) hb0 (by omega) (by omega) W
    rw [show dv x.data.toList = q by rw [hx]; exact decB_dv q] at this
    exact this
  have HMM : Hid (∀ (x : ByteArray) (q : Nat), x = decB q → x.size ≤ 600 → dv b.data.toList ≤ q → ∀ W, Calls Tryz.prog 74 #[.string x, .string b] W fun e w' => e = .returned (.string (decB (q - dv b.data.toList))) ∧ Below W.heap.size W w') := by
    intro x q hx hs hle W
    have hv : dv x.data.toList = q := by rw [hx]; exact decB_dv q
    have := rminus_any x b (by rw [hx]; exact decB_digs q) hb (by rw [hx]; exact decB_pos q) hb0 (by omega) (by omega) (by omega) W
    rw [hv] at this
    exact this
  obtain ⟨bv, hbv⟩ : ∃ bv, dv b.data.toList = bv := ⟨_, rfl⟩
  rw [hbv] at hbn HLB HBB HMM ⊢
  obtain ⟨r1, hr1⟩ : ∃ r, decB (dv a.data.toList / bv) = r := ⟨_, rfl⟩
  obtain ⟨r2, hr2⟩ : ∃ r, decB (dv a.data.toList % bv) = r := ⟨_, rfl⟩
  have hO := Ov.start hbn a.data.toList
  rw [hr1, hr2]
  have HR1 := Lib.hid hr1
  have HR2 := Lib.hid hr2
  have HO := Lib.hid hO
  have HBN := Lib.hid hbn
  have hd0 : (⟨#[48]⟩ : ByteArray) = decB 0 := congrArg (fun l => (⟨l.toArray⟩ : ByteArray)) dec_zero.symm
  have HD0 := Lib.hid hd0
  clear hr1 hr2 ha hb hbv hbn hO hd0
  go_enter Tryz.func57, Tryz.ntmps57
  go_wp2
  go_loopw [6, 7, 8] (fun s6 s7 s8 wx => ∃ (s x : ByteArray) (i : Nat), s6 = .string s ∧ s7 = .string x ∧ s8 = .int .i64 (i : Int) ∧ i ≤ n ∧ Hid (∃ r, x = decB r ∧ Ov bv a.data.toList i s r) ∧ Below w.heap.size w wx) (fun _ _ s8 _ => n - (intOf s8).toNat)
  case atStart => exact ⟨⟨#[]⟩, ⟨#[48]⟩, 0, rfl, rfl, rfl, Nat.zero_le _, ⟨0, HD0, HO⟩, Below.refl _ w⟩
  case round =>
    clear HO HD0
    obtain ⟨s, x, i, rfl, rfl, rfl, hi, HX, hbw⟩ := hrel
    obtain ⟨r, hx, hO⟩ := HX.out
    by_cases hlt : i < n
    · obtain ⟨c, hc⟩ : ∃ c, a[i] = c := ⟨_, rfl⟩
      have hgc := get_some a i (by omega)
      have hss : s.size = i := hO.len
      have hxs : x.size ≤ 500 := by rw [hx]; exact Nat.le_trans (decB_le hb0 (Nat.lt_trans hO.lt HLB.out)) hsb
      rw [hc] at hgc
      have hcd := digs_iff.1 HA.out c (List.mem_of_getElem? hgc)
      obtain ⟨t, ht⟩ : ∃ t, a.extract i (i + 1) = t := ⟨_, rfl⟩
      have htl : t.data.toList = [c] := by rw [← ht, ext_one a i (by omega), hc]
      have hts : t.size = 1 := by rw [← size_list', htl]; rfl
      have hs1 : ¬ 9223372036854775807 < x.size + t.size := by omega
      obtain ⟨y, hy⟩ : ∃ y, x ++ t = y := ⟨_, rfl⟩
      have hyl : y.data.toList = x.data.toList ++ [c] := by rw [← hy, app_list', htl]
      have hyd : digs y.data.toList = true := by
        rw [hyl, digs_append, hx, decB_digs, Bool.true_and]
        exact digs_iff.2 fun q hq => by rw [List.mem_singleton] at hq; subst hq; exact hcd
      have hyv : dv y.data.toList = r * 10 + (c.toNat - 48) := by rw [hyl, dv_snoc, hx, decB_dv]
      have hys : y.size = x.size + 1 := by rw [← size_list', hyl, List.length_append, size_list']; rfl
      have hBa := fun W => bare_any y (by unfold maxLen; omega) (by omega) hyd W
      obtain ⟨m, hm⟩ : ∃ m, r * 10 + (c.toNat - 48) = m := ⟨_, rfl⟩
      rw [hyv, hm] at hBa
      have hm10 : m < 10 * bv := by have := hO.lt; omega
      have HZ : Hid (∀ q, q ≤ m → (decB q).size ≤ 600) := by
        intro q hq
        refine Nat.le_trans (decB_le (k := b.size + 1) (by omega) ?_) (by omega)
        have := HLB.out
        rw [Nat.pow_succ]; omega
      obtain ⟨z, hz⟩ : ∃ z, decB m = z := ⟨_, rfl⟩
      rw [hz] at hBa
      have HK0 : Hid (∃ q, z = decB q ∧ 0 * bv + q = m) := ⟨m, hz.symm, by omega⟩
      have HGC := Lib.hid hgc
      have HM := Lib.hid hm
      have HM10 := Lib.hid hm10
      have HO := Lib.hid hO
      have HBW := Lib.hid hbw
      have hs500 : s.size ≤ 500 := by omega
      clear hgc hcd htl hyl hyd hyv hys hm hz hO HX hx hbw hm10 hss hxs hts
      go_wp2_with (go_at_call 65; refine (hBa _).mono ?_; rintro e w' ⟨rfl, rfl⟩)
      go_loopw [7, 9] (fun s7 s9 wx => ∃ (z : ByteArray) (k : Nat), s7 = .string z ∧ s9 = .int .u8 (48 + (k : Int)) ∧ k ≤ 9 ∧ Hid (∃ q, z = decB q ∧ k * bv + q = m) ∧ Below w.heap.size w wx) (fun _ s9 _ => 57 - (intOf s9).toNat)
      case atStart => exact ⟨z, 0, rfl, rfl, by omega, HK0, HBW.out⟩
      case round =>
        clear HK0 HBW hBa
        obtain ⟨z, k, rfl, rfl, hk, HK, hbw⟩ := hrel
        obtain ⟨q, hq, hqm⟩ := HK.out
        have hzs : z.size ≤ 600 := by rw [hq]; exact HZ.out q (by rw [← hqm]; exact Nat.le_add_left _ _)
        have hL := HBB.out z q hq hzs
        by_cases hqb : q < bv
        · rw [decide_eq_true hqb] at hL
          have hcv := conv_dig k (by omega)
          have hO2 := HO.out.step HGC.out (k := k) (by omega) (hqm.trans HM.out.symm) hqb
          obtain ⟨c1, hc1⟩ : ∃ c : ByteArray, (⟨#[UInt8.ofNat (48 + k)]⟩ : ByteArray) = c := ⟨_, rfl⟩
          rw [hc1] at hO2
          simp only [hc1] at hcv
          have hc1s : c1.size = 1 := by rw [← hc1]; rfl
          have hsum : ¬ 9223372036854775807 < s.size + c1.size := by omega
          obtain ⟨s2, hs2⟩ : ∃ s2, s ++ c1 = s2 := ⟨_, rfl⟩
          rw [hs2] at hO2
          have HX2 : Hid (∃ r, z = decB r ∧ Ov bv a.data.toList (i + 1) s2 r) := ⟨q, hq, hO2⟩
          have HBW := Lib.hid hbw
          clear hq hqm hqb HK hO2 hc1 hzs hc1s hbw
          go_wp2_with (go_at_call 54; refine (hL _).mono ?_; rintro e w' ⟨rfl, rfl⟩)
          go_roundw
          case rel => exact ⟨s2, z, i + 1, by first | rfl | rw [hs2], rfl, by first | rfl | go_num, by omega, HX2, b_alloc HBW.out⟩
          case measure => simp [intOf]; omega
        · rw [decide_eq_false hqb] at hL
          have hM := HMM.out z q hq hzs (by omega)
          have hk9 : k + 1 ≤ 9 := by
            have h1 : (k + 1) * bv + (q - bv) = m := by rw [Nat.add_mul, Nat.one_mul]; omega
            have := over_fit h1 HM10.out
            omega
          have HK2 : Hid (∃ p, decB (q - bv) = decB p ∧ (k + 1) * bv + p = m) := ⟨q - bv, rfl, by rw [Nat.add_mul, Nat.one_mul]; omega⟩
          obtain ⟨z2, hz2⟩ : ∃ z, decB (q - bv) = z := ⟨_, rfl⟩
          rw [hz2] at hM HK2
          have HBW := Lib.hid hbw
          clear hq hqm hqb HK hz2 hzs hbw
          go_wp2_with (first | (go_at_call 54; refine (hL _).mono ?_; rintro e w' ⟨rfl, rfl⟩) | (go_at_call 74; refine (hM _).mono ?_; first | rintro e w5 rfl hb5 | rintro e w5 ⟨rfl, hb5⟩))
          go_roundw
          case rel => exact ⟨z2, k + 1, rfl, by first | rfl | go_num, hk9, HK2, b_step hb5 HBW.out⟩
          case measure => simp [intOf]; omega
    · have hss : s.size = i := hO.len
      obtain rfl : i = n := by omega
      have hO3 : Ov bv a.data.toList a.data.toList.length s r := by rw [HN.out]; exact hO
      obtain ⟨h1, h2⟩ := hO3.done
      have hBa := fun W => bare_any s (by unfold maxLen; omega) (by omega) hO.dig W
      rw [h1, HR1.out] at hBa
      have hxr : x = r2 := by rw [hx, h2, HR2.out]
      subst hxr
      clear HX hx hO hO3 h1 h2 HR1 HR2
      go_wp2_with (go_at_call 65; refine (hBa _).mono ?_; rintro e w' ⟨rfl, rfl⟩)
      go_ret2
      exact ⟨rfl, hbw⟩
end Dc
end Go.Proofs.YthnpbkplcboejaaGreatDoor
