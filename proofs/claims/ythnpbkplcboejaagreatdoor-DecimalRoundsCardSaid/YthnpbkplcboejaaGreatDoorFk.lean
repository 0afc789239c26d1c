/- Decimal, the reference: times. -/
import Derived.Test.YthnpbkplcboejaaGreatDoorFg
set_option linter.unusedSimpArgs false
set_option linter.unusedVariables false
namespace Go.Proofs.YthnpbkplcboejaaGreatDoor
open Go.RowKit Go.Shelf
namespace Dc
/-- What the outer loop of times knows: i digits of B are done. -/
structure Ti (a an : Nat) (B : List UInt8) (i : Nat) (s : ByteArray) : Prop where
  dig : digs s.data.toList = true
  pos : 0 < s.size
  len : s.size ≤ an + i + 1
  val : dv s.data.toList = a * dv (B.take i)
/-- What the inner one knows: a has been added k times. -/
structure Tk (a an : Nat) (B : List UInt8) (i k : Nat) (s : ByteArray) : Prop where
  dig : digs s.data.toList = true
  pos : 0 < s.size
  len : s.size ≤ an + i + 2
  val : dv s.data.toList = a * (dv (B.take i) * 10 + k)
theorem Ti.start (a an : Nat) (B : List UInt8) : Ti a an B 0 ⟨#[48]⟩ := ⟨by decide, by decide, by show 1 ≤ _; omega, by rw [List.take_zero, dv_nil, Nat.mul_zero]; rfl⟩
theorem Ti.zero {a an : Nat} {B : List UInt8} {i : Nat} {s : ByteArray} (h : Ti a an B i s) : Tk a an B i 0 (s ++ ⟨#[48]⟩) := by
  have e : (s ++ ⟨#[48]⟩ : ByteArray).data.toList = s.data.toList ++ [48] := by rw [app_list']
  have hz : (s ++ ⟨#[48]⟩ : ByteArray).size = s.size + 1 := by rw [← size_list', e, List.length_append, size_list']; rfl
  refine ⟨?_, by omega, by have := h.len; omega, ?_⟩
  · rw [e, digs_append, h.dig]; rfl
  · rw [e, dv_snoc, h.val, show (48 : UInt8).toNat - 48 = 0 from rfl, Nat.add_zero, Nat.add_zero, Nat.mul_assoc]
theorem take_lt {B : List UInt8} (hB : digs B = true) (i : Nat) : dv (B.take i) < 10 ^ i := by
  have h1 : digs (B.take i) = true := digs_iff.2 fun c hc => digs_iff.1 hB c (List.mem_of_mem_take hc)
  have h2 := dv_lt h1
  rw [List.length_take] at h2
  exact Nat.lt_of_lt_of_le h2 (Nat.pow_le_pow_right (by decide) (by omega))
theorem decB_digs (n : Nat) : digs (decB n).data.toList = true := digs_dec n
theorem decB_dv (n : Nat) : dv (decB n).data.toList = n := dv_dec n
theorem decB_pos (n : Nat) : 0 < (decB n).size := by rw [decB_size']; exact List.length_pos_iff.2 (dec_ne_nil n)
theorem decB_le {n k : Nat} (hk : 0 < k) (h : n < 10 ^ k) : (decB n).size ≤ k := by rw [decB_size']; exact (dec_len hk).2 h
theorem Tk.step {a an : Nat} {B : List UInt8} {i k : Nat} {s : ByteArray} (h : Tk a an B i k s) (ha : a < 10 ^ an) (hB : digs B = true) (hk : k < 9) : Tk a an B i (k + 1) (decB (dv s.data.toList + a)) := by
  have hv : dv s.data.toList + a = a * (dv (B.take i) * 10 + (k + 1)) := by rw [h.val, ← Nat.add_assoc, Nat.mul_add a _ 1, Nat.mul_one]
  refine ⟨decB_digs _, decB_pos _, ?_, by rw [decB_dv, hv]⟩
  have h1 := take_lt hB i
  have h2 : dv (B.take i) * 10 + (k + 1) < 10 ^ (i + 1) := by rw [Nat.pow_succ]; omega
  have h3 : a * (dv (B.take i) * 10 + (k + 1)) < 10 ^ (an + (i + 1)) := by
    rw [Nat.pow_add]
    exact Nat.mul_lt_mul_of_lt_of_le' ha (Nat.le_of_lt h2) (Nat.pos_of_ne_zero (by simp))
  rw [hv]
  exact Nat.le_trans (decB_le (by omega) h3) (by omega)
theorem Tk.next {a an : Nat} {B : List UInt8} {i k : Nat} {s : ByteArray} (h : Tk a an B i k s) {c : UInt8} (hc : B[i]? = some c) (hk : c.toNat = 48 + k) : Ti a an B (i + 1) s := by
  refine ⟨h.dig, h.pos, by have := h.len; omega, ?_⟩
  have : B.take (i + 1) = B.take i ++ [c] := by rw [List.take_add_one, hc]; rfl
  rw [this, dv_snoc, h.val, hk, Nat.add_sub_cancel_left]
set_option maxRecDepth 100000 in
set_option maxHeartbeats 4000000 in
theorem rtimes_any (a b : ByteArray) (ha : digs a.data.toList = true) (hb : digs b.data.toList = true) (ha0 : 0 < a.size) (hb0 : 0 < b.size) (hsa : a.size ≤ 200) (hsb : b.size ≤ 200) (w : World) :
    Calls Tryz.prog 50 #[.string a, .string b] w fun e w' => e = .returned (.string (decB (dv a.data.toList * dv b.data.toList))) ∧ Below w.heap.size w w' := by
  obtain ⟨n, hn⟩ : ∃ n, b.size = n := ⟨_, rfl⟩
  have hst := Ti.start (dv a.data.toList) a.size b.data.toList
  have HS := Lib.hid hst
  have HA := Lib.hid ha
  have HB := Lib.hid hb
  have HLT : Hid (dv a.data.toList < 10 ^ a.size) := by have h := dv_lt ha; rw [size_list'] at h; exact h
  have HN : Hid (b.data.toList.length = n) := by show _ = _; rw [size_list', hn]
  have hn2 : n ≤ 200 := by omega
  obtain ⟨r, hr⟩ : ∃ r, dv a.data.toList * dv b.data.toList = r := ⟨_, rfl⟩
  rw [hr]
  have HR := Lib.hid hr
  clear hst hr ha hb
  go_enter Tryz.func50, Tryz.ntmps50
  go_wp2
  go_loopw [5, 6] (fun s5 s6 wx => ∃ (s : ByteArray) (i : Nat), s5 = .string s ∧ s6 = .int .i64 (i : Int) ∧ i ≤ n ∧ Hid (Ti (dv a.data.toList) a.size b.data.toList i s) ∧ Below w.heap.size w wx) (fun _ s6 _ => n - (intOf s6).toNat)
  case atStart => exact ⟨⟨#[48]⟩, 0, rfl, rfl, Nat.zero_le _, HS, Below.refl _ w⟩
  case round =>
    clear HS
    obtain ⟨s, i, rfl, rfl, hi, HT, hbw⟩ := hrel
    have hss : s.size ≤ 402 := by have := HT.out.len; omega
    by_cases hlt : i < n
    · have hs1 : ¬ 9223372036854775807 < s.size + 1 := by omega
      obtain ⟨c, hc⟩ : ∃ c, b[i] = c := ⟨_, rfl⟩
      have hgc := get_some b i (by omega)
      rw [hc] at hgc
      have hcd := digs_iff.1 HB.out c (List.mem_of_getElem? hgc)
      obtain ⟨dg, hdg⟩ : ∃ dg, c.toNat = 48 + dg := ⟨c.toNat - 48, by omega⟩
      have hdg9 : dg ≤ 9 := by omega
      have HGC := Lib.hid hgc
      have HDG := Lib.hid hdg
      have hcI : (c.toNat : Int) = 48 + (dg : Int) := by omega
      obtain ⟨y, hy⟩ : ∃ y, s ++ ⟨#[48]⟩ = y := ⟨_, rfl⟩
      have HK0 : Hid (Tk (dv a.data.toList) a.size b.data.toList i 0 y) := by rw [← hy]; exact HT.out.zero
      have hB1 := Lib.hid hbw
      clear hgc hcd hdg HT hss hbw
      go_wp2
      go_loopw [5, 7] (fun s5 s7 wx => ∃ (x : ByteArray) (k : Nat), s5 = .string x ∧ s7 = .int .u8 (48 + (k : Int)) ∧ k ≤ dg ∧ Hid (Tk (dv a.data.toList) a.size b.data.toList i k x) ∧ Below w.heap.size w wx) (fun _ s7 _ => 57 - (intOf s7).toNat)
      case atStart => exact ⟨y, 0, by first | rfl | rw [hy], rfl, Nat.zero_le _, HK0, hB1.out⟩
      case round =>
        clear HK0 hB1
        obtain ⟨x, k, rfl, rfl, hk, HK, hbw⟩ := hrel
        by_cases hkd : k < dg
        · have g0 : decide (48 + (k : Int) < 48 + (dg : Int)) = true := decide_eq_true (by omega)
          have hP := fun W => rplus_any x a HK.out.dig HA.out HK.out.pos ha0 (by have := HK.out.len; omega) (by omega) W
          have HK2 : Hid (Tk (dv a.data.toList) a.size b.data.toList i (k + 1) (decB (dv x.data.toList + dv a.data.toList))) := HK.out.step HLT.out HB.out (by omega)
          obtain ⟨z, hz⟩ : ∃ z, decB (dv x.data.toList + dv a.data.toList) = z := ⟨_, rfl⟩
          rw [hz] at hP HK2
          have HBW := Lib.hid hbw
          clear hz HK hbw
          go_wp2_with (go_at_call 59; refine (hP _).mono ?_; first | rintro e w5 rfl hb5 | rintro e w5 ⟨rfl, hb5⟩)
          go_roundw
          case rel => exact ⟨z, k + 1, rfl, by first | rfl | go_num, by omega, HK2, b_step hb5 HBW.out⟩
          case measure => simp [intOf]; omega
        · obtain rfl : k = dg := by omega
          have g0 : decide (48 + (k : Int) < 48 + (k : Int)) = false := decide_eq_false (by omega)
          have HT2 : Hid (Ti (dv a.data.toList) a.size b.data.toList (i + 1) x) := HK.out.next HGC.out HDG.out
          clear HK
          go_wp2
          go_roundw
          case rel => exact ⟨x, i + 1, rfl, by first | rfl | go_num, by omega, HT2, hbw⟩
          case measure => simp [intOf]; omega
    · obtain rfl : i = n := by omega
      have hBa := fun W => bare_any s (by unfold maxLen; omega) HT.out.pos HT.out.dig W
      have hv : dv s.data.toList = r := by rw [HT.out.val, ← HR.out, List.take_of_length_le (by rw [HN.out]; omega)]
      rw [hv] at hBa
      clear hv HT HR
      go_wp2_with (go_at_call 65; refine (hBa _).mono ?_; rintro e w' ⟨rfl, rfl⟩)
      go_ret
      exact ⟨rfl, hbw⟩
end Dc
end Go.Proofs.YthnpbkplcboejaaGreatDoor
