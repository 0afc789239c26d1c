/- Decimal, the reference: digits, bare, made. -/
import Derived.Test.YthnpbkplcboejaaDoorDo
set_option linter.unusedSimpArgs false
set_option linter.unusedVariables false
namespace Go.Proofs.YthnpbkplcboejaaDoor
open Go.RowKit Go.Shelf
namespace Dc
def strLen : Value → Nat
  | .string s => s.size
  | _ => 0
theorem neq_empty (s : ByteArray) : (s.toList.isEmpty) = s.data.toList.isEmpty := by rw [ByteArray.toList_eq]
set_option maxHeartbeats 1000000 in
theorem rdigits_any (s : ByteArray) (hs : s.size ≤ maxLen) (w : World) :
    Calls Tryd.prog 55 #[.string s] w fun e w' => e = .returned (.bool (digs s.data.toList && !s.data.toList.isEmpty)) ∧ w = w' := by
  unfold maxLen at hs
  have hem := neq_empty s
  obtain ⟨b, hb⟩ : ∃ b, s.data.toList.isEmpty = b := ⟨_, rfl⟩
  rw [hb] at hem ⊢
  clear hb
  go_enter Tryd.func55, Tryd.ntmps55
  go_wp2
  go_loop [3] (fun i => ∃ k : Nat, k ≤ s.size ∧ i = .int .i64 k ∧ Hid (digs (s.data.toList.take k) = true)) (fun i => s.size - (intOf i).toNat)
  case atStart => exact ⟨0, Nat.zero_le _, rfl, rfl⟩
  case round =>
    obtain ⟨k, hk, rfl, H⟩ := hrel
    by_cases hlt : k < s.size
    · obtain ⟨c, hc⟩ : ∃ c, s[k] = c := ⟨_, rfl⟩
      have hcl : s.data.toList[k]'(by rw [size_list']; exact hlt) = c := (get_list' s k hlt).trans hc
      have HC := Lib.hid hcl
      clear hcl
      by_cases h1 : c.toNat < 48
      · have hno : Hid (digs s.data.toList = false) := by
          refine Bool.eq_false_iff.2 fun h => ?_
          have := digs_iff.1 h c (by rw [← HC.out]; exact List.getElem_mem _)
          omega
        have g1 : decide ((c.toNat : Int) < 48) = true := decide_eq_true (by omega)
        clear h1 hem
        go_wp2
        go_ret
        exact ⟨by rw [hno.out]; rfl, rfl⟩
      · have g1 : decide ((c.toNat : Int) < 48) = false := decide_eq_false (by omega)
        by_cases h2 : 57 < c.toNat
        · have hno : Hid (digs s.data.toList = false) := by
            refine Bool.eq_false_iff.2 fun h => ?_
            have := digs_iff.1 h c (by rw [← HC.out]; exact List.getElem_mem _)
            omega
          have g2 : decide (57 < (c.toNat : Int)) = true := decide_eq_true (by omega)
          clear h1 h2 hem
          go_wp2
          go_ret
          exact ⟨by rw [hno.out]; rfl, rfl⟩
        · have g2 : decide (57 < (c.toNat : Int)) = false := decide_eq_false (by omega)
          have hyes : Hid (digs (s.data.toList.take (k + 1)) = true) := by
            show _ = true
            rw [take_snoc' _ _ (by rw [size_list']; exact hlt), digs_append, H.out, Bool.true_and]
            refine digs_iff.2 fun x hx => ?_
            rw [List.mem_singleton, HC.out] at hx
            subst hx
            omega
          clear h1 h2
          go_wp2
          go_round
          case rel => exact ⟨k + 1, by omega, by go_num, hyes⟩
          case measure => simp [intOf]; omega
    · obtain rfl : k = s.size := by omega
      go_wp2
      go_ret
      exact ⟨by have := H.out; rw [List.take_of_length_le (by rw [size_list']; exact Nat.le_refl _)] at this; rw [this]; rfl, rfl⟩
theorem drop_one (u : ByteArray) : (u.extract 1 u.size).data.toList = u.data.toList.drop 1 := by rw [Lib.extract_to_end]
theorem get0 (u : ByteArray) (h : 0 < u.size) : ∃ r, u.data.toList = u[0] :: r := by
  have hl := size_list' u
  cases hu : u.data.toList with
  | nil => rw [hu] at hl; simp at hl; omega
  | cons a r =>
    refine ⟨r, ?_⟩
    have := get_list' u 0 h
    simp only [hu] at this
    rw [← this]; rfl
set_option maxHeartbeats 1000000 in
theorem bare_any (s : ByteArray) (hs : s.size ≤ maxLen) (h0 : 0 < s.size) (hd : digs s.data.toList = true) (w : World) :
    Calls Tryd.prog 74 #[.string s] w fun e w' => e = .returned (.string (decB (dv s.data.toList))) ∧ w = w' := by
  unfold maxLen at hs
  obtain ⟨n, hn⟩ : ∃ n, dv s.data.toList = n := ⟨_, rfl⟩
  rw [hn]
  have HS : Hid (0 < s.size ∧ s.size ≤ 9223372036854775807 ∧ digs s.data.toList = true ∧ dv s.data.toList = n) := ⟨h0, by omega, hd, hn⟩
  clear h0 hd hn hs
  go_enter Tryd.func74, Tryd.ntmps74
  go_wp2
  go_loop [0] (fun v => ∃ u : ByteArray, v = .string u ∧ Hid (0 < u.size ∧ u.size ≤ 9223372036854775807 ∧ digs u.data.toList = true ∧ dv u.data.toList = n)) (fun v => strLen v)
  case atStart => exact ⟨s, rfl, HS⟩
  case round =>
    clear HS
    obtain ⟨u, rfl, H⟩ := hrel
    obtain ⟨h0, h1, h2, h3⟩ := H.out
    obtain ⟨r, hr⟩ := get0 u h0
    obtain ⟨c, hc⟩ : ∃ c, u[0] = c := ⟨_, rfl⟩
    rw [hc] at hr
    have HR := Lib.hid hr
    have HD := Lib.hid h2
    have HN := Lib.hid h3
    have hlen := size_list' u
    rw [hr, List.length_cons] at hlen
    clear hr h2 h3
    by_cases hlt : 1 < u.size
    · have g0 : decide (1 < (u.size : Int)) = true := decide_eq_true (by omega)
      by_cases h48 : c.toNat = 48
      · have g1 : ((c.toNat : Int) == 48) = true := by rw [beq_iff_eq]; omega
        obtain ⟨u1, hu1⟩ : ∃ u1, u.extract 1 u.size = u1 := ⟨_, rfl⟩
        have hl1 : u1.data.toList = r := by rw [← hu1, drop_one, HR.out]; rfl
        have hs1 : u1.size + 1 = u.size := by rw [← size_list', hl1]; omega
        have hrel : Hid (0 < u1.size ∧ u1.size ≤ 9223372036854775807 ∧ digs u1.data.toList = true ∧ dv u1.data.toList = n) := by
          refine ⟨by omega, by omega, ?_, ?_⟩
          · rw [hl1]
            have := HD.out
            rw [HR.out] at this
            exact digs_iff.2 fun x hx => digs_iff.1 this x (by simp [hx])
          · rw [hl1, ← HN.out, HR.out, dv_cons, h48]; omega
        have hsz : u1.size < u.size := by omega
        clear h48 hl1 hs1 hlen
        go_wp2
        go_round
        case rel => exact ⟨u1, rfl, hrel⟩
        case measure => exact hsz
      · have g1 : ((c.toNat : Int) == 48) = false := by rw [beq_eq_false_iff_ne]; omega
        have hres : Hid (decB n = u) := by
          show _ = _
          have := eq_dec _ u.data.toList rfl HD.out (by rw [HR.out]; simp) (by rw [HR.out]; simp only [List.head?_cons, ne_eq, Option.some.injEq]; intro e; subst e; exact h48 rfl)
          rw [HN.out] at this
          show (⟨(dec n).toArray⟩ : ByteArray) = u
          rw [← this.1, mk_toList]
        clear h48 hlen
        go_wp2
        go_ret
        exact ⟨by rw [hres.out]; rfl, rfl⟩
    · have g0 : decide (1 < (u.size : Int)) = false := decide_eq_false (by omega)
      have hres : Hid (decB n = u) := by
        show (⟨(dec n).toArray⟩ : ByteArray) = u
        have hrn : r = [] := List.eq_nil_of_length_eq_zero (by omega)
        subst hrn
        have hcd := digs_iff.1 HD.out c (by rw [HR.out]; simp)
        have hnn : n = c.toNat - 48 := by rw [← HN.out, HR.out]; show 0 * 10 + (c.toNat - 48) = _; omega
        rw [← mk_toList u, HR.out, hnn, dec_small (by omega)]
        congr 3
        exact UInt8.toNat_inj.1 (by rw [ofNat_dig (by omega)]; omega)
      clear hlen
      go_wp2
      go_ret
      exact ⟨by rw [hres.out]; rfl, rfl⟩
theorem decB_size' (n : Nat) : (decB n).size = (dec n).length := by show (dec n).toArray.size = _; simp
theorem dec_size1 {m : Nat} : 1 < (decB m).size ↔ 10 ≤ m := by
  rw [decB_size']
  have := dec_len (n := m) (k := 1) (by decide)
  omega
theorem last48 (m : Nat) (h : 0 < (decB m).size) : (((decB m)[(decB m).size - 1]'(by omega)).toNat = 48) ↔ m % 10 = 0 := by
  have h1 := last_zero m
  have hl := decB_size' m
  rw [List.getLast?_eq_getElem?, List.getElem?_eq_getElem (by omega)] at h1
  have e : (decB m)[(decB m).size - 1]'(by omega) = (dec m)[(dec m).length - 1]'(by omega) := by
    show (dec m).toArray[(decB m).size - 1]'_ = _
    simp only [List.getElem_toArray, hl]
  rw [e]
  constructor
  · intro h2
    have : (dec m)[(dec m).length - 1]'(by omega) = 48 := UInt8.toNat_inj.1 h2
    rw [this] at h1
    simpa using h1.symm
  · intro h2
    rw [decide_eq_true h2] at h1
    have : (dec m)[(dec m).length - 1]'(by omega) = 48 := by simpa using h1
    rw [this]; rfl
end Dc
end Go.Proofs.YthnpbkplcboejaaDoor
