/- The reference of names: New, Candidates. -/
import Derived.Test.YtohlhihhadbphaaGreatDoorRi
set_option linter.unusedSimpArgs false
set_option linter.unusedVariables false
namespace Go.Proofs.YtohlhihhadbphaaGreatDoor
open Go.RowKit Go.Shelf Go.Lib Go.Maps
namespace Np
theorem hasS_snoc (l : List ByteArray) (k : Nat) (h : k < l.length) (x : ByteArray) : hasS (l.take (k + 1)) x = (hasS (l.take k) x || decide (l[k] = x)) := by
  rw [List.take_succ_eq_append_getElem h, hasS_append]
  simp [hasS]
set_option maxRecDepth 100000 in
set_option maxHeartbeats 2000000 in
theorem rNew_any (Bm : Nat) (nms : List Name) (sps : List ByteArray) (w : World) (hM : MSt w Bm nms sps) (hl : sps.length ≤ 900000) :
    Calls Tryz.prog 86 #[.pointer (some ⟨Bm, 0, none⟩)] w fun e w' => e = .returned (.string (newS sps)) ∧ Below w.heap.size w w' := by
  obtain ⟨j, hj, hjf⟩ := newS_free sps
  have Hj := Lib.hid hjf
  obtain ⟨res, hres⟩ : ∃ r, newS sps = r := ⟨_, rfl⟩
  rw [hres]
  have Hres := Lib.hid hres
  have hBm := hM.lt
  clear hres hjf
  go_enter Tryz.func86, Tryz.ntmps86
  go_wp2
  go_loopw [3] (fun i wr => ∃ k : Nat, k ≤ j ∧ i = .int .i64 k ∧ Hid (∀ i, i < k → takenS sps i = true) ∧ Below w.heap.size w wr) (fun i _ => j + 1 - (intOf i).toNat)
  case atStart => exact ⟨0, by omega, rfl, Lib.hid (fun i hi => by omega), Below.refl _ _⟩
  case round =>
    obtain ⟨k, hk, rfl, HI, hb⟩ := hrel
    have hbs := hb.size
    have hN := numbered_any uS k (by decide) (by omega) wr
    obtain ⟨nm, hnm⟩ : ∃ x, word uS k = x := ⟨_, rfl⟩
    rw [hnm, show (.string uS : Value) = .string ⟨#[117]⟩ from rfl] at hN
    have Hnm := Lib.hid hnm
    have Ht : Hid (takenS sps k = hasS sps nm) := Lib.hid (by unfold takenS; rw [hnm])
    clear hnm
    go_wp2_with (go_at_call 101; refine hN.mono ?_)
    rintro e w2 ⟨rfl, hb2⟩
    have hB2 := hb.trans (hb2.mono hbs)
    obtain ⟨a0, k0, a1, k1, BM, ⟨h0, h1⟩, ⟨h2, h3⟩, hRN, hRS⟩ := (hM.later hB2).ex
    have p1 := BM.cell 1
    simp only [List.getElem?_toArray, List.getElem?_cons_zero, List.getElem?_cons_succ] at p1
    clear hN
    go_wp2
    go_loop [5, 6] (fun is i => ∃ (b : Bool) (m : Nat), m ≤ sps.length ∧ is = .bool b ∧ i = .int .i64 m ∧ Hid (b = hasS (sps.take m) nm)) (fun _ i => sps.length - (intOf i).toNat)
    case atStart => exact ⟨false, 0, by omega, rfl, rfl, Lib.hid rfl⟩
    case round =>
      obtain ⟨b, m, hm, rfl, rfl, HB⟩ := hrel
      by_cases hlt : m < sps.length
      · have d1 : decide ((m : Int) < (sps.length : Int)) = true := decide_eq_true (by omega)
        have d2 : decide (m < sps.length) = true := decide_eq_true hlt
        obtain ⟨bb, o, hao, hbA, u0⟩ := rwS_at hRS hlt
        obtain ⟨x, hx⟩ : ∃ x, sps[m] = x := ⟨_, rfl⟩
        rw [hx] at u0
        have e1 : (x.toList == nm.toList) = decide (x = nm) := by rw [Bool.eq_iff_iff]; simp only [beq_iff_eq, decide_eq_true_eq, ba_inj]
        obtain ⟨b1, hb1'⟩ : ∃ b, decide (x = nm) = b := ⟨_, rfl⟩
        rw [hb1'] at e1
        have H2 : Hid ((b || b1) = hasS (sps.take (m + 1)) nm) := Lib.hid (by rw [hasS_snoc _ _ hlt, hx, hb1', ← HB.out])
        rw [hao] at p1
        have Hao := Lib.hid hao
        clear hx hb1' hao
        cases b
        · go_wp2
          go_round
          case rel =>
            first
              | exact ⟨b1, m + 1, by omega, rfl, by go_num, Lib.hid (by rw [← H2.out]; rfl)⟩
              | ((repeat apply Exists.intro); exact ⟨⟨b1, m + 1, by omega, rfl, by go_num, Lib.hid (by rw [← H2.out]; rfl)⟩, rfl⟩)
          case measure =>
            have e3 : ((m : Int) + 1).toNat = m + 1 := by omega
            simp only [intOf, e3, Int.toNat_natCast]
            omega
        · go_wp2
          go_round
          case rel =>
            first
              | exact ⟨true, m + 1, by omega, rfl, by go_num, Lib.hid (by rw [← H2.out]; rfl)⟩
              | ((repeat apply Exists.intro); exact ⟨⟨true, m + 1, by omega, rfl, by go_num, Lib.hid (by rw [← H2.out]; rfl)⟩, rfl⟩)
          case measure =>
            have e3 : ((m : Int) + 1).toNat = m + 1 := by omega
            simp only [intOf, e3, Int.toNat_natCast]
            omega
      · have d1 : decide ((m : Int) < (sps.length : Int)) = false := decide_eq_false (by omega)
        have d2 : decide (m < sps.length) = false := decide_eq_false hlt
        have HB2 : Hid (takenS sps k = b) := Lib.hid (by
          have h := HB.out
          rw [List.take_of_length_le (by omega)] at h
          rw [Ht.out, ← h])
        cases b
        · have Hf : Hid (nm = res) := Lib.hid (by
            rw [← Hres.out, ← Hnm.out]
            unfold newS
            rw [ff_is (takenS sps) _ k (by omega) HB2.out HI.out])
          go_wp2
          go_ret
          exact ⟨by rw [← Hf.out]; try rfl, hB2⟩
        · have hkj : k < j := by
            rcases Nat.lt_or_ge k j with h | h
            · exact h
            · exfalso
              obtain rfl : k = j := by omega
              have h1 := HB2.out
              rw [Hj.out] at h1; cases h1
          have H2 : Hid (∀ i, i < k + 1 → takenS sps i = true) := Lib.hid (fun i hi => by
            by_cases h : i = k
            · rw [h, HB2.out]
            · exact HI.out i (by omega))
          go_wp2
          go_roundw
          case rel =>
            first
              | exact ⟨k + 1, by omega, by go_num, H2, hB2⟩
              | ((repeat apply Exists.intro); exact ⟨⟨k + 1, by omega, by go_num, H2, hB2⟩, rfl⟩)
          case measure =>
            have e3 : ((k : Int) + 1).toNat = k + 1 := by omega
            simp only [intOf, e3, Int.toNat_natCast]
            omega
theorem fresh_asc (nms av : List Name) (sp : ByteArray) : fresh (asc cmpN nms) av sp = fresh nms av sp := by
  obtain ⟨j, hj, hf⟩ := fresh_free nms av sp
  have ht : takenN (asc cmpN nms) av sp = takenN nms av sp := by
    funext i; unfold takenN
    rw [show (decide ((⟨sp, word xS i⟩ : Name) ∈ asc cmpN nms)) = decide ((⟨sp, word xS i⟩ : Name) ∈ nms) by rw [decide_eq_decide]; exact mem_asc linN]
  obtain ⟨j2, hj2, hf2⟩ := fresh_free (asc cmpN nms) av sp
  unfold fresh
  rw [ht]
  rw [ht] at hf2
  obtain ⟨s1, _, s3, s4⟩ := ff_spec (takenN nms av sp) (nms.length + av.length) 0 j (Nat.zero_le _) (by omega) hf
  obtain ⟨r1, _, r3, r4⟩ := ff_spec (takenN nms av sp) ((asc cmpN nms).length + av.length) 0 j2 (Nat.zero_le _) (by omega) hf2
  have : ff (takenN nms av sp) ((asc cmpN nms).length + av.length) 0 = ff (takenN nms av sp) (nms.length + av.length) 0 := by
    rcases Nat.lt_trichotomy (ff (takenN nms av sp) ((asc cmpN nms).length + av.length) 0) (ff (takenN nms av sp) (nms.length + av.length) 0) with h | h | h
    · rw [s4 _ (Nat.zero_le _) h] at r1; cases r1
    · exact h
    · rw [r4 _ (Nat.zero_le _) h] at s1; cases s1
  rw [this]
theorem newS_asc (sps : List ByteArray) : newS (asc cmpS sps) = newS sps := by
  obtain ⟨j, hj, hf⟩ := newS_free sps
  have ht : takenS (asc cmpS sps) = takenS sps := by
    funext i; unfold takenS
    rw [Bool.eq_iff_iff, hasS_iff, hasS_iff]; exact mem_asc linS
  obtain ⟨j2, hj2, hf2⟩ := newS_free (asc cmpS sps)
  unfold newS
  rw [ht]
  rw [ht] at hf2
  obtain ⟨s1, _, s3, s4⟩ := ff_spec (takenS sps) sps.length 0 j (Nat.zero_le _) (by omega) hf
  obtain ⟨r1, _, r3, r4⟩ := ff_spec (takenS sps) (asc cmpS sps).length 0 j2 (Nat.zero_le _) (by omega) hf2
  have : ff (takenS sps) (asc cmpS sps).length 0 = ff (takenS sps) sps.length 0 := by
    rcases Nat.lt_trichotomy (ff (takenS sps) (asc cmpS sps).length 0) (ff (takenS sps) sps.length 0) with h | h | h
    · rw [s4 _ (Nat.zero_le _) h] at r1; cases r1
    · exact h
    · rw [r4 _ (Nat.zero_le _) h] at s1; cases s1
  rw [this]
end Np
end Go.Proofs.YtohlhihhadbphaaGreatDoor
