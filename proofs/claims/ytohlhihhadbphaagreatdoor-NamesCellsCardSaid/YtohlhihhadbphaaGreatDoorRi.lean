/- The reference of names: Fresh, New. -/
import Derived.Test.YtohlhihhadbphaaGreatDoorRh
import Derived.Deep.RegionHeld3
set_option linter.unusedSimpArgs false
set_option linter.unusedVariables false
namespace Go.Proofs.YtohlhihhadbphaaGreatDoor
open Go.RowKit Go.Shelf Go.Lib Go.Maps
namespace Np
theorem b_step {A B C : World} (h2 : Below B.heap.size B C) (h1 : Below A.heap.size A B) : Below A.heap.size A C := h1.trans (h2.mono h1.size)
theorem b_alloc {A B : World} {o : Obj} (h1 : Below A.heap.size A B) : Below A.heap.size A (B.alloc o) := h1.alloc h1.size _
theorem b_drew {A B : World} (h1 : Below A.heap.size A B) : Below A.heap.size A B.drew := ⟨h1.os, h1.tape, h1.output, h1.size, h1.block⟩
set_option maxRecDepth 100000 in
set_option maxHeartbeats 2000000 in
theorem rFresh_any (Bm : Nat) (nms : List Name) (sps : List ByteArray) (sp : ByteArray) (A : Nat → Prop) (aa : Option Addr) (ca : Nat) (av : List Name) (w : World) (hM : MSt w Bm nms sps) (hV : RwN A w aa av) (hA : ∀ b, A b → b < w.heap.size) (hl : nms.length + av.length ≤ 900000) :
    Calls Tryz.prog 85 #[.pointer (some ⟨Bm, 0, none⟩), .string sp, .slice aa av.length ca] w fun e w' => e = .returned (fresh nms av sp).val ∧ Below w.heap.size w w' := by
  obtain ⟨j, hj, hjf⟩ := fresh_free nms av sp
  have Hj := Lib.hid hjf
  obtain ⟨res, hres⟩ : ∃ r, fresh nms av sp = r := ⟨_, rfl⟩
  rw [hres]
  have Hres := Lib.hid hres
  have hBm := hM.lt
  obtain ⟨W1, hW1⟩ : ∃ W1, w.alloc (.cells #[.string ⟨#[]⟩, .string ⟨#[]⟩] 23) = W1 := ⟨_, rfl⟩
  have hb1 : Below w.heap.size w W1 := by rw [← hW1]; exact (Below.refl _ w).alloc (Nat.le_refl _) _
  have BR : Blk W1 w.heap.size #[.string ⟨#[]⟩, .string ⟨#[]⟩] 23 := by rw [← hW1]; exact Blk.new _ _ _
  have hs1 : w.heap.size < W1.heap.size := BR.lt
  have hM1 := hM.later hb1
  have hV1 := hV.later hA hb1
  clear hres hjf
  go_enter Tryz.func85, Tryz.ntmps85
  go_wp2
  go_loopw [7] (fun i wr => ∃ k : Nat, k ≤ j ∧ i = .int .i64 k ∧ Hid (∀ i, i < k → takenN nms av sp i = true) ∧ Below W1.heap.size W1 wr) (fun i _ => j + 1 - (intOf i).toNat)
  case atStart => exact ⟨0, by omega, rfl, Lib.hid (fun i hi => by omega), Below.refl _ _⟩
  case round =>
    obtain ⟨k, hk, rfl, HI, hb⟩ := hrel
    try clear hW1
    have hbs := hb.size
    have hN := numbered_any xS k (by decide) (by omega) wr
    obtain ⟨nm, hnm⟩ : ∃ x, word xS k = x := ⟨_, rfl⟩
    rw [hnm, show (.string xS : Value) = .string ⟨#[120]⟩ from rfl] at hN
    have Hnm := Lib.hid hnm
    obtain ⟨v1, hv1⟩ : ∃ v, decide ((⟨sp, nm⟩ : Name) ∈ nms) = v := ⟨_, rfl⟩
    obtain ⟨v2, hv2⟩ : ∃ v, decide ((⟨sp, nm⟩ : Name) ∈ av) = v := ⟨_, rfl⟩
    have Ht : Hid (takenN nms av sp k = (v1 || v2)) := Lib.hid (by unfold takenN; rw [hnm, hv1, hv2])
    clear hnm
    go_wp2_with (go_at_call 101; refine hN.mono ?_)
    rintro e w2 ⟨rfl, hb2⟩
    have hB2 := hb.trans (hb2.mono hbs)
    obtain ⟨W3, hW3⟩ : ∃ W3, w2.alloc (.cells #[.string sp, .string nm] 23) = W3 := ⟨_, rfl⟩
    have hb3 : Below w2.heap.size w2 W3 := by rw [← hW3]; exact (Below.refl _ w2).alloc (Nat.le_refl _) _
    have BN : Blk W3 w2.heap.size #[.string sp, .string nm] 23 := by rw [← hW3]; exact Blk.new _ _ _
    have hs3 : w2.heap.size < W3.heap.size := BN.lt
    have hB3 := hB2.trans (hb3.mono hB2.size)
    have hB3s := hB3.size
    have hM3 := hM1.later hB3
    have hV3 := hV1.later (fun b h => by have := hA b h; omega) hB3
    obtain ⟨a0, k0, a1, k1, BM, ⟨h0, h1⟩, ⟨h2, h3⟩, hRN, hRS⟩ := hM3.ex
    have p0 := fun w' (h : Below W3.heap.size W3 w') => (BM.below h).cell 0
    have n0 := fun w' (h : Below W3.heap.size W3 w') => (BN.below h).cell 0
    have n1 := fun w' (h : Below W3.heap.size W3 w') => (BN.below h).cell 1
    simp only [List.getElem?_toArray, List.getElem?_cons_zero, List.getElem?_cons_succ] at p0 n0 n1
    have hH1 := fun w5 (hb5 : Below W3.heap.size W3 w5) => has_any (fun b => Bm < b ∧ b < W3.heap.size) a0 k0 nms ⟨sp, nm⟩ w5 (hRN.later (fun b h => h.2) hb5) (fun b h => Nat.lt_of_lt_of_le h.2 hb5.size)
    have hH2 := fun w5 (hb5 : Below W3.heap.size W3 w5) => has_any A aa ca av ⟨sp, nm⟩ w5 (hV3.later (fun b h => by have := hA b h; omega) hb5) (fun b h => by have := hA b h; have := hb5.size; omega)
    simp only [hv1] at hH1
    simp only [hv2] at hH2
    unfold Name.val at hH1 hH2
    have HW3 := Lib.hid hW3
    clear hv1 hv2 hW3 hN
    go_upto_region 4 with (fail)
    rw [HW3.out]
    cases v1
    · cases v2
      · have Hf : Hid (res = ⟨sp, nm⟩) := Lib.hid (by
          rw [← Hres.out, ← Hnm.out]
          unfold fresh
          rw [ff_is (takenN nms av sp) _ k (by omega) Ht.out HI.out])
        go_region_held3 (fun w' => Below W3.heap.size W3 w') (first | assumption | exact b_drew (Below.refl _ _) | exact b_step hb6 (b_step hb5 (b_drew (Below.refl _ _))) | exact b_step hb5 (b_drew (Below.refl _ _)))
          (first
            | (go_at_call 68; (with_reducible refine (hH1 _ (by assumption)).mono ?_); rintro e w5 ⟨rfl, hb5⟩)
            | (go_at_call 68; (with_reducible refine (hH2 _ (by assumption)).mono ?_); rintro e w6 ⟨rfl, hb6⟩))
        have hH6 : Below W3.heap.size W3 w6 := by assumption
        have m0 := n0 w6 hH6
        have m1 := n1 w6 hH6
        have hB6 := hB3.trans (hH6.mono hB3s)
        have BR6 : Blk w6 w.heap.size #[.string ⟨#[]⟩, .string ⟨#[]⟩] 23 := (hB6.block _ hs1).trans BR
        have e0 := BR6.cell 0
        have e1 := BR6.cell 1
        have f0 := BR6.frozen 0
        have f1 := BR6.frozen 1
        have q := (BR6.set 0 (by simp) (.string sp)).set 1 (by simp) (.string nm)
        simp only [List.setIfInBounds_toArray, List.set_cons_zero, List.set_cons_succ] at q
        have q0 := q.cell 0
        have q1 := q.cell 1
        simp only [List.getElem?_toArray, List.getElem?_cons_zero, List.getElem?_cons_succ] at e0 e1 q0 q1
        clear p0 n0 n1 hH1 hH2
        go_wp2
        refine bodyPost_ret (v := .agg #[.string sp, .string nm]) ?_ rfl ⟨by rw [Hf.out]; rfl, ?_⟩
        · simp [results, Tryz.f85, go_sem, q0, q1]
        · exact ((hb1.trans (hB6.mono (by omega))).setCell (p := ⟨w.heap.size, 0, none⟩) (by simp) _).setCell (p := ⟨w.heap.size, 1, none⟩) (by simp) _
      · go_region_held3 (fun w' => Below W3.heap.size W3 w') (first | assumption | exact b_drew (Below.refl _ _) | exact b_step hb6 (b_step hb5 (b_drew (Below.refl _ _))) | exact b_step hb5 (b_drew (Below.refl _ _)))
          (first
            | (go_at_call 68; (with_reducible refine (hH1 _ (by assumption)).mono ?_); rintro e w5 ⟨rfl, hb5⟩)
            | (go_at_call 68; (with_reducible refine (hH2 _ (by assumption)).mono ?_); rintro e w6 ⟨rfl, hb6⟩))
        have hH6 : Below W3.heap.size W3 w6 := by assumption
        have hkj : k < j := by
          rcases Nat.lt_or_ge k j with h | h
          · exact h
          · exfalso
            obtain rfl : k = j := by omega
            have h1 := Ht.out
            rw [Hj.out] at h1; cases h1
        have H2 : Hid (∀ i, i < k + 1 → takenN nms av sp i = true) := Lib.hid (fun i hi => by
          by_cases h : i = k
          · rw [h, Ht.out]; rfl
          · exact HI.out i (by omega))
        clear p0 n0 n1 hH1 hH2
        go_wp2
        go_roundw
        case rel =>
          first
            | exact ⟨k + 1, by omega, by go_num, H2, hB3.trans (hH6.mono hB3s)⟩
            | ((repeat apply Exists.intro); exact ⟨⟨k + 1, by omega, by go_num, H2, hB3.trans (hH6.mono hB3s)⟩, rfl⟩)
        case measure =>
          have e3 : ((k : Int) + 1).toNat = k + 1 := by omega
          simp only [intOf, e3, Int.toNat_natCast]
          omega
    · have p0' := p0 W3 (Below.refl _ _)
      have n0' := n0 W3 (Below.refl _ _)
      have n1' := n1 W3 (Below.refl _ _)
      have hH1d := hH1 W3.drew (b_drew (Below.refl _ _))
      first
        | go_region_with (go_at_call 68; refine hH1d.mono ?_; rintro e w5 ⟨rfl, hb5⟩)
        | fail
      all_goals
        have hH6 : Below W3.heap.size W3 w5 := b_step hb5 (b_drew (Below.refl _ _))
        have hkj : k < j := by
          rcases Nat.lt_or_ge k j with h | h
          · exact h
          · exfalso
            obtain rfl : k = j := by omega
            have h1 := Ht.out
            rw [Hj.out] at h1; cases h1
        have H2 : Hid (∀ i, i < k + 1 → takenN nms av sp i = true) := Lib.hid (fun i hi => by
          by_cases h : i = k
          · rw [h, Ht.out]; rfl
          · exact HI.out i (by omega))
        clear p0 n0 n1 hH1 hH2
        go_wp2
        go_roundw
        case rel =>
          first
            | exact ⟨k + 1, by omega, by go_num, H2, hB3.trans (hH6.mono hB3s)⟩
            | ((repeat apply Exists.intro); exact ⟨⟨k + 1, by omega, by go_num, H2, hB3.trans (hH6.mono hB3s)⟩, rfl⟩)
        case measure =>
          have e3 : ((k : Int) + 1).toNat = k + 1 := by omega
          simp only [intOf, e3, Int.toNat_natCast]
          omega
end Np
end Go.Proofs.YtohlhihhadbphaaGreatDoor
