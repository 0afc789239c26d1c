/- Decimal: over's closure. -/
import Derived.Test.YthnpbkplcboejaaDoorDj
set_option linter.unusedSimpArgs false
set_option linter.unusedVariables false
namespace Go.Proofs.YthnpbkplcboejaaDoor
open Go.RowKit Go.Shelf
namespace Dc
/-- The two numbers that the closure captures. -/
structure KSt (w : World) (L Y : Nat) (l b : Nat) (W : World) : Prop where
  below : Below w.heap.size w W
  l : Blk W L (arr (numF l)) 56
  y : Blk W Y (arr (numF b)) 56
theorem KSt.step {w : World} {L Y l b : Nat} {W W' : World} (h : KSt w L Y l b W) (hb : Below W.heap.size W W') : KSt w L Y l b W' := ⟨b_step hb h.below, h.l.below h.l.lt hb, h.y.below h.y.lt hb⟩
theorem KSt.drew {w : World} {L Y l b : Nat} {W : World} (h : KSt w L Y l b W) : KSt w L Y l b W.drew := ⟨b_drew h.below, h.l, h.y⟩
set_option maxRecDepth 100000 in
set_option maxHeartbeats 4000000 in
theorem overP_any (n l b L Y : Nat) (hn : n < 1000000000) (hl : l < pw 20) (hb : 1000000000 * b < pw 20) (w w0 : World) (hK : KSt w0 L Y l b w) :
    Calls Tryd.prog 54 #[.int .i64 n, .pointer (some ⟨L, 0, none⟩), .pointer (some ⟨Y, 0, none⟩)] w fun e w' => e = .returned (.bool (decide (l < (n + 1) * b))) ∧ Below w.heap.size w w' := by
  have hK : KSt w L Y l b w := ⟨Below.refl _ _, hK.l, hK.y⟩
  have hnb : (n + 1) * b < pw 20 := Nat.lt_of_le_of_lt (Nat.mul_le_mul_right b (by omega)) hb
  have hnb0 := Lib.hid hnb
  have hT := fun W => times_one (n + 1) b (by omega) hnb W
  have hC := fun W => compare_any l ((n + 1) * b) hl hnb W
  have hB := built_nat (n + 1)
  have hord : (decide (ord l ((n + 1) * b) < 0)) = decide (l < (n + 1) * b) := by
    unfold ord
    by_cases h : l < (n + 1) * b
    · rw [if_pos h]; simp [h]
    · rw [if_neg h]; split <;> simp [h]
  obtain ⟨q, hq⟩ : ∃ q, (n + 1) * b = q := ⟨_, rfl⟩
  rw [hq] at hC hord
  simp only [hq] at hT ⊢
  obtain ⟨m, hm⟩ : ∃ m, n + 1 = m := ⟨_, rfl⟩
  simp only [hm] at hT hB
  have hw : IntKind.i64.wrap ((n : Int) + 1) = (m : Int) := by rw [IntWalk.i64_in _ (by omega)]; omega
  have hu := underNum
  have HT := Lib.hid hT
  have HC := Lib.hid hC
  have HO := Lib.hid hord
  clear hq hm hn hl hb hnb hT hC hord
  go_enter Tryd.func54, Tryd.ntmps54
  go_wp2
  have hC0 := hK.drew
  refine region_inv (fun ls a' w' => ∃ (l0 l1 l2 l3 l4 l5 l6 l7 l8 : Bool) (t5 t6 t7 t8 t9 t10 t11 t12 t4 : Value), ls = [l0, l1, l2, l3, l4, l5, l6, l7, l8] ∧ a' = { tmps := #[.int .i64 (n : Int), .pointer (some ⟨L, 0, none⟩), .pointer (some ⟨Y, 0, none⟩), undef, t4, t5, t6, t7, t8, t9, t10, t11, t12], defers := [] } ∧ (l0 = true → t5 = Value.agg (arr (numF l))) ∧ (l1 = true → t6 = Value.int .i64 (n : Int)) ∧ (l2 = true → t7 = Value.int .i64 (m : Int)) ∧ (l3 = true → t8 = Value.agg (arr (natF (one m)))) ∧ (l4 = true → t9 = Value.agg (arr (numF b))) ∧ (l5 = true → t10 = Value.agg (arr (numF q))) ∧ (l6 = true → t11 = Value.int .i64 (ord l q)) ∧ (l7 = true → t12 = Value.bool (decide (ord l q < 0))) ∧ (l8 = true → t4 = Value.bool (decide (ord l q < 0))) ∧ (KSt w L Y l b w')) (by kernel_rfl) (by kernel_rfl) ?rlen ?rdone ?rh0 ?rstep
  case rlen => rintro ls a' w' ⟨l0, l1, l2, l3, l4, l5, l6, l7, l8, t5, t6, t7, t8, t9, t10, t11, t12, t4, rfl, _⟩; rfl
  case rh0 => exact ⟨false, false, false, false, false, false, false, false, false, undef, undef, undef, undef, undef, undef, undef, undef, .bool false, rfl, rfl, by simp, by simp, by simp, by simp, by simp, by simp, by simp, by simp, by simp, hC0⟩
  case rdone =>
    rintro ls a' w' ⟨l0, l1, l2, l3, l4, l5, l6, l7, l8, t5, t6, t7, t8, t9, t10, t11, t12, t4, rfl, rfl, h5, h6, h7, h8, h9, h10, h11, h12, h4, hC⟩ hl
    obtain rfl := h4 (by simpa using hl 8)
    clear h5 h6 h7 h8 h9 h10 h11 h12 hl
    have hb := hC.below
    clear hC
    go_wp2
    go_ret
    exact ⟨by rw [HO.out]; rfl, hb⟩
  case rstep =>
    rintro i o ho ls a' w' ⟨l0, l1, l2, l3, l4, l5, l6, l7, l8, t5, t6, t7, t8, t9, t10, t11, t12, t4, rfl, rfl, h5, h6, h7, h8, h9, h10, h11, h12, h4, hC⟩ hcl hu hd K hK
    rcases i with _ | _ | _ | _ | _ | _ | _ | _ | _ | i <;> simp only [List.getElem?_cons_zero, List.getElem?_cons_succ, List.getElem?_nil, Option.some.injEq, reduceCtorEq] at ho
    all_goals subst ho
    · have hu : l0 = false := hu
      clear hcl
      rw [if_pos (by rfl)]
      refine wp_load_row _ _ rfl _ rfl _ _ _ _ hC.l underNum rfl (sizeNum _) ?_
      exact hK _ _ ⟨true, l1, l2, l3, l4, l5, l6, l7, l8, _, t6, t7, t8, t9, t10, t11, t12, t4, rfl, rfl, fun _ => rfl, h6, h7, h8, h9, h10, h11, h12, h4, hC⟩
    · have hu : l1 = false := hu
      clear hcl
      go_simp
      exact hK _ _ ⟨l0, true, l2, l3, l4, l5, l6, l7, l8, t5, _, t7, t8, t9, t10, t11, t12, t4, rfl, rfl, h5, fun _ => rfl, h7, h8, h9, h10, h11, h12, h4, hC⟩
    · have hu : l2 = false := hu
      clear hcl
      have y6 := h6 (hd 1 (by decide +kernel))
      subst y6
      go_simp
      exact hK _ _ ⟨l0, l1, true, l3, l4, l5, l6, l7, l8, t5, _, _, t8, t9, t10, t11, t12, t4, rfl, rfl, h5, fun _ => rfl, fun _ => rfl, h8, h9, h10, h11, h12, h4, hC⟩
    · have hu : l3 = false := hu
      clear hcl
      have y7 := h7 (hd 2 (by decide +kernel))
      subst y7
      rw [if_pos (by rfl)]
      refine wp_build_eq _ _ rfl (by simp only [List.map_toArray, List.map_cons, List.map_nil]; exact hB) ?_
      exact hK _ _ ⟨l0, l1, l2, true, l4, l5, l6, l7, l8, t5, t6, _, _, t9, t10, t11, t12, t4, rfl, rfl, h5, h6, fun _ => rfl, fun _ => rfl, h9, h10, h11, h12, h4, hC⟩
    · have hu : l4 = false := hu
      clear hcl
      rw [if_pos (by rfl)]
      refine wp_load_row _ _ rfl _ rfl _ _ _ _ hC.y underNum rfl (sizeNum _) ?_
      exact hK _ _ ⟨l0, l1, l2, l3, true, l5, l6, l7, l8, t5, t6, t7, t8, _, t10, t11, t12, t4, rfl, rfl, h5, h6, h7, h8, fun _ => rfl, h10, h11, h12, h4, hC⟩
    · have hu : l5 = false := hu
      clear hcl
      have y8 := h8 (hd 3 (by decide +kernel))
      subst y8
      have y9 := h9 (hd 4 (by decide +kernel))
      subst y9
      have hK5 := HT.out w'
      skip
      go_simp
      refine hK5.mono ?_
      rintro e w5 ⟨rfl, hb5⟩
      exact hK _ _ ⟨l0, l1, l2, l3, l4, true, l6, l7, l8, t5, t6, t7, _, _, _, t11, t12, t4, rfl, rfl, h5, h6, h7, fun _ => rfl, fun _ => rfl, fun _ => rfl, h11, h12, h4, (hC.step hb5)⟩
    · have hu : l6 = false := hu
      clear hcl
      have y5 := h5 (hd 0 (by decide +kernel))
      subst y5
      have y10 := h10 (hd 5 (by decide +kernel))
      subst y10
      have hK5 := HC.out w'
      skip
      go_simp
      refine hK5.mono ?_
      rintro e w5 ⟨rfl, hb5⟩
      exact hK _ _ ⟨l0, l1, l2, l3, l4, l5, true, l7, l8, _, t6, t7, t8, t9, _, _, t12, t4, rfl, rfl, fun _ => rfl, h6, h7, h8, h9, fun _ => rfl, fun _ => rfl, h12, h4, (hC.step hb5)⟩
    · have hu : l7 = false := hu
      clear hcl
      have y11 := h11 (hd 6 (by decide +kernel))
      subst y11
      go_simp
      exact hK _ _ ⟨l0, l1, l2, l3, l4, l5, l6, true, l8, t5, t6, t7, t8, t9, t10, _, _, t4, rfl, rfl, h5, h6, h7, h8, h9, h10, fun _ => rfl, fun _ => rfl, h4, hC⟩
    · have hu : l8 = false := hu
      clear hcl
      have y12 := h12 (hd 7 (by decide +kernel))
      subst y12
      go_simp
      exact hK _ _ ⟨l0, l1, l2, l3, l4, l5, l6, l7, true, t5, t6, t7, t8, t9, t10, t11, _, _, rfl, rfl, h5, h6, h7, h8, h9, h10, h11, fun _ => rfl, fun _ => rfl, hC⟩
end Dc
end Go.Proofs.YthnpbkplcboejaaDoor
