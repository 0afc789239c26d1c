/- The reference of names: Has, together. -/
import Derived.Test.YtohlhihhadbphaaGreatDoorRl
import Derived.Test.YtohlhihhadbphaaGreatDoorGj
set_option linter.unusedSimpArgs false
set_option linter.unusedVariables false
namespace Go.Proofs.YtohlhihhadbphaaGreatDoor
open Go.RowKit Go.Shelf Go.Lib Go.Maps
namespace Np
set_option maxRecDepth 100000 in
set_option maxHeartbeats 1000000 in
theorem rHas_any (t : CT) (n : Name) (w : World) (hIn : t.In w w.heap.size) :
    Calls Tryz.prog 10 #[t.val, n.val] w fun e w' => e = .returned (.tuple #[.bool (hasR t n).1, .int .i64 (hasR t n).2]) ∧ Below w.heap.size w w' := by
  obtain ⟨W1, hW1⟩ : ∃ W1, (w.alloc (.cells t.cells.toArray 26)).alloc (.cells #[.string n.sp, .string n.lc] 23) = W1 := ⟨_, rfl⟩
  have hb1 : Below w.heap.size w W1 := by rw [← hW1]; exact ((Below.refl _ w).alloc (Nat.le_refl _) _).alloc (by simp) _
  have B0 : Blk W1 w.heap.size t.cells.toArray 26 := by rw [← hW1]; exact (Blk.new _ _ _).alloc _
  have BN : Blk W1 (w.heap.size + 1) #[.string n.sp, .string n.lc] 23 := by
    rw [← hW1]
    have := Blk.new (w.alloc (.cells t.cells.toArray 26)) #[.string n.sp, .string n.lc] 23
    rw [World.size_alloc] at this; exact this
  have hi1 := (hIn.below hb1 (Nat.le_refl _)).mono hb1.size
  have hx := rCheck_any t W1 hi1
  have hy := fun w2 (hb2 : Below W1.heap.size W1 w2) => rValid_any n w2
  have hz := fun w2 (hb2 : Below W1.heap.size W1 w2) (h : t.check = 0) => in_any t n w2 ((hi1.below hb2 (Nat.le_refl _)).mono hb2.size) (fits_of_check h)
  obtain ⟨c0, c1, c2, c3, c4, c5⟩ := ct_cells B0
  rw [CT.cells_eq] at hW1
  rw [CT.val_eq] at hx
  simp only [CT.val_eq] at hz
  obtain ⟨r, hr⟩ : ∃ r, hasR t n = r := ⟨_, rfl⟩
  rw [hr, CT.val_eq]
  have Hr := Lib.hid hr
  obtain ⟨k, hk⟩ : ∃ k, t.check = k := ⟨_, rfl⟩
  obtain ⟨v, hv⟩ : ∃ k, validN n = k := ⟨_, rfl⟩
  obtain ⟨s, hs⟩ : ∃ k, t.holds n = k := ⟨_, rfl⟩
  rw [hk] at hx
  simp only [hv] at hy
  simp only [hk, hs] at hz
  unfold Name.val at hy hz ⊢
  have Hres : Hid (r = if k ≠ 0 then (false, k) else if v = false then (false, 2) else (s, 0)) := Lib.hid (by rw [← hr, ← hk, ← hv, ← hs]; unfold hasR; split <;> simp_all)
  clear hr hk hv hs
  by_cases h0 : k = 0
  · subst h0
    go_enter Tryz.func10, Tryz.ntmps10
    go_wp2_with (go_at_call 12; refine hx.mono ?_)
    first | rintro e w2 rfl hb2 | rintro e w2 ⟨rfl, hb2⟩
    have hB2 := hb1.trans (hb2.mono hb1.size)
    have hy2 := hy w2 hb2
    have n0 := (BN.below hb2).cell 0
    have n1 := (BN.below hb2).cell 1
    simp only [List.getElem?_toArray, List.getElem?_cons_zero, List.getElem?_cons_succ] at n0 n1
    clear c0 c1 c2 c3 c4 c5
    cases v
    · have Hf : Hid (r = (false, 2)) := Lib.hid (by rw [Hres.out]; rfl)
      go_wp2_with (go_at_call 35; refine hy2.mono ?_)
      first | rintro e w3 rfl hb3 | rintro e w3 ⟨rfl, hb3⟩
      go_wp2
      go_ret2
      exact ⟨by rw [Hf.out]; rfl, hB2.trans (hb3.mono hB2.size)⟩
    · have Hf : Hid (r = (s, 0)) := Lib.hid (by rw [Hres.out]; simp)
      go_wp2_with (go_at_call 35; refine hy2.mono ?_)
      first | rintro e w3 rfl hb3 | rintro e w3 ⟨rfl, hb3⟩
      have hb13 := hb2.trans (hb3.mono hb2.size)
      have hz3 := hz w3 hb13 (by trivial)
      clear n0 n1
      have n0 := (BN.below hb13).cell 0
      have n1 := (BN.below hb13).cell 1
      simp only [List.getElem?_toArray, List.getElem?_cons_zero, List.getElem?_cons_succ] at n0 n1
      obtain ⟨c0, c1, c2, c3, c4, c5⟩ := ct_cells (B0.below hb13)
      go_wp2_with (go_at_call 45; refine hz3.mono ?_)
      first | rintro e w4 rfl hb4 | rintro e w4 ⟨rfl, hb4⟩
      go_wp2
      go_ret2
      exact ⟨by rw [Hf.out]; rfl, hB2.trans ((hb3.trans (hb4.mono hb3.size)).mono hB2.size)⟩
  · have g1 : (k == 0) = false := by simpa using h0
    have g2 : (k != 0) = true := by simpa using h0
    have Hf : Hid (r = (false, k)) := Lib.hid (by rw [Hres.out, if_pos h0])
    clear h0 hz
    go_enter Tryz.func10, Tryz.ntmps10
    go_wp2_with (go_at_call 12; refine hx.mono ?_)
    first | rintro e w2 rfl hb2 | rintro e w2 ⟨rfl, hb2⟩
    go_wp2
    go_ret2
    exact ⟨by rw [Hf.out]; rfl, hb1.trans (hb2.mono hb1.size)⟩
/-- Several classes put together: the one, or a choice. -/
def togC (a : Option Addr) (c : Nat) (l : List CT) : CT := if l.length = 1 then l.getD 0 default else .mk 4 ⟨⟨#[]⟩, ⟨#[]⟩⟩ ⟨#[]⟩ none 0 [] a c l
theorem togC_er (a : Option Addr) (c : Nat) (l : List CT) (h : l ≠ []) : Np.together (l.map CT.er) = [(togC a c l).er] := by
  unfold Np.together togC
  rw [List.length_map]
  match l, h with
  | [u], _ => simp
  | u :: v :: r, _ => simp [CT.er, CT.erL_map, CT.erL]
set_option maxRecDepth 100000 in
set_option maxHeartbeats 1000000 in
theorem rTogether_any (A : Nat → Prop) (a : Option Addr) (c : Nat) (l : List CT) (w : World) (hr : RowOn A w a l) (hA : ∀ b, A b → b < w.heap.size) :
    Calls Tryz.prog 87 #[.slice a l.length c] w fun e w' => e = .returned (togC a c l).val ∧ Below w.heap.size w w' := by
  have hll := hr.1
  unfold maxLen at hll
  obtain ⟨W1, hW1⟩ : ∃ W1, w.alloc (.cells #[.int .i64 0, .string ⟨#[]⟩, .string ⟨#[]⟩, .string ⟨#[]⟩, .slice none 0 0, .slice none 0 0] 26) = W1 := ⟨_, rfl⟩
  have hb1 : Below w.heap.size w W1 := by rw [← hW1]; exact (Below.refl _ w).alloc (Nat.le_refl _) _
  have BR : Blk W1 w.heap.size #[.int .i64 0, .string ⟨#[]⟩, .string ⟨#[]⟩, .string ⟨#[]⟩, .slice none 0 0, .slice none 0 0] 26 := by rw [← hW1]; exact Blk.new _ _ _
  have f0 := BR.frozen 0
  have f1 := BR.frozen 1
  have f2 := BR.frozen 2
  have f3 := BR.frozen 3
  have f4 := BR.frozen 4
  have f5 := BR.frozen 5
  have z0 := BR.cell 0
  have z1 := BR.cell 1
  have z2 := BR.cell 2
  have z3 := BR.cell 3
  have z4 := BR.cell 4
  have z5 := BR.cell 5
  simp only [List.getElem?_toArray, List.getElem?_cons_zero, List.getElem?_cons_succ] at z0 z1 z2 z3 z4 z5
  obtain ⟨T, hT⟩ : ∃ T, togC a c l = T := ⟨_, rfl⟩
  rw [hT, CT.val_eq]
  have q := Blk.set6 BR (.int .i64 T.kind) (.string T.name.sp) (.string T.name.lc) (.string T.space) (.slice T.ea T.ex.length T.ec) (.slice T.aa T.ar.length T.ac)
  by_cases h1 : l.length = 1
  · have d1 : ((l.length : Int) == 1) = true := by simp [h1]
    have d2 : (l.length == 1) = true := by simp [h1]
    obtain ⟨u, hu⟩ : ∃ u, l = [u] := by match l, h1 with | [u], _ => exact ⟨u, rfl⟩
    have hTu : T = u := by rw [← hT]; unfold togC; rw [if_pos h1, hu]; rfl
    obtain ⟨b, o, hao, hbA, hcells⟩ := hr.2 (by rw [hu]; simp)
    have hcu : ∀ i x, u.cells[i]? = some x → W1.cell? ⟨b, o + i, none⟩ = some x := fun i x hx => by
      have := hcells 0 (by rw [h1]; omega) i x (by simpa [hu] using hx)
      rw [Nat.zero_mul, Nat.add_zero] at this
      exact (hb1.cell (p := ⟨b, o + i, none⟩) (hA b hbA)).trans this
    have u0 := hcu 0 _ rfl
    have u1 := hcu 1 _ rfl
    have u2 := hcu 2 _ rfl
    have u3 := hcu 3 _ rfl
    have u4 := hcu 4 _ rfl
    have u5 := hcu 5 _ rfl
    rw [Nat.add_zero] at u0
    rw [CT.exv_eq] at u4
    rw [CT.arv_eq] at u5
    subst hTu
    rw [hao, h1]
    have q0 := q.cell 0
    have q1 := q.cell 1
    have q2 := q.cell 2
    have q3 := q.cell 3
    have q4 := q.cell 4
    have q5 := q.cell 5
    simp only [List.getElem?_toArray, List.getElem?_cons_zero, List.getElem?_cons_succ] at q0 q1 q2 q3 q4 q5
    clear hT hu hcells hcu q h1
    go_enter Tryz.func87, Tryz.ntmps87
    go_wp2
    refine bodyPost_ret (v := .agg #[.int .i64 T.kind, .string T.name.sp, .string T.name.lc, .string T.space, .slice T.ea T.ex.length T.ec, .slice T.aa T.ar.length T.ac]) ?_ rfl ⟨rfl, ?_⟩
    · simp [results, Tryz.f87, go_sem, q0, q1, q2, q3, q4, q5]
    · exact sixBelow hb1 (Nat.le_refl _) _ _ _ _ _ _
  · have d1 : ((l.length : Int) == 1) = false := by simp; omega
    have d2 : (l.length == 1) = false := by simpa using h1
    have q := Blk.set6 BR (.int .i64 4) (.string ⟨#[]⟩) (.string ⟨#[]⟩) (.string ⟨#[]⟩) (.slice none 0 0) (.slice a l.length c)
    have hTe : T = .mk 4 ⟨⟨#[]⟩, ⟨#[]⟩⟩ ⟨#[]⟩ none 0 [] a c l := by rw [← hT]; unfold togC; rw [if_neg h1]
    have hv : (Value.agg #[.int .i64 T.kind, .string T.name.sp, .string T.name.lc, .string T.space, .slice T.ea T.ex.length T.ec, .slice T.aa T.ar.length T.ac]) = .agg #[.int .i64 4, .string ⟨#[]⟩, .string ⟨#[]⟩, .string ⟨#[]⟩, .slice none 0 0, .slice a l.length c] := by rw [hTe]; rfl
    rw [hv]
    have q0 := q.cell 0
    have q1 := q.cell 1
    have q2 := q.cell 2
    have q3 := q.cell 3
    have q4 := q.cell 4
    have q5 := q.cell 5
    simp only [List.getElem?_toArray, List.getElem?_cons_zero, List.getElem?_cons_succ] at q0 q1 q2 q3 q4 q5
    clear hT hTe hv q h1
    go_enter Tryz.func87, Tryz.ntmps87
    go_wp2
    refine bodyPost_ret (v := .agg #[.int .i64 4, .string ⟨#[]⟩, .string ⟨#[]⟩, .string ⟨#[]⟩, .slice none 0 0, .slice a l.length c]) ?_ rfl ⟨rfl, ?_⟩
    · simp [results, Tryz.f87, go_sem, q0, q1, q2, q3, q4, q5]
    · exact sixBelow hb1 (Nat.le_refl _) _ _ _ _ _ _
end Np
end Go.Proofs.YtohlhihhadbphaaGreatDoor
