/- The reference of names: In, Has, Less, has. -/
import Derived.Test.YtohlhihhadbphaaGreatDoorRc
import Derived.Deep.RegionWith
set_option linter.unusedSimpArgs false
set_option linter.unusedVariables false
namespace Go.Proofs.YtohlhihhadbphaaGreatDoor
open Go.RowKit Go.Shelf Go.Lib
namespace Np
theorem fitsG_facts {k : Int} {n : Name} {s : ByteArray} {e a : Nat} (h : fitsG k n s e a = true) : (k = 1 ∨ k = 2 ∨ k = 3 ∨ k = 4) ∧ e ≤ 1 ∧ ((k = 1 ∨ k = 4) → e = 0) := by
  unfold fitsG at h
  split at h
  · simp at h; omega
  · split at h
    · simp at h; omega
    · split at h
      · simp at h; omega
      · split at h
        · simp at h; omega
        · cases h
def InFor (D : Nat) : Prop := ∀ (t : CT) (n : Name) (w : World), t.depth ≤ D → t.In w w.heap.size → t.fitsAll = true → Calls Tryz.prog 45 #[t.val, n.val] w fun e w' => e = .returned (.bool (t.holds n)) ∧ Below w.heap.size w w'
theorem below_dr (W : World) : Below W.heap.size W W.drew := ⟨rfl, rfl, rfl, Nat.le_refl _, fun _ _ => rfl⟩
set_option maxRecDepth 100000 in
set_option maxHeartbeats 4000000 in
theorem in_step (D : Nat) (hD : InFor D) : InFor (D + 1) := by
  intro t n w ht hIn hfit
  obtain ⟨hf, hfe, hfa⟩ := (fitsAllT t).1 hfit
  obtain ⟨hk, hel, h14⟩ := fitsG_facts hf
  have hI := CT.in_iff.1 hIn
  obtain ⟨W1, hW1⟩ : ∃ W1, (w.alloc (.cells t.cells.toArray 26)).alloc (.cells #[.string n.sp, .string n.lc] 23) = W1 := ⟨_, rfl⟩
  have hb1 : Below w.heap.size w W1 := by rw [← hW1]; exact ((Below.refl _ w).alloc (Nat.le_refl _) _).alloc (by simp) _
  have B0 : Blk W1 w.heap.size t.cells.toArray 26 := by rw [← hW1]; exact (Blk.new _ _ _).alloc _
  have BN : Blk W1 (w.heap.size + 1) #[.string n.sp, .string n.lc] 23 := by
    rw [← hW1]
    have := Blk.new (w.alloc (.cells t.cells.toArray 26)) #[.string n.sp, .string n.lc] 23
    rw [World.size_alloc] at this; exact this
  have hs1 : w.heap.size + 1 < W1.heap.size := BN.lt
  have hLe : LIn W1 W1.heap.size t.ea t.ex := LIn.mono (LIn.below ⟨hI.2.2.1, hI.2.2.2.2.1⟩ hb1 (Nat.le_refl _)) (by omega)
  have hLa : LIn W1 W1.heap.size t.aa t.ar := LIn.mono (LIn.below ⟨hI.2.2.2.1, hI.2.2.2.2.2⟩ hb1 (Nat.le_refl _)) (by omega)
  obtain ⟨c0, c1, c2, c3, c4, c5⟩ := ct_cells B0
  have n0 := BN.cell 0
  have n1 := BN.cell 1
  simp only [List.getElem?_toArray, List.getElem?_cons_zero, List.getElem?_cons_succ] at n0 n1
  rw [CT.cells_eq] at hW1
  obtain ⟨v, hv⟩ : ∃ v, t.holds n = v := ⟨_, rfl⟩
  have Hv := Lib.hid hv
  rw [CT.holds_eq] at hv
  have Hq := Lib.hid hv
  rw [Hv.out, CT.val_eq]
  unfold Name.val
  have hal := hLa.row.1
  unfold maxLen at hal
  have eN := eqN t.name n
  have gN := fun op x y => guardN op x y t.name n
  have e2 : (t.space.toList == n.sp.toList) = decide (t.space = n.sp) := by
    rw [Bool.eq_iff_iff]; simp only [beq_iff_eq, decide_eq_true_eq, ba_inj]
  obtain ⟨b1, hb1'⟩ : ∃ b, decide (t.name = n) = b := ⟨_, rfl⟩
  obtain ⟨b2, hb2'⟩ : ∃ b, decide (t.space = n.sp) = b := ⟨_, rfl⟩
  rw [hb1'] at eN
  rw [hb2'] at e2
  have Hb1 := Lib.hid hb1'
  have Hb2 := Lib.hid hb2'
  have hS : ∀ (u : CT) (w : World), u.depth ≤ D → u.In w w.heap.size → u.fitsAll = true → Calls Tryz.prog 45 #[u.val, .agg #[.string n.sp, .string n.lc]] w fun e w' => e = .returned (.bool (u.holds n)) ∧ Below w.heap.size w w' := fun u w => hD u n w
  have Hx := Lib.hid h14
  clear hv hb1' hb2' hI hIn hfit hf hD h14
  by_cases hex : t.ex = []
  · have Hn : Hid (v = if t.kind = 1 then b1 else if t.kind = 2 then b2 else if t.kind = 4 then t.ar.any (fun u => u.holds n) else true) := Lib.hid (by rw [← Hq.out, hex, Hb1.out, Hb2.out]; simp)
    rw [hex, List.length_nil] at c4
    rw [hex, List.length_nil]
    obtain ⟨kd, hkd⟩ : ∃ b, t.kind = b := ⟨_, rfl⟩
    rw [hkd] at c0 hk Hn
    rw [hkd]
    have Hex := Lib.hid hex
    rw [hex, List.length_nil, hkd] at hW1
    clear hkd hex hel hfe hLe Hq Hv Hx
    rcases hk with rfl | rfl | rfl | rfl
    · have H2 : Hid (v = b1) := Lib.hid (by rw [Hn.out]; rfl)
      go_enter Tryz.func45, Tryz.ntmps45
      go_wp2
      go_quiet (fail)
      go_wp2
      go_ret
      exact ⟨ret_bool H2.out.symm, by first | exact hb1 | exact below_drewN hb1 _⟩
    · have H2 : Hid (v = b2) := Lib.hid (by rw [Hn.out]; rfl)
      go_enter Tryz.func45, Tryz.ntmps45
      go_wp2
      go_quiet (fail)
      go_wp2
      go_ret
      exact ⟨ret_bool H2.out.symm, by first | exact hb1 | exact below_drewN hb1 _⟩
    · have H2 : Hid (v = true) := Lib.hid (by rw [Hn.out]; rfl)
      go_enter Tryz.func45, Tryz.ntmps45
      go_wp2
      go_quiet (fail)
      go_wp2
      go_ret
      exact ⟨ret_bool H2.out.symm, by first | exact hb1 | exact below_drewN hb1 _⟩
    · have H2 : Hid (v = t.ar.any (fun u => u.holds n)) := Lib.hid (by rw [Hn.out]; rfl)
      clear Hn
      go_enter Tryz.func45, Tryz.ntmps45
      go_wp2
      go_quiet (fail)
      go_wp2
      go_loopw [5] (fun i wr => ∃ k : Nat, k ≤ t.ar.length ∧ i = .int .i64 k ∧ Hid (∀ u ∈ t.ar.take k, u.holds n = false) ∧ Below W1.heap.size W1 wr) (fun i _ => t.ar.length - (intOf i).toNat)
      case atStart => exact ⟨0, by omega, rfl, Lib.hid (by simp), by first | exact Below.refl _ _ | exact below_drewN (Below.refl _ _) _⟩
      case round =>
        obtain ⟨k, hk, rfl, HI, hb⟩ := hrel
        try clear hW1
        have B2 : Blk wr w.heap.size t.cells.toArray 26 := (hb.block _ (by omega)).trans B0
        have BN2 : Blk wr (w.heap.size + 1) #[.string n.sp, .string n.lc] 23 := (hb.block _ hs1).trans BN
        clear c0 c1 c2 c3 c4 c5 n0 n1
        obtain ⟨c0, c1, c2, c3, c4, c5⟩ := ct_cells B2
        have n0 := BN2.cell 0
        have n1 := BN2.cell 1
        simp only [List.getElem?_toArray, List.getElem?_cons_zero, List.getElem?_cons_succ] at n0 n1
        have hbs := hb.size
        by_cases hlt : k < t.ar.length
        · have d1 : decide ((k : Int) < (t.ar.length : Int)) = true := decide_eq_true (by omega)
          have d2 : decide (k < t.ar.length) = true := decide_eq_true hlt
          obtain ⟨u, hu⟩ : ∃ u, t.ar[k] = u := ⟨_, rfl⟩
          have hmu : u ∈ t.ar := by rw [← hu]; exact List.getElem_mem hlt
          obtain ⟨b, o, hao, hbn, hcells⟩ := hLa.row.2 (List.ne_nil_of_length_pos (by omega))
          have hcu : ∀ i x, u.cells[i]? = some x → wr.cell? ⟨b, o + k * 6 + i, none⟩ = some x := fun i x hx => (hb.cell (p := ⟨b, o + k * 6 + i, none⟩) hbn).trans (hcells k hlt i x (by rw [hu]; exact hx))
          have u0 := hcu 0 _ rfl
          have u1 := hcu 1 _ rfl
          have u2 := hcu 2 _ rfl
          have u3 := hcu 3 _ rfl
          have u4 := hcu 4 _ rfl
          have u5 := hcu 5 _ rfl
          rw [Nat.add_zero] at u0
          rw [CT.exv_eq] at u4
          rw [CT.arv_eq] at u5
          have hC := hS u wr.drew (by have := CT.depth_ar hmu; omega) (((hLa.ins u hmu).below (hb.trans ((below_dr wr).mono hbs)) (Nat.le_refl _)).mono hbs) (hfa u hmu)
          rw [CT.val_eq] at hC
          have Hu : Hid (t.ar.take (k + 1) = t.ar.take k ++ [u]) := Lib.hid (by rw [List.take_succ_eq_append_getElem hlt, hu])
          have Hm := Lib.hid hmu
          obtain ⟨hv, hhv⟩ : ∃ x, u.holds n = x := ⟨_, rfl⟩
          rw [hhv] at hC
          have Hhv := Lib.hid hhv
          rw [hao] at c5
          have Hao := Lib.hid hao
          clear hu hcu hcells hmu hhv hao
          go_wp2
          go_region_with (go_at_call 45; refine hC.mono ?_; rintro e w2 ⟨rfl, hb2⟩)
          all_goals
            have hb3 : Below W1.heap.size W1 w2 := hb.trans (((below_dr wr).trans hb2).mono hbs)
            cases hv
            · have H3 : Hid (∀ u ∈ t.ar.take (k + 1), u.holds n = false) := Lib.hid (by
                rw [Hu.out]
                intro x hx
                rcases List.mem_append.1 hx with hx | hx
                · exact HI.out x hx
                · rw [List.mem_singleton.1 hx]; exact Hhv.out)
              go_wp2
              go_roundw
              case rel =>
                have hrl : ∃ k' : Nat, k' ≤ t.ar.length ∧ Value.int .i64 ((k : Int) + 1) = .int .i64 k' ∧ Hid (∀ u ∈ t.ar.take k', u.holds n = false) ∧ Below W1.heap.size W1 w2 := ⟨k + 1, by omega, by go_num, H3, hb3⟩
                first
                  | exact hrl
                  | ((repeat apply Exists.intro); exact ⟨hrl, rfl⟩)
              case measure =>
                have e3 : ((k : Int) + 1).toNat = k + 1 := by omega
                simp only [intOf, e3, Int.toNat_natCast]
                omega
            · have H3 : Hid (v = true) := Lib.hid (by rw [H2.out, List.any_eq_true]; exact ⟨u, Hm.out, Hhv.out⟩)
              go_wp2
              go_ret
              exact ⟨ret_bool H3.out.symm, hb1.trans (hb3.mono (by omega))⟩
        · have d1 : decide ((k : Int) < (t.ar.length : Int)) = false := decide_eq_false (by omega)
          have d2 : decide (k < t.ar.length) = false := decide_eq_false hlt
          have H3 : Hid (v = false) := Lib.hid (by
            rw [H2.out, List.any_eq_false]
            have h := HI.out
            rw [List.take_of_length_le (by omega)] at h
            intro x hx; rw [h x hx]; simp)
          go_wp2
          go_ret
          exact ⟨ret_bool H3.out.symm, hb1.trans (hb.mono (by omega))⟩
  · obtain ⟨u, hu⟩ : ∃ u, t.ex = [u] := by
      match hm : t.ex with
      | [] => exact absurd hm hex
      | [u] => exact ⟨u, rfl⟩
      | _ :: _ :: _ => rw [hm] at hel; simp at hel
    have hk2 : t.kind = 2 ∨ t.kind = 3 := by
      have := Hx.out
      rw [hu] at this
      simp at this
      omega
    have hlt : 0 < t.ex.length := by rw [hu]; simp
    have hmu : u ∈ t.ex := by rw [hu]; simp
    obtain ⟨hv, hhv⟩ : ∃ x, u.holds n = x := ⟨_, rfl⟩
    have Hn : Hid (v = if t.kind = 2 then b2 && !hv else !hv) := Lib.hid (by
      rw [← Hq.out, hu, Hb1.out, Hb2.out, ← hhv]
      rcases hk2 with h | h <;> simp [h])
    obtain ⟨b, o, hao, hbn, hcells⟩ := hLe.row.2 hex
    have hcu : ∀ i x, u.cells[i]? = some x → W1.cell? ⟨b, o + i, none⟩ = some x := fun i x hx => by
      have := hcells 0 hlt i x (by simpa [hu] using hx)
      simpa using this
    have u0 := hcu 0 _ rfl
    have u1 := hcu 1 _ rfl
    have u2 := hcu 2 _ rfl
    have u3 := hcu 3 _ rfl
    have u4 := hcu 4 _ rfl
    have u5 := hcu 5 _ rfl
    rw [Nat.add_zero] at u0
    rw [CT.exv_eq] at u4
    rw [CT.arv_eq] at u5
    have hC := hS u W1.drew (by have := CT.depth_ex hmu; omega) ((hLe.ins u hmu).below (below_dr W1) (Nat.le_refl _)) (hfe u hmu)
    rw [CT.val_eq, hhv] at hC
    have hl1 : t.ex.length = 1 := by rw [hu]; rfl
    rw [hao, hl1] at c4
    rw [hao, hl1]
    rw [hao, hl1] at hW1
    obtain ⟨kd, hkd⟩ : ∃ b, t.kind = b := ⟨_, rfl⟩
    rw [hkd] at c0 hk2 Hn hW1
    rw [hkd]
    have Hkd := Lib.hid hkd
    clear hkd hhv hu hex hel hlt hmu hcu hcells hao hl1 hk Hq Hv Hx
    rcases hk2 with rfl | rfl
    · go_enter Tryz.func45, Tryz.ntmps45
      go_wp2
      go_region_with (go_at_call 45; refine hC.mono ?_; rintro e w2 ⟨rfl, hb2⟩)
      all_goals
        have hb3 : Below W1.heap.size W1 w2 := (below_dr W1).trans hb2
        have B2 := B0.below hb3
        have BN2 := BN.below hb3
        clear c0 c1 c2 c3 c4 c5 n0 n1
        obtain ⟨c0, c1, c2, c3, c4, c5⟩ := ct_cells B2
        rw [Hkd.out] at c0
        have n0 := BN2.cell 0
        have n1 := BN2.cell 1
        simp only [List.getElem?_toArray, List.getElem?_cons_zero, List.getElem?_cons_succ] at n0 n1
        cases hv
        · have H3 : Hid (v = b2) := Lib.hid (by rw [Hn.out]; simp)
          go_wp2
          go_ret
          exact ⟨ret_bool H3.out.symm, hb1.trans (hb3.mono hb1.size)⟩
        · have H3 : Hid (v = false) := Lib.hid (by rw [Hn.out]; simp)
          go_wp2
          go_ret
          exact ⟨ret_bool H3.out.symm, hb1.trans (hb3.mono hb1.size)⟩
    · go_enter Tryz.func45, Tryz.ntmps45
      go_wp2
      go_region_with (go_at_call 45; refine hC.mono ?_; rintro e w2 ⟨rfl, hb2⟩)
      all_goals
        have hb3 : Below W1.heap.size W1 w2 := (below_dr W1).trans hb2
        have B2 := B0.below hb3
        have BN2 := BN.below hb3
        clear c0 c1 c2 c3 c4 c5 n0 n1
        obtain ⟨c0, c1, c2, c3, c4, c5⟩ := ct_cells B2
        rw [Hkd.out] at c0
        have n0 := BN2.cell 0
        have n1 := BN2.cell 1
        simp only [List.getElem?_toArray, List.getElem?_cons_zero, List.getElem?_cons_succ] at n0 n1
        cases hv
        · have H3 : Hid (v = true) := Lib.hid (by rw [Hn.out]; simp)
          go_wp2
          go_ret
          exact ⟨ret_bool H3.out.symm, hb1.trans (hb3.mono hb1.size)⟩
        · have H3 : Hid (v = false) := Lib.hid (by rw [Hn.out]; simp)
          go_wp2
          go_ret
          exact ⟨ret_bool H3.out.symm, hb1.trans (hb3.mono hb1.size)⟩
theorem in_any (t : CT) (n : Name) (w : World) (hIn : t.In w w.heap.size) (hf : t.fitsAll = true) : Calls Tryz.prog 45 #[t.val, n.val] w fun e w' => e = .returned (.bool (t.holds n)) ∧ Below w.heap.size w w' := by
  have h : ∀ D, InFor D := fun D => by
    induction D with
    | zero => intro t n w ht; rw [CT.depth_eq] at ht; omega
    | succ D ih => exact in_step D ih
  exact h t.depth t n w (Nat.le_refl _) hIn hf
end Np
end Go.Proofs.YtohlhihhadbphaaGreatDoor
