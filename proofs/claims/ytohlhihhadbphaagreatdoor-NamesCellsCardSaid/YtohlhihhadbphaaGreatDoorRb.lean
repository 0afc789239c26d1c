/- The reference of names: the small functions over classes. -/
import Derived.Test.YtohlhihhadbphaaGreatDoorRa
set_option linter.unusedSimpArgs false
set_option linter.unusedVariables false
namespace Go.Proofs.YtohlhihhadbphaaGreatDoor
open Go.RowKit Go.Shelf Go.Lib
namespace Np
set_option maxHeartbeats 400000 in
theorem rValid_any (n : Name) (w : World) :
    Calls Tryz.prog 35 #[n.val] w fun e w' => e = .returned (.bool (validN n)) ∧ Below w.heap.size w w' := by
  unfold Name.val
  go_enter Tryz.func35, Tryz.ntmps35
  go_wp2
  all_goals
    try simp only [nil_iff] at *
    go_ret
    refine ⟨ret_bool ?_, (Below.refl _ _).alloc (Nat.le_refl _) _⟩
    rw [Bool.eq_iff_iff]
    simp only [validN, empty_iff, Bool.and_eq_true, Bool.not_eq_true', decide_eq_true_eq, decide_eq_false_iff_not, Bool.false_eq_true, false_iff]
    omega
def CountFor (r : Nat) : Prop := ∀ (t : CT) (w : World), t.In w w.heap.size → Calls Tryz.prog 49 #[t.val, .int .i64 (r : Int)] w fun e w' => e = .returned (.int .i64 ((cnt r t : Nat) : Int)) ∧ Below w.heap.size w w'
set_option maxRecDepth 100000 in
set_option maxHeartbeats 1000000 in
theorem count_zero : CountFor 0 := by
  intro t w _
  rw [CT.val_eq, cnt]
  have hb1 : Below w.heap.size w (w.alloc (.cells #[.int .i64 t.kind, .string t.name.sp, .string t.name.lc, .string t.space, .slice t.ea t.ex.length t.ec, .slice t.aa t.ar.length t.ac] 26)) := (Below.refl _ w).alloc (Nat.le_refl _) _
  go_enter Tryz.func49, Tryz.ntmps49
  go_wp2
  go_ret
  exact ⟨rfl, hb1⟩
set_option maxRecDepth 100000 in
set_option maxHeartbeats 4000000 in
theorem count_step (r : Nat) (hr : r ≤ 100) (hS0 : CountFor r) : CountFor (r + 1) := by
  intro t w hIn
  have hI := CT.in_iff.1 hIn
  obtain ⟨W1, hW1⟩ : ∃ W1, w.alloc (.cells t.cells.toArray 26) = W1 := ⟨_, rfl⟩
  have hb1 : Below w.heap.size w W1 := by rw [← hW1]; exact (Below.refl _ w).alloc (Nat.le_refl _) _
  have B0 : Blk W1 w.heap.size t.cells.toArray 26 := by rw [← hW1]; exact Blk.new _ _ _
  have hs1 : w.heap.size < W1.heap.size := B0.lt
  have hLe : LIn W1 W1.heap.size t.ea t.ex := LIn.mono (LIn.below ⟨hI.2.2.1, hI.2.2.2.2.1⟩ hb1 (Nat.le_refl _)) (by omega)
  have hLa : LIn W1 W1.heap.size t.aa t.ar := LIn.mono (LIn.below ⟨hI.2.2.2.1, hI.2.2.2.2.2⟩ hb1 (Nat.le_refl _)) (by omega)
  obtain ⟨c0, c1, c2, c3, c4, c5⟩ := ct_cells B0
  rw [CT.cells_eq] at hW1
  rw [CT.val_eq]
  have hel := hLe.row.1
  have hal := hLa.row.1
  unfold maxLen at hel hal
  have hS : ∀ (u : CT) (w : World), u.In w w.heap.size → Calls Tryz.prog 49 #[u.val, .int .i64 (r : Int)] w fun e w' => e = .returned (.int .i64 ((cnt r u : Nat) : Int)) ∧ Below w.heap.size w w' := hS0
  have hd1 : ((r + 1 : Nat) : Int) = (r : Int) + 1 := by omega
  have hsub : (r : Int) + 1 - 1 = (r : Int) := by omega
  have hpos : decide ((r : Int) + 1 < 1) = false := decide_eq_false (by omega)
  rw [hd1]
  clear hI hIn hd1 hS0
  go_enter Tryz.func49, Tryz.ntmps49
  go_wp2
  go_loopw [5, 6] (fun n i wr => ∃ (N k : Nat), k ≤ t.ex.length ∧ n = .int .i64 N ∧ i = .int .i64 k ∧ Hid (N = cntL (cnt r) 1 (t.ex.take k) ∧ N ≤ 100000 * (r + 2)) ∧ Below W1.heap.size W1 wr) (fun _ i _ => t.ex.length - (intOf i).toNat)
  case atStart => exact ⟨1, 0, by omega, rfl, rfl, Lib.hid ⟨rfl, by omega⟩, Below.refl _ _⟩
  case round =>
    obtain ⟨N, k, hk, rfl, rfl, HI, hb⟩ := hrel
    try clear hW1
    have hNb := HI.out.2
    have B2 : Blk wr w.heap.size t.cells.toArray 26 := (hb.block _ hs1).trans B0
    clear c0 c1 c2 c3 c4 c5
    obtain ⟨c0, c1, c2, c3, c4, c5⟩ := ct_cells B2
    by_cases hlt : k < t.ex.length
    · by_cases hN : N < 100000
      · have d1 : decide ((k : Int) < (t.ex.length : Int)) = true := decide_eq_true (by omega)
        have d2 : decide (k < t.ex.length) = true := decide_eq_true hlt
        have d3 : decide ((N : Int) < 100000) = true := decide_eq_true (by omega)
        have d4 : decide (N < 100000) = true := decide_eq_true hN
        obtain ⟨u, hu⟩ : ∃ u, t.ex[k] = u := ⟨_, rfl⟩
        have hmu : u ∈ t.ex := by rw [← hu]; exact List.getElem_mem hlt
        obtain ⟨b, o, hao, hbn, hcells⟩ := hLe.row.2 (List.ne_nil_of_length_pos (by omega))
        have hcu : ∀ i x, u.cells[i]? = some x → wr.cell? ⟨b, o + k * 6 + i, none⟩ = some x := fun i x hx => (hb.cell (p := ⟨b, o + k * 6 + i, none⟩) hbn).trans (hcells k hlt i x (by rw [hu]; exact hx))
        have u0 := hcu 0 _ rfl
        have u1 := hcu 1 _ rfl
        have u2 := hcu 2 _ rfl
        have u3 := hcu 3 _ rfl
        have u4 := hcu 4 _ rfl
        have u5 := hcu 5 _ rfl
        rw [Nat.add_zero] at u0
        rw [CT.exv_eq] at u4
        rw [CT.arv_eq] at u5
        have hC := hS u wr ((hLe.ins u hmu).below hb (Nat.le_refl _) |>.mono hb.size)
        rw [CT.val_eq] at hC
        have Hu : Hid (t.ex.take (k + 1) = t.ex.take k ++ [u]) := Lib.hid (by rw [List.take_succ_eq_append_getElem hlt, hu])
        clear hu hcu hcells
  
        have hM := cnt_bound r u
        have H2 : Hid (N + cnt r u = cntL (cnt r) 1 (t.ex.take (k + 1)) ∧ N + cnt r u ≤ 100000 * (r + 2)) := Lib.hid ⟨by rw [Hu.out, cntL_snoc, ← HI.out.1, if_pos hN], by omega⟩
        obtain ⟨M, hMe⟩ : ∃ M, cnt r u = M := ⟨_, rfl⟩
        rw [hMe] at hC H2 hM
        clear hMe
        rw [hao] at c4
        have Hao := Lib.hid hao
        clear hao hmu
        go_wp2_with (go_at_call 49; refine hC.mono ?_)
        rintro e w2 ⟨rfl, hb2⟩
        go_wp2
        go_roundw
        case rel =>
          have hrl : ∃ (N' k' : Nat), k' ≤ t.ex.length ∧ Value.int .i64 ((N : Int) + (M : Int)) = .int .i64 N' ∧ Value.int .i64 ((k : Int) + 1) = .int .i64 k' ∧ Hid (N' = cntL (cnt r) 1 (t.ex.take k') ∧ N' ≤ 100000 * (r + 2)) ∧ Below W1.heap.size W1 w2 := ⟨N + M, k + 1, by omega, by go_num, by go_num, H2, hb.trans (hb2.mono hb.size)⟩
          first
            | exact hrl
            | ((repeat apply Exists.intro); exact ⟨hrl, rfl⟩)
        case measure =>
          have e3 : ((k : Int) + 1).toNat = k + 1 := by omega
          simp only [intOf, e3, Int.toNat_natCast]
          omega
      · have d1 : decide ((k : Int) < (t.ex.length : Int)) = true := decide_eq_true (by omega)
        have d2 : decide (k < t.ex.length) = true := decide_eq_true hlt
        have d3 : decide ((N : Int) < 100000) = false := decide_eq_false (by omega)
        have d4 : decide (N < 100000) = false := decide_eq_false hN
        have Hx : Hid (N = cntL (cnt r) 1 t.ex) := Lib.hid (by
          have h := HI.out.1
          rw [← List.take_append_drop k t.ex, cntL_append, ← h]
          exact (cntL_stuck _ _ _ (by omega)).symm)
        go_wp2
        go_loopw [5, 7] (fun n i wr => ∃ (N k : Nat), k ≤ t.ar.length ∧ n = .int .i64 N ∧ i = .int .i64 k ∧ Hid (N = cntL (cnt r) (cntL (cnt r) 1 t.ex) (t.ar.take k) ∧ N ≤ 100000 * (r + 2)) ∧ Below W1.heap.size W1 wr) (fun _ i _ => t.ar.length - (intOf i).toNat)
        case atStart => exact ⟨N, 0, by omega, rfl, rfl, Lib.hid ⟨Hx.out, HI.out.2⟩, hb⟩
        case round =>
          obtain ⟨N, k, hk, rfl, rfl, HI, hb⟩ := hrel
          try clear hW1
          have hNb := HI.out.2
          have B2 : Blk wr w.heap.size t.cells.toArray 26 := (hb.block _ hs1).trans B0
          clear c0 c1 c2 c3 c4 c5
          obtain ⟨c0, c1, c2, c3, c4, c5⟩ := ct_cells B2
          by_cases hlt : k < t.ar.length
          · by_cases hN : N < 100000
            · have d1 : decide ((k : Int) < (t.ar.length : Int)) = true := decide_eq_true (by omega)
              have d2 : decide (k < t.ar.length) = true := decide_eq_true hlt
              have d3 : decide ((N : Int) < 100000) = true := decide_eq_true (by omega)
              have d4 : decide (N < 100000) = true := decide_eq_true hN
              obtain ⟨u, hu⟩ : ∃ u, t.ar[k] = u := ⟨_, rfl⟩
              have hmu : u ∈ t.ar := by rw [← hu]; exact List.getElem_mem hlt
              obtain ⟨b, o, hao, hbn, hcells⟩ := hLa.row.2 (List.ne_nil_of_length_pos (by omega))
              have hcu : ∀ i x, u.cells[i]? = some x → wr.cell? ⟨b, o + k * 6 + i, none⟩ = some x := fun i x hx => (hb.cell (p := ⟨b, o + k * 6 + i, none⟩) hbn).trans (hcells k hlt i x (by rw [hu]; exact hx))
              have u0 := hcu 0 _ rfl
              have u1 := hcu 1 _ rfl
              have u2 := hcu 2 _ rfl
              have u3 := hcu 3 _ rfl
              have u4 := hcu 4 _ rfl
              have u5 := hcu 5 _ rfl
              rw [Nat.add_zero] at u0
              rw [CT.exv_eq] at u4
              rw [CT.arv_eq] at u5
              have hC := hS u wr ((hLa.ins u hmu).below hb (Nat.le_refl _) |>.mono hb.size)
              rw [CT.val_eq] at hC
              have Hu : Hid (t.ar.take (k + 1) = t.ar.take k ++ [u]) := Lib.hid (by rw [List.take_succ_eq_append_getElem hlt, hu])
              clear hu hcu hcells
        
              have hM := cnt_bound r u
              have H2 : Hid (N + cnt r u = cntL (cnt r) (cntL (cnt r) 1 t.ex) (t.ar.take (k + 1)) ∧ N + cnt r u ≤ 100000 * (r + 2)) := Lib.hid ⟨by rw [Hu.out, cntL_snoc, ← HI.out.1, if_pos hN], by omega⟩
              obtain ⟨M, hMe⟩ : ∃ M, cnt r u = M := ⟨_, rfl⟩
              rw [hMe] at hC H2 hM
              clear hMe
              rw [hao] at c5
              have Hao := Lib.hid hao
              clear hao hmu
              go_wp2_with (go_at_call 49; refine hC.mono ?_)
              rintro e w2 ⟨rfl, hb2⟩
              go_wp2
              go_roundw
              case rel =>
                have hrl : ∃ (N' k' : Nat), k' ≤ t.ar.length ∧ Value.int .i64 ((N : Int) + (M : Int)) = .int .i64 N' ∧ Value.int .i64 ((k : Int) + 1) = .int .i64 k' ∧ Hid (N' = cntL (cnt r) (cntL (cnt r) 1 t.ex) (t.ar.take k') ∧ N' ≤ 100000 * (r + 2)) ∧ Below W1.heap.size W1 w2 := ⟨N + M, k + 1, by omega, by go_num, by go_num, H2, hb.trans (hb2.mono hb.size)⟩
                first
                  | exact hrl
                  | ((repeat apply Exists.intro); exact ⟨hrl, rfl⟩)
              case measure =>
                have e3 : ((k : Int) + 1).toNat = k + 1 := by omega
                simp only [intOf, e3, Int.toNat_natCast]
                omega
            · have d1 : decide ((k : Int) < (t.ar.length : Int)) = true := decide_eq_true (by omega)
              have d2 : decide (k < t.ar.length) = true := decide_eq_true hlt
              have d3 : decide ((N : Int) < 100000) = false := decide_eq_false (by omega)
              have d4 : decide (N < 100000) = false := decide_eq_false hN
              have Hx : Hid (N = cntL (cnt r) (cntL (cnt r) 1 t.ex) t.ar) := Lib.hid (by
                have h := HI.out.1
                rw [← List.take_append_drop k t.ar, cntL_append, ← h]
                exact (cntL_stuck _ _ _ (by omega)).symm)
              go_wp2
              go_ret
              exact ⟨ret_int (by rw [cnt, ← Hx.out]), hb1.trans (hb.mono (by omega))⟩
          · have d1 : decide ((k : Int) < (t.ar.length : Int)) = false := decide_eq_false (by omega)
            have d2 : decide (k < t.ar.length) = false := decide_eq_false hlt
            have Hx : Hid (N = cntL (cnt r) (cntL (cnt r) 1 t.ex) t.ar) := Lib.hid (by
              have h := HI.out.1
              rw [List.take_of_length_le (by omega)] at h
              exact h)
            go_wp2
            go_ret
            exact ⟨ret_int (by rw [cnt, ← Hx.out]), hb1.trans (hb.mono (by omega))⟩
    · have d1 : decide ((k : Int) < (t.ex.length : Int)) = false := decide_eq_false (by omega)
      have d2 : decide (k < t.ex.length) = false := decide_eq_false hlt
      have Hx : Hid (N = cntL (cnt r) 1 t.ex) := Lib.hid (by
        have h := HI.out.1
        rw [List.take_of_length_le (by omega)] at h
        exact h)
      go_wp2
      go_loopw [5, 7] (fun n i wr => ∃ (N k : Nat), k ≤ t.ar.length ∧ n = .int .i64 N ∧ i = .int .i64 k ∧ Hid (N = cntL (cnt r) (cntL (cnt r) 1 t.ex) (t.ar.take k) ∧ N ≤ 100000 * (r + 2)) ∧ Below W1.heap.size W1 wr) (fun _ i _ => t.ar.length - (intOf i).toNat)
      case atStart => exact ⟨N, 0, by omega, rfl, rfl, Lib.hid ⟨Hx.out, HI.out.2⟩, hb⟩
      case round =>
        obtain ⟨N, k, hk, rfl, rfl, HI, hb⟩ := hrel
        try clear hW1
        have hNb := HI.out.2
        have B2 : Blk wr w.heap.size t.cells.toArray 26 := (hb.block _ hs1).trans B0
        clear c0 c1 c2 c3 c4 c5
        obtain ⟨c0, c1, c2, c3, c4, c5⟩ := ct_cells B2
        by_cases hlt : k < t.ar.length
        · by_cases hN : N < 100000
          · have d1 : decide ((k : Int) < (t.ar.length : Int)) = true := decide_eq_true (by omega)
            have d2 : decide (k < t.ar.length) = true := decide_eq_true hlt
            have d3 : decide ((N : Int) < 100000) = true := decide_eq_true (by omega)
            have d4 : decide (N < 100000) = true := decide_eq_true hN
            obtain ⟨u, hu⟩ : ∃ u, t.ar[k] = u := ⟨_, rfl⟩
            have hmu : u ∈ t.ar := by rw [← hu]; exact List.getElem_mem hlt
            obtain ⟨b, o, hao, hbn, hcells⟩ := hLa.row.2 (List.ne_nil_of_length_pos (by omega))
            have hcu : ∀ i x, u.cells[i]? = some x → wr.cell? ⟨b, o + k * 6 + i, none⟩ = some x := fun i x hx => (hb.cell (p := ⟨b, o + k * 6 + i, none⟩) hbn).trans (hcells k hlt i x (by rw [hu]; exact hx))
            have u0 := hcu 0 _ rfl
            have u1 := hcu 1 _ rfl
            have u2 := hcu 2 _ rfl
            have u3 := hcu 3 _ rfl
            have u4 := hcu 4 _ rfl
            have u5 := hcu 5 _ rfl
            rw [Nat.add_zero] at u0
            rw [CT.exv_eq] at u4
            rw [CT.arv_eq] at u5
            have hC := hS u wr ((hLa.ins u hmu).below hb (Nat.le_refl _) |>.mono hb.size)
            rw [CT.val_eq] at hC
            have Hu : Hid (t.ar.take (k + 1) = t.ar.take k ++ [u]) := Lib.hid (by rw [List.take_succ_eq_append_getElem hlt, hu])
            clear hu hcu hcells
      
            have hM := cnt_bound r u
            have H2 : Hid (N + cnt r u = cntL (cnt r) (cntL (cnt r) 1 t.ex) (t.ar.take (k + 1)) ∧ N + cnt r u ≤ 100000 * (r + 2)) := Lib.hid ⟨by rw [Hu.out, cntL_snoc, ← HI.out.1, if_pos hN], by omega⟩
            obtain ⟨M, hMe⟩ : ∃ M, cnt r u = M := ⟨_, rfl⟩
            rw [hMe] at hC H2 hM
            clear hMe
            rw [hao] at c5
            have Hao := Lib.hid hao
            clear hao hmu
            go_wp2_with (go_at_call 49; refine hC.mono ?_)
            rintro e w2 ⟨rfl, hb2⟩
            go_wp2
            go_roundw
            case rel =>
              have hrl : ∃ (N' k' : Nat), k' ≤ t.ar.length ∧ Value.int .i64 ((N : Int) + (M : Int)) = .int .i64 N' ∧ Value.int .i64 ((k : Int) + 1) = .int .i64 k' ∧ Hid (N' = cntL (cnt r) (cntL (cnt r) 1 t.ex) (t.ar.take k') ∧ N' ≤ 100000 * (r + 2)) ∧ Below W1.heap.size W1 w2 := ⟨N + M, k + 1, by omega, by go_num, by go_num, H2, hb.trans (hb2.mono hb.size)⟩
              first
                | exact hrl
                | ((repeat apply Exists.intro); exact ⟨hrl, rfl⟩)
            case measure =>
              have e3 : ((k : Int) + 1).toNat = k + 1 := by omega
              simp only [intOf, e3, Int.toNat_natCast]
              omega
          · have d1 : decide ((k : Int) < (t.ar.length : Int)) = true := decide_eq_true (by omega)
            have d2 : decide (k < t.ar.length) = true := decide_eq_true hlt
            have d3 : decide ((N : Int) < 100000) = false := decide_eq_false (by omega)
            have d4 : decide (N < 100000) = false := decide_eq_false hN
            have Hx : Hid (N = cntL (cnt r) (cntL (cnt r) 1 t.ex) t.ar) := Lib.hid (by
              have h := HI.out.1
              rw [← List.take_append_drop k t.ar, cntL_append, ← h]
              exact (cntL_stuck _ _ _ (by omega)).symm)
            go_wp2
            go_ret
            exact ⟨ret_int (by rw [cnt, ← Hx.out]), hb1.trans (hb.mono (by omega))⟩
        · have d1 : decide ((k : Int) < (t.ar.length : Int)) = false := decide_eq_false (by omega)
          have d2 : decide (k < t.ar.length) = false := decide_eq_false hlt
          have Hx : Hid (N = cntL (cnt r) (cntL (cnt r) 1 t.ex) t.ar) := Lib.hid (by
            have h := HI.out.1
            rw [List.take_of_length_le (by omega)] at h
            exact h)
          go_wp2
          go_ret
          exact ⟨ret_int (by rw [cnt, ← Hx.out]), hb1.trans (hb.mono (by omega))⟩
theorem count_all : ∀ r, r ≤ 100 → CountFor r
  | 0, _ => count_zero
  | r + 1, h => count_step r (by omega) (count_all r (by omega))
end Np
end Go.Proofs.YtohlhihhadbphaaGreatDoor
