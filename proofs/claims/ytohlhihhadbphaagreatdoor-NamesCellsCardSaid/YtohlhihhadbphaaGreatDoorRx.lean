/- NamesCells. -/
import Derived.Test.YtohlhihhadbphaaGreatDoorRv
import Derived.Test.YtohlhihhadbphaaGreatDoorRw
import Derived.Test.YtohlhihhadbphaaGreatDoorRo
import Derived.Test.YtohlhihhadbphaaGreatDoorGm
set_option linter.unusedSimpArgs false
set_option linter.unusedVariables false
namespace Go.Proofs.YtohlhihhadbphaaGreatDoor
open Go.RowKit Go.Shelf Go.Lib Go.Maps Go.ChangeShapes Go.WideShapes
namespace Np
def theC (lst : List CT) : List (Name × List Bool) := if 100 < lst.length then [] else if chkL lst = 0 then cellsF lst (candsOf lst []) else []
def theE (lst : List CT) : Int := if 100 < lst.length then 3 else chkL lst
theorem theC_fit (lst : List CT) : (theC lst).length ≤ 1000000 ∧ ∀ c ∈ theC lst, c.2.length = lst.length := by
  unfold theC
  split
  · simp
  · split
    · rename_i h1 h2
      refine ⟨Nat.le_trans (cellsF_le lst _) ?_, cellsF_len lst _⟩
      have hn := nodL_ok lst (chk_all h2)
      have a1 := asc_length cmpN (nmsOf (CT.partsL lst 1))
      have a2 := asc_length cmpS (spsOf (CT.partsL lst 1))
      have b1 := nmsOf_len (CT.partsL lst 1)
      have b2 := spsOf_len (CT.partsL lst 1)
      rw [partsL_len] at b1 b2
      unfold candsOf candL
      simp only [List.length_append, List.length_map, List.length_cons, List.length_nil]
      omega
    · simp
def CellsRow (w : World) (lst : List CT) (C : List (Name × List Bool)) (E : Int) (e : Ending) (w' : World) : Prop := ∃ (a6 : Option Addr) (c6 : Nat), e = .returned (.tuple #[.slice a6 C.length c6, .int .i64 E]) ∧ Hid (CRow (fun b => w.heap.size ≤ b ∧ b < w'.heap.size) w' a6 C) ∧ Below w.heap.size w w'
theorem cells_row (a : Option Addr) (c : Nat) (lst : List CT) (w : World) (hG : G w) (hL : LIn w w.heap.size a lst) (hd : ∀ u ∈ lst, u.depth ≤ 1000) (hl : lst.length ≤ 1000000) :
    Calls Tryz.prog 32 #[.slice a lst.length c] w (CellsRow w lst (theC lst) (theE lst)) :=
  (Cells_any a c lst w hG hL hd).mono fun e w' ⟨v, he, hO, hb⟩ => by
    have h1 : OwnCells w' w.heap.size v (theC lst) := hO.out
    obtain ⟨a6, c6, hv, hr⟩ := CRow.of_own h1 (theC_fit lst).1 (fun c hc => by rw [(theC_fit lst).2 c hc]; exact hl)
    exact ⟨a6, c6, by rw [he, hv]; rfl, Lib.hid hr, hb⟩
theorem rcells_row (a : Option Addr) (c : Nat) (lst : List CT) (w : World) (hL : LIn w w.heap.size a lst) :
    Calls Tryz.prog 33 #[.slice a lst.length c] w (CellsRow w lst (theC lst) (theE lst)) :=
  (rCells_any a c lst w hL).mono fun e w' ⟨v, he, hO, hb⟩ => by
    have h1 : OwnR w' w.heap.size v (theC lst) := hO.out
    obtain ⟨a6, c6, hv, hr⟩ := h1.row (theC_fit lst).1
    exact ⟨a6, c6, by rw [he, hv]; rfl, Lib.hid hr, hb⟩
theorem theE_zero {lst : List CT} (h : theE lst = 0) : lst.length ≤ 100 ∧ chkL lst = 0 ∧ theC lst = cellsF lst (candsOf lst []) := by
  unfold theE at h
  split at h
  · cases h
  · rename_i h1
    exact ⟨by omega, h, by unfold theC; rw [if_neg h1, if_pos h]⟩
theorem take_dec {l m : List Bool} {k : Nat} (hl : k < l.length) (hm : k < m.length) : decide (l.take (k + 1) = m.take (k + 1)) = (decide (l.take k = m.take k) && (m[k] == l[k])) := by
  rw [Bool.eq_iff_iff]
  simp only [decide_eq_true_eq, Bool.and_eq_true, beq_iff_eq]
  rw [List.take_succ_eq_append_getElem hl, List.take_succ_eq_append_getElem hm]
  constructor
  · intro h
    have h2 := List.append_inj' h rfl
    exact ⟨h2.1, by have := h2.2; simp at this; exact this.symm⟩
  · rintro ⟨h1, h2⟩
    rw [h1, h2]
theorem has_ok {u : CT} {n : Name} (h : u.check = 0) (hv : validN n = true) : hasR u n = (u.holds n, 0) := by
  unfold hasR; rw [if_neg (by simpa using h), if_neg (by simp [hv])]
set_option maxRecDepth 100000 in
set_option maxHeartbeats 4000000 in
theorem NamesCells_any (a : Option Addr) (c : Nat) (lst : List CT) (n : Name) (w : World) (hG : G w) (hL : LIn w w.heap.size a lst) :
    Calls Tryz.prog 5 #[.slice a lst.length c, n.val] w fun e w' => e = .returned (.bool true) ∧ Below w.heap.size w w' := by
  have hll := hL.row.1
  unfold maxLen at hll
  obtain ⟨W1, hW1⟩ : ∃ W1, w.alloc (.cells #[.string n.sp, .string n.lc] 23) = W1 := ⟨_, rfl⟩
  have hb1 : Below w.heap.size w W1 := by rw [← hW1]; exact (Below.refl _ w).alloc (Nat.le_refl _) _
  have BN : Blk W1 w.heap.size #[.string n.sp, .string n.lc] 23 := by rw [← hW1]; exact Blk.new _ _ _
  have hL1 := (hL.below hb1 (Nat.le_refl _)).mono hb1.size
  have hG1 := hG.later hb1
  unfold Name.val
  by_cases hbig : 300 < lst.length ∨ (12 < lst.length ∧ lst.length ≤ 100)
  · have hK := shown_any W1 hG1
    rcases hbig with h | ⟨h, h'⟩
    · have l1 : decide (300 < (lst.length : Int)) = true := decide_eq_true (by omega)
      have l2 : decide (300 < lst.length) = true := decide_eq_true h
      go_enter Tryz.func5, Tryz.ntmps5
      go_wp2_with (go_at_call 8; refine hK.mono ?_)
      first | rintro e V3 rfl hbn | rintro e V3 ⟨rfl, hbn⟩
      go_wp2
      go_ret
      exact ⟨rfl, b_step hbn hb1⟩
    · have l1 : decide (300 < (lst.length : Int)) = false := decide_eq_false (by omega)
      have l2 : decide (300 < lst.length) = false := decide_eq_false (by omega)
      have l3 : decide (12 < (lst.length : Int)) = true := decide_eq_true (by omega)
      have l4 : decide (12 < lst.length) = true := decide_eq_true h
      have l5 : decide ((lst.length : Int) ≤ 100) = true := decide_eq_true (by omega)
      have l6 : decide (lst.length ≤ 100) = true := decide_eq_true h'
      go_enter Tryz.func5, Tryz.ntmps5
      go_wp2_with (go_at_call 8; refine hK.mono ?_)
      first | rintro e V3 rfl hbn | rintro e V3 ⟨rfl, hbn⟩
      go_wp2
      go_ret
      exact ⟨rfl, b_step hbn hb1⟩
  have l1 : decide (300 < (lst.length : Int)) = false := decide_eq_false (by omega)
  have l2 : decide (300 < lst.length) = false := decide_eq_false (by omega)
  have hl300 : lst.length ≤ 300 := by omega
  obtain ⟨z1, l3⟩ : ∃ z, decide (12 < (lst.length : Int)) = z := ⟨_, rfl⟩
  have l4 : decide (12 < lst.length) = z1 := by rw [← l3, Bool.eq_iff_iff]; simp only [decide_eq_true_eq]; omega
  obtain ⟨z2, l5⟩ : ∃ z, decide ((lst.length : Int) ≤ 100) = z := ⟨_, rfl⟩
  have l6 : decide (lst.length ≤ 100) = z2 := by rw [← l5, Bool.eq_iff_iff]; simp only [decide_eq_true_eq]; omega
  have hz : z1 = false ∨ (z1 = true ∧ z2 = false) := by
    cases z1
    · exact .inl rfl
    · refine .inr ⟨rfl, ?_⟩
      rw [← l6]
      have := of_decide_eq_true l4
      exact decide_eq_false (by omega)
  clear hbig
  suffices H : Calls Tryz.prog 5 #[.slice a lst.length c, .agg #[.string n.sp, .string n.lc]] w fun e w' => e = .returned (.bool true) ∧ Below w.heap.size w w' from H
  rcases hz with rfl | ⟨rfl, rfl⟩
  all_goals
    go_enter Tryz.func5, Tryz.ntmps5
    go_wp2
    go_loopw [5] (fun i wr => ∃ k : Nat, k ≤ lst.length ∧ i = .int .i64 k ∧ Hid (∀ u ∈ lst.take k, u.depth ≤ 40) ∧ Below W1.heap.size W1 wr) (fun i _ => lst.length - (intOf i).toNat)
    case atStart => exact ⟨0, by omega, rfl, Lib.hid (by simp), Below.refl _ _⟩
    case round =>
      obtain ⟨k, hk, rfl, HI, hb⟩ := hrel
      try clear hW1
      have hbs := hb.size
      have hBw := b_step hb hb1
      by_cases hlt : k < lst.length
      · have d1 : decide ((k : Int) < (lst.length : Int)) = true := decide_eq_true (by omega)
        have d2 : decide (k < lst.length) = true := decide_eq_true hlt
        obtain ⟨u, hu⟩ : ∃ u, lst[k] = u := ⟨_, rfl⟩
        have hmu : u ∈ lst := by rw [← hu]; exact List.getElem_mem hlt
        obtain ⟨b, o, hao, hbn', hcells⟩ := hL.row.2 (List.ne_nil_of_length_pos (by omega))
        have hcu : ∀ i x, u.cells[i]? = some x → wr.cell? ⟨b, o + k * 6 + i, none⟩ = some x := fun i x hx => (hBw.cell (p := ⟨b, o + k * 6 + i, none⟩) hbn').trans (hcells k hlt i x (by rw [hu]; exact hx))
        have u0 := hcu 0 _ rfl
        have u1 := hcu 1 _ rfl
        have u2 := hcu 2 _ rfl
        have u3 := hcu 3 _ rfl
        have u4 := hcu 4 _ rfl
        have u5 := hcu 5 _ rfl
        rw [Nat.add_zero] at u0
        rw [CT.exv_eq] at u4
        rw [CT.arv_eq] at u5
        have hK := great_any u wr (((hL.ins u hmu).below hBw (Nat.le_refl _)).mono hBw.size)
        rw [CT.val_eq] at hK
        have Hu := Lib.hid hu
        subst hao
        clear hu hcu hcells hmu
        go_wp2_with (go_at_call 7; refine hK.mono ?_)
        clear hK u0 u1 u2 u3 u4 u5
        rintro e V1 ⟨g, rfl, Hg, hbn⟩
        have hB2 : Below W1.heap.size W1 V1 := b_step hbn hb
        cases g with
        | true =>
          have hK := shown_any V1 (hG1.later hB2)
          go_wp2_with (go_at_call 8; refine hK.mono ?_)
          first | rintro e V3 rfl hbn3 | rintro e V3 ⟨rfl, hbn3⟩
          go_wp2
          go_ret
          exact ⟨rfl, b_step hbn3 (b_step hB2 hb1)⟩
        | false =>
          have H2 : Hid (∀ u ∈ lst.take (k + 1), u.depth ≤ 40) := Lib.hid (by
            rw [List.take_succ_eq_append_getElem hlt, Hu.out]
            intro y hy
            rcases List.mem_append.1 hy with hy | hy
            · exact HI.out y hy
            · rw [List.mem_singleton.1 hy]; exact Hg.out rfl)
          clear Hg
          go_wp2
          go_roundw
          case rel =>
            first
              | exact ⟨k + 1, by omega, by go_num, H2, hB2⟩
              | ((repeat apply Exists.intro); exact ⟨⟨k + 1, by omega, by go_num, H2, hB2⟩, rfl⟩)
          case measure =>
            have e3 : ((k : Int) + 1).toNat = k + 1 := by omega
            simp only [intOf, e3, Int.toNat_natCast]
            omega
      · have d1 : decide ((k : Int) < (lst.length : Int)) = false := decide_eq_false (by omega)
        have d2 : decide (k < lst.length) = false := decide_eq_false hlt
        have hd : ∀ u ∈ lst, u.depth ≤ 1000 := by
          have h := HI.out
          rw [List.take_of_length_le (by omega)] at h
          exact fun u hu => Nat.le_trans (h u hu) (by omega)
        have hGr := hG1.later hb
        have hLr := (hL1.below hb (Nat.le_refl _)).mono hbs
        have hK := cells_row a c lst wr hGr hLr hd (by omega)
        have hK2 := fun V (hV : Below wr.heap.size wr V) => rcells_row a c lst V ((hLr.below hV (Nat.le_refl _)).mono hV.size)
        have Hd := Lib.hid hd
        have HF := Lib.hid (theC_fit lst)
        have HZ := Lib.hid (@theE_zero lst)
        obtain ⟨C, hC⟩ : ∃ C, theC lst = C := ⟨_, rfl⟩
        obtain ⟨E, hE⟩ : ∃ E, theE lst = E := ⟨_, rfl⟩
        rw [hC, hE] at hK
        simp only [hC, hE] at hK2
        rw [hC] at HF
        rw [hC, hE] at HZ
        clear hd hC hE
        have hbig := HF.out.1
        go_wp2_with (go_at_call 32; refine hK.mono ?_)
        clear hK
        rintro e V1 ⟨a6, c6, rfl, HO, hbn⟩
        have hK := hK2 V1 hbn
        go_wp2_with (go_at_call 33; refine hK.mono ?_)
        clear hK hK2
        rintro e V2 ⟨a7, c7, rfl, HO2, hbn2⟩
        have hA6 := HO.out.later (fun b h => h.2) hbn2
        have hbn12 := b_step hbn2 hbn
        have hK := sameCells_any _ _ a6 a7 c6 c7 C C V2 hA6 HO2.out (fun b h => Nat.lt_of_lt_of_le h.2 hbn2.size) (fun b h => h.2)
        rw [decide_eq_true rfl] at hK
        have HA6 := Lib.hid hA6
        have g1 : (E == E) = true := by simp
        have g2 : (E != E) = false := by simp
        go_wp2_with (go_at_call 34; refine hK.mono ?_)
        clear hK HO HO2 hA6 g1 g2
        first | rintro e V3 rfl hbn3 | rintro e V3 ⟨rfl, hbn3⟩
        have hbn13 := b_step hbn3 hbn12
        have hB3 : Below W1.heap.size W1 V3 := b_step hbn13 hb
        have hA6 := HA6.out.later (fun b h => Nat.lt_of_lt_of_le h.2 hbn2.size) hbn3
        have HA6 := Lib.hid hA6
        clear hA6
        by_cases h0 : ¬ E = 0
        · have g1 : (E == 0) = false := by simpa using h0
          have g2 : (E != 0) = true := by simpa using h0
          have hK := shown_any V3 (hG1.later hB3)
          clear h0
          go_wp2_with (go_at_call 8; refine hK.mono ?_)
          first | rintro e V4 rfl hbn4 | rintro e V4 ⟨rfl, hbn4⟩
          go_wp2
          go_ret
          exact ⟨rfl, b_step hbn4 (b_step hB3 hb1)⟩
        have h0 : E = 0 := Decidable.of_not_not h0
        subst h0
        have BN3 := BN.below hB3
        have n0 := BN3.cell 0
        have n1 := BN3.cell 1
        simp only [List.getElem?_toArray, List.getElem?_cons_zero, List.getElem?_cons_succ] at n0 n1
        have hK := rValid_any n V3
        obtain ⟨vn, hvn⟩ : ∃ v, validN n = v := ⟨_, rfl⟩
        rw [hvn] at hK
        unfold Name.val at hK
        have Hvn := Lib.hid hvn
        clear hvn
        go_wp2_with (go_at_call 35; refine hK.mono ?_)
        clear hK n0 n1
        first | rintro e V4 rfl hbn4 | rintro e V4 ⟨rfl, hbn4⟩
        have hB4 : Below W1.heap.size W1 V4 := b_step hbn4 hB3
        cases vn with
        | false =>
          have hK := shown_any V4 (hG1.later hB4)
          go_wp2_with (go_at_call 8; refine hK.mono ?_)
          first | rintro e V5 rfl hbn5 | rintro e V5 ⟨rfl, hbn5⟩
          go_wp2
          go_ret
          exact ⟨rfl, b_step hbn5 (b_step hB4 hb1)⟩
        | true =>
          have hA := HA6.out.later (fun b h => Nat.lt_of_lt_of_le h.2 (Nat.le_trans hbn2.size hbn3.size)) hbn4
          have HA := Lib.hid hA
          obtain ⟨z1, z2, z3⟩ := HZ.out (by trivial)
          have Hone : Hid ((C.filter fun c => decide (c.2 = inR lst n)).length = 1) := Lib.hid (by rw [z3]; exact one_cell lst n)
          have Hz := Lib.hid (And.intro z1 z2)
          obtain ⟨R, hR⟩ : ∃ R, inR lst n = R := ⟨_, rfl⟩
          rw [hR] at Hone
          have HR := Lib.hid hR
          have hRl : R.length = lst.length := by rw [← hR]; exact inR_len lst n
          have HRl := Lib.hid hRl
          clear hA z1 z2 z3 hR hRl HA6
          go_wp2
          go_loopw [10, 11] (fun cnt i wz => ∃ (j N : Nat), j ≤ C.length ∧ i = .int .i64 j ∧ cnt = .int .i64 (N : Int) ∧ Hid (((C.take j).filter fun c => decide (c.2 = R)).length = N) ∧ Below V4.heap.size V4 wz) (fun _ i _ => C.length - (intOf i).toNat)
          case atStart => exact ⟨0, 0, by omega, rfl, rfl, Lib.hid (by simp), Below.refl _ _⟩
          case round =>
            obtain ⟨j, N, hj, rfl, rfl, HN, hb4⟩ := hrel
            have hb4s := hb4.size
            have hB5 : Below W1.heap.size W1 wr := b_step hb4 hB4
            have hNb : N ≤ 1000000 := by
              rw [← HN.out]
              exact Nat.le_trans (List.length_filter_le _ _) (by rw [List.length_take]; omega)
            by_cases hltj : j < C.length
            · have d3 : decide ((j : Int) < (C.length : Int)) = true := decide_eq_true (by omega)
              have d4 : decide (j < C.length) = true := decide_eq_true hltj
              obtain ⟨b, o, ia, ic, hao, hbA, p0, p1, p2, hRj⟩ := (HA.out.later (fun b h => Nat.lt_of_lt_of_le h.2 (Nat.le_trans (Nat.le_trans hbn2.size hbn3.size) hbn4.size)) hb4).at hltj
              have hbl : b < wr.heap.size := Nat.lt_of_lt_of_le hbA.2 (Nat.le_trans (Nat.le_trans (Nat.le_trans hbn2.size hbn3.size) hbn4.size) hb4s)
              have hBl : C[j].2.length = lst.length := HF.out.2 _ (List.getElem_mem hltj)
              have Hct : Hid (((C.take (j + 1)).filter fun c => decide (c.2 = R)).length = N + if decide (C[j].2 = R) then 1 else 0) := Lib.hid (by
                rw [List.take_succ_eq_append_getElem hltj, List.filter_append, List.length_append, HN.out, List.filter_cons, List.filter_nil]
                by_cases e : C[j].2 = R
                · rw [if_pos (decide_eq_true e), if_pos (decide_eq_true e)]; rfl
                · rw [if_neg (by simpa using e), if_neg (by simpa using e)]; rfl)
              obtain ⟨Bj, hBj⟩ : ∃ B, C[j].2 = B := ⟨_, rfl⟩
              rw [hBj] at p2 hRj hBl Hct
              have HBl := Lib.hid hBl
              subst hao
              have hRA := hRj.keep (A' := fun b => b < wr.heap.size) (fun b h => Nat.lt_of_lt_of_le h.2 (Nat.le_trans (Nat.le_trans (Nat.le_trans hbn2.size hbn3.size) hbn4.size) hb4s)) (fun _ _ => rfl)
              clear hBj hRj p0 p1
              go_wp2
              go_loopw [12, 13] (fun h i wz => ∃ (m : Nat) (hb : Bool), m ≤ lst.length ∧ i = .int .i64 m ∧ h = .bool hb ∧ Hid (decide (Bj.take m = R.take m) = hb) ∧ Below wr.heap.size wr wz) (fun _ i _ => lst.length - (intOf i).toNat)
              case atStart => exact ⟨0, true, by omega, rfl, rfl, Lib.hid (by simp), Below.refl _ _⟩
              case round =>
                obtain ⟨m, hit, hm, rfl, rfl, HS, hb6⟩ := hrel
                have hb6s := hb6.size
                have hB6 : Below W1.heap.size W1 wr := b_step hb6 hB5
                by_cases hltm : m < lst.length
                · have d5 : decide ((m : Int) < (lst.length : Int)) = true := decide_eq_true (by omega)
                  have d6 : decide (m < lst.length) = true := decide_eq_true hltm
                  have hmB : m < Bj.length := by rw [HBl.out]; exact hltm
                  have hmR : m < R.length := by rw [HRl.out]; exact hltm
                  have d7 : decide ((m : Int) < (Bj.length : Int)) = true := decide_eq_true (by omega)
                  have d8 : decide (m < Bj.length) = true := decide_eq_true hmB
                  obtain ⟨u, hu⟩ : ∃ u, lst[m] = u := ⟨_, rfl⟩
                  have hmu : u ∈ lst := by rw [← hu]; exact List.getElem_mem hltm
                  have hBw : Below w.heap.size w wr := b_step hB6 hb1
                  obtain ⟨b8, o8, hao8, hbn8, hcells⟩ := hL.row.2 (List.ne_nil_of_length_pos (by omega))
                  have hcu : ∀ i y, u.cells[i]? = some y → wr.cell? ⟨b8, o8 + m * 6 + i, none⟩ = some y := fun i y hy => (hBw.cell (p := ⟨b8, o8 + m * 6 + i, none⟩) hbn8).trans (hcells m hltm i y (by rw [hu]; exact hy))
                  have u0 := hcu 0 _ rfl
                  have u1 := hcu 1 _ rfl
                  have u2 := hcu 2 _ rfl
                  have u3 := hcu 3 _ rfl
                  have u4 := hcu 4 _ rfl
                  have u5 := hcu 5 _ rfl
                  rw [Nat.add_zero] at u0
                  rw [CT.exv_eq] at u4
                  rw [CT.arv_eq] at u5
                  have BN6 := BN.below hB6
                  have n0 := BN6.cell 0
                  have n1 := BN6.cell 1
                  simp only [List.getElem?_toArray, List.getElem?_cons_zero, List.getElem?_cons_succ] at n0 n1
                  have hBd := b_drew hBw
                  have hK := Has_any u n wr.drew (Hd.out u hmu) (((hL.ins u hmu).below hBd (Nat.le_refl _)).mono hBd.size)
                  rw [has_ok (chk_all Hz.out.2 u hmu) Hvn.out] at hK
                  obtain ⟨y, hy⟩ : ∃ y, u.holds n = y := ⟨_, rfl⟩
                  rw [hy, CT.val_eq] at hK
                  unfold Name.val at hK
                  have HRm : Hid (R[m] = y) := Lib.hid (by
                    have h := HR.out
                    subst h
                    rw [← hy, ← hu]
                    simp [inR])
                  obtain ⟨b7, o7, hia, hb7, q0⟩ := rwB_at (hRA.later (fun b h => h) hb6) hmB
                  obtain ⟨el, hel⟩ : ∃ x, Bj[m] = x := ⟨_, rfl⟩
                  rw [hel] at q0
                  obtain ⟨eq, heq⟩ : ∃ x, (y == el) = x := ⟨_, rfl⟩
                  have HT : Hid (decide (Bj.take (m + 1) = R.take (m + 1)) = (hit && eq)) := Lib.hid (by
                    rw [take_dec hmB hmR, HS.out, HRm.out, hel, heq])
                  have p2' := (hb6.cell (p := ⟨b, o + j * 3 + 2, none⟩) hbl).trans p2
                  have hbl6 : b < wr.heap.size := Nat.lt_of_lt_of_le hbl hb6s
                  have hbl7 : b7 < wr.heap.size := Nat.lt_of_lt_of_le hb7 hb6s
                  subst hao8
                  rw [hia] at p2'
                  have Hia := Lib.hid hia
                  clear hu hy hel hcu hcells hmu hia
                  go_upto_region 22 with (fail)
                  first
                    | go_region_with (go_at_call 9; refine hK.mono ?_; rintro e w5 ⟨rfl, hb5⟩)
                    | fail
                  all_goals
                    clear hK u0 u1 u2 u3 u4 u5 n0 n1
                    have hb56 := b_step hb5 (b_drew hb6)
                    have hwd : Below wr.heap.size wr w5 := b_step hb5 (b_drew (Below.refl _ _))
                    have p2w := (hwd.cell (p := ⟨b, o + j * 3 + 2, none⟩) hbl6).trans p2'
                    have q0w := (hwd.cell (p := ⟨b7, o7 + m, none⟩) hbl7).trans q0
                    clear p2' q0
                    cases hit
                    · go_wp2
                      go_roundw
                      case rel =>
                        first
                          | exact ⟨m + 1, false, by omega, by go_num, rfl, HT, hb56⟩
                          | ((repeat apply Exists.intro); exact ⟨⟨m + 1, false, by omega, by go_num, rfl, HT, hb56⟩, rfl⟩)
                      case measure =>
                        have e3 : ((m : Int) + 1).toNat = m + 1 := by omega
                        simp only [intOf, e3, Int.toNat_natCast]
                        omega
                    · go_wp2
                      go_roundw
                      case rel =>
                        first
                          | exact ⟨m + 1, eq, by omega, by go_num, rfl, HT, hb56⟩
                          | ((repeat apply Exists.intro); exact ⟨⟨m + 1, eq, by omega, by go_num, rfl, HT, hb56⟩, rfl⟩)
                      case measure =>
                        have e3 : ((m : Int) + 1).toNat = m + 1 := by omega
                        simp only [intOf, e3, Int.toNat_natCast]
                        omega
                · have d5 : decide ((m : Int) < (lst.length : Int)) = false := decide_eq_false (by omega)
                  have d6 : decide (m < lst.length) = false := decide_eq_false hltm
                  have hb46 : Below V4.heap.size V4 wr := b_step hb6 hb4
                  have HS2 : Hid (decide (Bj = R) = hit) := Lib.hid (by
                    have h := HS.out
                    have h1 := HBl.out
                    have h2 := HRl.out
                    rw [List.take_of_length_le (by omega), List.take_of_length_le (by omega)] at h
                    exact h)
                  cases hit
                  · have HN2 : Hid (((C.take (j + 1)).filter fun c => decide (c.2 = R)).length = N) := Lib.hid (by rw [Hct.out, HS2.out]; rfl)
                    go_wp2
                    go_roundw
                    case rel =>
                      first
                        | exact ⟨j + 1, N, by omega, by go_num, rfl, HN2, hb46⟩
                        | ((repeat apply Exists.intro); exact ⟨⟨j + 1, N, by omega, by go_num, rfl, HN2, hb46⟩, rfl⟩)
                    case measure =>
                      have e3 : ((j : Int) + 1).toNat = j + 1 := by omega
                      simp only [intOf, e3, Int.toNat_natCast]
                      omega
                  · have HN2 : Hid (((C.take (j + 1)).filter fun c => decide (c.2 = R)).length = N + 1) := Lib.hid (by rw [Hct.out, HS2.out]; rfl)
                    go_wp2
                    go_roundw
                    case rel =>
                      first
                        | exact ⟨j + 1, N + 1, by omega, by go_num, by go_num, HN2, hb46⟩
                        | ((repeat apply Exists.intro); exact ⟨⟨j + 1, N + 1, by omega, by go_num, by go_num, HN2, hb46⟩, rfl⟩)
                    case measure =>
                      have e3 : ((j : Int) + 1).toNat = j + 1 := by omega
                      simp only [intOf, e3, Int.toNat_natCast]
                      omega
            · have d3 : decide ((j : Int) < (C.length : Int)) = false := decide_eq_false (by omega)
              have d4 : decide (j < C.length) = false := decide_eq_false hltj
              have hN1 : N = 1 := by
                rw [← HN.out, List.take_of_length_le (by omega)]
                exact Hone.out
              subst hN1
              have hK := shown_any wr (hG1.later hB5)
              go_wp2_with (go_at_call 8; refine hK.mono ?_)
              first | rintro e V5 rfl hbn5 | rintro e V5 ⟨rfl, hbn5⟩
              go_wp2
              go_ret
              exact ⟨rfl, b_step hbn5 (b_step hB5 hb1)⟩
end Np
end Go.Proofs.YtohlhihhadbphaaGreatDoor
