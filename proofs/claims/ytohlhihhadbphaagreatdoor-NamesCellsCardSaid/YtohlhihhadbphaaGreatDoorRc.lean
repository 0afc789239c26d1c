/- The reference of names: formed, Check, In, Has. -/
import Derived.Test.YtohlhihhadbphaaGreatDoorRb
set_option linter.unusedSimpArgs false
set_option linter.unusedVariables false
namespace Go.Proofs.YtohlhihhadbphaaGreatDoor
open Go.RowKit Go.Shelf Go.Lib
namespace Np
theorem fitsAllT (t : CT) : t.fitsAll = true ↔ t.fits = true ∧ (∀ u ∈ t.ex, u.fitsAll = true) ∧ ∀ u ∈ t.ar, u.fitsAll = true := by
  rw [← CT.fitsAll_er, fitsAll_iff, CT.fits_er, CT.ex_er, CT.ar_er]
  simp only [List.forall_mem_map, CT.fitsAll_er]
def FormedFor (D : Nat) : Prop := ∀ (t : CT) (w : World), t.depth ≤ D → t.In w w.heap.size → Calls Tryz.prog 50 #[t.val] w fun e w' => e = .returned (.bool t.fitsAll) ∧ Below w.heap.size w w'
set_option maxRecDepth 100000 in
set_option maxHeartbeats 4000000 in
theorem formed_step (D : Nat) (hD : FormedFor D) : FormedFor (D + 1) := by
  intro t w ht hIn
  have hI := CT.in_iff.1 hIn
  obtain ⟨W1, hW1⟩ : ∃ W1, w.alloc (.cells t.cells.toArray 26) = W1 := ⟨_, rfl⟩
  have hb1 : Below w.heap.size w W1 := by rw [← hW1]; exact (Below.refl _ w).alloc (Nat.le_refl _) _
  have B0 : Blk W1 w.heap.size t.cells.toArray 26 := by rw [← hW1]; exact Blk.new _ _ _
  have hs1 : w.heap.size < W1.heap.size := B0.lt
  have hLe : LIn W1 W1.heap.size t.ea t.ex := LIn.mono (LIn.below ⟨hI.2.2.1, hI.2.2.2.2.1⟩ hb1 (Nat.le_refl _)) (by omega)
  have hLa : LIn W1 W1.heap.size t.aa t.ar := LIn.mono (LIn.below ⟨hI.2.2.2.1, hI.2.2.2.2.2⟩ hb1 (Nat.le_refl _)) (by omega)
  obtain ⟨c0, c1, c2, c3, c4, c5⟩ := ct_cells B0
  rw [CT.cells_eq] at hW1
  rw [CT.val_eq]
  have hel := hLe.row.1
  have hal := hLa.row.1
  unfold maxLen at hel hal
  have hS : ∀ (u : CT) (w : World), u.depth ≤ D → u.In w w.heap.size → Calls Tryz.prog 50 #[u.val] w fun e w' => e = .returned (.bool u.fitsAll) ∧ Below w.heap.size w w' := hD
  obtain ⟨res, hres⟩ : ∃ r, t.fitsAll = r := ⟨_, rfl⟩
  rw [hres]
  have Hres := Lib.hid hres
  clear hI hIn hD hres
  go_enter Tryz.func50, Tryz.ntmps50
  go_wp2
  go_loopw [3] (fun i wr => ∃ k : Nat, k ≤ t.ex.length ∧ i = .int .i64 k ∧ Hid (∀ u ∈ t.ex.take k, u.fitsAll = true) ∧ Below W1.heap.size W1 wr) (fun i _ => t.ex.length - (intOf i).toNat)
  case atStart => exact ⟨0, by omega, rfl, Lib.hid (by simp), Below.refl _ _⟩
  case round =>
    obtain ⟨k, hk, rfl, HI, hb⟩ := hrel
    try clear hW1
    have B2 : Blk wr w.heap.size t.cells.toArray 26 := (hb.block _ hs1).trans B0
    clear c0 c1 c2 c3 c4 c5
    obtain ⟨c0, c1, c2, c3, c4, c5⟩ := ct_cells B2
    by_cases hlt : k < t.ex.length
    · have d1 : decide ((k : Int) < (t.ex.length : Int)) = true := decide_eq_true (by omega)
      have d2 : decide (k < t.ex.length) = true := decide_eq_true hlt
      obtain ⟨u, hu⟩ : ∃ u, t.ex[k] = u := ⟨_, rfl⟩
      have hmu : u ∈ t.ex := by rw [← hu]; exact List.getElem_mem hlt
      obtain ⟨b, o, hao, hbn, hcells⟩ := hLe.row.2 (List.ne_nil_of_length_pos (by omega))
      have hcu : ∀ i x, u.cells[i]? = some x → wr.cell? ⟨b, o + k * 6 + i, none⟩ = some x := fun i x hx => (hb.cell (p := ⟨b, o + k * 6 + i, none⟩) hbn).trans (hcells k hlt i x (by rw [hu]; exact hx))
      have u0 := hcu 0 _ rfl
      have u1 := hcu 1 _ rfl
      have u2 := hcu 2 _ rfl
      have u3 := hcu 3 _ rfl
      have u4 := hcu 4 _ rfl
      have u5 := hcu 5 _ rfl
      rw [Nat.add_zero] at u0
      rw [CT.exv_eq] at u4
      rw [CT.arv_eq] at u5
      have hC := hS u wr (by have := CT.depth_ex hmu; omega) ((hLe.ins u hmu).below hb (Nat.le_refl _) |>.mono hb.size)
      rw [CT.val_eq] at hC
      have Hu : Hid (t.ex.take (k + 1) = t.ex.take k ++ [u]) := Lib.hid (by rw [List.take_succ_eq_append_getElem hlt, hu])
      clear hu hcu hcells
  
      obtain ⟨v, hv⟩ : ∃ v, u.fitsAll = v := ⟨_, rfl⟩
      rw [hv] at hC
      have Hv := Lib.hid hv
      have Hm := Lib.hid hmu
      rw [hao] at c4
      have Hao := Lib.hid hao
      clear hao hmu hv
      go_wp2_with (go_at_call 50; refine hC.mono ?_)
      rintro e w2 ⟨rfl, hb2⟩
      have hb3 := hb.trans (hb2.mono hb.size)
      cases v
      · have Hr : Hid (t.fitsAll = false) := Lib.hid (by
          rw [Bool.eq_false_iff]; intro h
          have := (fitsAllT t).1 h
          rw [this.2.1 u Hm.out] at Hv
          cases Hv.out)
        go_wp2
        go_ret
        exact ⟨ret_bool (by rw [← Hres.out, Hr.out]), hb1.trans (hb3.mono (by omega))⟩
      · have H2 : Hid (∀ u ∈ t.ex.take (k + 1), u.fitsAll = true) := Lib.hid (by
          rw [Hu.out]
          intro x hx
          rcases List.mem_append.1 hx with hx | hx
          · exact HI.out x hx
          · rw [List.mem_singleton.1 hx]; exact Hv.out)
        go_wp2
        go_roundw
        case rel =>
          have hrl : ∃ k' : Nat, k' ≤ t.ex.length ∧ Value.int .i64 ((k : Int) + 1) = .int .i64 k' ∧ Hid (∀ u ∈ t.ex.take k', u.fitsAll = true) ∧ Below W1.heap.size W1 w2 := ⟨k + 1, by omega, by go_num, H2, hb3⟩
          first
            | exact hrl
            | ((repeat apply Exists.intro); exact ⟨hrl, rfl⟩)
        case measure =>
          have e3 : ((k : Int) + 1).toNat = k + 1 := by omega
          simp only [intOf, e3, Int.toNat_natCast]
          omega
    · have d1 : decide ((k : Int) < (t.ex.length : Int)) = false := decide_eq_false (by omega)
      have d2 : decide (k < t.ex.length) = false := decide_eq_false hlt
      have Hex : Hid (∀ u ∈ t.ex, u.fitsAll = true) := Lib.hid (by
        have h := HI.out
        rw [List.take_of_length_le (by omega)] at h
        exact h)
      clear HI
      go_wp2
      go_loopw [4] (fun i wr => ∃ k : Nat, k ≤ t.ar.length ∧ i = .int .i64 k ∧ Hid (∀ u ∈ t.ar.take k, u.fitsAll = true) ∧ Below W1.heap.size W1 wr) (fun i _ => t.ar.length - (intOf i).toNat)
      case atStart => exact ⟨0, by omega, rfl, Lib.hid (by simp), hb⟩
      case round =>
        obtain ⟨k, hk, rfl, HI, hb⟩ := hrel
        try clear hW1
        have B2 : Blk wr w.heap.size t.cells.toArray 26 := (hb.block _ hs1).trans B0
        clear c0 c1 c2 c3 c4 c5
        obtain ⟨c0, c1, c2, c3, c4, c5⟩ := ct_cells B2
        by_cases hlt : k < t.ar.length
        · have d1 : decide ((k : Int) < (t.ar.length : Int)) = true := decide_eq_true (by omega)
          have d2 : decide (k < t.ar.length) = true := decide_eq_true hlt
          obtain ⟨u, hu⟩ : ∃ u, t.ar[k] = u := ⟨_, rfl⟩
          have hmu : u ∈ t.ar := by rw [← hu]; exact List.getElem_mem hlt
          obtain ⟨b, o, hao, hbn, hcells⟩ := hLa.row.2 (List.ne_nil_of_length_pos (by omega))
          have hcu : ∀ i x, u.cells[i]? = some x → wr.cell? ⟨b, o + k * 6 + i, none⟩ = some x := fun i x hx => (hb.cell (p := ⟨b, o + k * 6 + i, none⟩) hbn).trans (hcells k hlt i x (by rw [hu]; exact hx))
          have u0 := hcu 0 _ rfl
          have u1 := hcu 1 _ rfl
          have u2 := hcu 2 _ rfl
          have u3 := hcu 3 _ rfl
          have u4 := hcu 4 _ rfl
          have u5 := hcu 5 _ rfl
          rw [Nat.add_zero] at u0
          rw [CT.exv_eq] at u4
          rw [CT.arv_eq] at u5
          have hC := hS u wr (by have := CT.depth_ar hmu; omega) ((hLa.ins u hmu).below hb (Nat.le_refl _) |>.mono hb.size)
          rw [CT.val_eq] at hC
          have Hu : Hid (t.ar.take (k + 1) = t.ar.take k ++ [u]) := Lib.hid (by rw [List.take_succ_eq_append_getElem hlt, hu])
          clear hu hcu hcells
      
          obtain ⟨v, hv⟩ : ∃ v, u.fitsAll = v := ⟨_, rfl⟩
          rw [hv] at hC
          have Hv := Lib.hid hv
          have Hm := Lib.hid hmu
          rw [hao] at c5
          have Hao := Lib.hid hao
          clear hao hmu hv
          go_wp2_with (go_at_call 50; refine hC.mono ?_)
          rintro e w2 ⟨rfl, hb2⟩
          have hb3 := hb.trans (hb2.mono hb.size)
          cases v
          · have Hr : Hid (t.fitsAll = false) := Lib.hid (by
              rw [Bool.eq_false_iff]; intro h
              have := (fitsAllT t).1 h
              rw [this.2.2 u Hm.out] at Hv
              cases Hv.out)
            go_wp2
            go_ret
            exact ⟨ret_bool (by rw [← Hres.out, Hr.out]), hb1.trans (hb3.mono (by omega))⟩
          · have H2 : Hid (∀ u ∈ t.ar.take (k + 1), u.fitsAll = true) := Lib.hid (by
              rw [Hu.out]
              intro x hx
              rcases List.mem_append.1 hx with hx | hx
              · exact HI.out x hx
              · rw [List.mem_singleton.1 hx]; exact Hv.out)
            go_wp2
            go_roundw
            case rel =>
              have hrl : ∃ k' : Nat, k' ≤ t.ar.length ∧ Value.int .i64 ((k : Int) + 1) = .int .i64 k' ∧ Hid (∀ u ∈ t.ar.take k', u.fitsAll = true) ∧ Below W1.heap.size W1 w2 := ⟨k + 1, by omega, by go_num, H2, hb3⟩
              first
                | exact hrl
                | ((repeat apply Exists.intro); exact ⟨hrl, rfl⟩)
            case measure =>
              have e3 : ((k : Int) + 1).toNat = k + 1 := by omega
              simp only [intOf, e3, Int.toNat_natCast]
              omega
        · have d1 : decide ((k : Int) < (t.ar.length : Int)) = false := decide_eq_false (by omega)
          have d2 : decide (k < t.ar.length) = false := decide_eq_false hlt
          have Har : Hid (∀ u ∈ t.ar, u.fitsAll = true) := Lib.hid (by
            have h := HI.out
            rw [List.take_of_length_le (by omega)] at h
            exact h)
          clear HI
          have hn1 : ∀ w, (binOp .eql 23 (.agg #[.string t.name.sp, .string t.name.lc]) (.agg #[.string ⟨#[]⟩, .string ⟨#[]⟩])).run Tryz.prog w = .ok (.bool (noName t.name)) w := fun w => eqN t.name ⟨⟨#[]⟩, ⟨#[]⟩⟩ w
          have g1 : ∀ op x y w, (eqGuard op 23 x y (.agg #[.string t.name.sp, .string t.name.lc]) (.agg #[.string ⟨#[]⟩, .string ⟨#[]⟩])).run Tryz.prog w = .ok () w := fun op x y w => guardN op x y t.name ⟨⟨#[]⟩, ⟨#[]⟩⟩ w
          have Hf : Hid (t.fitsAll = fitsG t.kind t.name t.space t.ex.length t.ar.length) := Lib.hid (by
            have h := fitsAllT t
            have h2 : t.fits = fitsG t.kind t.name t.space t.ex.length t.ar.length := rfl
            rw [← h2, Bool.eq_iff_iff, h]
            exact ⟨fun h => h.1, fun h => ⟨h, Hex.out, Har.out⟩⟩)
          clear Hex Har hlt hk
          have hbs := hb.size
          obtain ⟨nb, hnb⟩ : ∃ b, noName t.name = b := ⟨_, rfl⟩
          rw [hnb] at hn1
          have Hn := Lib.hid hnb
          obtain ⟨vb, hvb⟩ : ∃ b, validN t.name = b := ⟨_, rfl⟩
          have hV := rValid_any t.name
          rw [hvb] at hV
          have Hvb := Lib.hid hvb
          obtain ⟨le, hle⟩ : ∃ b, t.ex.length = b := ⟨_, rfl⟩
          obtain ⟨la, hla⟩ : ∃ b, t.ar.length = b := ⟨_, rfl⟩
          rw [hle] at c4 Hf hel
          rw [hla] at c5 Hf hal d1 d2
          obtain ⟨kd, hkd⟩ : ∃ b, t.kind = b := ⟨_, rfl⟩
          rw [hkd] at c0 Hf
          obtain ⟨sp, hsp⟩ : ∃ b, t.space = b := ⟨_, rfl⟩
          rw [hsp] at c3 Hf
          have B3 : w.heap.size < wr.heap.size := by omega
          unfold Name.val at hV
          clear hnb hvb hle hla hkd hsp
          have hkk : kd = 1 ∨ kd = 2 ∨ kd = 3 ∨ kd = 4 ∨ ((kd == 1) = false ∧ (kd == 2) = false ∧ (kd == 3) = false ∧ (kd == 4) = false) := by simp only [beq_eq_false_iff_ne]; omega
          have Hv : Hid (fitsG kd t.name sp le la = res) := Lib.hid (by rw [← Hf.out, Hres.out])
          clear Hf B2 B0 hS hLe hLa
          rcases hkk with rfl | rfl | rfl | rfl | ⟨h1, h2, h3, h4⟩
          all_goals
            go_wp2_with (go_at_call 35; refine (hV _).mono ?_; rintro e w1 ⟨rfl, hb2⟩; obtain ⟨hc, hf⟩ := bcell hb2)
          all_goals
            try simp only [nil_iff] at *
            go_ret
            refine ⟨ret_bool ?_, ?_⟩
            · have hn := Hn.out
              have hvv := Hvb.out
              rw [← Hv.out, Bool.eq_iff_iff]
              clear hn1 g1 hV
              simp only [fitsG, hn, hvv, empty_iff, beq_eq_false_iff_ne, ne_eq, Bool.and_eq_true, beq_iff_eq, decide_eq_true_eq, Bool.false_eq_true, false_iff, if_true, if_false, not_and, Bool.not_eq_true, not_false_eq_true, Int.reduceEq] at *
              try simp only [*, if_false, true_and, false_and, Bool.false_eq_true, not_false_eq_true, not_true_eq_false, false_iff, and_true, true_implies, forall_const, implies_true, false_implies, iff_self] at *
              try omega
            · first
                | exact hb1.trans ((hb.trans (Below.mono ‹Below wr.heap.size wr _› hbs)).mono (by omega))
                | exact hb1.trans (hb.mono (by omega))
theorem formed_any (t : CT) (w : World) (hIn : t.In w w.heap.size) : Calls Tryz.prog 50 #[t.val] w fun e w' => e = .returned (.bool t.fitsAll) ∧ Below w.heap.size w w' := by
  have h : ∀ D, FormedFor D := fun D => by
    induction D with
    | zero => intro t w ht; rw [CT.depth_eq] at ht; omega
    | succ D ih => exact formed_step D ih
  exact h t.depth t w (Nat.le_refl _) hIn
set_option maxRecDepth 100000 in
set_option maxHeartbeats 1000000 in
theorem rCheck_any (t : CT) (w : World) (hIn : t.In w w.heap.size) : Calls Tryz.prog 12 #[t.val] w fun e w' => e = .returned (.int .i64 t.check) ∧ Below w.heap.size w w' := by
  obtain ⟨W1, hW1⟩ : ∃ W1, w.alloc (.cells t.cells.toArray 26) = W1 := ⟨_, rfl⟩
  have hb1 : Below w.heap.size w W1 := by rw [← hW1]; exact (Below.refl _ w).alloc (Nat.le_refl _) _
  have B0 : Blk W1 w.heap.size t.cells.toArray 26 := by rw [← hW1]; exact Blk.new _ _ _
  have hin1 := (hIn.below hb1 (Nat.le_refl _)).mono hb1.size
  have hC := count_all 10 (by omega) t W1 hin1
  have hF := fun W2 (hb2 : Below W1.heap.size W1 W2) => formed_any t W2 ((hin1.below hb2 (Nat.le_refl _)).mono hb2.size)
  obtain ⟨c0, c1, c2, c3, c4, c5⟩ := ct_cells B0
  have hcb := cnt_bound 10 t
  have hsm := small_cnt t
  obtain ⟨N, hN⟩ : ∃ N, cnt 10 t = N := ⟨_, rfl⟩
  rw [hN] at hC hcb hsm
  obtain ⟨fa, hfa⟩ : ∃ x, t.fitsAll = x := ⟨_, rfl⟩
  rw [hfa] at hF
  have Hfa := Lib.hid hfa
  have Hsm := Lib.hid hsm
  rw [CT.val_eq] at hC hF ⊢
  rw [show ((10 : Nat) : Int) = 10 from rfl] at hC
  obtain ⟨r, hr⟩ : ∃ r, t.check = r := ⟨_, rfl⟩
  rw [hr]
  have Hr := Lib.hid hr
  rw [CT.cells_eq] at hW1
  clear hN hfa hsm hr
  go_enter Tryz.func12, Tryz.ntmps12
  go_wp2_with (go_at_call 49; refine hC.mono ?_)
  rintro e w2 ⟨rfl, hb2⟩
  have B2 := B0.below hb2
  have hF2 := hF w2 hb2
  clear c0 c1 c2 c3 c4 c5 hF hC
  obtain ⟨c0, c1, c2, c3, c4, c5⟩ := ct_cells B2
  have hb3 := hb1.trans (hb2.mono hb1.size)
  by_cases h : N ≤ 100
  · have d1 : decide (100 < (N : Int)) = false := decide_eq_false (by omega)
    have d2 : decide (100 < N) = false := decide_eq_false (by omega)
    have H1 : Hid (t.small = true) := Lib.hid (by rw [Hsm.out, decide_eq_true h])
    cases fa
    · have H2 : Hid (r = 2) := Lib.hid (by rw [← Hr.out]; unfold CT.check; rw [H1.out, Hfa.out]; rfl)
      go_wp2_with (go_at_call 50; refine hF2.mono ?_)
      rintro e w4 ⟨rfl, hb4⟩
      go_wp2
      go_ret
      exact ⟨ret_int (by rw [H2.out]), hb3.trans (hb4.mono hb3.size)⟩
    · have H2 : Hid (r = 0) := Lib.hid (by rw [← Hr.out]; unfold CT.check; rw [H1.out, Hfa.out]; rfl)
      go_wp2_with (go_at_call 50; refine hF2.mono ?_)
      rintro e w4 ⟨rfl, hb4⟩
      go_wp2
      go_ret
      exact ⟨ret_int (by rw [H2.out]), hb3.trans (hb4.mono hb3.size)⟩
  · have d1 : decide (100 < (N : Int)) = true := decide_eq_true (by omega)
    have d2 : decide (100 < N) = true := decide_eq_true (by omega)
    have H2 : Hid (r = 3) := Lib.hid (by rw [← Hr.out]; unfold CT.check; rw [Hsm.out, decide_eq_false h]; rfl)
    go_wp2
    go_ret
    exact ⟨ret_int (by rw [H2.out]), hb3⟩
end Np
end Go.Proofs.YtohlhihhadbphaaGreatDoor
