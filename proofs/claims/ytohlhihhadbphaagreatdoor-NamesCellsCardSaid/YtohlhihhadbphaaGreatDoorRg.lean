/- The reference of names: Mentions.add, Mentioned. -/
import Derived.Test.YtohlhihhadbphaaGreatDoorRf
import Derived.Deep.CutRange
set_option linter.unusedSimpArgs false
set_option linter.unusedVariables false
namespace Go.Proofs.YtohlhihhadbphaaGreatDoor
open Go.RowKit Go.Shelf Go.Lib Go.Maps
namespace Np
/-- What is mentioned, behind a pointer. -/
structure MSt (W : World) (Bm : Nat) (nms : List Name) (sps : List ByteArray) : Prop where
  ex : ∃ a c a' c', Blk W Bm #[.slice a nms.length c, .slice a' sps.length c'] 103 ∧ (nms.length ≤ c ∧ c ≤ maxLen) ∧ (sps.length ≤ c' ∧ c' ≤ maxLen) ∧ RwN (fun b => Bm < b ∧ b < W.heap.size) W a nms ∧ RwS (fun b => Bm < b ∧ b < W.heap.size) W a' sps
theorem MSt.lt {W : World} {Bm : Nat} {nms : List Name} {sps : List ByteArray} (h : MSt W Bm nms sps) : Bm < W.heap.size := by obtain ⟨_, _, _, _, h, _⟩ := h.ex; exact h.lt
theorem MSt.later {W W' : World} {Bm : Nat} {nms : List Name} {sps : List ByteArray} (h : MSt W Bm nms sps) (hb : Below W.heap.size W W') : MSt W' Bm nms sps := by
  obtain ⟨a, c, a', c', h1, h2, h3, h4, h5⟩ := h.ex
  exact ⟨a, c, a', c', h1.below hb, h2, h3, h4.keep (fun b h => ⟨h.1, Nat.lt_of_lt_of_le h.2 hb.size⟩) (fun b h => hb.block b h.2), h5.keep (fun b h => ⟨h.1, Nat.lt_of_lt_of_le h.2 hb.size⟩) (fun b h => hb.block b h.2)⟩
theorem grown_set (W : World) (B i : Nat) (v : Value) : W.grownBy (W.setCell ⟨B, i, none⟩ v) (some B) :=
  ⟨rfl, rfl, rfl, by simp, fun k _ hk => sameMap_setCell (fun e => hk (by rw [e]))⟩
theorem grown_of_below {W W' : World} (h : Below W.heap.size W W') (row : Option Nat) : W.grownBy W' row := ⟨h.os, h.tape, h.output, h.size, fun k hk _ => h.block k hk⟩
structure ASt (W1 : World) (Bm : Nat) (nms : List Name) (sps : List ByteArray) (W : World) : Prop where
  m : MSt W Bm nms sps
  g : W1.grownBy W (some Bm)
theorem ASt.putN {W1 W w2 : World} {Bm : Nat} {nms l : List Name} {sps : List ByteArray} (H : ASt W1 Bm nms sps W) (hb : Below W.heap.size W w2) {a : Option Addr} {k : Nat} (q1 : l.length ≤ k) (q2 : k ≤ maxLen)
    (q3 : RwN (fun b => (Bm < b ∧ b < W.heap.size) ∨ (W.heap.size ≤ b ∧ b < w2.heap.size)) w2 a l) : ASt W1 Bm l sps (w2.setCell ⟨Bm, 0, none⟩ (.slice a l.length k)) := by
  obtain ⟨a0, c0, a1, c1, h1, h2, h3, h4, h5⟩ := (H.m.later hb).ex
  have hlt := H.m.lt
  have hs : (w2.setCell ⟨Bm, 0, none⟩ (.slice a l.length k)).heap.size = w2.heap.size := by simp
  refine ⟨⟨a, k, a1, c1, ?_, ⟨q1, q2⟩, h3, q3.keep (fun b h => ?_) (fun b h => sameMap_setCell ?_), h5.keep (fun b h => by rw [hs]; exact h) (fun b h => sameMap_setCell (by omega))⟩, (World.grownBy.trans H.g (grown_of_below hb _)).trans (grown_set _ _ _ _)⟩
  · have := h1.set 0 (by simp) (.slice a l.length k)
    simpa using this
  · rw [hs]; have := hb.size; omega
  · omega
theorem ASt.putS {W1 W w2 : World} {Bm : Nat} {nms : List Name} {sps l : List ByteArray} (H : ASt W1 Bm nms sps W) (hb : Below W.heap.size W w2) {a : Option Addr} {k : Nat} (q1 : l.length ≤ k) (q2 : k ≤ maxLen)
    (q3 : RwS (fun b => (Bm < b ∧ b < W.heap.size) ∨ (W.heap.size ≤ b ∧ b < w2.heap.size)) w2 a l) : ASt W1 Bm nms l (w2.setCell ⟨Bm, 1, none⟩ (.slice a l.length k)) := by
  obtain ⟨a0, c0, a1, c1, h1, h2, h3, h4, h5⟩ := (H.m.later hb).ex
  have hlt := H.m.lt
  have hs : (w2.setCell ⟨Bm, 1, none⟩ (.slice a l.length k)).heap.size = w2.heap.size := by simp
  refine ⟨⟨a0, c0, a, k, ?_, h2, ⟨q1, q2⟩, h4.keep (fun b h => by rw [hs]; exact h) (fun b h => sameMap_setCell (by omega)), q3.keep (fun b h => ?_) (fun b h => sameMap_setCell ?_)⟩, (World.grownBy.trans H.g (grown_of_below hb _)).trans (grown_set _ _ _ _)⟩
  · have := h1.set 1 (by simp) (.slice a l.length k)
    simpa using this
  · rw [hs]; have := hb.size; omega
  · omega
theorem nodL_take : ∀ (l : List CT) (k : Nat) (h : k < l.length), nodL (l.take k) + nod l[k] ≤ nodL l
  | [], k, h => by simp at h
  | a :: r, 0, _ => by simp [nodL]
  | a :: r, k + 1, h => by
    have := nodL_take r k (by simpa using h)
    rw [List.take_succ_cons, nodL_cons, nodL_cons, List.getElem_cons_succ]; omega
theorem mnL_len (l : List CT) : (l.flatMap mnT).length ≤ nodL l := by
  induction l with
  | nil => simp [nodL]
  | cons a r ih => rw [List.flatMap_cons, List.length_append, nodL_cons]; have := mnT_len a; omega
theorem msL_len (l : List CT) : (l.flatMap msT).length ≤ nodL l := by
  induction l with
  | nil => simp [nodL]
  | cons a r ih => rw [List.flatMap_cons, List.length_append, nodL_cons]; have := msT_len a; omega
theorem putsN_len (l xs : List Name) : (putsN l xs).length ≤ l.length + xs.length := puts_len xs l
theorem putsS_len (l xs : List ByteArray) : (putsS l xs).length ≤ l.length + xs.length := puts_len xs l
def AddR (w : World) (Bm : Nat) (nms : List Name) (sps : List ByteArray) (e : Ending) (w' : World) : Prop := e = .returned (.tuple #[]) ∧ ASt w Bm nms sps w'
def AddFor (D : Nat) : Prop := ∀ (t : CT) (nms : List Name) (sps : List ByteArray) (w : World) (Bm n0 : Nat), t.depth ≤ D → t.In w n0 → n0 ≤ Bm → MSt w Bm nms sps → nms.length + nod t ≤ 900000 → sps.length + nod t ≤ 900000 →
  Calls Tryz.prog 100 #[.pointer (some ⟨Bm, 0, none⟩), t.val] w (AddR w Bm (putsN nms (mnT t)) (putsS sps (msT t)))
set_option maxRecDepth 100000 in
set_option maxHeartbeats 2000000 in
theorem add_step (D : Nat) (hD : AddFor D) : AddFor (D + 1) := by
  intro t nms sps w Bm n0 ht hIn hn0 hM hl1 hl2
  have hBm := hM.lt
  obtain ⟨W1, hW1⟩ : ∃ W1, w.alloc (.cells t.cells.toArray 26) = W1 := ⟨_, rfl⟩
  have hb1 : Below w.heap.size w W1 := by rw [← hW1]; exact (Below.refl _ w).alloc (Nat.le_refl _) _
  have B0 : Blk W1 w.heap.size t.cells.toArray 26 := by rw [← hW1]; exact Blk.new _ _ _
  have hs1 : w.heap.size < W1.heap.size := B0.lt
  have HA : ASt W1 Bm nms sps W1 := ⟨hM.later hb1, ⟨rfl, rfl, rfl, Nat.le_refl _, fun _ _ _ => rfl⟩⟩
  obtain ⟨c0, c1, c2, c3, c4, c5⟩ := ct_cells B0
  have hI := CT.in_iff.1 hIn
  have hLex : LIn w n0 t.ea t.ex := ⟨hI.2.2.1, hI.2.2.2.2.1⟩
  have hLar : LIn w n0 t.aa t.ar := ⟨hI.2.2.2.1, hI.2.2.2.2.2⟩
  have hel := hLex.row.1
  have hal := hLar.row.1
  unfold maxLen at hel hal
  have hn0w : n0 ≤ w.heap.size := by omega
  have hn01 : n0 ≤ W1.heap.size := by omega
  have hnt := nod_eq t
  rw [CT.cells_eq] at hW1
  rw [CT.val_eq]
  go_enter Tryz.func100, Tryz.ntmps100
  go_upto_if 8 with (fail)
  go_cut [] from 6 to 29 (fun wc => ASt W1 Bm (if t.kind = 1 then put cmpN t.name nms else nms) (if t.kind = 1 then put cmpS t.name.sp sps else sps) wc)
  case first =>
    by_cases hk : t.kind = 1
    · have g1 : (t.kind == 1) = true := by rw [hk]; rfl
      have Hk := Lib.hid hk
      clear hk
      go_upto_region 2 with (fail)
      go_cut [] from 6 to 18 (fun wc => ASt W1 Bm (put cmpN t.name nms) sps wc)
      case first =>
        obtain ⟨a0, k0, a1, k1, BM, ⟨h0, h1⟩, ⟨h2, h3⟩, hRN, hRS⟩ := HA.m.ex
        have p0 := BM.cell 0
        have f0 := BM.frozen 0
        simp only [List.getElem?_toArray, List.getElem?_cons_zero, List.getElem?_cons_succ] at p0
        have hP := putName_any (fun b => Bm < b ∧ b < W1.heap.size) a0 k0 nms t.name W1.drew (hRN.later (fun b h => h.2) (below_dr W1)) (fun b h => h.2) h0 h1 (by have := nod_pos t; omega)
        unfold Name.val at hP
        go_region_with (go_at_call 113; refine hP.mono ?_; rintro e w2 ⟨a2, k2, rfl, ⟨q1, q2, q3⟩, hb2⟩; have BM2 := BM.below ((below_dr W1).trans hb2); have p0 := BM2.cell 0; have f0 := BM2.frozen 0; simp only [List.getElem?_toArray, List.getElem?_cons_zero, List.getElem?_cons_succ] at p0)
        all_goals
          go_wp2_with fail
          go_meet
          case rel => exact HA.putN ((below_dr W1).trans hb2) q1 q2 q3
      case rest =>
        have HA2 := hcut
        clear hcut
        go_upto_region 3 with (fail)
        have B2 : Blk wc w.heap.size t.cells.toArray 26 := (HA2.g.block _ hs1 (by simp; omega)).trans B0
        obtain ⟨a0, k0, a1, k1, BM, ⟨h0, h1⟩, ⟨h2, h3⟩, hRN, hRS⟩ := HA2.m.ex
        have p1 := BM.cell 1
        have f1 := BM.frozen 1
        simp only [List.getElem?_toArray, List.getElem?_cons_zero, List.getElem?_cons_succ] at p1
        clear c0 c1 c2 c3 c4 c5
        obtain ⟨c0, c1, c2, c3, c4, c5⟩ := ct_cells B2
        have hP := putSpace_any (fun b => Bm < b ∧ b < wc.heap.size) a1 k1 sps t.name.sp wc.drew (hRS.later (fun b h => h.2) (below_dr wc)) (fun b h => h.2) h2 h3 (by have := nod_pos t; omega)
        go_region_with (go_at_call 114; refine hP.mono ?_; rintro e w2 ⟨a2, k2, rfl, ⟨q1, q2, q3⟩, hb2⟩; have BM2 := BM.below ((below_dr wc).trans hb2); have p1 := BM2.cell 1; have f1 := BM2.frozen 1; simp only [List.getElem?_toArray, List.getElem?_cons_zero, List.getElem?_cons_succ] at p1)
        all_goals
          go_wp2_with fail
          go_meet
          case rel => rw [if_pos Hk.out, if_pos Hk.out]; exact HA2.putS ((below_dr wc).trans hb2) q1 q2 q3
    · have g1 : (t.kind == 1) = false := by simpa using hk
      have Hk := Lib.hid hk
      clear hk
      go_wp2_with fail
      go_meet
      case rel => rw [if_neg Hk.out, if_neg Hk.out]; exact HA
  case rest =>
    have hcut1 := hcut
    clear hcut
    obtain ⟨nA, hnA⟩ : ∃ x, (if t.kind = 1 then put cmpN t.name nms else nms) = x := ⟨_, rfl⟩
    obtain ⟨sA, hsA⟩ : ∃ x, (if t.kind = 1 then put cmpS t.name.sp sps else sps) = x := ⟨_, rfl⟩
    rw [hnA, hsA] at hcut1
    have HA1 := hcut1
    clear hcut1
    have l1 : nA.length ≤ nms.length + 1 := by rw [← hnA]; split; exact put_len _ _; omega
    have l2 : sA.length ≤ sps.length + 1 := by rw [← hsA]; split; exact put_len _ _; omega
    have HnA : Hid (putsN nms (if t.kind = 1 then [t.name] else []) = nA) := Lib.hid (by rw [← hnA]; split <;> rfl)
    obtain ⟨sB, hsB⟩ : ∃ x, (if t.kind = 2 then put cmpS t.space sA else sA) = x := ⟨_, rfl⟩
    have HsB : Hid (putsS sps (if t.kind = 1 then [t.name.sp] else if t.kind = 2 then [t.space] else []) = sB) := Lib.hid (by
      rw [← hsB, ← hsA]
      by_cases h1 : t.kind = 1
      · rw [if_pos h1, if_pos h1, if_neg (by omega)]; rfl
      · rw [if_neg h1, if_neg h1]
        split <;> rfl)
    have l5 : sB.length ≤ sps.length + 1 := by
      rw [← hsB, ← hsA]
      by_cases h1 : t.kind = 1
      · rw [if_pos h1, if_neg (by omega)]; exact put_len _ _
      · rw [if_neg h1]; split; exact put_len _ _; omega
    have B2 : Blk wc w.heap.size t.cells.toArray 26 := (HA1.g.block _ hs1 (by simp; omega)).trans B0
    clear c0 c1 c2 c3 c4 c5
    obtain ⟨c0, c1, c2, c3, c4, c5⟩ := ct_cells B2
    have HhsB := Lib.hid hsB
    have hsp := nod_pos t
    clear hnA hsA hsB HA
    go_upto_if 32 with (fail)
    go_cut [] from 30 to 42 (fun wd => ASt W1 Bm nA sB wd)
    case first =>
      by_cases hk : t.kind = 2
      · have g1 : (t.kind == 2) = true := by rw [hk]; rfl
        have Hk := Lib.hid hk
        clear hk
        obtain ⟨a0, k0, a1, k1, BM, ⟨h0, h1⟩, ⟨h2, h3⟩, hRN, hRS⟩ := HA1.m.ex
        have p1 := BM.cell 1
        have f1 := BM.frozen 1
        simp only [List.getElem?_toArray, List.getElem?_cons_zero, List.getElem?_cons_succ] at p1
        have hP := putSpace_any (fun b => Bm < b ∧ b < wc.heap.size) a1 k1 sA t.space wc.drew (hRS.later (fun b h => h.2) (below_dr wc)) (fun b h => h.2) h2 h3 (by omega)
        go_upto_region 5 with (fail)
        go_region_with (go_at_call 114; refine hP.mono ?_; rintro e w2 ⟨a2, k2, rfl, ⟨q1, q2, q3⟩, hb2⟩; have BM2 := BM.below ((below_dr wc).trans hb2); have p1 := BM2.cell 1; have f1 := BM2.frozen 1; simp only [List.getElem?_toArray, List.getElem?_cons_zero, List.getElem?_cons_succ] at p1)
        all_goals
          go_wp2_with fail
          go_meet
          case rel => rw [← HhsB.out, if_pos Hk.out]; exact HA1.putS ((below_dr wc).trans hb2) q1 q2 q3
      · have g1 : (t.kind == 2) = false := by simpa using hk
        have Hk := Lib.hid hk
        clear hk
        go_wp2_with fail
        go_meet
        case rel => rw [← HhsB.out, if_neg Hk.out]; exact HA1
    case rest =>
      have HB := hcut
      clear hcut HA1 c0 c1 c2 c3 c4 c5
      go_wp2
      go_loopw [4] (fun i wr => ∃ k : Nat, k ≤ t.ex.length ∧ i = .int .i64 k ∧ Hid (ASt W1 Bm (putsN nA ((t.ex.take k).flatMap mnT)) (putsS sB ((t.ex.take k).flatMap msT)) wr)) (fun i _ => t.ex.length - (intOf i).toNat)
      case atStart => exact ⟨0, by omega, rfl, Lib.hid (by simpa [putsN, putsS] using HB)⟩
      case round =>
        obtain ⟨k, hk, rfl, HI⟩ := hrel
        have B2 : Blk wr w.heap.size t.cells.toArray 26 := (HI.out.g.block _ hs1 (by simp; omega)).trans B0
        have hbn : Below n0 w wr := (hb1.mono hn0w).trans (below_of_grown HI.out.g hn0 hn01)
        try clear c0 c1 c2 c3 c4 c5
        obtain ⟨c0, c1, c2, c3, c4, c5⟩ := ct_cells B2
        by_cases hlt : k < t.ex.length
        · have d1 : decide ((k : Int) < (t.ex.length : Int)) = true := decide_eq_true (by omega)
          have d2 : decide (k < t.ex.length) = true := decide_eq_true hlt
          obtain ⟨u, hu⟩ : ∃ u, t.ex[k] = u := ⟨_, rfl⟩
          have hmu : u ∈ t.ex := by rw [← hu]; exact List.getElem_mem hlt
          obtain ⟨b, o, hao, hbn', hcells⟩ := hLex.row.2 (List.ne_nil_of_length_pos (by omega))
          have hcu : ∀ i x, u.cells[i]? = some x → wr.cell? ⟨b, o + k * 6 + i, none⟩ = some x := fun i x hx => (hbn.cell (p := ⟨b, o + k * 6 + i, none⟩) hbn').trans (hcells k hlt i x (by rw [hu]; exact hx))
          have u0 := hcu 0 _ rfl
          have u1 := hcu 1 _ rfl
          have u2 := hcu 2 _ rfl
          have u3 := hcu 3 _ rfl
          have u4 := hcu 4 _ rfl
          have u5 := hcu 5 _ rfl
          rw [Nat.add_zero] at u0
          rw [CT.exv_eq] at u4
          rw [CT.arv_eq] at u5
          have hnd := nodL_take t.ex k hlt
          rw [hu] at hnd
          have e1 := mnL_len (t.ex.take k)
          have e2 := msL_len (t.ex.take k)
          have e3 := putsN_len nA ((t.ex.take k).flatMap mnT)
          have e4 := putsS_len sB ((t.ex.take k).flatMap msT)
          have hC := hD u _ _ wr Bm n0 (by have := CT.depth_ex hmu; omega) ((hLex.ins u hmu).below hbn (Nat.le_refl _)) hn0 HI.out.m (by omega) (by omega)
          rw [CT.val_eq] at hC
          have Hu : Hid (t.ex.take (k + 1) = t.ex.take k ++ [u]) := Lib.hid (by rw [List.take_succ_eq_append_getElem hlt, hu])
          rw [hao] at c4
          have Hao := Lib.hid hao
          clear hao hu hcu hcells hmu hnd e1 e2 e3 e4
          go_wp2_with (go_at_call 100; refine hC.mono ?_)
          rintro e w2 ⟨rfl, HR⟩
          have H2 : Hid (ASt W1 Bm (putsN nA ((t.ex.take (k + 1)).flatMap mnT)) (putsS sB ((t.ex.take (k + 1)).flatMap msT)) w2) := Lib.hid (by
            rw [Hu.out, List.flatMap_append, List.flatMap_append, putsN_append, putsS_append]
            exact ⟨by simpa using HR.m, World.grownBy.trans HI.out.g HR.g⟩)
          clear HR
          go_wp2
          go_roundw
          case rel =>
            first
              | exact ⟨k + 1, by omega, by go_num, H2⟩
              | ((repeat apply Exists.intro); exact ⟨⟨k + 1, by omega, by go_num, H2⟩, rfl⟩)
          case measure =>
            have e3 : ((k : Int) + 1).toNat = k + 1 := by omega
            simp only [intOf, e3, Int.toNat_natCast]
            omega
        · have d1 : decide ((k : Int) < (t.ex.length : Int)) = false := decide_eq_false (by omega)
          have d2 : decide (k < t.ex.length) = false := decide_eq_false hlt
          have Hex : Hid (ASt W1 Bm (putsN nA (t.ex.flatMap mnT)) (putsS sB (t.ex.flatMap msT)) wr) := Lib.hid (by
            have h := HI.out
            rw [List.take_of_length_le (by omega)] at h
            exact h)
          clear HI
          have Hex' := Hex
          obtain ⟨nB, hnB⟩ : ∃ x, putsN nA (t.ex.flatMap mnT) = x := ⟨_, rfl⟩
          obtain ⟨sC, hsC⟩ : ∃ x, putsS sB (t.ex.flatMap msT) = x := ⟨_, rfl⟩
          have HB : ASt W1 Bm nB sC wr := by rw [← hnB, ← hsC]; exact Hex.out
          have l3 : nB.length ≤ nA.length + nodL t.ex := by rw [← hnB]; have e1 := mnL_len t.ex; have e2 := putsN_len nA (t.ex.flatMap mnT); omega
          have l4 : sC.length ≤ sB.length + nodL t.ex := by rw [← hsC]; have e1 := msL_len t.ex; have e2 := putsS_len sB (t.ex.flatMap msT); omega
          have HnB := Lib.hid hnB
          have HsC := Lib.hid hsC
          clear hnB hsC Hex Hex'
          go_wp2
          go_loopw [5] (fun i wr => ∃ k : Nat, k ≤ t.ar.length ∧ i = .int .i64 k ∧ Hid (ASt W1 Bm (putsN nB ((t.ar.take k).flatMap mnT)) (putsS sC ((t.ar.take k).flatMap msT)) wr)) (fun i _ => t.ar.length - (intOf i).toNat)
          case atStart => exact ⟨0, by omega, rfl, Lib.hid (by simpa [putsN, putsS] using HB)⟩
          case round =>
            obtain ⟨k, hk, rfl, HI⟩ := hrel
            have B2 : Blk wr w.heap.size t.cells.toArray 26 := (HI.out.g.block _ hs1 (by simp; omega)).trans B0
            have hbn : Below n0 w wr := (hb1.mono hn0w).trans (below_of_grown HI.out.g hn0 hn01)
            try clear c0 c1 c2 c3 c4 c5
            obtain ⟨c0, c1, c2, c3, c4, c5⟩ := ct_cells B2
            by_cases hlt : k < t.ar.length
            · have d1 : decide ((k : Int) < (t.ar.length : Int)) = true := decide_eq_true (by omega)
              have d2 : decide (k < t.ar.length) = true := decide_eq_true hlt
              obtain ⟨u, hu⟩ : ∃ u, t.ar[k] = u := ⟨_, rfl⟩
              have hmu : u ∈ t.ar := by rw [← hu]; exact List.getElem_mem hlt
              obtain ⟨b, o, hao, hbn', hcells⟩ := hLar.row.2 (List.ne_nil_of_length_pos (by omega))
              have hcu : ∀ i x, u.cells[i]? = some x → wr.cell? ⟨b, o + k * 6 + i, none⟩ = some x := fun i x hx => (hbn.cell (p := ⟨b, o + k * 6 + i, none⟩) hbn').trans (hcells k hlt i x (by rw [hu]; exact hx))
              have u0 := hcu 0 _ rfl
              have u1 := hcu 1 _ rfl
              have u2 := hcu 2 _ rfl
              have u3 := hcu 3 _ rfl
              have u4 := hcu 4 _ rfl
              have u5 := hcu 5 _ rfl
              rw [Nat.add_zero] at u0
              rw [CT.exv_eq] at u4
              rw [CT.arv_eq] at u5
              have hnd := nodL_take t.ar k hlt
              rw [hu] at hnd
              have e1 := mnL_len (t.ar.take k)
              have e2 := msL_len (t.ar.take k)
              have e3 := putsN_len nB ((t.ar.take k).flatMap mnT)
              have e4 := putsS_len sC ((t.ar.take k).flatMap msT)
              have hC := hD u _ _ wr Bm n0 (by have := CT.depth_ar hmu; omega) ((hLar.ins u hmu).below hbn (Nat.le_refl _)) hn0 HI.out.m (by omega) (by omega)
              rw [CT.val_eq] at hC
              have Hu : Hid (t.ar.take (k + 1) = t.ar.take k ++ [u]) := Lib.hid (by rw [List.take_succ_eq_append_getElem hlt, hu])
              rw [hao] at c5
              have Hao := Lib.hid hao
              clear hao hu hcu hcells hmu hnd e1 e2 e3 e4
              go_wp2_with (go_at_call 100; refine hC.mono ?_)
              rintro e w2 ⟨rfl, HR⟩
              have H2 : Hid (ASt W1 Bm (putsN nB ((t.ar.take (k + 1)).flatMap mnT)) (putsS sC ((t.ar.take (k + 1)).flatMap msT)) w2) := Lib.hid (by
                rw [Hu.out, List.flatMap_append, List.flatMap_append, putsN_append, putsS_append]
                exact ⟨by simpa using HR.m, World.grownBy.trans HI.out.g HR.g⟩)
              clear HR
              go_wp2
              go_roundw
              case rel =>
                first
                  | exact ⟨k + 1, by omega, by go_num, H2⟩
                  | ((repeat apply Exists.intro); exact ⟨⟨k + 1, by omega, by go_num, H2⟩, rfl⟩)
              case measure =>
                have e3 : ((k : Int) + 1).toNat = k + 1 := by omega
                simp only [intOf, e3, Int.toNat_natCast]
                omega
            · have d1 : decide ((k : Int) < (t.ar.length : Int)) = false := decide_eq_false (by omega)
              have d2 : decide (k < t.ar.length) = false := decide_eq_false hlt
              have Har : Hid (ASt W1 Bm (putsN nB (t.ar.flatMap mnT)) (putsS sC (t.ar.flatMap msT)) wr) := Lib.hid (by
                have h := HI.out
                rw [List.take_of_length_le (by omega)] at h
                exact h)
              clear HI
              go_wp2
              refine bodyPost_ret (results_none rfl _ _ _) rfl ?_
              refine ⟨rfl, ?_⟩
              have hx := Har.out
              rw [mnT_eq, msT_eq, putsN_append, putsN_append, putsS_append, putsS_append, HnA.out, HnB.out, HsB.out, HsC.out]
              exact ⟨hx.m, World.grownBy.trans (grown_of_below hb1 _) hx.g⟩
end Np
end Go.Proofs.YtohlhihhadbphaaGreatDoor
