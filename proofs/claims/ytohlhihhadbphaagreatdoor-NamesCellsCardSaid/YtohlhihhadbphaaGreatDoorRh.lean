/- The reference of names: Mentioned, numbered, Fresh, New. -/
import Derived.Test.YtohlhihhadbphaaGreatDoorRg
set_option linter.unusedSimpArgs false
set_option linter.unusedVariables false
namespace Go.Proofs.YtohlhihhadbphaaGreatDoor
open Go.RowKit Go.Shelf Go.Lib Go.Maps
namespace Np
theorem add_any (t : CT) (nms : List Name) (sps : List ByteArray) (w : World) (Bm n0 : Nat) (hIn : t.In w n0) (hn : n0 ≤ Bm) (hM : MSt w Bm nms sps) (h1 : nms.length + nod t ≤ 900000) (h2 : sps.length + nod t ≤ 900000) :
    Calls Tryz.prog 100 #[.pointer (some ⟨Bm, 0, none⟩), t.val] w (AddR w Bm (putsN nms (mnT t)) (putsS sps (msT t))) := by
  have h : ∀ D, AddFor D := fun D => by
    induction D with
    | zero => intro t nms sps w Bm n0 ht; rw [CT.depth_eq] at ht; omega
    | succ D ih => exact add_step D ih
  exact h t.depth t nms sps w Bm n0 (Nat.le_refl _) hIn hn hM h1 h2
/-- What some classes mention, behind a new pointer. -/
def MenR (w : World) (nms : List Name) (sps : List ByteArray) (e : Ending) (w' : World) : Prop := ∃ Bm, e = .returned (.pointer (some ⟨Bm, 0, none⟩)) ∧ MSt w' Bm nms sps ∧ w.heap.size ≤ Bm ∧ Below w.heap.size w w'
set_option maxRecDepth 100000 in
set_option maxHeartbeats 2000000 in
theorem rMentioned_any (a : Option Addr) (c : Nat) (lst : List CT) (w : World) (hL : LIn w w.heap.size a lst) (hd : nodL lst ≤ 800000) :
    Calls Tryz.prog 83 #[.slice a lst.length c] w (MenR w (asc cmpN (nmsOf (CT.partsL lst 1))) (asc cmpS (spsOf (CT.partsL lst 1)))) := by
  have hll := hL.row.1
  unfold maxLen at hll
  obtain ⟨W1, hW1⟩ : ∃ W1, w.alloc (.cells #[.slice none 0 0, .slice none 0 0] 103) = W1 := ⟨_, rfl⟩
  have hb1 : Below w.heap.size w W1 := by rw [← hW1]; exact (Below.refl _ w).alloc (Nat.le_refl _) _
  have BM : Blk W1 w.heap.size #[.slice none 0 0, .slice none 0 0] 103 := by rw [← hW1]; exact Blk.new _ _ _
  have HA : ASt W1 w.heap.size [] [] W1 := ⟨⟨none, 0, none, 0, BM, ⟨by simp, by unfold maxLen; omega⟩, ⟨by simp, by unfold maxLen; omega⟩, Rw.nil _, Rw.nil _⟩, ⟨rfl, rfl, rfl, Nat.le_refl _, fun _ _ _ => rfl⟩⟩
  have hs1 := BM.lt
  have hN : Hid (asc cmpN (nmsOf (CT.partsL lst 1)) = putsN [] (lst.flatMap mnT)) := Lib.hid (by rw [nmsOf_partsL]; rfl)
  have hS : Hid (asc cmpS (spsOf (CT.partsL lst 1)) = putsS [] (lst.flatMap msT)) := Lib.hid (by rw [spsOf_partsL]; rfl)
  go_enter Tryz.func83, Tryz.ntmps83
  go_wp2
  go_loopw [4] (fun i wr => ∃ k : Nat, k ≤ lst.length ∧ i = .int .i64 k ∧ Hid (ASt W1 w.heap.size (putsN [] ((lst.take k).flatMap mnT)) (putsS [] ((lst.take k).flatMap msT)) wr)) (fun i _ => lst.length - (intOf i).toNat)
  case atStart => exact ⟨0, by omega, rfl, Lib.hid (by simpa [putsN, putsS] using HA)⟩
  case round =>
    obtain ⟨k, hk, rfl, HI⟩ := hrel
    try clear hW1
    have hbn : Below w.heap.size w wr := hb1.trans (below_of_grown HI.out.g (Nat.le_refl _) (by omega))
    by_cases hlt : k < lst.length
    · have d1 : decide ((k : Int) < (lst.length : Int)) = true := decide_eq_true (by omega)
      have d2 : decide (k < lst.length) = true := decide_eq_true hlt
      obtain ⟨u, hu⟩ : ∃ u, lst[k] = u := ⟨_, rfl⟩
      have hmu : u ∈ lst := by rw [← hu]; exact List.getElem_mem hlt
      obtain ⟨b, o, hao, hbn', hcells⟩ := hL.row.2 (List.ne_nil_of_length_pos (by omega))
      have hcu : ∀ i x, u.cells[i]? = some x → wr.cell? ⟨b, o + k * 6 + i, none⟩ = some x := fun i x hx => (hbn.cell (p := ⟨b, o + k * 6 + i, none⟩) hbn').trans (hcells k hlt i x (by rw [hu]; exact hx))
      have u0 := hcu 0 _ rfl
      have u1 := hcu 1 _ rfl
      have u2 := hcu 2 _ rfl
      have u3 := hcu 3 _ rfl
      have u4 := hcu 4 _ rfl
      have u5 := hcu 5 _ rfl
      rw [Nat.add_zero] at u0
      rw [CT.exv_eq] at u4
      rw [CT.arv_eq] at u5
      have hnd := nodL_take lst k hlt
      rw [hu] at hnd
      have e1 := mnL_len (lst.take k)
      have e2 := msL_len (lst.take k)
      have e3 := putsN_len [] ((lst.take k).flatMap mnT)
      have e4 := putsS_len [] ((lst.take k).flatMap msT)
      simp only [List.length_nil] at e3 e4
      have hC := add_any u _ _ wr w.heap.size w.heap.size ((hL.ins u hmu).below hbn (Nat.le_refl _)) (Nat.le_refl _) HI.out.m (by omega) (by omega)
      rw [CT.val_eq] at hC
      have Hu : Hid (lst.take (k + 1) = lst.take k ++ [u]) := Lib.hid (by rw [List.take_succ_eq_append_getElem hlt, hu])
      subst hao
      clear hu hcu hcells hmu hnd e1 e2 e3 e4
      go_wp2_with (go_at_call 100; refine hC.mono ?_)
      rintro e w2 ⟨rfl, HR⟩
      have H2 : Hid (ASt W1 w.heap.size (putsN [] ((lst.take (k + 1)).flatMap mnT)) (putsS [] ((lst.take (k + 1)).flatMap msT)) w2) := Lib.hid (by
        rw [Hu.out, List.flatMap_append, List.flatMap_append, putsN_append, putsS_append]
        exact ⟨by simpa using HR.m, World.grownBy.trans HI.out.g HR.g⟩)
      clear HR
      go_wp2
      go_roundw
      case rel =>
        first
          | exact ⟨k + 1, by omega, by go_num, H2⟩
          | ((repeat apply Exists.intro); exact ⟨⟨k + 1, by omega, by go_num, H2⟩, rfl⟩)
      case measure =>
        have e3 : ((k : Int) + 1).toNat = k + 1 := by omega
        simp only [intOf, e3, Int.toNat_natCast]
        omega
    · have d1 : decide ((k : Int) < (lst.length : Int)) = false := decide_eq_false (by omega)
      have d2 : decide (k < lst.length) = false := decide_eq_false hlt
      have H2 : Hid (ASt W1 w.heap.size (putsN [] (lst.flatMap mnT)) (putsS [] (lst.flatMap msT)) wr) := Lib.hid (by
        have h := HI.out
        rw [List.take_of_length_le (by omega)] at h
        exact h)
      go_wp2
      go_ret
      rw [hN.out, hS.out]
      exact ⟨_, rfl, H2.out.m, Nat.le_refl _, hbn⟩
/-- The digits of a number, none of 0. -/
def dg (k : Nat) : List UInt8 := if k = 0 then [] else decDigits k
theorem bs_size (l : List UInt8) : (bs l).size = l.length := by simp [bs, ByteArray.size]
theorem bs_cons (d : UInt8) (l : List UInt8) : bs [d] ++ bs l = bs (d :: l) := by apply ByteArray.ext; simp [bs]
theorem dg_step {k : Nat} (hk : k ≠ 0) : dg k = dg (k / 10) ++ [UInt8.ofNat (48 + k % 10)] := by
  unfold dg
  rw [if_neg hk]
  by_cases h : k < 10
  · rw [if_pos (by omega), decDigits_one h, Nat.mod_eq_of_lt h]; rfl
  · rw [if_neg (by omega), decDigits, dif_neg h]
theorem word_dg (stem : ByteArray) (k : Nat) : word stem k = stem ++ bs (dg k) := by
  unfold word dg
  split
  · apply ByteArray.ext; simp [bs]
  · rfl
theorem dg_len (k : Nat) (hk : k ≤ 1000000) : (dg k).length ≤ 20 := by
  unfold dg; split
  · simp
  · rw [decDigits_length]; exact nDigits_le20 _ (by omega)
set_option maxRecDepth 100000 in
set_option maxHeartbeats 2000000 in
theorem numbered_any (stem : ByteArray) (n : Nat) (hs : stem.size ≤ 1) (hn : n ≤ 1000000) (w : World) :
    Calls Tryz.prog 101 #[.string stem, .int .i64 n] w fun e w' => e = .returned (.string (word stem n)) ∧ Below w.heap.size w w' := by
  obtain ⟨r, hr⟩ : ∃ r, word stem n = r := ⟨_, rfl⟩
  have Hr : Hid (stem ++ bs (dg n) = r) := Lib.hid (by rw [← hr, word_dg])
  rw [hr]
  clear hr
  have hdn := dg_len n hn
  go_enter Tryz.func101, Tryz.ntmps101
  go_wp2
  go_loopw [5, 6] (fun s i wr => ∃ (k : Nat) (l : List UInt8), k ≤ n ∧ s = .string (bs l) ∧ i = .int .i64 k ∧ Hid (dg n = dg k ++ l) ∧ Below w.heap.size w wr) (fun _ i _ => (intOf i).toNat)
  case atStart => exact ⟨n, [], Nat.le_refl _, rfl, rfl, Lib.hid (by simp), Below.refl _ _⟩
  case round =>
    obtain ⟨k, l, hk, rfl, rfl, HI, hb⟩ := hrel
    by_cases h0 : k = 0
    · have d1 : decide (0 < (k : Int)) = false := decide_eq_false (by omega)
      have d2 : decide (0 < k) = false := decide_eq_false (by omega)
      have hl : Hid (stem ++ bs l = r) := Lib.hid (by rw [← Hr.out, HI.out, h0]; simp [dg])
      have hsz : Hid (l.length ≤ 20) := Lib.hid (by have h := HI.out; rw [h] at hdn; rw [List.length_append] at hdn; omega)
      clear h0
      have hsum : ¬ maxLen < stem.size + (bs l).size := by have := hsz.out; rw [bs_size]; unfold maxLen; omega
      go_wp2
      go_ret
      exact ⟨by rw [← hl.out]; try rfl, hb⟩
    · have d1 : decide (0 < (k : Int)) = true := decide_eq_true (by omega)
      have d2 : decide (0 < k) = true := decide_eq_true (by omega)
      have hcv : (convert 127 9 (.slice (some ⟨wr.heap.size, 0, none⟩) 1 1)).run Tryz.prog (wr.alloc (.cells #[.int .u8 (48 + (k : Int) % 10)] 5)) = .ok (.string (bs [UInt8.ofNat (48 + k % 10)])) (wr.alloc (.cells #[.int .u8 (48 + (k : Int) % 10)] 5)) :=
        run_convert_bytes_back _ _ _ 5 _ 1 [UInt8.ofNat (48 + k % 10)] Tryz.underlying127 Tryz.underlying5 Tryz.underlying9 (fun j hj => by
          obtain rfl : j = 0 := by simpa using hj
          have := (Blk.new wr #[.int .u8 (48 + (k : Int) % 10)] 5).cell 0
          rw [show (⟨wr.heap.size, 0, none⟩ : Addr).add 0 = ⟨wr.heap.size, 0, none⟩ from rfl, this]
          have e : (UInt8.ofNat (48 + k % 10)).toNat = 48 + k % 10 := by simp; omega
          simp only [List.getElem_cons_zero, e]
          simp)
      have hsz : Hid (l.length ≤ 20) := Lib.hid (by have h := HI.out; rw [h] at hdn; rw [List.length_append] at hdn; omega)
      have H2 : Hid (dg n = dg (k / 10) ++ (UInt8.ofNat (48 + k % 10) :: l)) := Lib.hid (by rw [HI.out, dg_step h0, List.append_assoc]; rfl)
      obtain ⟨d, hd⟩ : ∃ d, UInt8.ofNat (48 + k % 10) = d := ⟨_, rfl⟩
      rw [hd] at hcv H2
      have Hbs : Hid (bs [d] ++ bs l = bs (d :: l)) := Lib.hid (bs_cons d l)
      have hsum : ¬ maxLen < (bs [d]).size + (bs l).size := by have := hsz.out; rw [bs_size, bs_size]; unfold maxLen; simp; omega
      have Hk0 := Lib.hid h0
      clear hd h0
      go_wp2
      go_roundw
      case rel =>
        have hrl : ∃ (k' : Nat) (l' : List UInt8), k' ≤ n ∧ Value.string (bs [d] ++ bs l) = .string (bs l') ∧ Value.int .i64 ((k : Int) / 10) = .int .i64 k' ∧ Hid (dg n = dg k' ++ l') ∧ Below w.heap.size w (wr.alloc (.cells #[.int .u8 (48 + (k : Int) % 10)] 5)) := ⟨k / 10, d :: l, by omega, by rw [Hbs.out], by go_num, H2, hb.alloc hb.size _⟩
        first
          | exact hrl
          | ((repeat apply Exists.intro); exact ⟨hrl, rfl⟩)
      case measure =>
        have := Hk0.out
        simp only [intOf]
        omega
end Np
end Go.Proofs.YtohlhihhadbphaaGreatDoor
