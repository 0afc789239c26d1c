/- Decimal: Of, Read. -/
import Derived.Test.YthnpbkplcboejaaDoorDn
set_option linter.unusedSimpArgs false
set_option linter.unusedVariables false
namespace Go.Proofs.YthnpbkplcboejaaDoor
open Go.RowKit Go.Shelf Go.Lib Go.Sort
namespace Dc
/-- What the walks want of the package-level variables. -/
def G (w : World) : Prop := (∀ w', Below 6 w w' → TabIs Tryd.prog w' "internal/strconv.uint64pow10" .u64 pow10Tab ∧ ∃ m, w'.cell? ⟨0, 0, none⟩ = some (.int .i64 m)) ∧ 6 ≤ w.heap.size
theorem G.later {w w' : World} (h : G w) (hb : Below w.heap.size w w') : G w' := ⟨fun w1 h1 => h.1 w1 ((hb.mono h.2).trans h1), Nat.le_trans h.2 hb.size⟩
theorem b_drewN {w : World} (n : Nat) : Below w.heap.size w (w.drewN n) := ⟨rfl, rfl, rfl, Nat.le_refl _, fun _ _ => rfl⟩
theorem b_grow {w : World} (q : Nat) (os : Array Obj) : Below w.heap.size w (grow (w.drewN q) os) :=
  ⟨rfl, rfl, rfl, by show w.heap.size ≤ (w.heap ++ os).size; simp, fun i hi => by
    show (w.heap ++ os)[i]? = _
    rw [Array.getElem?_append_left hi]⟩
theorem FormatInt_any (n : Int) (h0 : -9223372036854775808 ≤ n) (h1 : n ≤ 9223372036854775807) (w : World) (hG : G w) :
    Calls Tryd.prog 38 #[.int .i64 n, .int .i64 10] w fun e w' => e = .returned (.string ⟨(Lib.itoa n).toArray⟩) ∧ Below w.heap.size w w' :=
  (Tryd.strconv_FormatInt_10 n h0 h1 w (hG.1 w (Below.refl _ _)).1).mono fun e w' ⟨he, k, os, hw⟩ => ⟨he, hw ▸ b_grow k os⟩
theorem Cut_any (s : ByteArray) (hs : s.size < 4294967281) (w : World) (hG : G w) :
    Calls Tryd.prog 26 #[.string s, .string ⟨#[46]⟩] w fun e w' => e = .returned (.tuple #[.string ⟨(Lib.cut s.data.toList [46]).1.toArray⟩, .string ⟨(Lib.cut s.data.toList [46]).2.1.toArray⟩, .bool (Lib.cut s.data.toList [46]).2.2]) ∧ Below w.heap.size w w' := by
  obtain ⟨m, hm⟩ := (hG.1 w (Below.refl _ _)).2
  exact (Tryd.strings_Cut s ⟨#[46]⟩ m w hs hm).mono fun e w' ⟨he, n, hw⟩ => ⟨he, hw ▸ b_drewN n⟩
theorem dec_no (n : Nat) (c : UInt8) (hc : ¬ (48 ≤ c.toNat ∧ c.toNat ≤ 57)) : Lib.hasPrefix (dec n) [c] = false := by
  refine Bool.eq_false_iff.2 fun h => ?_
  unfold Lib.hasPrefix at h
  obtain ⟨r, hr⟩ := List.isPrefixOf_iff_prefix.1 h
  exact hc (digs_iff.1 (digs_dec n) c (by rw [← hr]; simp))
theorem R.val_eq (r : R) : r.val = .tuple #[.agg #[.bool r.d.neg, .string r.d.s, .int .i64 r.d.sc], .int .i64 r.no] := rfl
set_option maxRecDepth 100000 in
set_option maxHeartbeats 2000000 in
theorem Of_any (n : Int) (h0 : -9223372036854775808 ≤ n) (h1 : n ≤ 9223372036854775807) (w : World) (hG : G w) :
    Calls Tryd.prog 22 #[.int .i64 n] w fun e w' => e = .returned (V.mk (decide (n < 0)) n.natAbs 0).d.val ∧ Below w.heap.size w w' := by
  obtain ⟨W0, hW0⟩ : ∃ W0, w.alloc (.cells #[.bool false, .string ⟨#[]⟩, .int .i64 0] 23) = W0 := ⟨_, rfl⟩
  have hb0 : Below w.heap.size w W0 := by rw [← hW0]; exact (Below.refl _ w).alloc (Nat.le_refl _) _
  have hB0 : Blk W0 w.heap.size #[.bool false, .string ⟨#[]⟩, .int .i64 0] 23 := by rw [← hW0]; exact Blk.new w _ _
  have hF := FormatInt_any n h0 h1 W0 (hG.later hb0)
  have hC : ∀ W, Calls Tryd.prog 25 #[.string ⟨(Lib.itoa n).toArray⟩, .string ⟨#[45]⟩] W fun e w' => e = .returned (.tuple #[.string (decB n.natAbs), .bool (decide (n < 0))]) ∧ w' = W := fun W => by
    have h := Tryd.strings_CutPrefix ⟨(Lib.itoa n).toArray⟩ ⟨#[45]⟩ W
    by_cases hn : n < 0
    · have e : Lib.itoa n = 45 :: dec n.natAbs := by unfold Lib.itoa; rw [if_pos hn]
      rw [e] at h ⊢
      have e1 : Lib.hasPrefix (45 :: dec n.natAbs) [45] = true := by unfold Lib.hasPrefix; simp [List.isPrefixOf]
      have e2 : Lib.trimPrefix (45 :: dec n.natAbs) [45] = dec n.natAbs := by unfold Lib.trimPrefix; rw [e1]; rfl
      simp only [List.toList_toArray] at h
      rw [e1, e2] at h
      rw [decide_eq_true hn]; exact h
    · have e : Lib.itoa n = dec n.natAbs := by unfold Lib.itoa; rw [if_neg hn, show n.toNat = n.natAbs by omega]
      rw [e] at h ⊢
      have e1 : Lib.hasPrefix (dec n.natAbs) [45] = false := dec_no _ _ (by decide)
      have e2 : Lib.trimPrefix (dec n.natAbs) [45] = dec n.natAbs := by unfold Lib.trimPrefix; rw [e1]; rfl
      simp only [List.toList_toArray] at h
      rw [e1, e2] at h
      rw [decide_eq_false hn]; exact h
  obtain ⟨u, hu⟩ : ∃ u : ByteArray, (⟨(Lib.itoa n).toArray⟩ : ByteArray) = u := ⟨_, rfl⟩
  obtain ⟨v, hv⟩ : ∃ v : ByteArray, decB n.natAbs = v := ⟨_, rfl⟩
  obtain ⟨b, hbv⟩ : ∃ b, decide (n < 0) = b := ⟨_, rfl⟩
  have e : (V.mk (decide (n < 0)) n.natAbs 0).d.val = .agg #[.bool b, .string v, .int .i64 0] := by rw [← hbv, ← hv]; rfl
  rw [e]
  simp only [hu, hv, hbv] at hF hC
  clear e hu hv hbv h0 h1 hG
  go_enter Tryd.func22, Tryd.ntmps22
  go_wp2_with (go_at_call 38; refine hF.mono ?_)
  first | rintro e5 w5 rfl hb5 | rintro e5 w5 ⟨rfl, hb5⟩
  have hB5 := hB0.below hB0.lt hb5
  have hbw := b_step hb5 hb0
  obtain ⟨c0, c1, c2, f0, f1, f2⟩ := hB5.three
  clear hF hB0 hW0 hb5 hb0
  go_wp2_with (go_at_call 25; refine (hC _).mono ?_; rintro e6 w6 ⟨rfl, hw6⟩; rw [hw6])
  refine bodyPost_ret (v := .agg #[.bool b, .string v, .int .i64 0]) (results_cell_row (by rfl) _ _ _ _ _ _ _ (by rfl) (hB5.set3 _ _ _) Tryd.underlying23 rfl sizeDec) rfl ⟨rfl, b_set3 hbw (Nat.le_refl _) _ _ _⟩
/-- What Read says. -/
def signOf (l : List UInt8) : Bool × List UInt8 := if Lib.hasPrefix l [45] = true then (true, Lib.trimPrefix l [45]) else (false, Lib.trimPrefix l [43])
def allOf (m : List UInt8) : List UInt8 := (Lib.cut m [46]).1 ++ (Lib.cut m [46]).2.1
def readS (l : List UInt8) : R :=
  if allOf (signOf l).2 = [] ∨ digs (allOf (signOf l).2) = false then .err 6 else mk (signOf l).1 (dv (allOf (signOf l).2)) (Lib.cut (signOf l).2 [46]).2.1.length
theorem trim_len (l p : List UInt8) : (Lib.trimPrefix l p).length ≤ l.length := by
  unfold Lib.trimPrefix; split
  · rw [List.length_drop]; omega
  · exact Nat.le_refl _
theorem cut_len (l : List UInt8) : (Lib.cut l [46]).1.length + (Lib.cut l [46]).2.1.length ≤ l.length := by
  unfold Lib.cut; split
  · simp only [List.length_take, List.length_drop]; omega
  · simp
set_option maxRecDepth 100000 in
set_option maxHeartbeats 4000000 in
theorem Read_any (s : ByteArray) (hs : s.size ≤ 1000) (w : World) (hG : G w) :
    Calls Tryd.prog 8 #[.string s] w fun e w' => e = .returned (readS s.data.toList).val ∧ Below w.heap.size w w' := by
  obtain ⟨W0, hW0⟩ : ∃ W0, w.alloc (.cells #[.bool false, .string ⟨#[]⟩, .int .i64 0] 23) = W0 := ⟨_, rfl⟩
  have hb0 : Below w.heap.size w W0 := by rw [← hW0]; exact (Below.refl _ w).alloc (Nat.le_refl _) _
  have hB0 : Blk W0 w.heap.size #[.bool false, .string ⟨#[]⟩, .int .i64 0] 23 := by rw [← hW0]; exact Blk.new w _ _
  obtain ⟨l, hl⟩ : ∃ l, s.data.toList = l := ⟨_, rfl⟩
  have hll : l.length ≤ 1000 := by rw [← hl, size_list']; exact hs
  have hP1 := fun W => Tryd.strings_CutPrefix s ⟨#[45]⟩ W
  have hP2 := fun W => Tryd.strings_CutPrefix s ⟨#[43]⟩ W
  rw [hl] at hP1 hP2 ⊢
  simp only [] at hP1 hP2
  obtain ⟨b1, hb1⟩ : ∃ b, Lib.hasPrefix l [45] = b := ⟨_, rfl⟩
  obtain ⟨b2, hb2⟩ : ∃ b, Lib.hasPrefix l [43] = b := ⟨_, rfl⟩
  obtain ⟨u1, hu1⟩ : ∃ u : ByteArray, (⟨(Lib.trimPrefix l [45]).toArray⟩ : ByteArray) = u := ⟨_, rfl⟩
  obtain ⟨u2, hu2⟩ : ∃ u : ByteArray, (⟨(Lib.trimPrefix l [43]).toArray⟩ : ByteArray) = u := ⟨_, rfl⟩
  rw [hb1, hu1] at hP1
  rw [hb2, hu2] at hP2
  obtain ⟨u, hu⟩ : ∃ u, (if b1 = true then u1 else u2) = u := ⟨_, rfl⟩
  have hul : u.data.toList = (signOf l).2 ∧ b1 = (signOf l).1 := by
    unfold signOf
    rw [hb1, ← hu]
    cases b1
    · exact ⟨by rw [if_neg Bool.false_ne_true, if_neg Bool.false_ne_true, ← hu2], by rw [if_neg Bool.false_ne_true]⟩
    · exact ⟨by rw [if_pos rfl, if_pos rfl, ← hu1], by rw [if_pos rfl]⟩
  have hus : u.data.toList.length ≤ 1000 := by
    rw [hul.1]; unfold signOf
    split
    · exact Nat.le_trans (trim_len _ _) hll
    · exact Nat.le_trans (trim_len _ _) hll
  have hCt := fun W hG => Cut_any u (by rw [size_list'] at hus; omega) W hG
  obtain ⟨c1, hc1⟩ : ∃ c : ByteArray, (⟨(Lib.cut u.data.toList [46]).1.toArray⟩ : ByteArray) = c := ⟨_, rfl⟩
  obtain ⟨c2, hc2⟩ : ∃ c : ByteArray, (⟨(Lib.cut u.data.toList [46]).2.1.toArray⟩ : ByteArray) = c := ⟨_, rfl⟩
  obtain ⟨c3, hc3⟩ : ∃ c, (Lib.cut u.data.toList [46]).2.2 = c := ⟨_, rfl⟩
  have hcl := cut_len u.data.toList
  simp only [hc1, hc2, hc3] at hCt
  have hc1l : c1.data.toList = (Lib.cut u.data.toList [46]).1 := by rw [← hc1]
  have hc2l : c2.data.toList = (Lib.cut u.data.toList [46]).2.1 := by rw [← hc2]
  obtain ⟨x, hx⟩ : ∃ x, c1 ++ c2 = x := ⟨_, rfl⟩
  have hxl : x.data.toList = allOf u.data.toList := by
    rw [← hx]; unfold allOf; rw [← hc1l, ← hc2l]; simp
  have hxs : x.size ≤ 1000 := by rw [← size_list', hxl]; unfold allOf; rw [List.length_append]; omega
  have hc2s : c2.size ≤ 1000 := by rw [← size_list', hc2l]; omega
  have hsum : ¬ 9223372036854775807 < c1.size + c2.size := by rw [← size_list', ← size_list', hc1l, hc2l]; omega
  have hr : readS l = if x.data.toList = [] ∨ digs x.data.toList = false then .err 6 else mk b1 (dv x.data.toList) c2.size := by
    unfold readS
    rw [← hul.1, ← hul.2, ← hxl, ← hc2l, size_list']
  obtain ⟨r, hrr⟩ : ∃ r, readS l = r := ⟨_, rfl⟩
  rw [hrr] at hr ⊢
  have hxe : x.toList = x.data.toList := ByteArray.toList_eq x
  have hOD := onlyDigits_any x (by unfold maxLen; omega)
  have hG0 := hG.later hb0
  have HB0 := Lib.hid hb0
  have HBl := Lib.hid hB0
  have HG0 := Lib.hid hG0
  have Hu := Lib.hid hu
  clear hul hus hcl hc1 hc2 hc3 hc1l hc2l hrr hxl hb1 hb2 hu1 hu2 hl hll hG hs hb0 hB0 hG0 hu
  by_cases he : x.data.toList = []
  · rw [if_pos (.inl he)] at hr
    have hx0 : x = ⟨#[]⟩ := by rw [← mk_toList x, he]
    subst hx0
    clear hOD hxe he hxs
    cases b1
    · have hu : u2 = u := by have := Hu.out; rw [if_neg Bool.false_ne_true] at this; exact this
      subst hu
      go_enter Tryd.func8, Tryd.ntmps8
      go_wp2_with (go_at_call 25; first | ((with_reducible refine (hP1 _).mono ?_); rintro e6 w6 ⟨rfl, hw6⟩; rw [hw6]) | ((with_reducible refine (hP2 _).mono ?_); rintro e6 w6 ⟨rfl, hw6⟩; rw [hw6]))
      refine (hCt _ HG0.out).mono ?_
      first | rintro e5 w5 rfl hb5 | rintro e5 w5 ⟨rfl, hb5⟩
      have hB5 := HBl.out.below HBl.out.lt hb5
      have hbw := b_step hb5 HB0.out
      obtain ⟨c0, c1', c2', f0, f1, f2⟩ := hB5.three
      have HBW := Lib.hid hbw
      clear hb5 hbw hCt hP1 hP2 hW0
      go_wp2
      refine bodyPost_ret (v := (R.err 6).val) (results_row_slot (by rfl) _ _ _ _ _ _ (by rfl) (hB5.set3 _ _ _) (by rfl)) rfl ⟨by rw [hr], b_set3 HBW.out (Nat.le_refl _) _ _ _⟩
    · have hu : u1 = u := by have := Hu.out; rw [if_pos rfl] at this; exact this
      subst hu
      go_enter Tryd.func8, Tryd.ntmps8
      go_wp2_with (go_at_call 25; refine (hP1 _).mono ?_; rintro e6 w6 ⟨rfl, hw6⟩; rw [hw6])
      refine (hCt _ HG0.out).mono ?_
      first | rintro e5 w5 rfl hb5 | rintro e5 w5 ⟨rfl, hb5⟩
      have hB5 := HBl.out.below HBl.out.lt hb5
      have hbw := b_step hb5 HB0.out
      obtain ⟨c0, c1', c2', f0, f1, f2⟩ := hB5.three
      have HBW := Lib.hid hbw
      clear hb5 hbw hCt hP1 hP2 hW0
      go_wp2
      refine bodyPost_ret (v := (R.err 6).val) (results_row_slot (by rfl) _ _ _ _ _ _ (by rfl) (hB5.set3 _ _ _) (by rfl)) rfl ⟨by rw [hr], b_set3 HBW.out (Nat.le_refl _) _ _ _⟩
  · have hem : x.toList.isEmpty = false := by rw [hxe, List.isEmpty_eq_false_iff]; exact he
    cases hdg : digs x.data.toList
    · rw [if_pos (.inr hdg)] at hr
      rw [hdg] at hOD
      clear hxe he hxs hdg
      cases b1
      · have hu : u2 = u := by have := Hu.out; rw [if_neg Bool.false_ne_true] at this; exact this
        subst hu
        go_enter Tryd.func8, Tryd.ntmps8
        go_wp2_with (go_at_call 25; first | ((with_reducible refine (hP1 _).mono ?_); rintro e6 w6 ⟨rfl, hw6⟩; rw [hw6]) | ((with_reducible refine (hP2 _).mono ?_); rintro e6 w6 ⟨rfl, hw6⟩; rw [hw6]))
        refine (hCt _ HG0.out).mono ?_
        first | rintro e5 w5 rfl hb5 | rintro e5 w5 ⟨rfl, hb5⟩
        have hB5 := HBl.out.below HBl.out.lt hb5
        have hbw := b_step hb5 HB0.out
        obtain ⟨c0, c1', c2', f0, f1, f2⟩ := hB5.three
        have HBW := Lib.hid hbw
        clear hb5 hbw hCt hP1 hP2 hW0
        go_wp2_with (go_at_call 17; refine (hOD _).mono ?_; rintro e w' ⟨rfl, rfl⟩)
        refine bodyPost_ret (v := (R.err 6).val) (results_row_slot (by rfl) _ _ _ _ _ _ (by rfl) (hB5.set3 _ _ _) (by rfl)) rfl ⟨by rw [hr], b_set3 HBW.out (Nat.le_refl _) _ _ _⟩
      · have hu : u1 = u := by have := Hu.out; rw [if_pos rfl] at this; exact this
        subst hu
        go_enter Tryd.func8, Tryd.ntmps8
        go_wp2_with (go_at_call 25; refine (hP1 _).mono ?_; rintro e6 w6 ⟨rfl, hw6⟩; rw [hw6])
        refine (hCt _ HG0.out).mono ?_
        first | rintro e5 w5 rfl hb5 | rintro e5 w5 ⟨rfl, hb5⟩
        have hB5 := HBl.out.below HBl.out.lt hb5
        have hbw := b_step hb5 HB0.out
        obtain ⟨c0, c1', c2', f0, f1, f2⟩ := hB5.three
        have HBW := Lib.hid hbw
        clear hb5 hbw hCt hP1 hP2 hW0
        go_wp2_with (go_at_call 17; refine (hOD _).mono ?_; rintro e w' ⟨rfl, rfl⟩)
        refine bodyPost_ret (v := (R.err 6).val) (results_row_slot (by rfl) _ _ _ _ _ _ (by rfl) (hB5.set3 _ _ _) (by rfl)) rfl ⟨by rw [hr], b_set3 HBW.out (Nat.le_refl _) _ _ _⟩
    · rw [if_neg (by rw [hdg]; intro h; rcases h with h | h; exact he h; cases h)] at hr
      have hM := fun W => made_any b1 x c2.size hdg (by omega) (by omega) W
      rw [← hr] at hM
      rw [R.val_eq] at hM
      rw [hdg] at hOD
      clear hxe he hxs hdg hr
      cases b1
      · have hu : u2 = u := by have := Hu.out; rw [if_neg Bool.false_ne_true] at this; exact this
        subst hu
        go_enter Tryd.func8, Tryd.ntmps8
        go_wp2_with (go_at_call 25; first | ((with_reducible refine (hP1 _).mono ?_); rintro e6 w6 ⟨rfl, hw6⟩; rw [hw6]) | ((with_reducible refine (hP2 _).mono ?_); rintro e6 w6 ⟨rfl, hw6⟩; rw [hw6]))
        refine (hCt _ HG0.out).mono ?_
        first | rintro e5 w5 rfl hb5 | rintro e5 w5 ⟨rfl, hb5⟩
        have hB5 := HBl.out.below HBl.out.lt hb5
        have hbw := b_step hb5 HB0.out
        obtain ⟨c0, c1', c2', f0, f1, f2⟩ := hB5.three
        have HBW := Lib.hid hbw
        clear hb5 hbw hCt hP1 hP2 hW0
        go_wp2_with (go_at_call 17; refine (hOD _).mono ?_; rintro e w' ⟨rfl, rfl⟩)
        refine (hM _).mono ?_
        first | rintro e7 w7 rfl hb7 | rintro e7 w7 ⟨rfl, hb7⟩
        have hB7 := hB5.below hB5.lt hb7
        obtain ⟨k0, k1, k2, q0, q1, q2⟩ := hB7.three
        have HBW7 := Lib.hid (b_step hb7 HBW.out)
        clear c0 c1' c2' f0 f1 f2 hb7 hM hOD
        go_wp2
        refine bodyPost_ret (v := r.val) (results_row_slot (by rfl) _ _ _ _ _ _ (by rfl) (hB7.set3 _ _ _) (by rfl)) rfl ⟨rfl, b_set3 HBW7.out (Nat.le_refl _) _ _ _⟩
      · have hu : u1 = u := by have := Hu.out; rw [if_pos rfl] at this; exact this
        subst hu
        go_enter Tryd.func8, Tryd.ntmps8
        go_wp2_with (go_at_call 25; refine (hP1 _).mono ?_; rintro e6 w6 ⟨rfl, hw6⟩; rw [hw6])
        refine (hCt _ HG0.out).mono ?_
        first | rintro e5 w5 rfl hb5 | rintro e5 w5 ⟨rfl, hb5⟩
        have hB5 := HBl.out.below HBl.out.lt hb5
        have hbw := b_step hb5 HB0.out
        obtain ⟨c0, c1', c2', f0, f1, f2⟩ := hB5.three
        have HBW := Lib.hid hbw
        clear hb5 hbw hCt hP1 hP2 hW0
        go_wp2_with (go_at_call 17; refine (hOD _).mono ?_; rintro e w' ⟨rfl, rfl⟩)
        refine (hM _).mono ?_
        first | rintro e7 w7 rfl hb7 | rintro e7 w7 ⟨rfl, hb7⟩
        have hB7 := hB5.below hB5.lt hb7
        obtain ⟨k0, k1, k2, q0, q1, q2⟩ := hB7.three
        have HBW7 := Lib.hid (b_step hb7 HBW.out)
        clear c0 c1' c2' f0 f1 f2 hb7 hM hOD
        go_wp2
        refine bodyPost_ret (v := r.val) (results_row_slot (by rfl) _ _ _ _ _ _ (by rfl) (hB7.set3 _ _ _) (by rfl)) rfl ⟨rfl, b_set3 HBW7.out (Nat.le_refl _) _ _ _⟩
end Dc
end Go.Proofs.YthnpbkplcboejaaDoor
