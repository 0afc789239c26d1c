/- Decimal: onlyDigits, isScale, Check, valid. -/
import Derived.Test.YthnpbkplcboejaaDoorDe
set_option linter.unusedSimpArgs false
set_option linter.unusedVariables false
namespace Go.Proofs.YthnpbkplcboejaaDoor
open Go.RowKit Go.Shelf
namespace Dc
def D.val (d : D) : Value := .agg #[.bool d.neg, .string d.s, .int .i64 d.sc]
theorem size_list' (s : ByteArray) : s.data.toList.length = s.size := by rw [Array.length_toList]; rfl
theorem get_list' (s : ByteArray) (k : Nat) (h : k < s.size) : s.data.toList[k]'(by rw [size_list']; exact h) = s[k] := rfl
theorem toList_data (s : ByteArray) : s.toList = s.data.toList := ByteArray.toList_eq s
theorem take_snoc' (l : List UInt8) (k : Nat) (h : k < l.length) : l.take (k + 1) = l.take k ++ [l[k]] := by
  rw [List.take_succ_eq_append_getElem h]
def scB (sc : Int) : Bool := decide (0 ≤ sc) && decide (sc ≤ 60)
set_option maxHeartbeats 1000000 in
theorem onlyDigits_any (s : ByteArray) (hs : s.size ≤ maxLen) (w : World) :
    Calls Tryd.prog 17 #[.string s] w fun e w' => e = .returned (.bool (digs s.data.toList)) ∧ w = w' := by
  unfold maxLen at hs
  go_enter Tryd.func17, Tryd.ntmps17
  go_wp2
  go_loop [6] (fun i => ∃ k : Nat, k ≤ s.size ∧ i = .int .i64 k ∧ Hid (digs (s.data.toList.take k) = true)) (fun i => s.size - (intOf i).toNat)
  case atStart => exact ⟨0, Nat.zero_le _, rfl, rfl⟩
  case round =>
    obtain ⟨k, hk, rfl, H⟩ := hrel
    by_cases hlt : k < s.size
    · obtain ⟨c, hc⟩ : ∃ c, s[k] = c := ⟨_, rfl⟩
      have hcl : s.data.toList[k]'(by rw [size_list']; exact hlt) = c := (get_list' s k hlt).trans hc
      have HC := Lib.hid hcl
      clear hcl
      by_cases h1 : c.toNat < 48
      · have hno : Hid (digs s.data.toList = false) := by
          refine Bool.eq_false_iff.2 fun h => ?_
          have := digs_iff.1 h c (by rw [← HC.out]; exact List.getElem_mem _)
          omega
        have g1 : decide ((c.toNat : Int) < 48) = true := decide_eq_true (by omega)
        clear h1
        go_wp2
        go_ret
        exact ⟨by rw [hno.out]; rfl, rfl⟩
      · have g1 : decide ((c.toNat : Int) < 48) = false := decide_eq_false (by omega)
        by_cases h2 : 57 < c.toNat
        · have hno : Hid (digs s.data.toList = false) := by
            refine Bool.eq_false_iff.2 fun h => ?_
            have := digs_iff.1 h c (by rw [← HC.out]; exact List.getElem_mem _)
            omega
          have g2 : decide (57 < (c.toNat : Int)) = true := decide_eq_true (by omega)
          clear h1 h2
          go_wp2
          go_ret
          exact ⟨by rw [hno.out]; rfl, rfl⟩
        · have g2 : decide (57 < (c.toNat : Int)) = false := decide_eq_false (by omega)
          have hyes : Hid (digs (s.data.toList.take (k + 1)) = true) := by
            show _ = true
            rw [take_snoc' _ _ (by rw [size_list']; exact hlt), digs_append, H.out, Bool.true_and]
            refine digs_iff.2 fun x hx => ?_
            rw [List.mem_singleton, HC.out] at hx
            subst hx
            omega
          clear h1 h2
          go_wp2
          go_round
          case rel => exact ⟨k + 1, by omega, by go_num, hyes⟩
          case measure => simp [intOf]; omega
    · obtain rfl : k = s.size := by omega
      go_wp2
      go_ret
      exact ⟨by have := H.out; rw [List.take_of_length_le (by rw [size_list']; exact Nat.le_refl _)] at this; rw [this]; rfl, rfl⟩
set_option maxHeartbeats 1000000 in
theorem isScale_any (sc : Int) (w : World) : Calls Tryd.prog 18 #[.int .i64 sc] w fun e w' => e = .returned (.bool (scB sc)) ∧ w = w' := by
  by_cases h1 : 0 ≤ sc
  · by_cases h2 : sc ≤ 60
    · have hb : Hid (scB sc = true) := by show _ = true; unfold scB; simp [h1, h2]
      go_enter Tryd.func18, Tryd.ntmps18
      go_wp2
      go_ret
      exact ⟨by rw [hb.out]; rfl, rfl⟩
    · have hb : Hid (scB sc = false) := by show _ = false; unfold scB; simp [h1, h2]
      have g2 : decide (sc ≤ 60) = false := decide_eq_false h2
      go_enter Tryd.func18, Tryd.ntmps18
      go_wp2
      go_ret
      exact ⟨by rw [hb.out]; rfl, rfl⟩
  · have hb : Hid (scB sc = false) := by show _ = false; unfold scB; simp [h1]
    have g2 : decide (0 ≤ sc) = false := decide_eq_false h1
    go_enter Tryd.func18, Tryd.ntmps18
    go_wp2
    go_ret
    exact ⟨by rw [hb.out]; rfl, rfl⟩
theorem check_open (neg : Bool) (s : ByteArray) (sc : Int) (h0 : 0 < s.size) (h60 : s.size ≤ 60) (hd : digs s.data.toList = true) (hsc : scB sc = true) (hl : s.toList = s.data.toList) :
    (if (D.mk neg s sc).check = true then (0 : Int) else 2) = if s.toList = [48] ∧ neg = false ∧ sc = 0 then 0 else if ((s[0].toNat : Nat) : Int) = 48 ∨ (0 < sc ∧ ((s[s.size - 1].toNat : Nat) : Int) = 48) then 2 else 0 := by
  rw [hl]
  unfold scB at hsc
  rw [Bool.and_eq_true] at hsc
  have hz := size_list' s
  have hne : s.data.toList ≠ [] := fun e => by rw [e] at hz; simp at hz; omega
  have hhd : s.data.toList.head? = some s[0] := by
    rw [List.head?_eq_getElem?, List.getElem?_eq_getElem (by rw [hz]; exact h0)]; rfl
  have hla : s.data.toList.getLast? = some s[s.size - 1] := by
    rw [List.getLast?_eq_getElem?, List.getElem?_eq_getElem (by rw [hz]; omega)]
    congr 1
  have e48 : ∀ c : UInt8, (some c == some 48) = decide ((c.toNat : Int) = 48) := fun c => by
    rw [Bool.eq_iff_iff, beq_iff_eq, decide_eq_true_iff, Option.some.injEq]
    constructor
    · rintro rfl; rfl
    · intro h; exact UInt8.toNat_inj.1 (by show c.toNat = 48; omega)
  have hc : (D.mk neg s sc).check = (if s.data.toList = [48] then !neg && decide (sc = 0) else !decide (((s[0].toNat : Nat) : Int) = 48) && (decide (sc ≤ 0) || !decide (((s[s.size - 1].toNat : Nat) : Int) = 48))) := by
    unfold D.check
    simp only [hz, hd, hhd, hla, e48, hsc.1, hsc.2, Bool.true_and, Bool.and_true, decide_eq_true (show 1 ≤ s.size by omega), decide_eq_true h60]
  by_cases h : s.data.toList = [48]
  · have h48 : ((s[0].toNat : Nat) : Int) = 48 := by
      have : some s[0] = some (48 : UInt8) := by rw [← hhd, h]; rfl
      injection this with this
      rw [this]; rfl
    rw [if_pos h] at hc
    by_cases k : neg = false ∧ sc = 0
    · have e : (D.mk neg s sc).check = true := by rw [hc, k.1, k.2]; rfl
      rw [if_pos e, if_pos ⟨h, k⟩]
    · have e : ¬ (D.mk neg s sc).check = true := fun q => k (by rw [hc] at q; simpa using q)
      rw [if_neg e, if_neg (fun q => k q.2), if_pos (.inl h48)]
  · rw [if_neg h] at hc
    have e2 : ¬ (s.data.toList = [48] ∧ neg = false ∧ sc = 0) := fun k => h k.1
    rw [if_neg e2]
    by_cases k : ((s[0].toNat : Nat) : Int) = 48 ∨ (0 < sc ∧ ((s[s.size - 1].toNat : Nat) : Int) = 48)
    · have e : ¬ (D.mk neg s sc).check = true := fun q => by
        rw [hc] at q
        simp only [Bool.and_eq_true, Bool.not_eq_true', decide_eq_false_iff_not, Bool.or_eq_true, decide_eq_true_eq] at q
        omega
      rw [if_neg e, if_pos k]
    · have e : (D.mk neg s sc).check = true := by
        rw [hc]
        simp only [Bool.and_eq_true, Bool.not_eq_true', decide_eq_false_iff_not, Bool.or_eq_true, decide_eq_true_eq]
        omega
      rw [if_pos e, if_neg k]
theorem d_box (d : D) : d.val = .agg #[.bool d.neg, .string d.s, .int .i64 d.sc] := rfl
set_option maxRecDepth 100000 in
set_option maxHeartbeats 2000000 in
theorem Check_any (d : D) (hs : d.s.size ≤ maxLen) (w : World) :
    Calls Tryd.prog 5 #[d.val] w fun e w' => e = .returned (.int .i64 (if d.check = true then 0 else 2)) ∧ Below w.heap.size w w' := by
  obtain ⟨neg, s, sc⟩ := d
  have hs' : s.size ≤ maxLen := hs
  clear hs
  rw [d_box]
  obtain ⟨r, hr⟩ : ∃ r : Int, (if (D.mk neg s sc).check = true then (0 : Int) else 2) = r := ⟨_, rfl⟩
  rw [hr]
  have hl := size_list' s
  have HR := Lib.hid hr
  clear hr
  have hD := onlyDigits_any s hs' 
  have hSc := isScale_any sc
  unfold maxLen at hs'
  have HB : Hid (∀ o : Obj, Below w.heap.size w (w.alloc o)) := fun o => (Below.refl _ w).alloc (Nat.le_refl _) o
  by_cases h1 : s.size < 1
  · have e : Hid (r = 2) := by
      show _ = _
      rw [← HR.out, if_neg]; unfold D.check; rw [hl]; simp; omega
    have g1 : decide ((s.size : Int) < 1) = true := decide_eq_true (by omega)
    clear hD hSc hl h1
    go_enter Tryd.func5, Tryd.ntmps5
    go_wp2
    go_ret
    exact ⟨by rw [e.out]; rfl, HB.out _⟩
  · have g1 : decide ((s.size : Int) < 1) = false := decide_eq_false (by omega)
    by_cases h2 : 60 < s.size
    · have e : Hid (r = 2) := by
        show _ = _
        rw [← HR.out, if_neg]; unfold D.check; rw [hl]; simp; omega
      have g2 : decide (60 < (s.size : Int)) = true := decide_eq_true (by omega)
      clear hD hSc hl h1 h2
      go_enter Tryd.func5, Tryd.ntmps5
      go_wp2
      go_ret
      exact ⟨by rw [e.out]; rfl, HB.out _⟩
    · have g2 : decide (60 < (s.size : Int)) = false := decide_eq_false (by omega)
      cases h3 : digs s.data.toList
      · have e : Hid (r = 2) := by
          show _ = _
          rw [← HR.out, if_neg]; unfold D.check; rw [hl]; simp [h3]
        have H3 := Lib.hid h3
        rw [h3] at hD
        clear hSc hl h1 h2 h3
        go_enter Tryd.func5, Tryd.ntmps5
        go_wp2_with (go_at_call 17; refine (hD _).mono ?_; rintro e w' ⟨rfl, rfl⟩)
        go_ret
        exact ⟨by rw [e.out]; rfl, HB.out _⟩
      · have H3 := Lib.hid h3
        rw [h3] at hD
        clear h3
        cases h4 : scB sc
        · have e : Hid (r = 2) := by
            show _ = _
            rw [← HR.out, if_neg]; unfold D.check; rw [hl]; unfold scB at h4; simp only [Bool.and_eq_true, Bool.and_eq_false_iff] at h4 ⊢
            rintro ⟨⟨⟨_, h⟩, h'⟩, _⟩
            rcases h4 with h4 | h4
            · rw [h4] at h; cases h
            · rw [h4] at h'; cases h'
          rw [h4] at hSc
          clear hl h1 h2 h4
          go_enter Tryd.func5, Tryd.ntmps5
          go_wp2_with (first | (go_at_call 17; refine (hD _).mono ?_; rintro e w' ⟨rfl, rfl⟩) | (go_at_call 18; refine (hSc _).mono ?_; rintro e w' ⟨rfl, rfl⟩))
          go_ret
          exact ⟨by rw [e.out]; rfl, HB.out _⟩
        · rw [h4] at hSc
          have H4 := Lib.hid h4
          clear h4
          have hlen : Hid (1 ≤ s.data.toList.length ∧ s.data.toList.length ≤ 60) := by show _ ∧ _; rw [hl]; omega
          have hb0 : 0 < s.size := by omega
          have hb60 : s.size ≤ 60 := by omega
          have hv := check_open neg s sc hb0 hb60 H3.out H4.out (toList_data s)
          rw [HR.out] at hv
          have HV := Lib.hid hv
          clear hl h1 h2 hv
          go_enter Tryd.func5, Tryd.ntmps5
          go_wp2_with (first | (go_at_call 17; refine (hD _).mono ?_; rintro e w' ⟨rfl, rfl⟩) | (go_at_call 18; refine (hSc _).mono ?_; rintro e w' ⟨rfl, rfl⟩))
          all_goals
            go_ret
            refine ⟨ret_int ?_, HB.out _⟩
            clear HR H3 H4 hlen hD hSc HB g1 g2
            first | rw [HV.out]; simp_all | skip
            all_goals (intro h7; omega)
theorem Check_yes {d : D} (h : d.check = true) (hs : d.s.size ≤ maxLen) (w : World) : Calls Tryd.prog 5 #[d.val] w fun e w' => e = .returned (.int .i64 0) ∧ Below w.heap.size w w' := by
  have := Check_any d hs w
  rw [if_pos h] at this
  exact this
theorem Check_no {d : D} (h : d.check = false) (hs : d.s.size ≤ maxLen) (w : World) : Calls Tryd.prog 5 #[d.val] w fun e w' => e = .returned (.int .i64 2) ∧ Below w.heap.size w w' := by
  have := Check_any d hs w
  rw [if_neg (by rw [h]; exact Bool.false_ne_true)] at this
  exact this
set_option maxRecDepth 100000 in
set_option maxHeartbeats 4000000 in
theorem valid1_any (d : D) (hs0 : d.s.size ≤ maxLen) (b : Nat) (w : World) (hB : Blk w b #[.bool d.neg, .string d.s, .int .i64 d.sc] 23) :
    Calls Tryd.prog 23 #[.slice (some ⟨b, 0, none⟩) 1 1] w fun e w' => e = .returned (.bool (d.check)) ∧ Below w.heap.size w w' := by
  have a0 := hB.cell 0
  have a1 := hB.cell 1
  have a2 := hB.cell 2
  simp only [List.getElem?_toArray, List.getElem?_cons_zero, List.getElem?_cons_succ] at a0 a1 a2
  have HBl := Below.refl w.heap.size w
  have hK0 : ∀ W, Calls Tryd.prog 5 #[.agg #[.bool d.neg, .string d.s, .int .i64 d.sc]] W fun e w' => e = .returned (.int .i64 (if d.check = true then 0 else 2)) ∧ Below W.heap.size W w' := fun W => Check_any d hs0 W
  obtain ⟨v, hv0⟩ : ∃ v, d.check = v := ⟨_, rfl⟩
  rw [hv0] at hK0 ⊢
  clear hv0 hs0
  go_enter Tryd.func23, Tryd.ntmps23
  go_wp2
  go_loopw [7] (fun i wr => ∃ k : Nat, k ≤ 1 ∧ i = .int .i64 k ∧ Below w.heap.size w wr ∧ (1 ≤ k → v = true)) (fun i _ => 1 - (intOf i).toNat)
  case atStart => exact ⟨0, by omega, rfl, HBl, by simp⟩
  case round =>
    clear HBl
    obtain ⟨k, hk, rfl, hb, r0⟩ := hrel
    have HBk := Lib.hid hb
    by_cases h0 : k = 0
    · subst h0
      have c0 := hb.cell (p := ⟨b, 0, none⟩) hB.lt |>.trans a0
      have c1 := hb.cell (p := ⟨b, 1, none⟩) hB.lt |>.trans a1
      have c2 := hb.cell (p := ⟨b, 2, none⟩) hB.lt |>.trans a2
      clear r0
      cases v with
      | true =>
        rw [if_pos rfl] at hK0
        go_wp2_with (go_at_call 5; refine (hK0 _).mono ?_; first | rintro e w5 rfl hb5 | rintro e w5 ⟨rfl, hb5⟩)
        refine ⟨⟨1, by omega, rfl, b_step hb5 (b_alloc HBk.out), by simp⟩, by simp [intOf]⟩
      | false =>
        rw [if_neg Bool.false_ne_true] at hK0
        go_wp2_with (go_at_call 5; refine (hK0 _).mono ?_; first | rintro e w5 rfl hb5 | rintro e w5 ⟨rfl, hb5⟩)
        go_ret
        exact ⟨by simp, b_step hb5 (b_alloc HBk.out)⟩
    · obtain rfl : k = 1 := by omega
      obtain rfl := r0 (by omega)
      clear hK0
      go_wp2
      go_ret
      exact ⟨rfl, HBk.out⟩
set_option maxRecDepth 100000 in
set_option maxHeartbeats 4000000 in
theorem valid2_any (d : D) (x : D) (hs0 : d.s.size ≤ maxLen) (hs1 : x.s.size ≤ maxLen) (b : Nat) (w : World) (hB : Blk w b #[.bool d.neg, .string d.s, .int .i64 d.sc, .bool x.neg, .string x.s, .int .i64 x.sc] 23) :
    Calls Tryd.prog 23 #[.slice (some ⟨b, 0, none⟩) 2 2] w fun e w' => e = .returned (.bool (d.check && x.check)) ∧ Below w.heap.size w w' := by
  have a0 := hB.cell 0
  have a1 := hB.cell 1
  have a2 := hB.cell 2
  have a3 := hB.cell 3
  have a4 := hB.cell 4
  have a5 := hB.cell 5
  simp only [List.getElem?_toArray, List.getElem?_cons_zero, List.getElem?_cons_succ] at a0 a1 a2 a3 a4 a5
  have HBl := Below.refl w.heap.size w
  have hK0 : ∀ W, Calls Tryd.prog 5 #[.agg #[.bool d.neg, .string d.s, .int .i64 d.sc]] W fun e w' => e = .returned (.int .i64 (if d.check = true then 0 else 2)) ∧ Below W.heap.size W w' := fun W => Check_any d hs0 W
  obtain ⟨v, hv0⟩ : ∃ v, d.check = v := ⟨_, rfl⟩
  rw [hv0] at hK0 ⊢
  clear hv0 hs0
  have hK1 : ∀ W, Calls Tryd.prog 5 #[.agg #[.bool x.neg, .string x.s, .int .i64 x.sc]] W fun e w' => e = .returned (.int .i64 (if x.check = true then 0 else 2)) ∧ Below W.heap.size W w' := fun W => Check_any x hs1 W
  obtain ⟨u, hv1⟩ : ∃ v, x.check = v := ⟨_, rfl⟩
  rw [hv1] at hK1 ⊢
  clear hv1 hs1
  go_enter Tryd.func23, Tryd.ntmps23
  go_wp2
  go_loopw [7] (fun i wr => ∃ k : Nat, k ≤ 2 ∧ i = .int .i64 k ∧ Below w.heap.size w wr ∧ (1 ≤ k → v = true) ∧ (2 ≤ k → u = true)) (fun i _ => 2 - (intOf i).toNat)
  case atStart => exact ⟨0, by omega, rfl, HBl, by simp, by simp⟩
  case round =>
    clear HBl
    obtain ⟨k, hk, rfl, hb, r0, r1⟩ := hrel
    have HBk := Lib.hid hb
    by_cases h0 : k = 0
    · subst h0
      have c0 := hb.cell (p := ⟨b, 0, none⟩) hB.lt |>.trans a0
      have c1 := hb.cell (p := ⟨b, 1, none⟩) hB.lt |>.trans a1
      have c2 := hb.cell (p := ⟨b, 2, none⟩) hB.lt |>.trans a2
      clear r0 r1
      cases v with
      | true =>
        rw [if_pos rfl] at hK0
        go_wp2_with (go_at_call 5; refine (hK0 _).mono ?_; first | rintro e w5 rfl hb5 | rintro e w5 ⟨rfl, hb5⟩)
        refine ⟨⟨1, by omega, rfl, b_step hb5 (b_alloc HBk.out), by simp, by simp⟩, by simp [intOf]⟩
      | false =>
        rw [if_neg Bool.false_ne_true] at hK0
        go_wp2_with (go_at_call 5; refine (hK0 _).mono ?_; first | rintro e w5 rfl hb5 | rintro e w5 ⟨rfl, hb5⟩)
        go_ret
        exact ⟨by simp, b_step hb5 (b_alloc HBk.out)⟩
    by_cases h1 : k = 1
    · subst h1
      have c0 := hb.cell (p := ⟨b, 3, none⟩) hB.lt |>.trans a3
      have c1 := hb.cell (p := ⟨b, 4, none⟩) hB.lt |>.trans a4
      have c2 := hb.cell (p := ⟨b, 5, none⟩) hB.lt |>.trans a5
      obtain rfl := r0 (by omega)
      clear r1
      cases u with
      | true =>
        rw [if_pos rfl] at hK1
        go_wp2_with (go_at_call 5; refine (hK1 _).mono ?_; first | rintro e w5 rfl hb5 | rintro e w5 ⟨rfl, hb5⟩)
        refine ⟨⟨2, by omega, rfl, b_step hb5 (b_alloc HBk.out), by simp, by simp⟩, by simp [intOf]⟩
      | false =>
        rw [if_neg Bool.false_ne_true] at hK1
        go_wp2_with (go_at_call 5; refine (hK1 _).mono ?_; first | rintro e w5 rfl hb5 | rintro e w5 ⟨rfl, hb5⟩)
        go_ret
        exact ⟨by simp, b_step hb5 (b_alloc HBk.out)⟩
    · obtain rfl : k = 2 := by omega
      obtain rfl := r0 (by omega)
      obtain rfl := r1 (by omega)
      clear hK0 hK1
      go_wp2
      go_ret
      exact ⟨rfl, HBk.out⟩
end Dc
end Go.Proofs.YthnpbkplcboejaaDoor
