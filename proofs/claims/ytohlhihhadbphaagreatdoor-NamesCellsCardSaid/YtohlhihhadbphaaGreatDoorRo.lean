/- NamesAsks. -/
import Derived.Test.YtohlhihhadbphaaGreatDoorRn
import Derived.Test.YtohlhihhadbphaaGreatDoorGn
import Derived.Test.YtohlhihhadbphaaGreatDoorGm
set_option linter.unusedSimpArgs false
set_option linter.unusedVariables false
namespace Go.Proofs.YtohlhihhadbphaaGreatDoor
open Go.RowKit Go.Shelf Go.Lib Go.Maps Go.ChangeShapes Go.WideShapes
namespace Np
structure Bx2 (t u : CT) (w V : World) : Prop where
  below : Below w.heap.size w V
  bt : Blk V w.heap.size t.cells.toArray 26
  bu : Blk V (w.heap.size + 1) u.cells.toArray 26
  it : t.In V V.heap.size
  iu : u.In V V.heap.size
theorem Bx2.step {t u : CT} {w V V' : World} (h : Bx2 t u w V) (hb : Below V.heap.size V V') : Bx2 t u w V' :=
  ⟨b_step hb h.below, h.bt.below hb, h.bu.below hb, h.it.onw hb, h.iu.onw hb⟩
theorem chkL_one (t : CT) : chkL [t] = t.check := by
  show (if t.check = 0 then (0 : Int) else t.check) = t.check
  split
  · rename_i h; exact h.symm
  · rfl
theorem any_not_all {α : Type} (l : List α) (p : α → Bool) : (!l.any p) = l.all fun x => !p x := by rw [Bool.eq_iff_iff]; simp
theorem dec_self (t : CT) : Dec (nmsOf (CT.partsL [t] 1)) (spsOf (CT.partsL [t] 1)) t.holds := Dec.of_class t.er (ment_of (by simp))
theorem dec_pair (t u : CT) (f : Bool → Bool → Bool) : Dec (nmsOf (CT.partsL [t, u] 1)) (spsOf (CT.partsL [t, u] 1)) (fun x => f (t.holds x) (u.holds x)) :=
  Dec.two (Dec.of_class t.er (ment_of (by simp))) (Dec.of_class u.er (ment_of (by simp))) f
theorem empty_eq (t : CT) : (decide (t.check = 0) && !((candsOf [t, t] []).any fun x => tru 0 (t.holds x) (t.holds x))) = (decide (chkL [t] = 0) && nevB t.holds (candsOf [t] [])) := by
  rw [chkL_one, any_not_all]
  congr 1
  exact nev_eq (dec_pair t t (fun x y => tru 0 x y)) (dec_self t) (fun x => by simp [tru])
theorem incl_eq (t u : CT) : (decide (chkL [t, u] = 0) && !((candsOf [u, t] []).any fun x => tru 3 (u.holds x) (t.holds x))) = (decide (chkL [t, u] = 0) && nevB (fun n => u.holds n && !t.holds n) (candsOf [t, u] [])) := by
  rw [any_not_all]
  congr 1
  exact nev_eq (dec_pair u t (fun x y => tru 3 x y)) (dec_pair t u (fun x y => y && !x)) (fun x => by simp [tru])
theorem over_eq (t u : CT) : (decide (chkL [t, u] = 0) && ((candsOf [t, u] []).any fun x => tru 2 (t.holds x) (u.holds x))) = (decide (chkL [t, u] = 0) && !(decide (chkL [t, u] = 0) && nevB (fun n => t.holds n && u.holds n) (candsOf [t, u] []))) := by
  have h : nevB (fun n => t.holds n && u.holds n) (candsOf [t, u] []) = !((candsOf [t, u] []).any fun x => tru 2 (t.holds x) (u.holds x)) := by
    rw [any_not_all]; unfold nevB
    congr 1
  rw [h]
  cases decide (chkL [t, u] = 0) <;> simp
theorem eqN_same (n : Name) (w : World) : (binOp .eql 23 (.agg #[.string n.sp, .string n.lc]) (.agg #[.string n.sp, .string n.lc])).run Tryz.prog w = .ok (.bool true) w := by
  have := eqN n n w
  simpa using this
section
variable {H : Type} {enc : TypeId × Value → H} {W : World}
theorem open_names {n : Nat} {cs : List Value} {x : DataW H × List MemPlace} (h : DataW.trod enc Tryz.prog W 0 (fun _ => true) true n 39 cs = some x) : ∃ (a : Option Addr) (l : List Name) (c : Nat), cs = [.slice a l.length c] ∧ NRow W W.heap.size a l := by
  have c2 : Tryz.prog.cellsOf 23 = 2 := by kernel_rfl
  rcases DataW.trod_slice Tryz.underlying39 h with ⟨rfl, _⟩ | ⟨a, len, cap, elems, rest, m, rfl, rfl, _, _, hlc, hcap, hel, hrow, _, _⟩
  · exact ⟨none, [], 0, rfl, ⟨by simp, by simp, fun hl => absurd rfl hl⟩⟩
  · rw [c2] at hrow
    have hch : ∀ i, i < len → ∃ t : Name, W.cells? 0 (a.add (i * 2)) 2 = some [.string t.sp, .string t.lc] ∧ t.fit := fun i hi => by
      have h1 := hrow i hi
      rw [List.getElem?_eq_getElem (by omega)] at h1
      obtain ⟨cs, h2, h3⟩ := Option.bind_eq_some_iff.1 h1
      obtain ⟨t, rfl, h4⟩ := open_nm h3
      exact ⟨t, h2, h4⟩
    obtain ⟨l, hll, hl⟩ : ∃ l : List Name, l.length = len ∧ ∀ i (h : i < l.length), W.cells? 0 (a.add (i * 2)) 2 = some [.string (l[i]).sp, .string (l[i]).lc] ∧ (l[i]).fit :=
      ⟨List.ofFn fun i : Fin len => Classical.choose (hch i.1 i.2), by simp, fun i h => by
        simp only [List.length_ofFn] at h
        rw [List.getElem_ofFn]
        exact Classical.choose_spec (hch i h)⟩
    refine ⟨some a, l, cap, by rw [hll], ⟨by omega, fun u hu => ?_, fun hne => ?_⟩⟩
    · obtain ⟨i, hi, rfl⟩ := List.getElem_of_mem hu
      exact (hl i hi).2
    · have hpos : 0 < l.length := List.length_pos_iff.2 hne
      obtain ⟨_, _, h0⟩ := World.cells?_some (hl 0 hpos).1
      have h00 := h0 0 (by omega)
      rw [show ([Value.string (l[0]'hpos).sp, Value.string (l[0]'hpos).lc])[0]? = some (Value.string (l[0]'hpos).sp) from rfl] at h00
      obtain ⟨b, o, spot⟩ := a
      have hsp : spot = none := by
        have := World.cell?_spot h00
        cases spot with
        | none => rfl
        | some s => simp [Addr.add] at this
      subst hsp
      rw [add_none, add_none] at h00
      refine ⟨b, o, rfl, cell_lt h00, fun j hj => ?_⟩
      obtain ⟨_, hlen, h1⟩ := World.cells?_some (hl j hj).1
      have h2 := h1 0 (by omega)
      have h3 := h1 1 (by omega)
      rw [add_none, add_none] at h2 h3
      exact ⟨h2, h3⟩
theorem names_arg {a : Option Addr} {len cap : Nat} {d : DataW H} {p : List MemPlace} (h : DataW.Trod enc Tryz.prog W 0 (fun _ => true) true 39 (.slice a len cap) d p) : ∃ l : List Name, len = l.length ∧ NRow W W.heap.size a l := by
  obtain ⟨m, hm⟩ := h
  obtain ⟨a', l, c, e, hi⟩ := open_names hm
  simp [Value.cells] at e
  obtain ⟨rfl, rfl, rfl⟩ := e
  exact ⟨l, rfl, hi⟩
theorem classes_arg {a : Option Addr} {len cap : Nat} {d : DataW H} {p : List MemPlace} (h : DataW.Trod enc Tryz.prog W 0 (fun _ => true) true 24 (.slice a len cap) d p) : ∃ l : List CT, len = l.length ∧ LIn W W.heap.size a l := by
  obtain ⟨m, hm⟩ := h
  obtain ⟨a', l, c, e, hi⟩ := open_row (n := m) Tryz.underlying24 (fun k _ cs x hk => open_class k cs x hk) hm
  simp [Value.cells] at e
  obtain ⟨rfl, rfl, rfl⟩ := e
  exact ⟨l, rfl, ⟨hi.1, hi.2⟩⟩
end
set_option maxRecDepth 100000 in
set_option maxHeartbeats 4000000 in
theorem NamesAsks_any (t u : CT) (a : Option Addr) (cap : Nat) (av : List Name) (w : World) (hG : G w) (hIt : t.In w w.heap.size) (hIu : u.In w w.heap.size) (hA : NRow w w.heap.size a av) :
    Calls Tryz.prog 4 #[t.val, u.val, .slice a av.length cap] w fun e w' => e = .returned (.bool true) ∧ Below w.heap.size w w' := by
  have hal := hA.len
  unfold maxLen at hal
  obtain ⟨W1, hW1⟩ : ∃ W1, (w.alloc (.cells t.cells.toArray 26)).alloc (.cells u.cells.toArray 26) = W1 := ⟨_, rfl⟩
  have hb1 : Below w.heap.size w W1 := by rw [← hW1]; exact ((Below.refl _ w).alloc (Nat.le_refl _) _).alloc (by simp) _
  have hX : Bx2 t u w W1 := by
    have B0 : Blk W1 w.heap.size t.cells.toArray 26 := by rw [← hW1]; exact (Blk.new _ _ _).alloc _
    have B1 : Blk W1 (w.heap.size + 1) u.cells.toArray 26 := by
      rw [← hW1]
      have := Blk.new (w.alloc (.cells t.cells.toArray 26)) u.cells.toArray 26
      rw [World.size_alloc] at this; exact this
    exact ⟨hb1, B0, B1, hIt.onw hb1, hIu.onw hb1⟩
  rw [CT.val_eq t, CT.val_eq u]
  rw [CT.cells_eq, CT.cells_eq] at hW1
  go_enter Tryz.func4, Tryz.ntmps4
  obtain ⟨c0, c1, c2, c3, c4, c5⟩ := ct_cells hX.bt
  have hK := great_any t W1 hX.it
  rw [CT.val_eq t] at hK
  go_wp2_with (go_at_call 7; refine hK.mono ?_)
  clear hK hW1 c0 c1 c2 c3 c4 c5
  rintro e V1 ⟨g, rfl, Hg, hbn⟩
  have hX := hX.step hbn
  clear hbn
  cases g with
  | true =>
    have hK := shown_any V1 (hG.later hX.below)
    go_wp2_with (go_at_call 8; refine hK.mono ?_)
    first | rintro e V2 rfl hbn | rintro e V2 ⟨rfl, hbn⟩
    go_wp2
    go_ret
    exact ⟨rfl, b_step hbn hX.below⟩
  | false =>
    have ht : t.depth ≤ 1000 := Nat.le_trans (Hg.out rfl) (by omega)
    clear Hg
    obtain ⟨d0, d1, d2, d3, d4, d5⟩ := ct_cells hX.bu
    have hK := great_any u V1 hX.iu
    rw [CT.val_eq u] at hK
    go_wp2_with (go_at_call 7; refine hK.mono ?_)
    clear hK d0 d1 d2 d3 d4 d5
    rintro e V2 ⟨g, rfl, Hg, hbn⟩
    have hX := hX.step hbn
    clear hbn
    cases g with
    | true =>
      have hK := shown_any V2 (hG.later hX.below)
      go_wp2_with (go_at_call 8; refine hK.mono ?_)
      first | rintro e V3 rfl hbn | rintro e V3 ⟨rfl, hbn⟩
      go_wp2
      go_ret
      exact ⟨rfl, b_step hbn hX.below⟩
    | false =>
      have hu : u.depth ≤ 1000 := Nat.le_trans (Hg.out rfl) (by omega)
      clear Hg
      by_cases hl : 100 < av.length
      · have q1 : decide (100 < (av.length : Int)) = true := decide_eq_true (by omega)
        have q2 : decide (100 < av.length) = true := decide_eq_true hl
        have hK := shown_any V2 (hG.later hX.below)
        go_wp2_with (go_at_call 8; refine hK.mono ?_)
        first | rintro e V3 rfl hbn | rintro e V3 ⟨rfl, hbn⟩
        go_wp2
        go_ret
        exact ⟨rfl, b_step hbn hX.below⟩
      · have q1 : decide (100 < (av.length : Int)) = false := decide_eq_false (by omega)
        have q2 : decide (100 < av.length) = false := decide_eq_false hl
        -- Empty
        have hK := Empty_any t V2 (hG.later hX.below) ht hX.it
        have hK2 : ∀ V, Bx2 t u w V → Calls Tryz.prog 25 #[t.val] V fun e w' => e = .returned (.tuple #[.bool (decide (chkL [t] = 0) && nevB t.holds (candsOf [t] [])), .int .i64 (chkL [t])]) ∧ Below V.heap.size V w' := fun V hV => by
          have h := rEmpty_any t V hV.it
          rw [empty_eq, ← chkL_one t] at h
          exact h
        obtain ⟨x1, hx1⟩ : ∃ x, (decide (chkL [t] = 0) && nevB t.holds (candsOf [t] [])) = x := ⟨_, rfl⟩
        obtain ⟨e1, he1⟩ : ∃ x, chkL [t] = x := ⟨_, rfl⟩
        rw [hx1, he1, CT.val_eq] at hK
        simp only [hx1] at hK2
        simp only [he1, CT.val_eq] at hK2
        clear hx1 he1
        obtain ⟨c0, c1, c2, c3, c4, c5⟩ := ct_cells hX.bt
        go_wp2_with (go_at_call 24; refine hK.mono ?_)
        clear hK c0 c1 c2 c3 c4 c5
        first | rintro e V3 rfl hbn | rintro e V3 ⟨rfl, hbn⟩
        have hX := hX.step hbn
        clear hbn
        have hK := hK2 V3 hX
        obtain ⟨c0, c1, c2, c3, c4, c5⟩ := ct_cells hX.bt
        go_wp2_with (go_at_call 25; refine hK.mono ?_)
        clear hK hK2 c0 c1 c2 c3 c4 c5
        first | rintro e V4 rfl hbn | rintro e V4 ⟨rfl, hbn⟩
        have hX := hX.step hbn
        clear hbn
        -- Includes
        have hK := Includes_any t u V4 (hG.later hX.below) ht hu hX.it hX.iu
        have hK2 := fun V (hV : Bx2 t u w V) => rIncludes_any t u V hV.it hV.iu
        simp only [incl_eq] at hK2
        obtain ⟨x2, hx2⟩ : ∃ x, (decide (chkL [t, u] = 0) && nevB (fun n => u.holds n && !t.holds n) (candsOf [t, u] [])) = x := ⟨_, rfl⟩
        obtain ⟨e2, he2⟩ : ∃ x, chkL [t, u] = x := ⟨_, rfl⟩
        rw [hx2, he2, CT.val_eq, CT.val_eq] at hK
        simp only [hx2] at hK2
        simp only [he2, CT.val_eq] at hK2
        have He2 := Lib.hid he2
        clear hx2 he2
        obtain ⟨c0, c1, c2, c3, c4, c5⟩ := ct_cells hX.bt
        obtain ⟨d0, d1, d2, d3, d4, d5⟩ := ct_cells hX.bu
        go_wp2_with (go_at_call 26; refine hK.mono ?_)
        clear hK c0 c1 c2 c3 c4 c5 d0 d1 d2 d3 d4 d5
        first | rintro e V5 rfl hbn | rintro e V5 ⟨rfl, hbn⟩
        have hX := hX.step hbn
        clear hbn
        have hK := hK2 V5 hX
        obtain ⟨c0, c1, c2, c3, c4, c5⟩ := ct_cells hX.bt
        obtain ⟨d0, d1, d2, d3, d4, d5⟩ := ct_cells hX.bu
        go_wp2_with (go_at_call 27; refine hK.mono ?_)
        clear hK hK2 c0 c1 c2 c3 c4 c5 d0 d1 d2 d3 d4 d5
        first | rintro e V6 rfl hbn | rintro e V6 ⟨rfl, hbn⟩
        have hX := hX.step hbn
        clear hbn
        -- Overlap
        have hK := Overlap_any t u V6 (hG.later hX.below) ht hu hX.it hX.iu
        have hK2 := fun V (hV : Bx2 t u w V) => rOverlap_any t u V hV.it hV.iu
        simp only [over_eq] at hK2
        obtain ⟨x3, hx3⟩ : ∃ x, (decide (chkL [t, u] = 0) && !(decide (chkL [t, u] = 0) && nevB (fun n => t.holds n && u.holds n) (candsOf [t, u] []))) = x := ⟨_, rfl⟩
        rw [hx3, He2.out, CT.val_eq, CT.val_eq] at hK
        simp only [hx3] at hK2
        simp only [He2.out, CT.val_eq] at hK2
        clear hx3
        obtain ⟨c0, c1, c2, c3, c4, c5⟩ := ct_cells hX.bt
        obtain ⟨d0, d1, d2, d3, d4, d5⟩ := ct_cells hX.bu
        go_wp2_with (go_at_call 28; refine hK.mono ?_)
        clear hK c0 c1 c2 c3 c4 c5 d0 d1 d2 d3 d4 d5
        first | rintro e V7 rfl hbn | rintro e V7 ⟨rfl, hbn⟩
        have hX := hX.step hbn
        clear hbn
        have hK := hK2 V7 hX
        obtain ⟨c0, c1, c2, c3, c4, c5⟩ := ct_cells hX.bt
        obtain ⟨d0, d1, d2, d3, d4, d5⟩ := ct_cells hX.bu
        go_wp2_with (go_at_call 29; refine hK.mono ?_)
        clear hK hK2 c0 c1 c2 c3 c4 c5 d0 d1 d2 d3 d4 d5
        first | rintro e V8 rfl hbn | rintro e V8 ⟨rfl, hbn⟩
        have hX := hX.step hbn
        clear hbn
        -- Witness
        have hAV : ∀ V, Bx2 t u w V → NRow V w.heap.size a av := fun V hV => hA.below hV.below (Nat.le_refl _)
        have hK := Witness_any t a cap av V8 (hG.later hX.below) ht hX.it (by have h := hAV V8 hX; exact ⟨h.len, h.fit, fun hl => by obtain ⟨b, o, q, hb, hc⟩ := h.cells hl; exact ⟨b, o, q, Nat.lt_of_lt_of_le hb hX.below.size, hc⟩⟩) (by omega)
        have hRw : ∀ V, Bx2 t u w V → RwN (fun b => b < w.heap.size) V a av := fun V hV => ⟨by omega, fun hl => by
          obtain ⟨b, o, q, hb, hc⟩ := (hAV V hV).cells hl
          exact ⟨b, o, q, hb, fun j hj i v hv => by
            match i, hv with
            | 0, hv => simp [encN] at hv; subst hv; exact (hc j hj).1
            | 1, hv => simp [encN] at hv; subst hv; exact (hc j hj).2
            | n + 2, hv => simp [encN] at hv⟩⟩
        have hK2 := fun V (hV : Bx2 t u w V) => rWitness_any t (fun b => b < w.heap.size) a cap av V hV.it (hRw V hV) (fun b hb => Nat.lt_of_lt_of_le hb hV.below.size) (by omega)
        obtain ⟨wn, hwn⟩ : ∃ x, witN t av = x := ⟨_, rfl⟩
        obtain ⟨wr, hwr⟩ : ∃ x, witR t av = x := ⟨_, rfl⟩
        rw [hwn, hwr, CT.val_eq] at hK
        simp only [hwn, hwr, CT.val_eq] at hK2
        unfold Name.val at hK hK2
        clear hwn hwr hAV hRw
        obtain ⟨c0, c1, c2, c3, c4, c5⟩ := ct_cells hX.bt
        go_wp2_with (go_at_call 30; refine hK.mono ?_)
        clear hK c0 c1 c2 c3 c4 c5
        first | rintro e V9 rfl hbn | rintro e V9 ⟨rfl, hbn⟩
        have hX := hX.step hbn
        clear hbn
        obtain ⟨V10, hV10⟩ : ∃ V, V9.alloc (.cells #[.string wn.sp, .string wn.lc] 23) = V := ⟨_, rfl⟩
        have hb10 : Below V9.heap.size V9 V10 := by rw [← hV10]; exact (Below.refl _ _).alloc (Nat.le_refl _) _
        have BN : Blk V10 V9.heap.size #[.string wn.sp, .string wn.lc] 23 := by rw [← hV10]; exact Blk.new _ _ _
        have hX := hX.step hb10
        have hK := hK2 V10 hX
        obtain ⟨c0, c1, c2, c3, c4, c5⟩ := ct_cells hX.bt
        go_wp2_with (go_at_call 31; refine hK.mono ?_)
        clear hK hK2 c0 c1 c2 c3 c4 c5 hV10
        first | rintro e V11 rfl hbn | rintro e V11 ⟨rfl, hbn⟩
        have hX := hX.step hbn
        have BN := BN.below hbn
        clear hbn hb10
        obtain ⟨V12, hV12⟩ : ∃ V, V11.alloc (.cells #[.string wn.sp, .string wn.lc] 23) = V := ⟨_, rfl⟩
        have hb12 : Below V11.heap.size V11 V12 := by rw [← hV12]; exact (Below.refl _ _).alloc (Nat.le_refl _) _
        have BM : Blk V12 V11.heap.size #[.string wn.sp, .string wn.lc] 23 := by rw [← hV12]; exact Blk.new _ _ _
        have BN := BN.below hb12
        have hX := hX.step hb12
        have hK := shown_any V12 (hG.later hX.below)
        have n0 := BN.cell 0
        have n1 := BN.cell 1
        have m0 := BM.cell 0
        have m1 := BM.cell 1
        simp only [List.getElem?_toArray, List.getElem?_cons_zero, List.getElem?_cons_succ] at n0 n1 m0 m1
        have eS := eqN_same wn
        have gS := fun op x y => guardN op x y wn wn
        go_wp2_with (go_at_call 8; refine hK.mono ?_)
        first | rintro e V13 rfl hbn | rintro e V13 ⟨rfl, hbn⟩
        go_wp2
        go_ret
        exact ⟨rfl, b_step hbn hX.below⟩
end Np
end Go.Proofs.YtohlhihhadbphaaGreatDoor
