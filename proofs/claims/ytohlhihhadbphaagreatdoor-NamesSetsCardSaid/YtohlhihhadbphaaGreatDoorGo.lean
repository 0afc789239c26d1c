/- Names: Au Aw. -/
import Derived.Test.YtohlhihhadbphaaGreatDoorGn
import Derived.Test.YtohlhihhadbphaaGreatDoorGm
set_option linter.unusedSimpArgs false
set_option linter.unusedVariables false
/- pieces. -/
namespace Go.Proofs.YtohlhihhadbphaaGreatDoor
open Go.RowKit Go.Shelf Go.Lib
namespace Np
theorem val_n (n : Name) : n.val = .agg #[.string n.sp, .string n.lc] := rfl
/-- What lies boxed, and the classes. -/
structure Bx3 (t u : CT) (n : Name) (w V : World) : Prop where
  below : Below w.heap.size w V
  bt : Blk V w.heap.size t.cells.toArray 26
  bu : Blk V (w.heap.size + 1) u.cells.toArray 26
  bn : Blk V (w.heap.size + 2) #[.string n.sp, .string n.lc] 23
  it : t.In V V.heap.size
  iu : u.In V V.heap.size
theorem Bx3.step {t u : CT} {n : Name} {w V V' : World} (h : Bx3 t u n w V) (hb : Below V.heap.size V V') : Bx3 t u n w V' :=
  ⟨below_step hb h.below, h.bt.below hb, h.bu.below hb, h.bn.below hb, h.it.onw hb, h.iu.onw hb⟩
/-- A class that was made, in a box of its own. -/
structure BoxC (x : CT) (p : Nat) (V : World) : Prop where
  b : Blk V p x.cells.toArray 26
  i : x.In V V.heap.size
theorem BoxC.step {x : CT} {p : Nat} {V V' : World} (h : BoxC x p V) (hb : Below V.heap.size V V') : BoxC x p V' := ⟨h.b.below hb, h.i.onw hb⟩
theorem BoxC.made {x : CT} {V : World} (h : x.In V V.heap.size) : BoxC x V.heap.size (V.alloc (.cells x.cells.toArray 26)) ∧ Below V.heap.size V (V.alloc (.cells x.cells.toArray 26)) :=
  have hb : Below V.heap.size V (V.alloc (.cells x.cells.toArray 26)) := (Below.refl _ _).alloc (Nat.le_refl _) _
  ⟨⟨Blk.new _ _ _, h.onw hb⟩, hb⟩
set_option maxRecDepth 100000 in
set_option maxHeartbeats 16000000 in
theorem pieces_any (t u : CT) (n : Name) (one : Bool) (w : World) (hG : G w) (ht : t.depth ≤ 1000) (hu : u.depth ≤ 1000) (hIt : t.In w w.heap.size) (hIu : u.In w w.heap.size) (hct : t.check = 0) (hcu : u.check = 0)
    (hone : one = nevB (fun n => u.holds n && !t.holds n) (candsOf [t, u] [])) :
    Calls Tryz.prog 37 #[t.val, u.val, n.val, .bool one] w fun e w' => e = .returned (.bool true) ∧ Below w.heap.size w w' := by
  obtain ⟨W1, hW1⟩ : ∃ W1, ((w.alloc (.cells t.cells.toArray 26)).alloc (.cells u.cells.toArray 26)).alloc (.cells #[.string n.sp, .string n.lc] 23) = W1 := ⟨_, rfl⟩
  have hb1 : Below w.heap.size w W1 := by rw [← hW1]; exact (((Below.refl _ w).alloc (Nat.le_refl _) _).alloc (by simp) _).alloc (by simp; omega) _
  have hX : Bx3 t u n w W1 := by
    obtain ⟨d0, d1, d2⟩ : Blk W1 w.heap.size t.cells.toArray 26 ∧ Blk W1 (w.heap.size + 1) u.cells.toArray 26 ∧ Blk W1 (w.heap.size + 2) #[.string n.sp, .string n.lc] 23 := by rw [← hW1]; exact blk_third _ _ _ _ _ _ _
    exact ⟨hb1, d0, d1, d2, hIt.onw hb1, hIu.onw hb1⟩
  have Hct := Lib.hid hct
  have Hcu := Lib.hid hcu
  have Hone := Lib.hid hone
  obtain ⟨nv, hnv⟩ : ∃ nv, nevB (fun n => t.holds n && u.holds n) (candsOf [t, u] []) = nv := ⟨_, rfl⟩
  have Hnv := Lib.hid hnv
  have hM := fun V (hV : Bx3 t u n w V) => Meet_any t u V (hG.later hV.below) ht hu hV.it hV.iu
  have hO : ∀ V, Bx3 t u n w V → Calls Tryz.prog 28 #[t.val, u.val] V fun e w' => e = .returned (.tuple #[.bool (!nv), .int .i64 0]) ∧ Below V.heap.size V w' := fun V hV => by
    have := Overlap_any t u V (hG.later hV.below) ht hu hV.it hV.iu
    rw [chk_two hct hcu, hnv] at this
    simpa using this
  have hMi := fun V (hV : Bx3 t u n w V) => Minus_any u t V (hG.later hV.below) hu ht hV.iu hV.it
  have hJ := fun V (hV : Bx3 t u n w V) => Join_any t u V (hG.later hV.below) ht hu hV.it hV.iu
  have hE : ∀ (lst : List CT) (S : Name → Bool) (x : CT) (b : Bool) V, Below w.heap.size w V → chkL lst = 0 → Dec (nmsOf (CT.partsL lst 1)) (spsOf (CT.partsL lst 1)) S → NormR lst S x.er 0 → x.In V V.heap.size → x.depth ≤ 1000 → nevB S (candsOf lst []) = b → Calls Tryz.prog 24 #[x.val] V fun e w' => e = .returned (.tuple #[.bool b, .int .i64 0]) ∧ Below V.heap.size V w' := fun lst S x b V hV hc hD hN hx hd hb => by
    rcases normR_ok hN hc hD with ⟨_, h1, h2⟩ | h
    · have hk := check_of_norm h1 h2
      have := Empty_any x V (hG.later hV) hd hx
      rw [chk_one hk, nev_eq (dec_one x) hD (holds_of_norm h1), hb] at this
      simpa using this
    · cases h
  have hH := fun (x : CT) V (hx : x.In V V.heap.size) (hd : x.depth ≤ 1000) => Has_any x n V hd hx
  have hIs : ∀ (lst : List CT) (S : Name → Bool) (x : CT) (r : Int) (want : Bool) V, chkL lst = 0 → Dec (nmsOf (CT.partsL lst 1)) (spsOf (CT.partsL lst 1)) S → NormR lst S x.er r → validN n = true → want = S n → x.In V V.heap.size → x.depth ≤ 1000 → Calls Tryz.prog 74 #[x.val, .int .i64 r, n.val, .bool want] V fun e w' => e = .returned (.bool true) ∧ Below V.heap.size V w' := fun lst S x r want V hc hD hN hv hw hx hd => by
    have := is_any x r n want V hd hx
    rw [is_true hN hc hD hv hw] at this
    exact this
  have dM := dec_two t u and
  have dR := dec_two u t (fun x y => x && !y)
  have dJ := dec_two t u or
  have hRone : nevB (fun n => u.holds n && !t.holds n) (candsOf [u, t] []) = one := by
    rw [hone]
    exact nev_eq dR (dec_two t u (fun x y => y && !x)) (fun _ => rfl)
  have HRone := Lib.hid hRone
  have DM := Lib.hid dM
  have DR := Lib.hid dR
  have DJ := Lib.hid dJ
  rw [val_n] at hH hIs ⊢
  rw [CT.val_eq t, CT.val_eq u] at hM hO hMi hJ ⊢
  clear hct hcu hone hnv hRone dM dR dJ hIt hIu
  rw [CT.cells_eq, CT.cells_eq] at hW1
  obtain ⟨c0, c1, c2, c3, c4, c5⟩ := ct_cells hX.bt
  obtain ⟨d0, d1, d2, d3, d4, d5⟩ := ct_cells hX.bu
  go_enter Tryz.func37, Tryz.ntmps37
  have hK := hM W1 hX
  go_wp2_with (go_at_call 20; refine hK.mono ?_)
  clear hK hW1
  rintro e V1 ⟨xm, rm, rfl, Hxm, hbv1⟩
  have hX := hX.step hbv1
  obtain ⟨V2, hV2⟩ : ∃ V, V1.alloc (.cells xm.cells.toArray 26) = V := ⟨_, rfl⟩
  have hm := BoxC.made (x := xm) (V := V1) (inOn Hxm.out.1 (Nat.le_refl _))
  rw [hV2] at hm
  obtain ⟨kbxm, hbm⟩ := hm
  have hX := hX.step hbm
  rw [CT.cells_eq] at hV2
  have HV2 := Lib.hid hV2
  rw [CT.val_eq xm]
  obtain ⟨pm, hpm⟩ : ∃ p, V1.heap.size = p := ⟨_, rfl⟩
  rw [hpm] at kbxm
  clear c0 c1 c2 c3 c4 c5 d0 d1 d2 d3 d4 d5
  obtain ⟨c0, c1, c2, c3, c4, c5⟩ := ct_cells hX.bt
  obtain ⟨d0, d1, d2, d3, d4, d5⟩ := ct_cells hX.bu
  have hK := hO V2 hX
  go_wp2_with (go_at_call 28; refine hK.mono ?_)
  clear hK hV2 hpm
  rintro e V3 ⟨rfl, hbv3⟩
  have hX := hX.step hbv3
  have kbxm := kbxm.step hbv3
  rcases normR_ok Hxm.out.2.1 (chk_two Hct.out Hcu.out) DM.out with ⟨h0, _, _⟩ | h3
  · subst h0
    obtain ⟨a0, a1, a2, a3, a4, a5⟩ := ct_cells kbxm.b
    have hK := hE _ _ xm nv V3 hX.below (chk_two Hct.out Hcu.out) DM.out Hxm.out.2.1 kbxm.i Hxm.out.2.2 Hnv.out
    rw [CT.val_eq] at hK
    go_wp2_with (go_at_call 24; refine hK.mono ?_)
    clear hK a0 a1 a2 a3 a4 a5
    rintro e V4 ⟨rfl, hbv4⟩
    have hX := hX.step hbv4
    have kbxm := kbxm.step hbv4
    clear c0 c1 c2 c3 c4 c5 d0 d1 d2 d3 d4 d5
    obtain ⟨c0, c1, c2, c3, c4, c5⟩ := ct_cells hX.bt
    obtain ⟨d0, d1, d2, d3, d4, d5⟩ := ct_cells hX.bu
    have hK := hMi V4 hX
    go_wp2_with (go_at_call 22; refine hK.mono ?_)
    clear hK
    rintro e U1 ⟨xr, rr, rfl, Hxr, hbu1⟩
    have hX := hX.step hbu1
    have kbxm := kbxm.step hbu1
    obtain ⟨U2, hU2⟩ : ∃ V, U1.alloc (.cells xr.cells.toArray 26) = V := ⟨_, rfl⟩
    have hm := BoxC.made (x := xr) (V := U1) (inOn Hxr.out.1 (Nat.le_refl _))
    rw [hU2] at hm
    obtain ⟨kbxr, hbm⟩ := hm
    have hX := hX.step hbm
    rw [CT.cells_eq] at hU2
    have HU2 := Lib.hid hU2
    rw [CT.val_eq xr]
    have kbxm := kbxm.step hbm
    obtain ⟨pr, hpr⟩ : ∃ p, U1.heap.size = p := ⟨_, rfl⟩
    rw [hpr] at kbxr
    clear hU2
    rcases normR_ok Hxr.out.2.1 (chk_two Hcu.out Hct.out) DR.out with ⟨h0, _, _⟩ | h3
    · subst h0
      obtain ⟨a0, a1, a2, a3, a4, a5⟩ := ct_cells kbxr.b
      have hK := hE _ _ xr one U2 hX.below (chk_two Hcu.out Hct.out) DR.out Hxr.out.2.1 kbxr.i Hxr.out.2.2 HRone.out
      rw [CT.val_eq] at hK
      have hU2 := HU2.out
      go_wp2_with (go_at_call 24; refine hK.mono ?_)
      clear hK a0 a1 a2 a3 a4 a5 hpr hU2
      rintro e U3 ⟨rfl, hbu3⟩
      have hX := hX.step hbu3
      have kbxm := kbxm.step hbu3
      have kbxr := kbxr.step hbu3
      clear c0 c1 c2 c3 c4 c5 d0 d1 d2 d3 d4 d5
      obtain ⟨c0, c1, c2, c3, c4, c5⟩ := ct_cells hX.bt
      obtain ⟨d0, d1, d2, d3, d4, d5⟩ := ct_cells hX.bu
      have hK := hJ U3 hX
      go_wp2_with (go_at_call 18; refine hK.mono ?_)
      clear hK
      rintro e V6 ⟨xj, rj, rfl, Hxj, hb6⟩
      have hX := hX.step hb6
      have kbxm := kbxm.step hb6
      have kbxr := kbxr.step hb6
      obtain ⟨V7, hV7⟩ : ∃ V, V6.alloc (.cells xj.cells.toArray 26) = V := ⟨_, rfl⟩
      have hm := BoxC.made (x := xj) (V := V6) (inOn Hxj.out.1 (Nat.le_refl _))
      rw [hV7] at hm
      obtain ⟨kbxj, hbm⟩ := hm
      have hX := hX.step hbm
      rw [CT.cells_eq] at hV7
      have HV7 := Lib.hid hV7
      rw [CT.val_eq xj]
      have kbxm := kbxm.step hbm
      have kbxr := kbxr.step hbm
      obtain ⟨pj, hpj⟩ : ∃ p, V6.heap.size = p := ⟨_, rfl⟩
      rw [hpj] at kbxj
      clear hV7
      cases hv : validN n with
      | false =>
        have g1 : (hasR t n).1 = false ∧ (hasR t n).2 = 2 := by unfold hasR; rw [if_neg (by simpa using Hct.out), if_pos hv]; exact ⟨rfl, rfl⟩
        have g2 : (hasR u n).1 = false ∧ (hasR u n).2 = 2 := by unfold hasR; rw [if_neg (by simpa using Hcu.out), if_pos hv]; exact ⟨rfl, rfl⟩
        clear c0 c1 c2 c3 c4 c5 d0 d1 d2 d3 d4 d5
        obtain ⟨c0, c1, c2, c3, c4, c5⟩ := ct_cells hX.bt
        obtain ⟨d0, d1, d2, d3, d4, d5⟩ := ct_cells hX.bu
        have n0 := hX.bn.cell 0
        have n1 := hX.bn.cell 1
        simp only [List.getElem?_toArray, List.getElem?_cons_zero, List.getElem?_cons_succ] at n0 n1
        have hV7 := HV7.out
        have hK := hH t V7 hX.it ht
        rw [g1.1, g1.2, CT.val_eq] at hK
        go_wp2_with (go_at_call 9; refine hK.mono ?_)
        clear hK
        clear hpj hV7
        rintro e V8 ⟨rfl, hb8⟩
        have hX := hX.step hb8
        clear n0 n1
        clear c0 c1 c2 c3 c4 c5 d0 d1 d2 d3 d4 d5
        obtain ⟨c0, c1, c2, c3, c4, c5⟩ := ct_cells hX.bt
        obtain ⟨d0, d1, d2, d3, d4, d5⟩ := ct_cells hX.bu
        have n0 := hX.bn.cell 0
        have n1 := hX.bn.cell 1
        simp only [List.getElem?_toArray, List.getElem?_cons_zero, List.getElem?_cons_succ] at n0 n1
        have hK := hH u V8 hX.iu hu
        rw [g2.1, g2.2, CT.val_eq] at hK
        go_wp2_with (go_at_call 9; refine hK.mono ?_)
        clear hK
        rintro e V9 ⟨rfl, hb9⟩
        have hX := hX.step hb9
        go_wp2
        go_ret
        exact ⟨rfl, hX.below⟩
      | true =>
        have g1 : (hasR t n).1 = t.holds n ∧ (hasR t n).2 = 0 := by unfold hasR; rw [if_neg (by simpa using Hct.out), if_neg (by simp [hv])]; exact ⟨rfl, rfl⟩
        have g2 : (hasR u n).1 = u.holds n ∧ (hasR u n).2 = 0 := by unfold hasR; rw [if_neg (by simpa using Hcu.out), if_neg (by simp [hv])]; exact ⟨rfl, rfl⟩
        obtain ⟨vx, hvx⟩ : ∃ v, t.holds n = v := ⟨_, rfl⟩
        obtain ⟨vy, hvy⟩ : ∃ v, u.holds n = v := ⟨_, rfl⟩
        rw [hvx] at g1
        rw [hvy] at g2
        have Hvx := Lib.hid hvx
        have Hvy := Lib.hid hvy
        clear hvx hvy
        clear c0 c1 c2 c3 c4 c5 d0 d1 d2 d3 d4 d5
        obtain ⟨c0, c1, c2, c3, c4, c5⟩ := ct_cells hX.bt
        obtain ⟨d0, d1, d2, d3, d4, d5⟩ := ct_cells hX.bu
        have n0 := hX.bn.cell 0
        have n1 := hX.bn.cell 1
        simp only [List.getElem?_toArray, List.getElem?_cons_zero, List.getElem?_cons_succ] at n0 n1
        have hV7 := HV7.out
        have hK := hH t V7 hX.it ht
        rw [g1.1, g1.2, CT.val_eq] at hK
        go_wp2_with (go_at_call 9; refine hK.mono ?_)
        clear hK
        clear hpj hV7
        rintro e V8 ⟨rfl, hb8⟩
        have hX := hX.step hb8
        have kbxm := kbxm.step hb8
        have kbxr := kbxr.step hb8
        have kbxj := kbxj.step hb8
        clear n0 n1
        clear c0 c1 c2 c3 c4 c5 d0 d1 d2 d3 d4 d5
        obtain ⟨c0, c1, c2, c3, c4, c5⟩ := ct_cells hX.bt
        obtain ⟨d0, d1, d2, d3, d4, d5⟩ := ct_cells hX.bu
        have n0 := hX.bn.cell 0
        have n1 := hX.bn.cell 1
        simp only [List.getElem?_toArray, List.getElem?_cons_zero, List.getElem?_cons_succ] at n0 n1
        have hK := hH u V8 hX.iu hu
        rw [g2.1, g2.2, CT.val_eq] at hK
        go_wp2_with (go_at_call 9; refine hK.mono ?_)
        clear hK
        rintro e V9 ⟨rfl, hb9⟩
        have hX := hX.step hb9
        have kbxm := kbxm.step hb9
        have kbxr := kbxr.step hb9
        have kbxj := kbxj.step hb9
        clear n0 n1
        clear c0 c1 c2 c3 c4 c5 d0 d1 d2 d3 d4 d5
        have n0 := hX.bn.cell 0
        have n1 := hX.bn.cell 1
        simp only [List.getElem?_toArray, List.getElem?_cons_zero, List.getElem?_cons_succ] at n0 n1
        obtain ⟨a0, a1, a2, a3, a4, a5⟩ := ct_cells kbxm.b
        obtain ⟨b0, b1, b2, b3, b4, b5⟩ := ct_cells kbxr.b
        obtain ⟨j0, j1, j2, j3, j4, j5⟩ := ct_cells kbxj.b
        cases vx with
        | false =>
          cases vy with
          | false =>
            have w1 : Hid (false = (t.holds n && u.holds n)) := by rw [Hvx.out, Hvy.out]; exact Lib.hid rfl
            have w2 : Hid (false = (u.holds n && !t.holds n)) := by rw [Hvx.out, Hvy.out]; exact Lib.hid rfl
            have w3 : Hid (false = (t.holds n || u.holds n)) := by rw [Hvx.out, Hvy.out]; exact Lib.hid rfl
            have hK := hIs _ _ xm 0 _ V9 (chk_two Hct.out Hcu.out) DM.out Hxm.out.2.1 hv w1.out kbxm.i Hxm.out.2.2
            rw [CT.val_eq] at hK
            go_wp2_with (go_at_call 74; refine hK.mono ?_)
            clear hK
            rintro e V10 ⟨rfl, hb10⟩
            have hX := hX.step hb10
            have kbxr := kbxr.step hb10
            have kbxj := kbxj.step hb10
            clear n0 n1 a0 a1 a2 a3 a4 a5 b0 b1 b2 b3 b4 b5 j0 j1 j2 j3 j4 j5
            obtain ⟨b0, b1, b2, b3, b4, b5⟩ := ct_cells kbxr.b
            obtain ⟨j0, j1, j2, j3, j4, j5⟩ := ct_cells kbxj.b
            have n0 := hX.bn.cell 0
            have n1 := hX.bn.cell 1
            simp only [List.getElem?_toArray, List.getElem?_cons_zero, List.getElem?_cons_succ] at n0 n1
            have hK := hIs _ _ xr 0 _ V10 (chk_two Hcu.out Hct.out) DR.out Hxr.out.2.1 hv w2.out kbxr.i Hxr.out.2.2
            rw [CT.val_eq] at hK
            go_wp2_with (go_at_call 74; refine hK.mono ?_)
            clear hK
            rintro e V11 ⟨rfl, hb11⟩
            have hX := hX.step hb11
            have kbxj := kbxj.step hb11
            clear n0 n1 b0 b1 b2 b3 b4 b5 j0 j1 j2 j3 j4 j5
            obtain ⟨j0, j1, j2, j3, j4, j5⟩ := ct_cells kbxj.b
            have n0 := hX.bn.cell 0
            have n1 := hX.bn.cell 1
            simp only [List.getElem?_toArray, List.getElem?_cons_zero, List.getElem?_cons_succ] at n0 n1
            have hK := hIs _ _ xj rj _ V11 (chk_two Hct.out Hcu.out) DJ.out Hxj.out.2.1 hv w3.out kbxj.i Hxj.out.2.2
            rw [CT.val_eq] at hK
            go_wp2_with (go_at_call 74; refine hK.mono ?_)
            clear hK
            rintro e V12 ⟨rfl, hb12⟩
            have hX := hX.step hb12
            go_wp2
            go_ret
            exact ⟨rfl, hX.below⟩
          | true =>
            have w1 : Hid (false = (t.holds n && u.holds n)) := by rw [Hvx.out, Hvy.out]; exact Lib.hid rfl
            have w2 : Hid (true = (u.holds n && !t.holds n)) := by rw [Hvx.out, Hvy.out]; exact Lib.hid rfl
            have w3 : Hid (true = (t.holds n || u.holds n)) := by rw [Hvx.out, Hvy.out]; exact Lib.hid rfl
            have hK := hIs _ _ xm 0 _ V9 (chk_two Hct.out Hcu.out) DM.out Hxm.out.2.1 hv w1.out kbxm.i Hxm.out.2.2
            rw [CT.val_eq] at hK
            go_wp2_with (go_at_call 74; refine hK.mono ?_)
            clear hK
            rintro e V10 ⟨rfl, hb10⟩
            have hX := hX.step hb10
            have kbxr := kbxr.step hb10
            have kbxj := kbxj.step hb10
            clear n0 n1 a0 a1 a2 a3 a4 a5 b0 b1 b2 b3 b4 b5 j0 j1 j2 j3 j4 j5
            obtain ⟨b0, b1, b2, b3, b4, b5⟩ := ct_cells kbxr.b
            obtain ⟨j0, j1, j2, j3, j4, j5⟩ := ct_cells kbxj.b
            have n0 := hX.bn.cell 0
            have n1 := hX.bn.cell 1
            simp only [List.getElem?_toArray, List.getElem?_cons_zero, List.getElem?_cons_succ] at n0 n1
            have hK := hIs _ _ xr 0 _ V10 (chk_two Hcu.out Hct.out) DR.out Hxr.out.2.1 hv w2.out kbxr.i Hxr.out.2.2
            rw [CT.val_eq] at hK
            go_wp2_with (go_at_call 74; refine hK.mono ?_)
            clear hK
            rintro e V11 ⟨rfl, hb11⟩
            have hX := hX.step hb11
            have kbxj := kbxj.step hb11
            clear n0 n1 b0 b1 b2 b3 b4 b5 j0 j1 j2 j3 j4 j5
            obtain ⟨j0, j1, j2, j3, j4, j5⟩ := ct_cells kbxj.b
            have n0 := hX.bn.cell 0
            have n1 := hX.bn.cell 1
            simp only [List.getElem?_toArray, List.getElem?_cons_zero, List.getElem?_cons_succ] at n0 n1
            have hK := hIs _ _ xj rj _ V11 (chk_two Hct.out Hcu.out) DJ.out Hxj.out.2.1 hv w3.out kbxj.i Hxj.out.2.2
            rw [CT.val_eq] at hK
            go_wp2_with (go_at_call 74; refine hK.mono ?_)
            clear hK
            rintro e V12 ⟨rfl, hb12⟩
            have hX := hX.step hb12
            go_wp2
            go_ret
            exact ⟨rfl, hX.below⟩
        | true =>
          cases vy with
          | false =>
            have w1 : Hid (false = (t.holds n && u.holds n)) := by rw [Hvx.out, Hvy.out]; exact Lib.hid rfl
            have w2 : Hid (false = (u.holds n && !t.holds n)) := by rw [Hvx.out, Hvy.out]; exact Lib.hid rfl
            have w3 : Hid (true = (t.holds n || u.holds n)) := by rw [Hvx.out, Hvy.out]; exact Lib.hid rfl
            have hK := hIs _ _ xm 0 _ V9 (chk_two Hct.out Hcu.out) DM.out Hxm.out.2.1 hv w1.out kbxm.i Hxm.out.2.2
            rw [CT.val_eq] at hK
            go_wp2_with (go_at_call 74; refine hK.mono ?_)
            clear hK
            rintro e V10 ⟨rfl, hb10⟩
            have hX := hX.step hb10
            have kbxr := kbxr.step hb10
            have kbxj := kbxj.step hb10
            clear n0 n1 a0 a1 a2 a3 a4 a5 b0 b1 b2 b3 b4 b5 j0 j1 j2 j3 j4 j5
            obtain ⟨b0, b1, b2, b3, b4, b5⟩ := ct_cells kbxr.b
            obtain ⟨j0, j1, j2, j3, j4, j5⟩ := ct_cells kbxj.b
            have n0 := hX.bn.cell 0
            have n1 := hX.bn.cell 1
            simp only [List.getElem?_toArray, List.getElem?_cons_zero, List.getElem?_cons_succ] at n0 n1
            have hK := hIs _ _ xr 0 _ V10 (chk_two Hcu.out Hct.out) DR.out Hxr.out.2.1 hv w2.out kbxr.i Hxr.out.2.2
            rw [CT.val_eq] at hK
            go_wp2_with (go_at_call 74; refine hK.mono ?_)
            clear hK
            rintro e V11 ⟨rfl, hb11⟩
            have hX := hX.step hb11
            have kbxj := kbxj.step hb11
            clear n0 n1 b0 b1 b2 b3 b4 b5 j0 j1 j2 j3 j4 j5
            obtain ⟨j0, j1, j2, j3, j4, j5⟩ := ct_cells kbxj.b
            have n0 := hX.bn.cell 0
            have n1 := hX.bn.cell 1
            simp only [List.getElem?_toArray, List.getElem?_cons_zero, List.getElem?_cons_succ] at n0 n1
            have hK := hIs _ _ xj rj _ V11 (chk_two Hct.out Hcu.out) DJ.out Hxj.out.2.1 hv w3.out kbxj.i Hxj.out.2.2
            rw [CT.val_eq] at hK
            go_wp2_with (go_at_call 74; refine hK.mono ?_)
            clear hK
            rintro e V12 ⟨rfl, hb12⟩
            have hX := hX.step hb12
            go_wp2
            go_ret
            exact ⟨rfl, hX.below⟩
          | true =>
            have w1 : Hid (true = (t.holds n && u.holds n)) := by rw [Hvx.out, Hvy.out]; exact Lib.hid rfl
            have w2 : Hid (false = (u.holds n && !t.holds n)) := by rw [Hvx.out, Hvy.out]; exact Lib.hid rfl
            have w3 : Hid (true = (t.holds n || u.holds n)) := by rw [Hvx.out, Hvy.out]; exact Lib.hid rfl
            have hK := hIs _ _ xm 0 _ V9 (chk_two Hct.out Hcu.out) DM.out Hxm.out.2.1 hv w1.out kbxm.i Hxm.out.2.2
            rw [CT.val_eq] at hK
            go_wp2_with (go_at_call 74; refine hK.mono ?_)
            clear hK
            rintro e V10 ⟨rfl, hb10⟩
            have hX := hX.step hb10
            have kbxr := kbxr.step hb10
            have kbxj := kbxj.step hb10
            clear n0 n1 a0 a1 a2 a3 a4 a5 b0 b1 b2 b3 b4 b5 j0 j1 j2 j3 j4 j5
            obtain ⟨b0, b1, b2, b3, b4, b5⟩ := ct_cells kbxr.b
            obtain ⟨j0, j1, j2, j3, j4, j5⟩ := ct_cells kbxj.b
            have n0 := hX.bn.cell 0
            have n1 := hX.bn.cell 1
            simp only [List.getElem?_toArray, List.getElem?_cons_zero, List.getElem?_cons_succ] at n0 n1
            have hK := hIs _ _ xr 0 _ V10 (chk_two Hcu.out Hct.out) DR.out Hxr.out.2.1 hv w2.out kbxr.i Hxr.out.2.2
            rw [CT.val_eq] at hK
            go_wp2_with (go_at_call 74; refine hK.mono ?_)
            clear hK
            rintro e V11 ⟨rfl, hb11⟩
            have hX := hX.step hb11
            have kbxj := kbxj.step hb11
            clear n0 n1 b0 b1 b2 b3 b4 b5 j0 j1 j2 j3 j4 j5
            obtain ⟨j0, j1, j2, j3, j4, j5⟩ := ct_cells kbxj.b
            have n0 := hX.bn.cell 0
            have n1 := hX.bn.cell 1
            simp only [List.getElem?_toArray, List.getElem?_cons_zero, List.getElem?_cons_succ] at n0 n1
            have hK := hIs _ _ xj rj _ V11 (chk_two Hct.out Hcu.out) DJ.out Hxj.out.2.1 hv w3.out kbxj.i Hxj.out.2.2
            rw [CT.val_eq] at hK
            go_wp2_with (go_at_call 74; refine hK.mono ?_)
            clear hK
            rintro e V12 ⟨rfl, hb12⟩
            have hX := hX.step hb12
            go_wp2
            go_ret
            exact ⟨rfl, hX.below⟩
    · subst h3
      have hU2 := HU2.out
      have hXX := hX
      clear c0 c1 c2 c3 c4 c5 d0 d1 d2 d3 d4 d5
      obtain ⟨c0, c1, c2, c3, c4, c5⟩ := ct_cells hX.bt
      obtain ⟨d0, d1, d2, d3, d4, d5⟩ := ct_cells hX.bu
      have hK := hJ U2 hX
      go_wp2_with (go_at_call 18; refine hK.mono ?_)
      clear hK
      rintro e V6 ⟨xj, rj, rfl, Hxj, hb6⟩
      have hX := hX.step hb6
      have kbxm := kbxm.step hb6
      have kbxr := kbxr.step hb6
      obtain ⟨V7, hV7⟩ : ∃ V, V6.alloc (.cells xj.cells.toArray 26) = V := ⟨_, rfl⟩
      have hm := BoxC.made (x := xj) (V := V6) (inOn Hxj.out.1 (Nat.le_refl _))
      rw [hV7] at hm
      obtain ⟨kbxj, hbm⟩ := hm
      have hX := hX.step hbm
      rw [CT.cells_eq] at hV7
      have HV7 := Lib.hid hV7
      rw [CT.val_eq xj]
      have kbxm := kbxm.step hbm
      have kbxr := kbxr.step hbm
      obtain ⟨pj, hpj⟩ : ∃ p, V6.heap.size = p := ⟨_, rfl⟩
      rw [hpj] at kbxj
      clear hV7
      cases hv : validN n with
      | false =>
        have g1 : (hasR t n).1 = false ∧ (hasR t n).2 = 2 := by unfold hasR; rw [if_neg (by simpa using Hct.out), if_pos hv]; exact ⟨rfl, rfl⟩
        have g2 : (hasR u n).1 = false ∧ (hasR u n).2 = 2 := by unfold hasR; rw [if_neg (by simpa using Hcu.out), if_pos hv]; exact ⟨rfl, rfl⟩
        clear c0 c1 c2 c3 c4 c5 d0 d1 d2 d3 d4 d5
        obtain ⟨c0, c1, c2, c3, c4, c5⟩ := ct_cells hX.bt
        obtain ⟨d0, d1, d2, d3, d4, d5⟩ := ct_cells hX.bu
        have n0 := hX.bn.cell 0
        have n1 := hX.bn.cell 1
        simp only [List.getElem?_toArray, List.getElem?_cons_zero, List.getElem?_cons_succ] at n0 n1
        have hV7 := HV7.out
        have hK := hH t V7 hX.it ht
        rw [g1.1, g1.2, CT.val_eq] at hK
        go_wp2_with (go_at_call 9; refine hK.mono ?_)
        clear hK
        clear hpj hV7
        rintro e V8 ⟨rfl, hb8⟩
        have hX := hX.step hb8
        clear n0 n1
        clear c0 c1 c2 c3 c4 c5 d0 d1 d2 d3 d4 d5
        obtain ⟨c0, c1, c2, c3, c4, c5⟩ := ct_cells hX.bt
        obtain ⟨d0, d1, d2, d3, d4, d5⟩ := ct_cells hX.bu
        have n0 := hX.bn.cell 0
        have n1 := hX.bn.cell 1
        simp only [List.getElem?_toArray, List.getElem?_cons_zero, List.getElem?_cons_succ] at n0 n1
        have hK := hH u V8 hX.iu hu
        rw [g2.1, g2.2, CT.val_eq] at hK
        go_wp2_with (go_at_call 9; refine hK.mono ?_)
        clear hK
        rintro e V9 ⟨rfl, hb9⟩
        have hX := hX.step hb9
        go_wp2
        go_ret
        exact ⟨rfl, hX.below⟩
      | true =>
        have g1 : (hasR t n).1 = t.holds n ∧ (hasR t n).2 = 0 := by unfold hasR; rw [if_neg (by simpa using Hct.out), if_neg (by simp [hv])]; exact ⟨rfl, rfl⟩
        have g2 : (hasR u n).1 = u.holds n ∧ (hasR u n).2 = 0 := by unfold hasR; rw [if_neg (by simpa using Hcu.out), if_neg (by simp [hv])]; exact ⟨rfl, rfl⟩
        obtain ⟨vx, hvx⟩ : ∃ v, t.holds n = v := ⟨_, rfl⟩
        obtain ⟨vy, hvy⟩ : ∃ v, u.holds n = v := ⟨_, rfl⟩
        rw [hvx] at g1
        rw [hvy] at g2
        have Hvx := Lib.hid hvx
        have Hvy := Lib.hid hvy
        clear hvx hvy
        clear c0 c1 c2 c3 c4 c5 d0 d1 d2 d3 d4 d5
        obtain ⟨c0, c1, c2, c3, c4, c5⟩ := ct_cells hX.bt
        obtain ⟨d0, d1, d2, d3, d4, d5⟩ := ct_cells hX.bu
        have n0 := hX.bn.cell 0
        have n1 := hX.bn.cell 1
        simp only [List.getElem?_toArray, List.getElem?_cons_zero, List.getElem?_cons_succ] at n0 n1
        have hV7 := HV7.out
        have hK := hH t V7 hX.it ht
        rw [g1.1, g1.2, CT.val_eq] at hK
        go_wp2_with (go_at_call 9; refine hK.mono ?_)
        clear hK
        clear hpj hV7
        rintro e V8 ⟨rfl, hb8⟩
        have hX := hX.step hb8
        have kbxm := kbxm.step hb8
        have kbxr := kbxr.step hb8
        have kbxj := kbxj.step hb8
        clear n0 n1
        clear c0 c1 c2 c3 c4 c5 d0 d1 d2 d3 d4 d5
        obtain ⟨c0, c1, c2, c3, c4, c5⟩ := ct_cells hX.bt
        obtain ⟨d0, d1, d2, d3, d4, d5⟩ := ct_cells hX.bu
        have n0 := hX.bn.cell 0
        have n1 := hX.bn.cell 1
        simp only [List.getElem?_toArray, List.getElem?_cons_zero, List.getElem?_cons_succ] at n0 n1
        have hK := hH u V8 hX.iu hu
        rw [g2.1, g2.2, CT.val_eq] at hK
        go_wp2_with (go_at_call 9; refine hK.mono ?_)
        clear hK
        rintro e V9 ⟨rfl, hb9⟩
        have hX := hX.step hb9
        have kbxm := kbxm.step hb9
        have kbxr := kbxr.step hb9
        have kbxj := kbxj.step hb9
        clear n0 n1
        clear c0 c1 c2 c3 c4 c5 d0 d1 d2 d3 d4 d5
        have n0 := hX.bn.cell 0
        have n1 := hX.bn.cell 1
        simp only [List.getElem?_toArray, List.getElem?_cons_zero, List.getElem?_cons_succ] at n0 n1
        obtain ⟨a0, a1, a2, a3, a4, a5⟩ := ct_cells kbxm.b
        obtain ⟨b0, b1, b2, b3, b4, b5⟩ := ct_cells kbxr.b
        obtain ⟨j0, j1, j2, j3, j4, j5⟩ := ct_cells kbxj.b
        cases vx with
        | false =>
          cases vy with
          | false =>
            have w1 : Hid (false = (t.holds n && u.holds n)) := by rw [Hvx.out, Hvy.out]; exact Lib.hid rfl
            have w2 : Hid (false = (u.holds n && !t.holds n)) := by rw [Hvx.out, Hvy.out]; exact Lib.hid rfl
            have w3 : Hid (false = (t.holds n || u.holds n)) := by rw [Hvx.out, Hvy.out]; exact Lib.hid rfl
            have hK := hIs _ _ xm 0 _ V9 (chk_two Hct.out Hcu.out) DM.out Hxm.out.2.1 hv w1.out kbxm.i Hxm.out.2.2
            rw [CT.val_eq] at hK
            go_wp2_with (go_at_call 74; refine hK.mono ?_)
            clear hK
            rintro e V10 ⟨rfl, hb10⟩
            have hX := hX.step hb10
            have kbxr := kbxr.step hb10
            have kbxj := kbxj.step hb10
            clear n0 n1 a0 a1 a2 a3 a4 a5 b0 b1 b2 b3 b4 b5 j0 j1 j2 j3 j4 j5
            obtain ⟨b0, b1, b2, b3, b4, b5⟩ := ct_cells kbxr.b
            obtain ⟨j0, j1, j2, j3, j4, j5⟩ := ct_cells kbxj.b
            have n0 := hX.bn.cell 0
            have n1 := hX.bn.cell 1
            simp only [List.getElem?_toArray, List.getElem?_cons_zero, List.getElem?_cons_succ] at n0 n1
            have hK := hIs _ _ xr 3 _ V10 (chk_two Hcu.out Hct.out) DR.out Hxr.out.2.1 hv w2.out kbxr.i Hxr.out.2.2
            rw [CT.val_eq] at hK
            go_wp2_with (go_at_call 74; refine hK.mono ?_)
            clear hK
            rintro e V11 ⟨rfl, hb11⟩
            have hX := hX.step hb11
            have kbxj := kbxj.step hb11
            clear n0 n1 b0 b1 b2 b3 b4 b5 j0 j1 j2 j3 j4 j5
            obtain ⟨j0, j1, j2, j3, j4, j5⟩ := ct_cells kbxj.b
            have n0 := hX.bn.cell 0
            have n1 := hX.bn.cell 1
            simp only [List.getElem?_toArray, List.getElem?_cons_zero, List.getElem?_cons_succ] at n0 n1
            have hK := hIs _ _ xj rj _ V11 (chk_two Hct.out Hcu.out) DJ.out Hxj.out.2.1 hv w3.out kbxj.i Hxj.out.2.2
            rw [CT.val_eq] at hK
            go_wp2_with (go_at_call 74; refine hK.mono ?_)
            clear hK
            rintro e V12 ⟨rfl, hb12⟩
            have hX := hX.step hb12
            go_wp2
            go_ret
            exact ⟨rfl, hX.below⟩
          | true =>
            have w1 : Hid (false = (t.holds n && u.holds n)) := by rw [Hvx.out, Hvy.out]; exact Lib.hid rfl
            have w2 : Hid (true = (u.holds n && !t.holds n)) := by rw [Hvx.out, Hvy.out]; exact Lib.hid rfl
            have w3 : Hid (true = (t.holds n || u.holds n)) := by rw [Hvx.out, Hvy.out]; exact Lib.hid rfl
            have hK := hIs _ _ xm 0 _ V9 (chk_two Hct.out Hcu.out) DM.out Hxm.out.2.1 hv w1.out kbxm.i Hxm.out.2.2
            rw [CT.val_eq] at hK
            go_wp2_with (go_at_call 74; refine hK.mono ?_)
            clear hK
            rintro e V10 ⟨rfl, hb10⟩
            have hX := hX.step hb10
            have kbxr := kbxr.step hb10
            have kbxj := kbxj.step hb10
            clear n0 n1 a0 a1 a2 a3 a4 a5 b0 b1 b2 b3 b4 b5 j0 j1 j2 j3 j4 j5
            obtain ⟨b0, b1, b2, b3, b4, b5⟩ := ct_cells kbxr.b
            obtain ⟨j0, j1, j2, j3, j4, j5⟩ := ct_cells kbxj.b
            have n0 := hX.bn.cell 0
            have n1 := hX.bn.cell 1
            simp only [List.getElem?_toArray, List.getElem?_cons_zero, List.getElem?_cons_succ] at n0 n1
            have hK := hIs _ _ xr 3 _ V10 (chk_two Hcu.out Hct.out) DR.out Hxr.out.2.1 hv w2.out kbxr.i Hxr.out.2.2
            rw [CT.val_eq] at hK
            go_wp2_with (go_at_call 74; refine hK.mono ?_)
            clear hK
            rintro e V11 ⟨rfl, hb11⟩
            have hX := hX.step hb11
            have kbxj := kbxj.step hb11
            clear n0 n1 b0 b1 b2 b3 b4 b5 j0 j1 j2 j3 j4 j5
            obtain ⟨j0, j1, j2, j3, j4, j5⟩ := ct_cells kbxj.b
            have n0 := hX.bn.cell 0
            have n1 := hX.bn.cell 1
            simp only [List.getElem?_toArray, List.getElem?_cons_zero, List.getElem?_cons_succ] at n0 n1
            have hK := hIs _ _ xj rj _ V11 (chk_two Hct.out Hcu.out) DJ.out Hxj.out.2.1 hv w3.out kbxj.i Hxj.out.2.2
            rw [CT.val_eq] at hK
            go_wp2_with (go_at_call 74; refine hK.mono ?_)
            clear hK
            rintro e V12 ⟨rfl, hb12⟩
            have hX := hX.step hb12
            go_wp2
            go_ret
            exact ⟨rfl, hX.below⟩
        | true =>
          cases vy with
          | false =>
            have w1 : Hid (false = (t.holds n && u.holds n)) := by rw [Hvx.out, Hvy.out]; exact Lib.hid rfl
            have w2 : Hid (false = (u.holds n && !t.holds n)) := by rw [Hvx.out, Hvy.out]; exact Lib.hid rfl
            have w3 : Hid (true = (t.holds n || u.holds n)) := by rw [Hvx.out, Hvy.out]; exact Lib.hid rfl
            have hK := hIs _ _ xm 0 _ V9 (chk_two Hct.out Hcu.out) DM.out Hxm.out.2.1 hv w1.out kbxm.i Hxm.out.2.2
            rw [CT.val_eq] at hK
            go_wp2_with (go_at_call 74; refine hK.mono ?_)
            clear hK
            rintro e V10 ⟨rfl, hb10⟩
            have hX := hX.step hb10
            have kbxr := kbxr.step hb10
            have kbxj := kbxj.step hb10
            clear n0 n1 a0 a1 a2 a3 a4 a5 b0 b1 b2 b3 b4 b5 j0 j1 j2 j3 j4 j5
            obtain ⟨b0, b1, b2, b3, b4, b5⟩ := ct_cells kbxr.b
            obtain ⟨j0, j1, j2, j3, j4, j5⟩ := ct_cells kbxj.b
            have n0 := hX.bn.cell 0
            have n1 := hX.bn.cell 1
            simp only [List.getElem?_toArray, List.getElem?_cons_zero, List.getElem?_cons_succ] at n0 n1
            have hK := hIs _ _ xr 3 _ V10 (chk_two Hcu.out Hct.out) DR.out Hxr.out.2.1 hv w2.out kbxr.i Hxr.out.2.2
            rw [CT.val_eq] at hK
            go_wp2_with (go_at_call 74; refine hK.mono ?_)
            clear hK
            rintro e V11 ⟨rfl, hb11⟩
            have hX := hX.step hb11
            have kbxj := kbxj.step hb11
            clear n0 n1 b0 b1 b2 b3 b4 b5 j0 j1 j2 j3 j4 j5
            obtain ⟨j0, j1, j2, j3, j4, j5⟩ := ct_cells kbxj.b
            have n0 := hX.bn.cell 0
            have n1 := hX.bn.cell 1
            simp only [List.getElem?_toArray, List.getElem?_cons_zero, List.getElem?_cons_succ] at n0 n1
            have hK := hIs _ _ xj rj _ V11 (chk_two Hct.out Hcu.out) DJ.out Hxj.out.2.1 hv w3.out kbxj.i Hxj.out.2.2
            rw [CT.val_eq] at hK
            go_wp2_with (go_at_call 74; refine hK.mono ?_)
            clear hK
            rintro e V12 ⟨rfl, hb12⟩
            have hX := hX.step hb12
            go_wp2
            go_ret
            exact ⟨rfl, hX.below⟩
          | true =>
            have w1 : Hid (true = (t.holds n && u.holds n)) := by rw [Hvx.out, Hvy.out]; exact Lib.hid rfl
            have w2 : Hid (false = (u.holds n && !t.holds n)) := by rw [Hvx.out, Hvy.out]; exact Lib.hid rfl
            have w3 : Hid (true = (t.holds n || u.holds n)) := by rw [Hvx.out, Hvy.out]; exact Lib.hid rfl
            have hK := hIs _ _ xm 0 _ V9 (chk_two Hct.out Hcu.out) DM.out Hxm.out.2.1 hv w1.out kbxm.i Hxm.out.2.2
            rw [CT.val_eq] at hK
            go_wp2_with (go_at_call 74; refine hK.mono ?_)
            clear hK
            rintro e V10 ⟨rfl, hb10⟩
            have hX := hX.step hb10
            have kbxr := kbxr.step hb10
            have kbxj := kbxj.step hb10
            clear n0 n1 a0 a1 a2 a3 a4 a5 b0 b1 b2 b3 b4 b5 j0 j1 j2 j3 j4 j5
            obtain ⟨b0, b1, b2, b3, b4, b5⟩ := ct_cells kbxr.b
            obtain ⟨j0, j1, j2, j3, j4, j5⟩ := ct_cells kbxj.b
            have n0 := hX.bn.cell 0
            have n1 := hX.bn.cell 1
            simp only [List.getElem?_toArray, List.getElem?_cons_zero, List.getElem?_cons_succ] at n0 n1
            have hK := hIs _ _ xr 3 _ V10 (chk_two Hcu.out Hct.out) DR.out Hxr.out.2.1 hv w2.out kbxr.i Hxr.out.2.2
            rw [CT.val_eq] at hK
            go_wp2_with (go_at_call 74; refine hK.mono ?_)
            clear hK
            rintro e V11 ⟨rfl, hb11⟩
            have hX := hX.step hb11
            have kbxj := kbxj.step hb11
            clear n0 n1 b0 b1 b2 b3 b4 b5 j0 j1 j2 j3 j4 j5
            obtain ⟨j0, j1, j2, j3, j4, j5⟩ := ct_cells kbxj.b
            have n0 := hX.bn.cell 0
            have n1 := hX.bn.cell 1
            simp only [List.getElem?_toArray, List.getElem?_cons_zero, List.getElem?_cons_succ] at n0 n1
            have hK := hIs _ _ xj rj _ V11 (chk_two Hct.out Hcu.out) DJ.out Hxj.out.2.1 hv w3.out kbxj.i Hxj.out.2.2
            rw [CT.val_eq] at hK
            go_wp2_with (go_at_call 74; refine hK.mono ?_)
            clear hK
            rintro e V12 ⟨rfl, hb12⟩
            have hX := hX.step hb12
            go_wp2
            go_ret
            exact ⟨rfl, hX.below⟩
  · subst h3
    clear c0 c1 c2 c3 c4 c5 d0 d1 d2 d3 d4 d5
    obtain ⟨c0, c1, c2, c3, c4, c5⟩ := ct_cells hX.bt
    obtain ⟨d0, d1, d2, d3, d4, d5⟩ := ct_cells hX.bu
    have hK := hMi V3 hX
    go_wp2_with (go_at_call 22; refine hK.mono ?_)
    clear hK
    rintro e U1 ⟨xr, rr, rfl, Hxr, hbu1⟩
    have hX := hX.step hbu1
    have kbxm := kbxm.step hbu1
    obtain ⟨U2, hU2⟩ : ∃ V, U1.alloc (.cells xr.cells.toArray 26) = V := ⟨_, rfl⟩
    have hm := BoxC.made (x := xr) (V := U1) (inOn Hxr.out.1 (Nat.le_refl _))
    rw [hU2] at hm
    obtain ⟨kbxr, hbm⟩ := hm
    have hX := hX.step hbm
    rw [CT.cells_eq] at hU2
    have HU2 := Lib.hid hU2
    rw [CT.val_eq xr]
    have kbxm := kbxm.step hbm
    obtain ⟨pr, hpr⟩ : ∃ p, U1.heap.size = p := ⟨_, rfl⟩
    rw [hpr] at kbxr
    clear hU2
    rcases normR_ok Hxr.out.2.1 (chk_two Hcu.out Hct.out) DR.out with ⟨h0, _, _⟩ | h3
    · subst h0
      obtain ⟨a0, a1, a2, a3, a4, a5⟩ := ct_cells kbxr.b
      have hK := hE _ _ xr one U2 hX.below (chk_two Hcu.out Hct.out) DR.out Hxr.out.2.1 kbxr.i Hxr.out.2.2 HRone.out
      rw [CT.val_eq] at hK
      have hU2 := HU2.out
      go_wp2_with (go_at_call 24; refine hK.mono ?_)
      clear hK a0 a1 a2 a3 a4 a5 hpr hU2
      rintro e U3 ⟨rfl, hbu3⟩
      have hX := hX.step hbu3
      have kbxm := kbxm.step hbu3
      have kbxr := kbxr.step hbu3
      clear c0 c1 c2 c3 c4 c5 d0 d1 d2 d3 d4 d5
      obtain ⟨c0, c1, c2, c3, c4, c5⟩ := ct_cells hX.bt
      obtain ⟨d0, d1, d2, d3, d4, d5⟩ := ct_cells hX.bu
      have hK := hJ U3 hX
      go_wp2_with (go_at_call 18; refine hK.mono ?_)
      clear hK
      rintro e V6 ⟨xj, rj, rfl, Hxj, hb6⟩
      have hX := hX.step hb6
      have kbxm := kbxm.step hb6
      have kbxr := kbxr.step hb6
      obtain ⟨V7, hV7⟩ : ∃ V, V6.alloc (.cells xj.cells.toArray 26) = V := ⟨_, rfl⟩
      have hm := BoxC.made (x := xj) (V := V6) (inOn Hxj.out.1 (Nat.le_refl _))
      rw [hV7] at hm
      obtain ⟨kbxj, hbm⟩ := hm
      have hX := hX.step hbm
      rw [CT.cells_eq] at hV7
      have HV7 := Lib.hid hV7
      rw [CT.val_eq xj]
      have kbxm := kbxm.step hbm
      have kbxr := kbxr.step hbm
      obtain ⟨pj, hpj⟩ : ∃ p, V6.heap.size = p := ⟨_, rfl⟩
      rw [hpj] at kbxj
      clear hV7
      cases hv : validN n with
      | false =>
        have g1 : (hasR t n).1 = false ∧ (hasR t n).2 = 2 := by unfold hasR; rw [if_neg (by simpa using Hct.out), if_pos hv]; exact ⟨rfl, rfl⟩
        have g2 : (hasR u n).1 = false ∧ (hasR u n).2 = 2 := by unfold hasR; rw [if_neg (by simpa using Hcu.out), if_pos hv]; exact ⟨rfl, rfl⟩
        clear c0 c1 c2 c3 c4 c5 d0 d1 d2 d3 d4 d5
        obtain ⟨c0, c1, c2, c3, c4, c5⟩ := ct_cells hX.bt
        obtain ⟨d0, d1, d2, d3, d4, d5⟩ := ct_cells hX.bu
        have n0 := hX.bn.cell 0
        have n1 := hX.bn.cell 1
        simp only [List.getElem?_toArray, List.getElem?_cons_zero, List.getElem?_cons_succ] at n0 n1
        have hV7 := HV7.out
        have hK := hH t V7 hX.it ht
        rw [g1.1, g1.2, CT.val_eq] at hK
        go_wp2_with (go_at_call 9; refine hK.mono ?_)
        clear hK
        clear hpj hV7
        rintro e V8 ⟨rfl, hb8⟩
        have hX := hX.step hb8
        clear n0 n1
        clear c0 c1 c2 c3 c4 c5 d0 d1 d2 d3 d4 d5
        obtain ⟨c0, c1, c2, c3, c4, c5⟩ := ct_cells hX.bt
        obtain ⟨d0, d1, d2, d3, d4, d5⟩ := ct_cells hX.bu
        have n0 := hX.bn.cell 0
        have n1 := hX.bn.cell 1
        simp only [List.getElem?_toArray, List.getElem?_cons_zero, List.getElem?_cons_succ] at n0 n1
        have hK := hH u V8 hX.iu hu
        rw [g2.1, g2.2, CT.val_eq] at hK
        go_wp2_with (go_at_call 9; refine hK.mono ?_)
        clear hK
        rintro e V9 ⟨rfl, hb9⟩
        have hX := hX.step hb9
        go_wp2
        go_ret
        exact ⟨rfl, hX.below⟩
      | true =>
        have g1 : (hasR t n).1 = t.holds n ∧ (hasR t n).2 = 0 := by unfold hasR; rw [if_neg (by simpa using Hct.out), if_neg (by simp [hv])]; exact ⟨rfl, rfl⟩
        have g2 : (hasR u n).1 = u.holds n ∧ (hasR u n).2 = 0 := by unfold hasR; rw [if_neg (by simpa using Hcu.out), if_neg (by simp [hv])]; exact ⟨rfl, rfl⟩
        obtain ⟨vx, hvx⟩ : ∃ v, t.holds n = v := ⟨_, rfl⟩
        obtain ⟨vy, hvy⟩ : ∃ v, u.holds n = v := ⟨_, rfl⟩
        rw [hvx] at g1
        rw [hvy] at g2
        have Hvx := Lib.hid hvx
        have Hvy := Lib.hid hvy
        clear hvx hvy
        clear c0 c1 c2 c3 c4 c5 d0 d1 d2 d3 d4 d5
        obtain ⟨c0, c1, c2, c3, c4, c5⟩ := ct_cells hX.bt
        obtain ⟨d0, d1, d2, d3, d4, d5⟩ := ct_cells hX.bu
        have n0 := hX.bn.cell 0
        have n1 := hX.bn.cell 1
        simp only [List.getElem?_toArray, List.getElem?_cons_zero, List.getElem?_cons_succ] at n0 n1
        have hV7 := HV7.out
        have hK := hH t V7 hX.it ht
        rw [g1.1, g1.2, CT.val_eq] at hK
        go_wp2_with (go_at_call 9; refine hK.mono ?_)
        clear hK
        clear hpj hV7
        rintro e V8 ⟨rfl, hb8⟩
        have hX := hX.step hb8
        have kbxm := kbxm.step hb8
        have kbxr := kbxr.step hb8
        have kbxj := kbxj.step hb8
        clear n0 n1
        clear c0 c1 c2 c3 c4 c5 d0 d1 d2 d3 d4 d5
        obtain ⟨c0, c1, c2, c3, c4, c5⟩ := ct_cells hX.bt
        obtain ⟨d0, d1, d2, d3, d4, d5⟩ := ct_cells hX.bu
        have n0 := hX.bn.cell 0
        have n1 := hX.bn.cell 1
        simp only [List.getElem?_toArray, List.getElem?_cons_zero, List.getElem?_cons_succ] at n0 n1
        have hK := hH u V8 hX.iu hu
        rw [g2.1, g2.2, CT.val_eq] at hK
        go_wp2_with (go_at_call 9; refine hK.mono ?_)
        clear hK
        rintro e V9 ⟨rfl, hb9⟩
        have hX := hX.step hb9
        have kbxm := kbxm.step hb9
        have kbxr := kbxr.step hb9
        have kbxj := kbxj.step hb9
        clear n0 n1
        clear c0 c1 c2 c3 c4 c5 d0 d1 d2 d3 d4 d5
        have n0 := hX.bn.cell 0
        have n1 := hX.bn.cell 1
        simp only [List.getElem?_toArray, List.getElem?_cons_zero, List.getElem?_cons_succ] at n0 n1
        obtain ⟨a0, a1, a2, a3, a4, a5⟩ := ct_cells kbxm.b
        obtain ⟨b0, b1, b2, b3, b4, b5⟩ := ct_cells kbxr.b
        obtain ⟨j0, j1, j2, j3, j4, j5⟩ := ct_cells kbxj.b
        cases vx with
        | false =>
          cases vy with
          | false =>
            have w1 : Hid (false = (t.holds n && u.holds n)) := by rw [Hvx.out, Hvy.out]; exact Lib.hid rfl
            have w2 : Hid (false = (u.holds n && !t.holds n)) := by rw [Hvx.out, Hvy.out]; exact Lib.hid rfl
            have w3 : Hid (false = (t.holds n || u.holds n)) := by rw [Hvx.out, Hvy.out]; exact Lib.hid rfl
            have hK := hIs _ _ xm 3 _ V9 (chk_two Hct.out Hcu.out) DM.out Hxm.out.2.1 hv w1.out kbxm.i Hxm.out.2.2
            rw [CT.val_eq] at hK
            go_wp2_with (go_at_call 74; refine hK.mono ?_)
            clear hK
            rintro e V10 ⟨rfl, hb10⟩
            have hX := hX.step hb10
            have kbxr := kbxr.step hb10
            have kbxj := kbxj.step hb10
            clear n0 n1 a0 a1 a2 a3 a4 a5 b0 b1 b2 b3 b4 b5 j0 j1 j2 j3 j4 j5
            obtain ⟨b0, b1, b2, b3, b4, b5⟩ := ct_cells kbxr.b
            obtain ⟨j0, j1, j2, j3, j4, j5⟩ := ct_cells kbxj.b
            have n0 := hX.bn.cell 0
            have n1 := hX.bn.cell 1
            simp only [List.getElem?_toArray, List.getElem?_cons_zero, List.getElem?_cons_succ] at n0 n1
            have hK := hIs _ _ xr 0 _ V10 (chk_two Hcu.out Hct.out) DR.out Hxr.out.2.1 hv w2.out kbxr.i Hxr.out.2.2
            rw [CT.val_eq] at hK
            go_wp2_with (go_at_call 74; refine hK.mono ?_)
            clear hK
            rintro e V11 ⟨rfl, hb11⟩
            have hX := hX.step hb11
            have kbxj := kbxj.step hb11
            clear n0 n1 b0 b1 b2 b3 b4 b5 j0 j1 j2 j3 j4 j5
            obtain ⟨j0, j1, j2, j3, j4, j5⟩ := ct_cells kbxj.b
            have n0 := hX.bn.cell 0
            have n1 := hX.bn.cell 1
            simp only [List.getElem?_toArray, List.getElem?_cons_zero, List.getElem?_cons_succ] at n0 n1
            have hK := hIs _ _ xj rj _ V11 (chk_two Hct.out Hcu.out) DJ.out Hxj.out.2.1 hv w3.out kbxj.i Hxj.out.2.2
            rw [CT.val_eq] at hK
            go_wp2_with (go_at_call 74; refine hK.mono ?_)
            clear hK
            rintro e V12 ⟨rfl, hb12⟩
            have hX := hX.step hb12
            go_wp2
            go_ret
            exact ⟨rfl, hX.below⟩
          | true =>
            have w1 : Hid (false = (t.holds n && u.holds n)) := by rw [Hvx.out, Hvy.out]; exact Lib.hid rfl
            have w2 : Hid (true = (u.holds n && !t.holds n)) := by rw [Hvx.out, Hvy.out]; exact Lib.hid rfl
            have w3 : Hid (true = (t.holds n || u.holds n)) := by rw [Hvx.out, Hvy.out]; exact Lib.hid rfl
            have hK := hIs _ _ xm 3 _ V9 (chk_two Hct.out Hcu.out) DM.out Hxm.out.2.1 hv w1.out kbxm.i Hxm.out.2.2
            rw [CT.val_eq] at hK
            go_wp2_with (go_at_call 74; refine hK.mono ?_)
            clear hK
            rintro e V10 ⟨rfl, hb10⟩
            have hX := hX.step hb10
            have kbxr := kbxr.step hb10
            have kbxj := kbxj.step hb10
            clear n0 n1 a0 a1 a2 a3 a4 a5 b0 b1 b2 b3 b4 b5 j0 j1 j2 j3 j4 j5
            obtain ⟨b0, b1, b2, b3, b4, b5⟩ := ct_cells kbxr.b
            obtain ⟨j0, j1, j2, j3, j4, j5⟩ := ct_cells kbxj.b
            have n0 := hX.bn.cell 0
            have n1 := hX.bn.cell 1
            simp only [List.getElem?_toArray, List.getElem?_cons_zero, List.getElem?_cons_succ] at n0 n1
            have hK := hIs _ _ xr 0 _ V10 (chk_two Hcu.out Hct.out) DR.out Hxr.out.2.1 hv w2.out kbxr.i Hxr.out.2.2
            rw [CT.val_eq] at hK
            go_wp2_with (go_at_call 74; refine hK.mono ?_)
            clear hK
            rintro e V11 ⟨rfl, hb11⟩
            have hX := hX.step hb11
            have kbxj := kbxj.step hb11
            clear n0 n1 b0 b1 b2 b3 b4 b5 j0 j1 j2 j3 j4 j5
            obtain ⟨j0, j1, j2, j3, j4, j5⟩ := ct_cells kbxj.b
            have n0 := hX.bn.cell 0
            have n1 := hX.bn.cell 1
            simp only [List.getElem?_toArray, List.getElem?_cons_zero, List.getElem?_cons_succ] at n0 n1
            have hK := hIs _ _ xj rj _ V11 (chk_two Hct.out Hcu.out) DJ.out Hxj.out.2.1 hv w3.out kbxj.i Hxj.out.2.2
            rw [CT.val_eq] at hK
            go_wp2_with (go_at_call 74; refine hK.mono ?_)
            clear hK
            rintro e V12 ⟨rfl, hb12⟩
            have hX := hX.step hb12
            go_wp2
            go_ret
            exact ⟨rfl, hX.below⟩
        | true =>
          cases vy with
          | false =>
            have w1 : Hid (false = (t.holds n && u.holds n)) := by rw [Hvx.out, Hvy.out]; exact Lib.hid rfl
            have w2 : Hid (false = (u.holds n && !t.holds n)) := by rw [Hvx.out, Hvy.out]; exact Lib.hid rfl
            have w3 : Hid (true = (t.holds n || u.holds n)) := by rw [Hvx.out, Hvy.out]; exact Lib.hid rfl
            have hK := hIs _ _ xm 3 _ V9 (chk_two Hct.out Hcu.out) DM.out Hxm.out.2.1 hv w1.out kbxm.i Hxm.out.2.2
            rw [CT.val_eq] at hK
            go_wp2_with (go_at_call 74; refine hK.mono ?_)
            clear hK
            rintro e V10 ⟨rfl, hb10⟩
            have hX := hX.step hb10
            have kbxr := kbxr.step hb10
            have kbxj := kbxj.step hb10
            clear n0 n1 a0 a1 a2 a3 a4 a5 b0 b1 b2 b3 b4 b5 j0 j1 j2 j3 j4 j5
            obtain ⟨b0, b1, b2, b3, b4, b5⟩ := ct_cells kbxr.b
            obtain ⟨j0, j1, j2, j3, j4, j5⟩ := ct_cells kbxj.b
            have n0 := hX.bn.cell 0
            have n1 := hX.bn.cell 1
            simp only [List.getElem?_toArray, List.getElem?_cons_zero, List.getElem?_cons_succ] at n0 n1
            have hK := hIs _ _ xr 0 _ V10 (chk_two Hcu.out Hct.out) DR.out Hxr.out.2.1 hv w2.out kbxr.i Hxr.out.2.2
            rw [CT.val_eq] at hK
            go_wp2_with (go_at_call 74; refine hK.mono ?_)
            clear hK
            rintro e V11 ⟨rfl, hb11⟩
            have hX := hX.step hb11
            have kbxj := kbxj.step hb11
            clear n0 n1 b0 b1 b2 b3 b4 b5 j0 j1 j2 j3 j4 j5
            obtain ⟨j0, j1, j2, j3, j4, j5⟩ := ct_cells kbxj.b
            have n0 := hX.bn.cell 0
            have n1 := hX.bn.cell 1
            simp only [List.getElem?_toArray, List.getElem?_cons_zero, List.getElem?_cons_succ] at n0 n1
            have hK := hIs _ _ xj rj _ V11 (chk_two Hct.out Hcu.out) DJ.out Hxj.out.2.1 hv w3.out kbxj.i Hxj.out.2.2
            rw [CT.val_eq] at hK
            go_wp2_with (go_at_call 74; refine hK.mono ?_)
            clear hK
            rintro e V12 ⟨rfl, hb12⟩
            have hX := hX.step hb12
            go_wp2
            go_ret
            exact ⟨rfl, hX.below⟩
          | true =>
            have w1 : Hid (true = (t.holds n && u.holds n)) := by rw [Hvx.out, Hvy.out]; exact Lib.hid rfl
            have w2 : Hid (false = (u.holds n && !t.holds n)) := by rw [Hvx.out, Hvy.out]; exact Lib.hid rfl
            have w3 : Hid (true = (t.holds n || u.holds n)) := by rw [Hvx.out, Hvy.out]; exact Lib.hid rfl
            have hK := hIs _ _ xm 3 _ V9 (chk_two Hct.out Hcu.out) DM.out Hxm.out.2.1 hv w1.out kbxm.i Hxm.out.2.2
            rw [CT.val_eq] at hK
            go_wp2_with (go_at_call 74; refine hK.mono ?_)
            clear hK
            rintro e V10 ⟨rfl, hb10⟩
            have hX := hX.step hb10
            have kbxr := kbxr.step hb10
            have kbxj := kbxj.step hb10
            clear n0 n1 a0 a1 a2 a3 a4 a5 b0 b1 b2 b3 b4 b5 j0 j1 j2 j3 j4 j5
            obtain ⟨b0, b1, b2, b3, b4, b5⟩ := ct_cells kbxr.b
            obtain ⟨j0, j1, j2, j3, j4, j5⟩ := ct_cells kbxj.b
            have n0 := hX.bn.cell 0
            have n1 := hX.bn.cell 1
            simp only [List.getElem?_toArray, List.getElem?_cons_zero, List.getElem?_cons_succ] at n0 n1
            have hK := hIs _ _ xr 0 _ V10 (chk_two Hcu.out Hct.out) DR.out Hxr.out.2.1 hv w2.out kbxr.i Hxr.out.2.2
            rw [CT.val_eq] at hK
            go_wp2_with (go_at_call 74; refine hK.mono ?_)
            clear hK
            rintro e V11 ⟨rfl, hb11⟩
            have hX := hX.step hb11
            have kbxj := kbxj.step hb11
            clear n0 n1 b0 b1 b2 b3 b4 b5 j0 j1 j2 j3 j4 j5
            obtain ⟨j0, j1, j2, j3, j4, j5⟩ := ct_cells kbxj.b
            have n0 := hX.bn.cell 0
            have n1 := hX.bn.cell 1
            simp only [List.getElem?_toArray, List.getElem?_cons_zero, List.getElem?_cons_succ] at n0 n1
            have hK := hIs _ _ xj rj _ V11 (chk_two Hct.out Hcu.out) DJ.out Hxj.out.2.1 hv w3.out kbxj.i Hxj.out.2.2
            rw [CT.val_eq] at hK
            go_wp2_with (go_at_call 74; refine hK.mono ?_)
            clear hK
            rintro e V12 ⟨rfl, hb12⟩
            have hX := hX.step hb12
            go_wp2
            go_ret
            exact ⟨rfl, hX.below⟩
    · subst h3
      have hU2 := HU2.out
      have hXX := hX
      clear c0 c1 c2 c3 c4 c5 d0 d1 d2 d3 d4 d5
      obtain ⟨c0, c1, c2, c3, c4, c5⟩ := ct_cells hX.bt
      obtain ⟨d0, d1, d2, d3, d4, d5⟩ := ct_cells hX.bu
      have hK := hJ U2 hX
      go_wp2_with (go_at_call 18; refine hK.mono ?_)
      clear hK
      rintro e V6 ⟨xj, rj, rfl, Hxj, hb6⟩
      have hX := hX.step hb6
      have kbxm := kbxm.step hb6
      have kbxr := kbxr.step hb6
      obtain ⟨V7, hV7⟩ : ∃ V, V6.alloc (.cells xj.cells.toArray 26) = V := ⟨_, rfl⟩
      have hm := BoxC.made (x := xj) (V := V6) (inOn Hxj.out.1 (Nat.le_refl _))
      rw [hV7] at hm
      obtain ⟨kbxj, hbm⟩ := hm
      have hX := hX.step hbm
      rw [CT.cells_eq] at hV7
      have HV7 := Lib.hid hV7
      rw [CT.val_eq xj]
      have kbxm := kbxm.step hbm
      have kbxr := kbxr.step hbm
      obtain ⟨pj, hpj⟩ : ∃ p, V6.heap.size = p := ⟨_, rfl⟩
      rw [hpj] at kbxj
      clear hV7
      cases hv : validN n with
      | false =>
        have g1 : (hasR t n).1 = false ∧ (hasR t n).2 = 2 := by unfold hasR; rw [if_neg (by simpa using Hct.out), if_pos hv]; exact ⟨rfl, rfl⟩
        have g2 : (hasR u n).1 = false ∧ (hasR u n).2 = 2 := by unfold hasR; rw [if_neg (by simpa using Hcu.out), if_pos hv]; exact ⟨rfl, rfl⟩
        clear c0 c1 c2 c3 c4 c5 d0 d1 d2 d3 d4 d5
        obtain ⟨c0, c1, c2, c3, c4, c5⟩ := ct_cells hX.bt
        obtain ⟨d0, d1, d2, d3, d4, d5⟩ := ct_cells hX.bu
        have n0 := hX.bn.cell 0
        have n1 := hX.bn.cell 1
        simp only [List.getElem?_toArray, List.getElem?_cons_zero, List.getElem?_cons_succ] at n0 n1
        have hV7 := HV7.out
        have hK := hH t V7 hX.it ht
        rw [g1.1, g1.2, CT.val_eq] at hK
        go_wp2_with (go_at_call 9; refine hK.mono ?_)
        clear hK
        clear hpj hV7
        rintro e V8 ⟨rfl, hb8⟩
        have hX := hX.step hb8
        clear n0 n1
        clear c0 c1 c2 c3 c4 c5 d0 d1 d2 d3 d4 d5
        obtain ⟨c0, c1, c2, c3, c4, c5⟩ := ct_cells hX.bt
        obtain ⟨d0, d1, d2, d3, d4, d5⟩ := ct_cells hX.bu
        have n0 := hX.bn.cell 0
        have n1 := hX.bn.cell 1
        simp only [List.getElem?_toArray, List.getElem?_cons_zero, List.getElem?_cons_succ] at n0 n1
        have hK := hH u V8 hX.iu hu
        rw [g2.1, g2.2, CT.val_eq] at hK
        go_wp2_with (go_at_call 9; refine hK.mono ?_)
        clear hK
        rintro e V9 ⟨rfl, hb9⟩
        have hX := hX.step hb9
        go_wp2
        go_ret
        exact ⟨rfl, hX.below⟩
      | true =>
        have g1 : (hasR t n).1 = t.holds n ∧ (hasR t n).2 = 0 := by unfold hasR; rw [if_neg (by simpa using Hct.out), if_neg (by simp [hv])]; exact ⟨rfl, rfl⟩
        have g2 : (hasR u n).1 = u.holds n ∧ (hasR u n).2 = 0 := by unfold hasR; rw [if_neg (by simpa using Hcu.out), if_neg (by simp [hv])]; exact ⟨rfl, rfl⟩
        obtain ⟨vx, hvx⟩ : ∃ v, t.holds n = v := ⟨_, rfl⟩
        obtain ⟨vy, hvy⟩ : ∃ v, u.holds n = v := ⟨_, rfl⟩
        rw [hvx] at g1
        rw [hvy] at g2
        have Hvx := Lib.hid hvx
        have Hvy := Lib.hid hvy
        clear hvx hvy
        clear c0 c1 c2 c3 c4 c5 d0 d1 d2 d3 d4 d5
        obtain ⟨c0, c1, c2, c3, c4, c5⟩ := ct_cells hX.bt
        obtain ⟨d0, d1, d2, d3, d4, d5⟩ := ct_cells hX.bu
        have n0 := hX.bn.cell 0
        have n1 := hX.bn.cell 1
        simp only [List.getElem?_toArray, List.getElem?_cons_zero, List.getElem?_cons_succ] at n0 n1
        have hV7 := HV7.out
        have hK := hH t V7 hX.it ht
        rw [g1.1, g1.2, CT.val_eq] at hK
        go_wp2_with (go_at_call 9; refine hK.mono ?_)
        clear hK
        clear hpj hV7
        rintro e V8 ⟨rfl, hb8⟩
        have hX := hX.step hb8
        have kbxm := kbxm.step hb8
        have kbxr := kbxr.step hb8
        have kbxj := kbxj.step hb8
        clear n0 n1
        clear c0 c1 c2 c3 c4 c5 d0 d1 d2 d3 d4 d5
        obtain ⟨c0, c1, c2, c3, c4, c5⟩ := ct_cells hX.bt
        obtain ⟨d0, d1, d2, d3, d4, d5⟩ := ct_cells hX.bu
        have n0 := hX.bn.cell 0
        have n1 := hX.bn.cell 1
        simp only [List.getElem?_toArray, List.getElem?_cons_zero, List.getElem?_cons_succ] at n0 n1
        have hK := hH u V8 hX.iu hu
        rw [g2.1, g2.2, CT.val_eq] at hK
        go_wp2_with (go_at_call 9; refine hK.mono ?_)
        clear hK
        rintro e V9 ⟨rfl, hb9⟩
        have hX := hX.step hb9
        have kbxm := kbxm.step hb9
        have kbxr := kbxr.step hb9
        have kbxj := kbxj.step hb9
        clear n0 n1
        clear c0 c1 c2 c3 c4 c5 d0 d1 d2 d3 d4 d5
        have n0 := hX.bn.cell 0
        have n1 := hX.bn.cell 1
        simp only [List.getElem?_toArray, List.getElem?_cons_zero, List.getElem?_cons_succ] at n0 n1
        obtain ⟨a0, a1, a2, a3, a4, a5⟩ := ct_cells kbxm.b
        obtain ⟨b0, b1, b2, b3, b4, b5⟩ := ct_cells kbxr.b
        obtain ⟨j0, j1, j2, j3, j4, j5⟩ := ct_cells kbxj.b
        cases vx with
        | false =>
          cases vy with
          | false =>
            have w1 : Hid (false = (t.holds n && u.holds n)) := by rw [Hvx.out, Hvy.out]; exact Lib.hid rfl
            have w2 : Hid (false = (u.holds n && !t.holds n)) := by rw [Hvx.out, Hvy.out]; exact Lib.hid rfl
            have w3 : Hid (false = (t.holds n || u.holds n)) := by rw [Hvx.out, Hvy.out]; exact Lib.hid rfl
            have hK := hIs _ _ xm 3 _ V9 (chk_two Hct.out Hcu.out) DM.out Hxm.out.2.1 hv w1.out kbxm.i Hxm.out.2.2
            rw [CT.val_eq] at hK
            go_wp2_with (go_at_call 74; refine hK.mono ?_)
            clear hK
            rintro e V10 ⟨rfl, hb10⟩
            have hX := hX.step hb10
            have kbxr := kbxr.step hb10
            have kbxj := kbxj.step hb10
            clear n0 n1 a0 a1 a2 a3 a4 a5 b0 b1 b2 b3 b4 b5 j0 j1 j2 j3 j4 j5
            obtain ⟨b0, b1, b2, b3, b4, b5⟩ := ct_cells kbxr.b
            obtain ⟨j0, j1, j2, j3, j4, j5⟩ := ct_cells kbxj.b
            have n0 := hX.bn.cell 0
            have n1 := hX.bn.cell 1
            simp only [List.getElem?_toArray, List.getElem?_cons_zero, List.getElem?_cons_succ] at n0 n1
            have hK := hIs _ _ xr 3 _ V10 (chk_two Hcu.out Hct.out) DR.out Hxr.out.2.1 hv w2.out kbxr.i Hxr.out.2.2
            rw [CT.val_eq] at hK
            go_wp2_with (go_at_call 74; refine hK.mono ?_)
            clear hK
            rintro e V11 ⟨rfl, hb11⟩
            have hX := hX.step hb11
            have kbxj := kbxj.step hb11
            clear n0 n1 b0 b1 b2 b3 b4 b5 j0 j1 j2 j3 j4 j5
            obtain ⟨j0, j1, j2, j3, j4, j5⟩ := ct_cells kbxj.b
            have n0 := hX.bn.cell 0
            have n1 := hX.bn.cell 1
            simp only [List.getElem?_toArray, List.getElem?_cons_zero, List.getElem?_cons_succ] at n0 n1
            have hK := hIs _ _ xj rj _ V11 (chk_two Hct.out Hcu.out) DJ.out Hxj.out.2.1 hv w3.out kbxj.i Hxj.out.2.2
            rw [CT.val_eq] at hK
            go_wp2_with (go_at_call 74; refine hK.mono ?_)
            clear hK
            rintro e V12 ⟨rfl, hb12⟩
            have hX := hX.step hb12
            go_wp2
            go_ret
            exact ⟨rfl, hX.below⟩
          | true =>
            have w1 : Hid (false = (t.holds n && u.holds n)) := by rw [Hvx.out, Hvy.out]; exact Lib.hid rfl
            have w2 : Hid (true = (u.holds n && !t.holds n)) := by rw [Hvx.out, Hvy.out]; exact Lib.hid rfl
            have w3 : Hid (true = (t.holds n || u.holds n)) := by rw [Hvx.out, Hvy.out]; exact Lib.hid rfl
            have hK := hIs _ _ xm 3 _ V9 (chk_two Hct.out Hcu.out) DM.out Hxm.out.2.1 hv w1.out kbxm.i Hxm.out.2.2
            rw [CT.val_eq] at hK
            go_wp2_with (go_at_call 74; refine hK.mono ?_)
            clear hK
            rintro e V10 ⟨rfl, hb10⟩
            have hX := hX.step hb10
            have kbxr := kbxr.step hb10
            have kbxj := kbxj.step hb10
            clear n0 n1 a0 a1 a2 a3 a4 a5 b0 b1 b2 b3 b4 b5 j0 j1 j2 j3 j4 j5
            obtain ⟨b0, b1, b2, b3, b4, b5⟩ := ct_cells kbxr.b
            obtain ⟨j0, j1, j2, j3, j4, j5⟩ := ct_cells kbxj.b
            have n0 := hX.bn.cell 0
            have n1 := hX.bn.cell 1
            simp only [List.getElem?_toArray, List.getElem?_cons_zero, List.getElem?_cons_succ] at n0 n1
            have hK := hIs _ _ xr 3 _ V10 (chk_two Hcu.out Hct.out) DR.out Hxr.out.2.1 hv w2.out kbxr.i Hxr.out.2.2
            rw [CT.val_eq] at hK
            go_wp2_with (go_at_call 74; refine hK.mono ?_)
            clear hK
            rintro e V11 ⟨rfl, hb11⟩
            have hX := hX.step hb11
            have kbxj := kbxj.step hb11
            clear n0 n1 b0 b1 b2 b3 b4 b5 j0 j1 j2 j3 j4 j5
            obtain ⟨j0, j1, j2, j3, j4, j5⟩ := ct_cells kbxj.b
            have n0 := hX.bn.cell 0
            have n1 := hX.bn.cell 1
            simp only [List.getElem?_toArray, List.getElem?_cons_zero, List.getElem?_cons_succ] at n0 n1
            have hK := hIs _ _ xj rj _ V11 (chk_two Hct.out Hcu.out) DJ.out Hxj.out.2.1 hv w3.out kbxj.i Hxj.out.2.2
            rw [CT.val_eq] at hK
            go_wp2_with (go_at_call 74; refine hK.mono ?_)
            clear hK
            rintro e V12 ⟨rfl, hb12⟩
            have hX := hX.step hb12
            go_wp2
            go_ret
            exact ⟨rfl, hX.below⟩
        | true =>
          cases vy with
          | false =>
            have w1 : Hid (false = (t.holds n && u.holds n)) := by rw [Hvx.out, Hvy.out]; exact Lib.hid rfl
            have w2 : Hid (false = (u.holds n && !t.holds n)) := by rw [Hvx.out, Hvy.out]; exact Lib.hid rfl
            have w3 : Hid (true = (t.holds n || u.holds n)) := by rw [Hvx.out, Hvy.out]; exact Lib.hid rfl
            have hK := hIs _ _ xm 3 _ V9 (chk_two Hct.out Hcu.out) DM.out Hxm.out.2.1 hv w1.out kbxm.i Hxm.out.2.2
            rw [CT.val_eq] at hK
            go_wp2_with (go_at_call 74; refine hK.mono ?_)
            clear hK
            rintro e V10 ⟨rfl, hb10⟩
            have hX := hX.step hb10
            have kbxr := kbxr.step hb10
            have kbxj := kbxj.step hb10
            clear n0 n1 a0 a1 a2 a3 a4 a5 b0 b1 b2 b3 b4 b5 j0 j1 j2 j3 j4 j5
            obtain ⟨b0, b1, b2, b3, b4, b5⟩ := ct_cells kbxr.b
            obtain ⟨j0, j1, j2, j3, j4, j5⟩ := ct_cells kbxj.b
            have n0 := hX.bn.cell 0
            have n1 := hX.bn.cell 1
            simp only [List.getElem?_toArray, List.getElem?_cons_zero, List.getElem?_cons_succ] at n0 n1
            have hK := hIs _ _ xr 3 _ V10 (chk_two Hcu.out Hct.out) DR.out Hxr.out.2.1 hv w2.out kbxr.i Hxr.out.2.2
            rw [CT.val_eq] at hK
            go_wp2_with (go_at_call 74; refine hK.mono ?_)
            clear hK
            rintro e V11 ⟨rfl, hb11⟩
            have hX := hX.step hb11
            have kbxj := kbxj.step hb11
            clear n0 n1 b0 b1 b2 b3 b4 b5 j0 j1 j2 j3 j4 j5
            obtain ⟨j0, j1, j2, j3, j4, j5⟩ := ct_cells kbxj.b
            have n0 := hX.bn.cell 0
            have n1 := hX.bn.cell 1
            simp only [List.getElem?_toArray, List.getElem?_cons_zero, List.getElem?_cons_succ] at n0 n1
            have hK := hIs _ _ xj rj _ V11 (chk_two Hct.out Hcu.out) DJ.out Hxj.out.2.1 hv w3.out kbxj.i Hxj.out.2.2
            rw [CT.val_eq] at hK
            go_wp2_with (go_at_call 74; refine hK.mono ?_)
            clear hK
            rintro e V12 ⟨rfl, hb12⟩
            have hX := hX.step hb12
            go_wp2
            go_ret
            exact ⟨rfl, hX.below⟩
          | true =>
            have w1 : Hid (true = (t.holds n && u.holds n)) := by rw [Hvx.out, Hvy.out]; exact Lib.hid rfl
            have w2 : Hid (false = (u.holds n && !t.holds n)) := by rw [Hvx.out, Hvy.out]; exact Lib.hid rfl
            have w3 : Hid (true = (t.holds n || u.holds n)) := by rw [Hvx.out, Hvy.out]; exact Lib.hid rfl
            have hK := hIs _ _ xm 3 _ V9 (chk_two Hct.out Hcu.out) DM.out Hxm.out.2.1 hv w1.out kbxm.i Hxm.out.2.2
            rw [CT.val_eq] at hK
            go_wp2_with (go_at_call 74; refine hK.mono ?_)
            clear hK
            rintro e V10 ⟨rfl, hb10⟩
            have hX := hX.step hb10
            have kbxr := kbxr.step hb10
            have kbxj := kbxj.step hb10
            clear n0 n1 a0 a1 a2 a3 a4 a5 b0 b1 b2 b3 b4 b5 j0 j1 j2 j3 j4 j5
            obtain ⟨b0, b1, b2, b3, b4, b5⟩ := ct_cells kbxr.b
            obtain ⟨j0, j1, j2, j3, j4, j5⟩ := ct_cells kbxj.b
            have n0 := hX.bn.cell 0
            have n1 := hX.bn.cell 1
            simp only [List.getElem?_toArray, List.getElem?_cons_zero, List.getElem?_cons_succ] at n0 n1
            have hK := hIs _ _ xr 3 _ V10 (chk_two Hcu.out Hct.out) DR.out Hxr.out.2.1 hv w2.out kbxr.i Hxr.out.2.2
            rw [CT.val_eq] at hK
            go_wp2_with (go_at_call 74; refine hK.mono ?_)
            clear hK
            rintro e V11 ⟨rfl, hb11⟩
            have hX := hX.step hb11
            have kbxj := kbxj.step hb11
            clear n0 n1 b0 b1 b2 b3 b4 b5 j0 j1 j2 j3 j4 j5
            obtain ⟨j0, j1, j2, j3, j4, j5⟩ := ct_cells kbxj.b
            have n0 := hX.bn.cell 0
            have n1 := hX.bn.cell 1
            simp only [List.getElem?_toArray, List.getElem?_cons_zero, List.getElem?_cons_succ] at n0 n1
            have hK := hIs _ _ xj rj _ V11 (chk_two Hct.out Hcu.out) DJ.out Hxj.out.2.1 hv w3.out kbxj.i Hxj.out.2.2
            rw [CT.val_eq] at hK
            go_wp2_with (go_at_call 74; refine hK.mono ?_)
            clear hK
            rintro e V12 ⟨rfl, hb12⟩
            have hX := hX.step hb12
            go_wp2
            go_ret
            exact ⟨rfl, hX.below⟩
end Np
end Go.Proofs.YtohlhihhadbphaaGreatDoor

/- NamesLaws: the law. -/
namespace Go.Proofs.YtohlhihhadbphaaGreatDoor
open Go.RowKit Go.Shelf Go.Lib
namespace Np
theorem NRow.nil (W : World) (n : Nat) : NRow W n none [] := ⟨by simp, by simp, by simp⟩
set_option maxRecDepth 100000 in
set_option maxHeartbeats 5000000 in
theorem NamesLaws_any (t u : CT) (n : Name) (w : World) (hG : G w) (hIt : t.In w w.heap.size) (hIu : u.In w w.heap.size) :
    Calls Tryz.prog 6 #[t.val, u.val, n.val] w fun e w' => e = .returned (.bool true) ∧ Below w.heap.size w w' := by
  obtain ⟨W1, hW1⟩ : ∃ W1, ((w.alloc (.cells t.cells.toArray 26)).alloc (.cells u.cells.toArray 26)).alloc (.cells #[.string n.sp, .string n.lc] 23) = W1 := ⟨_, rfl⟩
  have hb1 : Below w.heap.size w W1 := by rw [← hW1]; exact (((Below.refl _ w).alloc (Nat.le_refl _) _).alloc (by simp) _).alloc (by simp; omega) _
  have hX : Bx3 t u n w W1 := by
    obtain ⟨d0, d1, d2⟩ : Blk W1 w.heap.size t.cells.toArray 26 ∧ Blk W1 (w.heap.size + 1) u.cells.toArray 26 ∧ Blk W1 (w.heap.size + 2) #[.string n.sp, .string n.lc] 23 := by rw [← hW1]; exact blk_third _ _ _ _ _ _ _
    exact ⟨hb1, d0, d1, d2, hIt.onw hb1, hIu.onw hb1⟩
  have hI : ∀ (x y : CT) (b : Bool) V, Below w.heap.size w V → x.In V V.heap.size → y.In V V.heap.size → x.depth ≤ 1000 → y.depth ≤ 1000 → x.check = 0 → y.check = 0 → incB x y = b → Calls Tryz.prog 26 #[x.val, y.val] V fun e w' => e = .returned (.tuple #[.bool b, .int .i64 0]) ∧ Below V.heap.size V w' := fun x y b V hV hx hy dx dy cx cy hb => by
    have := Includes_any x y V (hG.later hV) dx dy hx hy
    have e : (decide ((0 : Int) = 0) && nevB (fun n => y.holds n && !x.holds n) (candsOf [x, y] [])) = b := by rw [← hb]; unfold incB; simp
    rw [chk_two cx cy, e] at this
    exact this
  rw [val_n, CT.val_eq t, CT.val_eq u]
  clear hIt hIu
  rw [CT.cells_eq, CT.cells_eq] at hW1
  go_enter Tryz.func6, Tryz.ntmps6
  obtain ⟨c0, c1, c2, c3, c4, c5⟩ := ct_cells hX.bt
  obtain ⟨d0, d1, d2, d3, d4, d5⟩ := ct_cells hX.bu
  have hK := great_any t W1 hX.it
  rw [CT.val_eq t] at hK
  go_wp2_with (go_at_call 7; refine hK.mono ?_)
  clear hK hW1
  clear c0 c1 c2 c3 c4 c5 d0 d1 d2 d3 d4 d5
  rintro e V1 ⟨g, rfl, Hg, hbn⟩
  have hX := hX.step hbn
  clear hbn
  cases g with
  | true =>
    obtain ⟨c0, c1, c2, c3, c4, c5⟩ := ct_cells hX.bt
    obtain ⟨d0, d1, d2, d3, d4, d5⟩ := ct_cells hX.bu
    have hK := shown_any V1 (hG.later hX.below)
    go_wp2_with (go_at_call 8; refine hK.mono ?_)
    clear hK
    clear c0 c1 c2 c3 c4 c5 d0 d1 d2 d3 d4 d5
    rintro e V2 ⟨rfl, hbn⟩
    have hX := hX.step hbn
    clear hbn
    go_wp2
    go_ret
    exact ⟨rfl, hX.below⟩
  | false =>
    have ht : t.depth ≤ 1000 := Nat.le_trans (Hg.out rfl) (by omega)
    clear Hg
    obtain ⟨c0, c1, c2, c3, c4, c5⟩ := ct_cells hX.bt
    obtain ⟨d0, d1, d2, d3, d4, d5⟩ := ct_cells hX.bu
    have hK := great_any u V1 hX.iu
    rw [CT.val_eq u] at hK
    go_wp2_with (go_at_call 7; refine hK.mono ?_)
    clear hK
    clear c0 c1 c2 c3 c4 c5 d0 d1 d2 d3 d4 d5
    rintro e V3 ⟨g, rfl, Hg, hbn⟩
    have hX := hX.step hbn
    clear hbn
    cases g with
    | true =>
      obtain ⟨c0, c1, c2, c3, c4, c5⟩ := ct_cells hX.bt
      obtain ⟨d0, d1, d2, d3, d4, d5⟩ := ct_cells hX.bu
      have hK := shown_any V3 (hG.later hX.below)
      go_wp2_with (go_at_call 8; refine hK.mono ?_)
      clear hK
      clear c0 c1 c2 c3 c4 c5 d0 d1 d2 d3 d4 d5
      rintro e V4 ⟨rfl, hbn⟩
      have hX := hX.step hbn
      clear hbn
      go_wp2
      go_ret
      exact ⟨rfl, hX.below⟩
    | false =>
      have hu : u.depth ≤ 1000 := Nat.le_trans (Hg.out rfl) (by omega)
      clear Hg
      obtain ⟨c0, c1, c2, c3, c4, c5⟩ := ct_cells hX.bt
      obtain ⟨d0, d1, d2, d3, d4, d5⟩ := ct_cells hX.bu
      obtain ⟨r, hr⟩ : ∃ r, t.check = r := ⟨_, rfl⟩
      have Hct := Lib.hid hr
      have hK := Check_any t ht V3 hX.it
      rw [hr, CT.val_eq t] at hK
      go_wp2_with (go_at_call 11; refine hK.mono ?_)
      clear hK hr
      clear c0 c1 c2 c3 c4 c5 d0 d1 d2 d3 d4 d5
      rintro e V5 ⟨rfl, hbn⟩
      have hX := hX.step hbn
      clear hbn
      by_cases h0 : r = 0
      case neg =>
        have h1 : (r == 0) = false := by simpa using h0
        have h2 : (r != 0) = true := by simpa using h0
        clear h0
        obtain ⟨c0, c1, c2, c3, c4, c5⟩ := ct_cells hX.bt
        obtain ⟨d0, d1, d2, d3, d4, d5⟩ := ct_cells hX.bu
        have hK := shown_any V5 (hG.later hX.below)
        go_wp2_with (go_at_call 8; refine hK.mono ?_)
        clear hK h1 h2
        clear c0 c1 c2 c3 c4 c5 d0 d1 d2 d3 d4 d5
        rintro e V6 ⟨rfl, hbn⟩
        have hX := hX.step hbn
        clear hbn
        go_wp2
        go_ret
        exact ⟨rfl, hX.below⟩
      case pos =>
        subst h0
        obtain ⟨c0, c1, c2, c3, c4, c5⟩ := ct_cells hX.bt
        obtain ⟨d0, d1, d2, d3, d4, d5⟩ := ct_cells hX.bu
        obtain ⟨r, hr⟩ : ∃ r, u.check = r := ⟨_, rfl⟩
        have Hcu := Lib.hid hr
        have hK := Check_any u hu V5 hX.iu
        rw [hr, CT.val_eq u] at hK
        go_wp2_with (go_at_call 11; refine hK.mono ?_)
        clear hK hr
        clear c0 c1 c2 c3 c4 c5 d0 d1 d2 d3 d4 d5
        rintro e V7 ⟨rfl, hbn⟩
        have hX := hX.step hbn
        clear hbn
        by_cases h0 : r = 0
        case neg =>
          have h1 : (r == 0) = false := by simpa using h0
          have h2 : (r != 0) = true := by simpa using h0
          clear h0
          obtain ⟨c0, c1, c2, c3, c4, c5⟩ := ct_cells hX.bt
          obtain ⟨d0, d1, d2, d3, d4, d5⟩ := ct_cells hX.bu
          have hK := shown_any V7 (hG.later hX.below)
          go_wp2_with (go_at_call 8; refine hK.mono ?_)
          clear hK h1 h2
          clear c0 c1 c2 c3 c4 c5 d0 d1 d2 d3 d4 d5
          rintro e V8 ⟨rfl, hbn⟩
          have hX := hX.step hbn
          clear hbn
          go_wp2
          go_ret
          exact ⟨rfl, hX.below⟩
        case pos =>
          subst h0
          obtain ⟨one, hone⟩ : ∃ b, incB t u = b := ⟨_, rfl⟩
          obtain ⟨two, htwo⟩ : ∃ b, incB u t = b := ⟨_, rfl⟩
          have Hone := Lib.hid hone
          have Htwo := Lib.hid htwo
          have Hone1 : Hid (one = nevB (fun n => u.holds n && !t.holds n) (candsOf [t, u] [])) := Lib.hid (by rw [← Hone.out]; rfl)
          clear hone htwo
          obtain ⟨c0, c1, c2, c3, c4, c5⟩ := ct_cells hX.bt
          obtain ⟨d0, d1, d2, d3, d4, d5⟩ := ct_cells hX.bu
          have hK := Normal_any t V7 (hG.later hX.below) ht hX.it
          rw [CT.val_eq t] at hK
          go_wp2_with (go_at_call 15; refine hK.mono ?_)
          clear hK
          clear c0 c1 c2 c3 c4 c5 d0 d1 d2 d3 d4 d5
          rintro e V9 ⟨x, rx, rfl, Hx, hbn⟩
          have hX := hX.step hbn
          clear hbn
          obtain ⟨V10, hVV⟩ : ∃ V, V9.alloc (.cells x.cells.toArray 26) = V := ⟨_, rfl⟩
          have hm := BoxC.made (x := x) (V := V9) (inOn Hx.out.1 (Nat.le_refl _))
          rw [hVV] at hm
          obtain ⟨kbx, hbm⟩ := hm
          have hX := hX.step hbm
          rw [CT.cells_eq] at hVV
          rw [CT.val_eq x]
          obtain ⟨px, hpp⟩ : ∃ p, V9.heap.size = p := ⟨_, rfl⟩
          rw [hpp] at kbx
          clear hbm
          obtain ⟨c0, c1, c2, c3, c4, c5⟩ := ct_cells hX.bt
          obtain ⟨d0, d1, d2, d3, d4, d5⟩ := ct_cells hX.bu
          obtain ⟨a0, a1, a2, a3, a4, a5⟩ := ct_cells kbx.b
          have hK := Normal_any u V10 (hG.later hX.below) hu hX.iu
          rw [CT.val_eq u] at hK
          go_wp2_with (go_at_call 15; refine hK.mono ?_)
          clear hK hVV hpp
          clear c0 c1 c2 c3 c4 c5 d0 d1 d2 d3 d4 d5 a0 a1 a2 a3 a4 a5
          rintro e V11 ⟨y, ry, rfl, Hy, hbn⟩
          have hX := hX.step hbn
          have kbx := kbx.step hbn
          clear hbn
          obtain ⟨V12, hVV⟩ : ∃ V, V11.alloc (.cells y.cells.toArray 26) = V := ⟨_, rfl⟩
          have hm := BoxC.made (x := y) (V := V11) (inOn Hy.out.1 (Nat.le_refl _))
          rw [hVV] at hm
          obtain ⟨kby, hbm⟩ := hm
          have hX := hX.step hbm
          rw [CT.cells_eq] at hVV
          rw [CT.val_eq y]
          obtain ⟨py, hpp⟩ : ∃ p, V11.heap.size = p := ⟨_, rfl⟩
          rw [hpp] at kby
          have kbx := kbx.step hbm
          clear hbm
          obtain ⟨c0, c1, c2, c3, c4, c5⟩ := ct_cells hX.bt
          obtain ⟨d0, d1, d2, d3, d4, d5⟩ := ct_cells hX.bu
          obtain ⟨a0, a1, a2, a3, a4, a5⟩ := ct_cells kbx.b
          obtain ⟨b0, b1, b2, b3, b4, b5⟩ := ct_cells kby.b
          have hK := hI t u one V12 hX.below hX.it hX.iu ht hu Hct.out Hcu.out Hone.out
          rw [CT.val_eq t, CT.val_eq u] at hK
          go_wp2_with (go_at_call 26; refine hK.mono ?_)
          clear hK hVV hpp
          clear c0 c1 c2 c3 c4 c5 d0 d1 d2 d3 d4 d5 a0 a1 a2 a3 a4 a5 b0 b1 b2 b3 b4 b5
          rintro e V13 ⟨rfl, hbn⟩
          have hX := hX.step hbn
          have kbx := kbx.step hbn
          have kby := kby.step hbn
          clear hbn
          obtain ⟨c0, c1, c2, c3, c4, c5⟩ := ct_cells hX.bt
          obtain ⟨d0, d1, d2, d3, d4, d5⟩ := ct_cells hX.bu
          obtain ⟨a0, a1, a2, a3, a4, a5⟩ := ct_cells kbx.b
          obtain ⟨b0, b1, b2, b3, b4, b5⟩ := ct_cells kby.b
          have hK := hI u t two V13 hX.below hX.iu hX.it hu ht Hcu.out Hct.out Htwo.out
          rw [CT.val_eq t, CT.val_eq u] at hK
          go_wp2_with (go_at_call 26; refine hK.mono ?_)
          clear hK
          clear c0 c1 c2 c3 c4 c5 d0 d1 d2 d3 d4 d5 a0 a1 a2 a3 a4 a5 b0 b1 b2 b3 b4 b5
          rintro e V14 ⟨rfl, hbn⟩
          have hX := hX.step hbn
          have kbx := kbx.step hbn
          have kby := kby.step hbn
          clear hbn
          have dx : x.depth ≤ 1000 := Hx.out.2.2
          rcases normR_ok Hx.out.2.1 (chk_one Hct.out) (dec_one t) with ⟨h0, hnx, hsx⟩ | h3
          · subst h0
            have Hnx := Lib.hid hnx
            have Hsx := Lib.hid hsx
            have Hcx : Hid (x.check = 0) := Lib.hid (check_of_norm hnx hsx)
            clear hnx hsx
            rcases normR_ok Hy.out.2.1 (chk_one Hcu.out) (dec_one u) with ⟨h0, hny, hsy⟩ | h3
            · subst h0
              have Hny := Lib.hid hny
              clear hny hsy
              cases one with
              | false =>
                cases two with
                | false =>
                  obtain ⟨c0, c1, c2, c3, c4, c5⟩ := ct_cells hX.bt
                  obtain ⟨d0, d1, d2, d3, d4, d5⟩ := ct_cells hX.bu
                  obtain ⟨a0, a1, a2, a3, a4, a5⟩ := ct_cells kbx.b
                  obtain ⟨b0, b1, b2, b3, b4, b5⟩ := ct_cells kby.b
                  have Hs : Hid (sameC 40 x y = false) := Lib.hid (by rw [same_incs Hnx.out Hny.out (depth_small rfl Hsx.out), Hone.out, Htwo.out]; rfl)
                  have hK := SameClass_any x y V14 kbx.i kby.i
                  rw [Hs.out, CT.val_eq x, CT.val_eq y] at hK
                  go_wp2_with (go_at_call 36; refine hK.mono ?_)
                  clear hK
                  clear c0 c1 c2 c3 c4 c5 d0 d1 d2 d3 d4 d5 a0 a1 a2 a3 a4 a5 b0 b1 b2 b3 b4 b5
                  rintro e V15 ⟨rfl, hbn⟩
                  have hX := hX.step hbn
                  have kbx := kbx.step hbn
                  have kby := kby.step hbn
                  clear hbn
                  clear kby
                  obtain ⟨c0, c1, c2, c3, c4, c5⟩ := ct_cells hX.bt
                  obtain ⟨d0, d1, d2, d3, d4, d5⟩ := ct_cells hX.bu
                  obtain ⟨a0, a1, a2, a3, a4, a5⟩ := ct_cells kbx.b
                  have hK := hI x t true V15 hX.below kbx.i hX.it dx ht Hcx.out Hct.out (inc_norm Hnx.out).1
                  rw [CT.val_eq x, CT.val_eq t] at hK
                  go_wp2_with (go_at_call 26; refine hK.mono ?_)
                  clear hK
                  clear c0 c1 c2 c3 c4 c5 d0 d1 d2 d3 d4 d5 a0 a1 a2 a3 a4 a5
                  rintro e V16 ⟨rfl, hbn⟩
                  have hX := hX.step hbn
                  have kbx := kbx.step hbn
                  clear hbn
                  obtain ⟨c0, c1, c2, c3, c4, c5⟩ := ct_cells hX.bt
                  obtain ⟨d0, d1, d2, d3, d4, d5⟩ := ct_cells hX.bu
                  obtain ⟨a0, a1, a2, a3, a4, a5⟩ := ct_cells kbx.b
                  have hK := hI t x true V16 hX.below hX.it kbx.i ht dx Hct.out Hcx.out (inc_norm Hnx.out).2
                  rw [CT.val_eq x, CT.val_eq t] at hK
                  go_wp2_with (go_at_call 26; refine hK.mono ?_)
                  clear hK
                  clear c0 c1 c2 c3 c4 c5 d0 d1 d2 d3 d4 d5 a0 a1 a2 a3 a4 a5
                  rintro e V17 ⟨rfl, hbn⟩
                  have hX := hX.step hbn
                  have kbx := kbx.step hbn
                  clear hbn
                  obtain ⟨c0, c1, c2, c3, c4, c5⟩ := ct_cells hX.bt
                  obtain ⟨d0, d1, d2, d3, d4, d5⟩ := ct_cells hX.bu
                  obtain ⟨a0, a1, a2, a3, a4, a5⟩ := ct_cells kbx.b
                  have hK := Normal_any x V17 (hG.later hX.below) dx kbx.i
                  rw [CT.val_eq x] at hK
                  go_wp2_with (go_at_call 15; refine hK.mono ?_)
                  clear hK
                  clear c0 c1 c2 c3 c4 c5 d0 d1 d2 d3 d4 d5 a0 a1 a2 a3 a4 a5
                  rintro e V18 ⟨z, rz, rfl, Hz, hbn⟩
                  have hX := hX.step hbn
                  have kbx := kbx.step hbn
                  clear hbn
                  obtain ⟨V19, hVV⟩ : ∃ V, V18.alloc (.cells z.cells.toArray 26) = V := ⟨_, rfl⟩
                  have hm := BoxC.made (x := z) (V := V18) (inOn Hz.out.1 (Nat.le_refl _))
                  rw [hVV] at hm
                  obtain ⟨kbz, hbm⟩ := hm
                  have hX := hX.step hbm
                  rw [CT.cells_eq] at hVV
                  rw [CT.val_eq z]
                  obtain ⟨pz, hpp⟩ : ∃ p, V18.heap.size = p := ⟨_, rfl⟩
                  rw [hpp] at kbz
                  have kbx := kbx.step hbm
                  clear hbm
                  obtain ⟨hez, h0⟩ := norm_again Hnx.out Hsx.out Hz.out.2.1
                  subst h0
                  have Hez := Lib.hid hez
                  have dz : z.depth ≤ 40 := depth_small hez Hsx.out
                  clear hez
                  obtain ⟨c0, c1, c2, c3, c4, c5⟩ := ct_cells hX.bt
                  obtain ⟨d0, d1, d2, d3, d4, d5⟩ := ct_cells hX.bu
                  obtain ⟨a0, a1, a2, a3, a4, a5⟩ := ct_cells kbx.b
                  obtain ⟨b0, b1, b2, b3, b4, b5⟩ := ct_cells kbz.b
                  have hK := same_true z x V19 Hez.out dz kbz.i kbx.i
                  rw [CT.val_eq x, CT.val_eq z] at hK
                  go_wp2_with (go_at_call 36; refine hK.mono ?_)
                  clear hK hVV hpp
                  clear c0 c1 c2 c3 c4 c5 d0 d1 d2 d3 d4 d5 a0 a1 a2 a3 a4 a5 b0 b1 b2 b3 b4 b5
                  rintro e V20 ⟨rfl, hbn⟩
                  have hX := hX.step hbn
                  have kbx := kbx.step hbn
                  have kbz := kbz.step hbn
                  clear hbn
                  clear kbx kbz
                  obtain ⟨nv, hnv⟩ : ∃ v, nevB t.holds (candsOf [t] []) = v := ⟨_, rfl⟩
                  obtain ⟨wn, hwn⟩ : ∃ m, witN t [] = m := ⟨_, rfl⟩
                  have Hwn := Lib.hid hwn
                  have Hnv := Lib.hid hnv
                  clear hnv hwn
                  cases nv with
                  | true =>
                    obtain ⟨c0, c1, c2, c3, c4, c5⟩ := ct_cells hX.bt
                    obtain ⟨d0, d1, d2, d3, d4, d5⟩ := ct_cells hX.bu
                    have hK := Witness_any t none 0 [] V20 (hG.later hX.below) ht hX.it (NRow.nil _ _) (by simp)
                    rw [List.length_nil, Hwn.out, (wit_facts Hct.out).1 Hnv.out, CT.val_eq t] at hK
                    go_wp2_with (go_at_call 30; refine hK.mono ?_)
                    clear hK
                    clear c0 c1 c2 c3 c4 c5 d0 d1 d2 d3 d4 d5
                    rintro e V21 ⟨rfl, hbn⟩
                    have hX := hX.step hbn
                    clear hbn
                    rw [val_n wn]
                    obtain ⟨V22, hVV⟩ : ∃ V, V21.alloc (.cells #[.string wn.sp, .string wn.lc] 23) = V := ⟨_, rfl⟩
                    have hbm : Below V21.heap.size V21 V22 := by rw [← hVV]; exact (Below.refl _ _).alloc (Nat.le_refl _) _
                    have kw : Blk V22 V21.heap.size #[.string wn.sp, .string wn.lc] 23 := by rw [← hVV]; exact Blk.new _ _ _
                    obtain ⟨pw, hpp⟩ : ∃ p, V21.heap.size = p := ⟨_, rfl⟩
                    rw [hpp] at kw
                    have hX := hX.step hbm
                    clear hbm
                    obtain ⟨c0, c1, c2, c3, c4, c5⟩ := ct_cells hX.bt
                    obtain ⟨d0, d1, d2, d3, d4, d5⟩ := ct_cells hX.bu
                    have hEm : Calls Tryz.prog 24 #[t.val] V22 fun e w' => e = .returned (.tuple #[.bool true, .int .i64 0]) ∧ Below V22.heap.size V22 w' := by
                      have := Empty_any t V22 (hG.later hX.below) ht hX.it
                      rw [chk_one Hct.out, Hnv.out] at this
                      simpa using this
                    have hK := hEm
                    rw [CT.val_eq t] at hK
                    go_wp2_with (go_at_call 24; refine hK.mono ?_)
                    clear hK hEm hVV hpp
                    clear c0 c1 c2 c3 c4 c5 d0 d1 d2 d3 d4 d5
                    rintro e V23 ⟨rfl, hbn⟩
                    have hX := hX.step hbn
                    have kw := kw.below hbn
                    clear hbn
                    clear kw
                    obtain ⟨c0, c1, c2, c3, c4, c5⟩ := ct_cells hX.bt
                    obtain ⟨d0, d1, d2, d3, d4, d5⟩ := ct_cells hX.bu
                    have n0 := hX.bn.cell 0
                    have n1 := hX.bn.cell 1
                    simp only [List.getElem?_toArray, List.getElem?_cons_zero, List.getElem?_cons_succ] at n0 n1
                    have hK := pieces_any t u n _ V23 (hG.later hX.below) ht hu hX.it hX.iu Hct.out Hcu.out Hone1.out
                    rw [CT.val_eq t, CT.val_eq u, val_n] at hK
                    go_wp2_with (go_at_call 37; refine hK.mono ?_)
                    clear hK n0 n1
                    clear c0 c1 c2 c3 c4 c5 d0 d1 d2 d3 d4 d5
                    rintro e V24 ⟨rfl, hbn⟩
                    have hX := hX.step hbn
                    clear hbn
                    obtain ⟨c0, c1, c2, c3, c4, c5⟩ := ct_cells hX.bt
                    obtain ⟨d0, d1, d2, d3, d4, d5⟩ := ct_cells hX.bu
                    have hK := shown_any V24 (hG.later hX.below)
                    go_wp2_with (go_at_call 8; refine hK.mono ?_)
                    clear hK
                    clear c0 c1 c2 c3 c4 c5 d0 d1 d2 d3 d4 d5
                    rintro e V25 ⟨rfl, hbn⟩
                    have hX := hX.step hbn
                    clear hbn
                    go_wp2
                    go_ret
                    exact ⟨rfl, hX.below⟩
                  | false =>
                    obtain ⟨c0, c1, c2, c3, c4, c5⟩ := ct_cells hX.bt
                    obtain ⟨d0, d1, d2, d3, d4, d5⟩ := ct_cells hX.bu
                    have hK := Witness_any t none 0 [] V20 (hG.later hX.below) ht hX.it (NRow.nil _ _) (by simp)
                    rw [List.length_nil, Hwn.out, ((wit_facts Hct.out).2 Hnv.out).1, CT.val_eq t] at hK
                    go_wp2_with (go_at_call 30; refine hK.mono ?_)
                    clear hK
                    clear c0 c1 c2 c3 c4 c5 d0 d1 d2 d3 d4 d5
                    rintro e V26 ⟨rfl, hbn⟩
                    have hX := hX.step hbn
                    clear hbn
                    rw [val_n wn]
                    obtain ⟨V27, hVV⟩ : ∃ V, V26.alloc (.cells #[.string wn.sp, .string wn.lc] 23) = V := ⟨_, rfl⟩
                    have hbm : Below V26.heap.size V26 V27 := by rw [← hVV]; exact (Below.refl _ _).alloc (Nat.le_refl _) _
                    have kw : Blk V27 V26.heap.size #[.string wn.sp, .string wn.lc] 23 := by rw [← hVV]; exact Blk.new _ _ _
                    obtain ⟨pw, hpp⟩ : ∃ p, V26.heap.size = p := ⟨_, rfl⟩
                    rw [hpp] at kw
                    have hX := hX.step hbm
                    clear hbm
                    obtain ⟨c0, c1, c2, c3, c4, c5⟩ := ct_cells hX.bt
                    obtain ⟨d0, d1, d2, d3, d4, d5⟩ := ct_cells hX.bu
                    have hEm : Calls Tryz.prog 24 #[t.val] V27 fun e w' => e = .returned (.tuple #[.bool false, .int .i64 0]) ∧ Below V27.heap.size V27 w' := by
                      have := Empty_any t V27 (hG.later hX.below) ht hX.it
                      rw [chk_one Hct.out, Hnv.out] at this
                      simpa using this
                    have hK := hEm
                    rw [CT.val_eq t] at hK
                    go_wp2_with (go_at_call 24; refine hK.mono ?_)
                    clear hK hEm hVV hpp
                    clear c0 c1 c2 c3 c4 c5 d0 d1 d2 d3 d4 d5
                    rintro e V28 ⟨rfl, hbn⟩
                    have hX := hX.step hbn
                    have kw := kw.below hbn
                    clear hbn
                    obtain ⟨c0, c1, c2, c3, c4, c5⟩ := ct_cells hX.bt
                    obtain ⟨d0, d1, d2, d3, d4, d5⟩ := ct_cells hX.bu
                    have e0 := kw.cell 0
                    have e1 := kw.cell 1
                    simp only [List.getElem?_toArray, List.getElem?_cons_zero, List.getElem?_cons_succ] at e0 e1
                    have hK := Has_any t wn V28 ht hX.it
                    rw [← Hwn.out, ((wit_facts Hct.out).2 Hnv.out).2, Hwn.out, CT.val_eq t, val_n] at hK
                    go_wp2_with (go_at_call 9; refine hK.mono ?_)
                    clear hK e0 e1
                    clear c0 c1 c2 c3 c4 c5 d0 d1 d2 d3 d4 d5
                    rintro e V29 ⟨rfl, hbn⟩
                    have hX := hX.step hbn
                    clear hbn
                    clear kw
                    obtain ⟨c0, c1, c2, c3, c4, c5⟩ := ct_cells hX.bt
                    obtain ⟨d0, d1, d2, d3, d4, d5⟩ := ct_cells hX.bu
                    have n0 := hX.bn.cell 0
                    have n1 := hX.bn.cell 1
                    simp only [List.getElem?_toArray, List.getElem?_cons_zero, List.getElem?_cons_succ] at n0 n1
                    have hK := pieces_any t u n _ V29 (hG.later hX.below) ht hu hX.it hX.iu Hct.out Hcu.out Hone1.out
                    rw [CT.val_eq t, CT.val_eq u, val_n] at hK
                    go_wp2_with (go_at_call 37; refine hK.mono ?_)
                    clear hK n0 n1
                    clear c0 c1 c2 c3 c4 c5 d0 d1 d2 d3 d4 d5
                    rintro e V30 ⟨rfl, hbn⟩
                    have hX := hX.step hbn
                    clear hbn
                    obtain ⟨c0, c1, c2, c3, c4, c5⟩ := ct_cells hX.bt
                    obtain ⟨d0, d1, d2, d3, d4, d5⟩ := ct_cells hX.bu
                    have hK := shown_any V30 (hG.later hX.below)
                    go_wp2_with (go_at_call 8; refine hK.mono ?_)
                    clear hK
                    clear c0 c1 c2 c3 c4 c5 d0 d1 d2 d3 d4 d5
                    rintro e V31 ⟨rfl, hbn⟩
                    have hX := hX.step hbn
                    clear hbn
                    go_wp2
                    go_ret
                    exact ⟨rfl, hX.below⟩
                | true =>
                  obtain ⟨c0, c1, c2, c3, c4, c5⟩ := ct_cells hX.bt
                  obtain ⟨d0, d1, d2, d3, d4, d5⟩ := ct_cells hX.bu
                  obtain ⟨a0, a1, a2, a3, a4, a5⟩ := ct_cells kbx.b
                  obtain ⟨b0, b1, b2, b3, b4, b5⟩ := ct_cells kby.b
                  have Hs : Hid (sameC 40 x y = false) := Lib.hid (by rw [same_incs Hnx.out Hny.out (depth_small rfl Hsx.out), Hone.out, Htwo.out]; rfl)
                  have hK := SameClass_any x y V14 kbx.i kby.i
                  rw [Hs.out, CT.val_eq x, CT.val_eq y] at hK
                  go_wp2_with (go_at_call 36; refine hK.mono ?_)
                  clear hK
                  clear c0 c1 c2 c3 c4 c5 d0 d1 d2 d3 d4 d5 a0 a1 a2 a3 a4 a5 b0 b1 b2 b3 b4 b5
                  rintro e V32 ⟨rfl, hbn⟩
                  have hX := hX.step hbn
                  have kbx := kbx.step hbn
                  have kby := kby.step hbn
                  clear hbn
                  clear kby
                  obtain ⟨c0, c1, c2, c3, c4, c5⟩ := ct_cells hX.bt
                  obtain ⟨d0, d1, d2, d3, d4, d5⟩ := ct_cells hX.bu
                  obtain ⟨a0, a1, a2, a3, a4, a5⟩ := ct_cells kbx.b
                  have hK := hI x t true V32 hX.below kbx.i hX.it dx ht Hcx.out Hct.out (inc_norm Hnx.out).1
                  rw [CT.val_eq x, CT.val_eq t] at hK
                  go_wp2_with (go_at_call 26; refine hK.mono ?_)
                  clear hK
                  clear c0 c1 c2 c3 c4 c5 d0 d1 d2 d3 d4 d5 a0 a1 a2 a3 a4 a5
                  rintro e V33 ⟨rfl, hbn⟩
                  have hX := hX.step hbn
                  have kbx := kbx.step hbn
                  clear hbn
                  obtain ⟨c0, c1, c2, c3, c4, c5⟩ := ct_cells hX.bt
                  obtain ⟨d0, d1, d2, d3, d4, d5⟩ := ct_cells hX.bu
                  obtain ⟨a0, a1, a2, a3, a4, a5⟩ := ct_cells kbx.b
                  have hK := hI t x true V33 hX.below hX.it kbx.i ht dx Hct.out Hcx.out (inc_norm Hnx.out).2
                  rw [CT.val_eq x, CT.val_eq t] at hK
                  go_wp2_with (go_at_call 26; refine hK.mono ?_)
                  clear hK
                  clear c0 c1 c2 c3 c4 c5 d0 d1 d2 d3 d4 d5 a0 a1 a2 a3 a4 a5
                  rintro e V34 ⟨rfl, hbn⟩
                  have hX := hX.step hbn
                  have kbx := kbx.step hbn
                  clear hbn
                  obtain ⟨c0, c1, c2, c3, c4, c5⟩ := ct_cells hX.bt
                  obtain ⟨d0, d1, d2, d3, d4, d5⟩ := ct_cells hX.bu
                  obtain ⟨a0, a1, a2, a3, a4, a5⟩ := ct_cells kbx.b
                  have hK := Normal_any x V34 (hG.later hX.below) dx kbx.i
                  rw [CT.val_eq x] at hK
                  go_wp2_with (go_at_call 15; refine hK.mono ?_)
                  clear hK
                  clear c0 c1 c2 c3 c4 c5 d0 d1 d2 d3 d4 d5 a0 a1 a2 a3 a4 a5
                  rintro e V35 ⟨z, rz, rfl, Hz, hbn⟩
                  have hX := hX.step hbn
                  have kbx := kbx.step hbn
                  clear hbn
                  obtain ⟨V36, hVV⟩ : ∃ V, V35.alloc (.cells z.cells.toArray 26) = V := ⟨_, rfl⟩
                  have hm := BoxC.made (x := z) (V := V35) (inOn Hz.out.1 (Nat.le_refl _))
                  rw [hVV] at hm
                  obtain ⟨kbz, hbm⟩ := hm
                  have hX := hX.step hbm
                  rw [CT.cells_eq] at hVV
                  rw [CT.val_eq z]
                  obtain ⟨pz, hpp⟩ : ∃ p, V35.heap.size = p := ⟨_, rfl⟩
                  rw [hpp] at kbz
                  have kbx := kbx.step hbm
                  clear hbm
                  obtain ⟨hez, h0⟩ := norm_again Hnx.out Hsx.out Hz.out.2.1
                  subst h0
                  have Hez := Lib.hid hez
                  have dz : z.depth ≤ 40 := depth_small hez Hsx.out
                  clear hez
                  obtain ⟨c0, c1, c2, c3, c4, c5⟩ := ct_cells hX.bt
                  obtain ⟨d0, d1, d2, d3, d4, d5⟩ := ct_cells hX.bu
                  obtain ⟨a0, a1, a2, a3, a4, a5⟩ := ct_cells kbx.b
                  obtain ⟨b0, b1, b2, b3, b4, b5⟩ := ct_cells kbz.b
                  have hK := same_true z x V36 Hez.out dz kbz.i kbx.i
                  rw [CT.val_eq x, CT.val_eq z] at hK
                  go_wp2_with (go_at_call 36; refine hK.mono ?_)
                  clear hK hVV hpp
                  clear c0 c1 c2 c3 c4 c5 d0 d1 d2 d3 d4 d5 a0 a1 a2 a3 a4 a5 b0 b1 b2 b3 b4 b5
                  rintro e V37 ⟨rfl, hbn⟩
                  have hX := hX.step hbn
                  have kbx := kbx.step hbn
                  have kbz := kbz.step hbn
                  clear hbn
                  clear kbx kbz
                  obtain ⟨nv, hnv⟩ : ∃ v, nevB t.holds (candsOf [t] []) = v := ⟨_, rfl⟩
                  obtain ⟨wn, hwn⟩ : ∃ m, witN t [] = m := ⟨_, rfl⟩
                  have Hwn := Lib.hid hwn
                  have Hnv := Lib.hid hnv
                  clear hnv hwn
                  cases nv with
                  | true =>
                    obtain ⟨c0, c1, c2, c3, c4, c5⟩ := ct_cells hX.bt
                    obtain ⟨d0, d1, d2, d3, d4, d5⟩ := ct_cells hX.bu
                    have hK := Witness_any t none 0 [] V37 (hG.later hX.below) ht hX.it (NRow.nil _ _) (by simp)
                    rw [List.length_nil, Hwn.out, (wit_facts Hct.out).1 Hnv.out, CT.val_eq t] at hK
                    go_wp2_with (go_at_call 30; refine hK.mono ?_)
                    clear hK
                    clear c0 c1 c2 c3 c4 c5 d0 d1 d2 d3 d4 d5
                    rintro e V38 ⟨rfl, hbn⟩
                    have hX := hX.step hbn
                    clear hbn
                    rw [val_n wn]
                    obtain ⟨V39, hVV⟩ : ∃ V, V38.alloc (.cells #[.string wn.sp, .string wn.lc] 23) = V := ⟨_, rfl⟩
                    have hbm : Below V38.heap.size V38 V39 := by rw [← hVV]; exact (Below.refl _ _).alloc (Nat.le_refl _) _
                    have kw : Blk V39 V38.heap.size #[.string wn.sp, .string wn.lc] 23 := by rw [← hVV]; exact Blk.new _ _ _
                    obtain ⟨pw, hpp⟩ : ∃ p, V38.heap.size = p := ⟨_, rfl⟩
                    rw [hpp] at kw
                    have hX := hX.step hbm
                    clear hbm
                    obtain ⟨c0, c1, c2, c3, c4, c5⟩ := ct_cells hX.bt
                    obtain ⟨d0, d1, d2, d3, d4, d5⟩ := ct_cells hX.bu
                    have hEm : Calls Tryz.prog 24 #[t.val] V39 fun e w' => e = .returned (.tuple #[.bool true, .int .i64 0]) ∧ Below V39.heap.size V39 w' := by
                      have := Empty_any t V39 (hG.later hX.below) ht hX.it
                      rw [chk_one Hct.out, Hnv.out] at this
                      simpa using this
                    have hK := hEm
                    rw [CT.val_eq t] at hK
                    go_wp2_with (go_at_call 24; refine hK.mono ?_)
                    clear hK hEm hVV hpp
                    clear c0 c1 c2 c3 c4 c5 d0 d1 d2 d3 d4 d5
                    rintro e V40 ⟨rfl, hbn⟩
                    have hX := hX.step hbn
                    have kw := kw.below hbn
                    clear hbn
                    clear kw
                    obtain ⟨c0, c1, c2, c3, c4, c5⟩ := ct_cells hX.bt
                    obtain ⟨d0, d1, d2, d3, d4, d5⟩ := ct_cells hX.bu
                    have n0 := hX.bn.cell 0
                    have n1 := hX.bn.cell 1
                    simp only [List.getElem?_toArray, List.getElem?_cons_zero, List.getElem?_cons_succ] at n0 n1
                    have hK := pieces_any t u n _ V40 (hG.later hX.below) ht hu hX.it hX.iu Hct.out Hcu.out Hone1.out
                    rw [CT.val_eq t, CT.val_eq u, val_n] at hK
                    go_wp2_with (go_at_call 37; refine hK.mono ?_)
                    clear hK n0 n1
                    clear c0 c1 c2 c3 c4 c5 d0 d1 d2 d3 d4 d5
                    rintro e V41 ⟨rfl, hbn⟩
                    have hX := hX.step hbn
                    clear hbn
                    obtain ⟨c0, c1, c2, c3, c4, c5⟩ := ct_cells hX.bt
                    obtain ⟨d0, d1, d2, d3, d4, d5⟩ := ct_cells hX.bu
                    have hK := shown_any V41 (hG.later hX.below)
                    go_wp2_with (go_at_call 8; refine hK.mono ?_)
                    clear hK
                    clear c0 c1 c2 c3 c4 c5 d0 d1 d2 d3 d4 d5
                    rintro e V42 ⟨rfl, hbn⟩
                    have hX := hX.step hbn
                    clear hbn
                    go_wp2
                    go_ret
                    exact ⟨rfl, hX.below⟩
                  | false =>
                    obtain ⟨c0, c1, c2, c3, c4, c5⟩ := ct_cells hX.bt
                    obtain ⟨d0, d1, d2, d3, d4, d5⟩ := ct_cells hX.bu
                    have hK := Witness_any t none 0 [] V37 (hG.later hX.below) ht hX.it (NRow.nil _ _) (by simp)
                    rw [List.length_nil, Hwn.out, ((wit_facts Hct.out).2 Hnv.out).1, CT.val_eq t] at hK
                    go_wp2_with (go_at_call 30; refine hK.mono ?_)
                    clear hK
                    clear c0 c1 c2 c3 c4 c5 d0 d1 d2 d3 d4 d5
                    rintro e V43 ⟨rfl, hbn⟩
                    have hX := hX.step hbn
                    clear hbn
                    rw [val_n wn]
                    obtain ⟨V44, hVV⟩ : ∃ V, V43.alloc (.cells #[.string wn.sp, .string wn.lc] 23) = V := ⟨_, rfl⟩
                    have hbm : Below V43.heap.size V43 V44 := by rw [← hVV]; exact (Below.refl _ _).alloc (Nat.le_refl _) _
                    have kw : Blk V44 V43.heap.size #[.string wn.sp, .string wn.lc] 23 := by rw [← hVV]; exact Blk.new _ _ _
                    obtain ⟨pw, hpp⟩ : ∃ p, V43.heap.size = p := ⟨_, rfl⟩
                    rw [hpp] at kw
                    have hX := hX.step hbm
                    clear hbm
                    obtain ⟨c0, c1, c2, c3, c4, c5⟩ := ct_cells hX.bt
                    obtain ⟨d0, d1, d2, d3, d4, d5⟩ := ct_cells hX.bu
                    have hEm : Calls Tryz.prog 24 #[t.val] V44 fun e w' => e = .returned (.tuple #[.bool false, .int .i64 0]) ∧ Below V44.heap.size V44 w' := by
                      have := Empty_any t V44 (hG.later hX.below) ht hX.it
                      rw [chk_one Hct.out, Hnv.out] at this
                      simpa using this
                    have hK := hEm
                    rw [CT.val_eq t] at hK
                    go_wp2_with (go_at_call 24; refine hK.mono ?_)
                    clear hK hEm hVV hpp
                    clear c0 c1 c2 c3 c4 c5 d0 d1 d2 d3 d4 d5
                    rintro e V45 ⟨rfl, hbn⟩
                    have hX := hX.step hbn
                    have kw := kw.below hbn
                    clear hbn
                    obtain ⟨c0, c1, c2, c3, c4, c5⟩ := ct_cells hX.bt
                    obtain ⟨d0, d1, d2, d3, d4, d5⟩ := ct_cells hX.bu
                    have e0 := kw.cell 0
                    have e1 := kw.cell 1
                    simp only [List.getElem?_toArray, List.getElem?_cons_zero, List.getElem?_cons_succ] at e0 e1
                    have hK := Has_any t wn V45 ht hX.it
                    rw [← Hwn.out, ((wit_facts Hct.out).2 Hnv.out).2, Hwn.out, CT.val_eq t, val_n] at hK
                    go_wp2_with (go_at_call 9; refine hK.mono ?_)
                    clear hK e0 e1
                    clear c0 c1 c2 c3 c4 c5 d0 d1 d2 d3 d4 d5
                    rintro e V46 ⟨rfl, hbn⟩
                    have hX := hX.step hbn
                    clear hbn
                    clear kw
                    obtain ⟨c0, c1, c2, c3, c4, c5⟩ := ct_cells hX.bt
                    obtain ⟨d0, d1, d2, d3, d4, d5⟩ := ct_cells hX.bu
                    have n0 := hX.bn.cell 0
                    have n1 := hX.bn.cell 1
                    simp only [List.getElem?_toArray, List.getElem?_cons_zero, List.getElem?_cons_succ] at n0 n1
                    have hK := pieces_any t u n _ V46 (hG.later hX.below) ht hu hX.it hX.iu Hct.out Hcu.out Hone1.out
                    rw [CT.val_eq t, CT.val_eq u, val_n] at hK
                    go_wp2_with (go_at_call 37; refine hK.mono ?_)
                    clear hK n0 n1
                    clear c0 c1 c2 c3 c4 c5 d0 d1 d2 d3 d4 d5
                    rintro e V47 ⟨rfl, hbn⟩
                    have hX := hX.step hbn
                    clear hbn
                    obtain ⟨c0, c1, c2, c3, c4, c5⟩ := ct_cells hX.bt
                    obtain ⟨d0, d1, d2, d3, d4, d5⟩ := ct_cells hX.bu
                    have hK := shown_any V47 (hG.later hX.below)
                    go_wp2_with (go_at_call 8; refine hK.mono ?_)
                    clear hK
                    clear c0 c1 c2 c3 c4 c5 d0 d1 d2 d3 d4 d5
                    rintro e V48 ⟨rfl, hbn⟩
                    have hX := hX.step hbn
                    clear hbn
                    go_wp2
                    go_ret
                    exact ⟨rfl, hX.below⟩
              | true =>
                cases two with
                | false =>
                  obtain ⟨c0, c1, c2, c3, c4, c5⟩ := ct_cells hX.bt
                  obtain ⟨d0, d1, d2, d3, d4, d5⟩ := ct_cells hX.bu
                  obtain ⟨a0, a1, a2, a3, a4, a5⟩ := ct_cells kbx.b
                  obtain ⟨b0, b1, b2, b3, b4, b5⟩ := ct_cells kby.b
                  have Hs : Hid (sameC 40 x y = false) := Lib.hid (by rw [same_incs Hnx.out Hny.out (depth_small rfl Hsx.out), Hone.out, Htwo.out]; rfl)
                  have hK := SameClass_any x y V14 kbx.i kby.i
                  rw [Hs.out, CT.val_eq x, CT.val_eq y] at hK
                  go_wp2_with (go_at_call 36; refine hK.mono ?_)
                  clear hK
                  clear c0 c1 c2 c3 c4 c5 d0 d1 d2 d3 d4 d5 a0 a1 a2 a3 a4 a5 b0 b1 b2 b3 b4 b5
                  rintro e V49 ⟨rfl, hbn⟩
                  have hX := hX.step hbn
                  have kbx := kbx.step hbn
                  have kby := kby.step hbn
                  clear hbn
                  clear kby
                  obtain ⟨c0, c1, c2, c3, c4, c5⟩ := ct_cells hX.bt
                  obtain ⟨d0, d1, d2, d3, d4, d5⟩ := ct_cells hX.bu
                  obtain ⟨a0, a1, a2, a3, a4, a5⟩ := ct_cells kbx.b
                  have hK := hI x t true V49 hX.below kbx.i hX.it dx ht Hcx.out Hct.out (inc_norm Hnx.out).1
                  rw [CT.val_eq x, CT.val_eq t] at hK
                  go_wp2_with (go_at_call 26; refine hK.mono ?_)
                  clear hK
                  clear c0 c1 c2 c3 c4 c5 d0 d1 d2 d3 d4 d5 a0 a1 a2 a3 a4 a5
                  rintro e V50 ⟨rfl, hbn⟩
                  have hX := hX.step hbn
                  have kbx := kbx.step hbn
                  clear hbn
                  obtain ⟨c0, c1, c2, c3, c4, c5⟩ := ct_cells hX.bt
                  obtain ⟨d0, d1, d2, d3, d4, d5⟩ := ct_cells hX.bu
                  obtain ⟨a0, a1, a2, a3, a4, a5⟩ := ct_cells kbx.b
                  have hK := hI t x true V50 hX.below hX.it kbx.i ht dx Hct.out Hcx.out (inc_norm Hnx.out).2
                  rw [CT.val_eq x, CT.val_eq t] at hK
                  go_wp2_with (go_at_call 26; refine hK.mono ?_)
                  clear hK
                  clear c0 c1 c2 c3 c4 c5 d0 d1 d2 d3 d4 d5 a0 a1 a2 a3 a4 a5
                  rintro e V51 ⟨rfl, hbn⟩
                  have hX := hX.step hbn
                  have kbx := kbx.step hbn
                  clear hbn
                  obtain ⟨c0, c1, c2, c3, c4, c5⟩ := ct_cells hX.bt
                  obtain ⟨d0, d1, d2, d3, d4, d5⟩ := ct_cells hX.bu
                  obtain ⟨a0, a1, a2, a3, a4, a5⟩ := ct_cells kbx.b
                  have hK := Normal_any x V51 (hG.later hX.below) dx kbx.i
                  rw [CT.val_eq x] at hK
                  go_wp2_with (go_at_call 15; refine hK.mono ?_)
                  clear hK
                  clear c0 c1 c2 c3 c4 c5 d0 d1 d2 d3 d4 d5 a0 a1 a2 a3 a4 a5
                  rintro e V52 ⟨z, rz, rfl, Hz, hbn⟩
                  have hX := hX.step hbn
                  have kbx := kbx.step hbn
                  clear hbn
                  obtain ⟨V53, hVV⟩ : ∃ V, V52.alloc (.cells z.cells.toArray 26) = V := ⟨_, rfl⟩
                  have hm := BoxC.made (x := z) (V := V52) (inOn Hz.out.1 (Nat.le_refl _))
                  rw [hVV] at hm
                  obtain ⟨kbz, hbm⟩ := hm
                  have hX := hX.step hbm
                  rw [CT.cells_eq] at hVV
                  rw [CT.val_eq z]
                  obtain ⟨pz, hpp⟩ : ∃ p, V52.heap.size = p := ⟨_, rfl⟩
                  rw [hpp] at kbz
                  have kbx := kbx.step hbm
                  clear hbm
                  obtain ⟨hez, h0⟩ := norm_again Hnx.out Hsx.out Hz.out.2.1
                  subst h0
                  have Hez := Lib.hid hez
                  have dz : z.depth ≤ 40 := depth_small hez Hsx.out
                  clear hez
                  obtain ⟨c0, c1, c2, c3, c4, c5⟩ := ct_cells hX.bt
                  obtain ⟨d0, d1, d2, d3, d4, d5⟩ := ct_cells hX.bu
                  obtain ⟨a0, a1, a2, a3, a4, a5⟩ := ct_cells kbx.b
                  obtain ⟨b0, b1, b2, b3, b4, b5⟩ := ct_cells kbz.b
                  have hK := same_true z x V53 Hez.out dz kbz.i kbx.i
                  rw [CT.val_eq x, CT.val_eq z] at hK
                  go_wp2_with (go_at_call 36; refine hK.mono ?_)
                  clear hK hVV hpp
                  clear c0 c1 c2 c3 c4 c5 d0 d1 d2 d3 d4 d5 a0 a1 a2 a3 a4 a5 b0 b1 b2 b3 b4 b5
                  rintro e V54 ⟨rfl, hbn⟩
                  have hX := hX.step hbn
                  have kbx := kbx.step hbn
                  have kbz := kbz.step hbn
                  clear hbn
                  clear kbx kbz
                  obtain ⟨nv, hnv⟩ : ∃ v, nevB t.holds (candsOf [t] []) = v := ⟨_, rfl⟩
                  obtain ⟨wn, hwn⟩ : ∃ m, witN t [] = m := ⟨_, rfl⟩
                  have Hwn := Lib.hid hwn
                  have Hnv := Lib.hid hnv
                  clear hnv hwn
                  cases nv with
                  | true =>
                    obtain ⟨c0, c1, c2, c3, c4, c5⟩ := ct_cells hX.bt
                    obtain ⟨d0, d1, d2, d3, d4, d5⟩ := ct_cells hX.bu
                    have hK := Witness_any t none 0 [] V54 (hG.later hX.below) ht hX.it (NRow.nil _ _) (by simp)
                    rw [List.length_nil, Hwn.out, (wit_facts Hct.out).1 Hnv.out, CT.val_eq t] at hK
                    go_wp2_with (go_at_call 30; refine hK.mono ?_)
                    clear hK
                    clear c0 c1 c2 c3 c4 c5 d0 d1 d2 d3 d4 d5
                    rintro e V55 ⟨rfl, hbn⟩
                    have hX := hX.step hbn
                    clear hbn
                    rw [val_n wn]
                    obtain ⟨V56, hVV⟩ : ∃ V, V55.alloc (.cells #[.string wn.sp, .string wn.lc] 23) = V := ⟨_, rfl⟩
                    have hbm : Below V55.heap.size V55 V56 := by rw [← hVV]; exact (Below.refl _ _).alloc (Nat.le_refl _) _
                    have kw : Blk V56 V55.heap.size #[.string wn.sp, .string wn.lc] 23 := by rw [← hVV]; exact Blk.new _ _ _
                    obtain ⟨pw, hpp⟩ : ∃ p, V55.heap.size = p := ⟨_, rfl⟩
                    rw [hpp] at kw
                    have hX := hX.step hbm
                    clear hbm
                    obtain ⟨c0, c1, c2, c3, c4, c5⟩ := ct_cells hX.bt
                    obtain ⟨d0, d1, d2, d3, d4, d5⟩ := ct_cells hX.bu
                    have hEm : Calls Tryz.prog 24 #[t.val] V56 fun e w' => e = .returned (.tuple #[.bool true, .int .i64 0]) ∧ Below V56.heap.size V56 w' := by
                      have := Empty_any t V56 (hG.later hX.below) ht hX.it
                      rw [chk_one Hct.out, Hnv.out] at this
                      simpa using this
                    have hK := hEm
                    rw [CT.val_eq t] at hK
                    go_wp2_with (go_at_call 24; refine hK.mono ?_)
                    clear hK hEm hVV hpp
                    clear c0 c1 c2 c3 c4 c5 d0 d1 d2 d3 d4 d5
                    rintro e V57 ⟨rfl, hbn⟩
                    have hX := hX.step hbn
                    have kw := kw.below hbn
                    clear hbn
                    clear kw
                    obtain ⟨c0, c1, c2, c3, c4, c5⟩ := ct_cells hX.bt
                    obtain ⟨d0, d1, d2, d3, d4, d5⟩ := ct_cells hX.bu
                    have n0 := hX.bn.cell 0
                    have n1 := hX.bn.cell 1
                    simp only [List.getElem?_toArray, List.getElem?_cons_zero, List.getElem?_cons_succ] at n0 n1
                    have hK := pieces_any t u n _ V57 (hG.later hX.below) ht hu hX.it hX.iu Hct.out Hcu.out Hone1.out
                    rw [CT.val_eq t, CT.val_eq u, val_n] at hK
                    go_wp2_with (go_at_call 37; refine hK.mono ?_)
                    clear hK n0 n1
                    clear c0 c1 c2 c3 c4 c5 d0 d1 d2 d3 d4 d5
                    rintro e V58 ⟨rfl, hbn⟩
                    have hX := hX.step hbn
                    clear hbn
                    obtain ⟨c0, c1, c2, c3, c4, c5⟩ := ct_cells hX.bt
                    obtain ⟨d0, d1, d2, d3, d4, d5⟩ := ct_cells hX.bu
                    have hK := shown_any V58 (hG.later hX.below)
                    go_wp2_with (go_at_call 8; refine hK.mono ?_)
                    clear hK
                    clear c0 c1 c2 c3 c4 c5 d0 d1 d2 d3 d4 d5
                    rintro e V59 ⟨rfl, hbn⟩
                    have hX := hX.step hbn
                    clear hbn
                    go_wp2
                    go_ret
                    exact ⟨rfl, hX.below⟩
                  | false =>
                    obtain ⟨c0, c1, c2, c3, c4, c5⟩ := ct_cells hX.bt
                    obtain ⟨d0, d1, d2, d3, d4, d5⟩ := ct_cells hX.bu
                    have hK := Witness_any t none 0 [] V54 (hG.later hX.below) ht hX.it (NRow.nil _ _) (by simp)
                    rw [List.length_nil, Hwn.out, ((wit_facts Hct.out).2 Hnv.out).1, CT.val_eq t] at hK
                    go_wp2_with (go_at_call 30; refine hK.mono ?_)
                    clear hK
                    clear c0 c1 c2 c3 c4 c5 d0 d1 d2 d3 d4 d5
                    rintro e V60 ⟨rfl, hbn⟩
                    have hX := hX.step hbn
                    clear hbn
                    rw [val_n wn]
                    obtain ⟨V61, hVV⟩ : ∃ V, V60.alloc (.cells #[.string wn.sp, .string wn.lc] 23) = V := ⟨_, rfl⟩
                    have hbm : Below V60.heap.size V60 V61 := by rw [← hVV]; exact (Below.refl _ _).alloc (Nat.le_refl _) _
                    have kw : Blk V61 V60.heap.size #[.string wn.sp, .string wn.lc] 23 := by rw [← hVV]; exact Blk.new _ _ _
                    obtain ⟨pw, hpp⟩ : ∃ p, V60.heap.size = p := ⟨_, rfl⟩
                    rw [hpp] at kw
                    have hX := hX.step hbm
                    clear hbm
                    obtain ⟨c0, c1, c2, c3, c4, c5⟩ := ct_cells hX.bt
                    obtain ⟨d0, d1, d2, d3, d4, d5⟩ := ct_cells hX.bu
                    have hEm : Calls Tryz.prog 24 #[t.val] V61 fun e w' => e = .returned (.tuple #[.bool false, .int .i64 0]) ∧ Below V61.heap.size V61 w' := by
                      have := Empty_any t V61 (hG.later hX.below) ht hX.it
                      rw [chk_one Hct.out, Hnv.out] at this
                      simpa using this
                    have hK := hEm
                    rw [CT.val_eq t] at hK
                    go_wp2_with (go_at_call 24; refine hK.mono ?_)
                    clear hK hEm hVV hpp
                    clear c0 c1 c2 c3 c4 c5 d0 d1 d2 d3 d4 d5
                    rintro e V62 ⟨rfl, hbn⟩
                    have hX := hX.step hbn
                    have kw := kw.below hbn
                    clear hbn
                    obtain ⟨c0, c1, c2, c3, c4, c5⟩ := ct_cells hX.bt
                    obtain ⟨d0, d1, d2, d3, d4, d5⟩ := ct_cells hX.bu
                    have e0 := kw.cell 0
                    have e1 := kw.cell 1
                    simp only [List.getElem?_toArray, List.getElem?_cons_zero, List.getElem?_cons_succ] at e0 e1
                    have hK := Has_any t wn V62 ht hX.it
                    rw [← Hwn.out, ((wit_facts Hct.out).2 Hnv.out).2, Hwn.out, CT.val_eq t, val_n] at hK
                    go_wp2_with (go_at_call 9; refine hK.mono ?_)
                    clear hK e0 e1
                    clear c0 c1 c2 c3 c4 c5 d0 d1 d2 d3 d4 d5
                    rintro e V63 ⟨rfl, hbn⟩
                    have hX := hX.step hbn
                    clear hbn
                    clear kw
                    obtain ⟨c0, c1, c2, c3, c4, c5⟩ := ct_cells hX.bt
                    obtain ⟨d0, d1, d2, d3, d4, d5⟩ := ct_cells hX.bu
                    have n0 := hX.bn.cell 0
                    have n1 := hX.bn.cell 1
                    simp only [List.getElem?_toArray, List.getElem?_cons_zero, List.getElem?_cons_succ] at n0 n1
                    have hK := pieces_any t u n _ V63 (hG.later hX.below) ht hu hX.it hX.iu Hct.out Hcu.out Hone1.out
                    rw [CT.val_eq t, CT.val_eq u, val_n] at hK
                    go_wp2_with (go_at_call 37; refine hK.mono ?_)
                    clear hK n0 n1
                    clear c0 c1 c2 c3 c4 c5 d0 d1 d2 d3 d4 d5
                    rintro e V64 ⟨rfl, hbn⟩
                    have hX := hX.step hbn
                    clear hbn
                    obtain ⟨c0, c1, c2, c3, c4, c5⟩ := ct_cells hX.bt
                    obtain ⟨d0, d1, d2, d3, d4, d5⟩ := ct_cells hX.bu
                    have hK := shown_any V64 (hG.later hX.below)
                    go_wp2_with (go_at_call 8; refine hK.mono ?_)
                    clear hK
                    clear c0 c1 c2 c3 c4 c5 d0 d1 d2 d3 d4 d5
                    rintro e V65 ⟨rfl, hbn⟩
                    have hX := hX.step hbn
                    clear hbn
                    go_wp2
                    go_ret
                    exact ⟨rfl, hX.below⟩
                | true =>
                  obtain ⟨c0, c1, c2, c3, c4, c5⟩ := ct_cells hX.bt
                  obtain ⟨d0, d1, d2, d3, d4, d5⟩ := ct_cells hX.bu
                  obtain ⟨a0, a1, a2, a3, a4, a5⟩ := ct_cells kbx.b
                  obtain ⟨b0, b1, b2, b3, b4, b5⟩ := ct_cells kby.b
                  have Hs : Hid (sameC 40 x y = true) := Lib.hid (by rw [same_incs Hnx.out Hny.out (depth_small rfl Hsx.out), Hone.out, Htwo.out]; rfl)
                  have hK := SameClass_any x y V14 kbx.i kby.i
                  rw [Hs.out, CT.val_eq x, CT.val_eq y] at hK
                  go_wp2_with (go_at_call 36; refine hK.mono ?_)
                  clear hK
                  clear c0 c1 c2 c3 c4 c5 d0 d1 d2 d3 d4 d5 a0 a1 a2 a3 a4 a5 b0 b1 b2 b3 b4 b5
                  rintro e V66 ⟨rfl, hbn⟩
                  have hX := hX.step hbn
                  have kbx := kbx.step hbn
                  have kby := kby.step hbn
                  clear hbn
                  clear kby
                  obtain ⟨c0, c1, c2, c3, c4, c5⟩ := ct_cells hX.bt
                  obtain ⟨d0, d1, d2, d3, d4, d5⟩ := ct_cells hX.bu
                  obtain ⟨a0, a1, a2, a3, a4, a5⟩ := ct_cells kbx.b
                  have hK := hI x t true V66 hX.below kbx.i hX.it dx ht Hcx.out Hct.out (inc_norm Hnx.out).1
                  rw [CT.val_eq x, CT.val_eq t] at hK
                  go_wp2_with (go_at_call 26; refine hK.mono ?_)
                  clear hK
                  clear c0 c1 c2 c3 c4 c5 d0 d1 d2 d3 d4 d5 a0 a1 a2 a3 a4 a5
                  rintro e V67 ⟨rfl, hbn⟩
                  have hX := hX.step hbn
                  have kbx := kbx.step hbn
                  clear hbn
                  obtain ⟨c0, c1, c2, c3, c4, c5⟩ := ct_cells hX.bt
                  obtain ⟨d0, d1, d2, d3, d4, d5⟩ := ct_cells hX.bu
                  obtain ⟨a0, a1, a2, a3, a4, a5⟩ := ct_cells kbx.b
                  have hK := hI t x true V67 hX.below hX.it kbx.i ht dx Hct.out Hcx.out (inc_norm Hnx.out).2
                  rw [CT.val_eq x, CT.val_eq t] at hK
                  go_wp2_with (go_at_call 26; refine hK.mono ?_)
                  clear hK
                  clear c0 c1 c2 c3 c4 c5 d0 d1 d2 d3 d4 d5 a0 a1 a2 a3 a4 a5
                  rintro e V68 ⟨rfl, hbn⟩
                  have hX := hX.step hbn
                  have kbx := kbx.step hbn
                  clear hbn
                  obtain ⟨c0, c1, c2, c3, c4, c5⟩ := ct_cells hX.bt
                  obtain ⟨d0, d1, d2, d3, d4, d5⟩ := ct_cells hX.bu
                  obtain ⟨a0, a1, a2, a3, a4, a5⟩ := ct_cells kbx.b
                  have hK := Normal_any x V68 (hG.later hX.below) dx kbx.i
                  rw [CT.val_eq x] at hK
                  go_wp2_with (go_at_call 15; refine hK.mono ?_)
                  clear hK
                  clear c0 c1 c2 c3 c4 c5 d0 d1 d2 d3 d4 d5 a0 a1 a2 a3 a4 a5
                  rintro e V69 ⟨z, rz, rfl, Hz, hbn⟩
                  have hX := hX.step hbn
                  have kbx := kbx.step hbn
                  clear hbn
                  obtain ⟨V70, hVV⟩ : ∃ V, V69.alloc (.cells z.cells.toArray 26) = V := ⟨_, rfl⟩
                  have hm := BoxC.made (x := z) (V := V69) (inOn Hz.out.1 (Nat.le_refl _))
                  rw [hVV] at hm
                  obtain ⟨kbz, hbm⟩ := hm
                  have hX := hX.step hbm
                  rw [CT.cells_eq] at hVV
                  rw [CT.val_eq z]
                  obtain ⟨pz, hpp⟩ : ∃ p, V69.heap.size = p := ⟨_, rfl⟩
                  rw [hpp] at kbz
                  have kbx := kbx.step hbm
                  clear hbm
                  obtain ⟨hez, h0⟩ := norm_again Hnx.out Hsx.out Hz.out.2.1
                  subst h0
                  have Hez := Lib.hid hez
                  have dz : z.depth ≤ 40 := depth_small hez Hsx.out
                  clear hez
                  obtain ⟨c0, c1, c2, c3, c4, c5⟩ := ct_cells hX.bt
                  obtain ⟨d0, d1, d2, d3, d4, d5⟩ := ct_cells hX.bu
                  obtain ⟨a0, a1, a2, a3, a4, a5⟩ := ct_cells kbx.b
                  obtain ⟨b0, b1, b2, b3, b4, b5⟩ := ct_cells kbz.b
                  have hK := same_true z x V70 Hez.out dz kbz.i kbx.i
                  rw [CT.val_eq x, CT.val_eq z] at hK
                  go_wp2_with (go_at_call 36; refine hK.mono ?_)
                  clear hK hVV hpp
                  clear c0 c1 c2 c3 c4 c5 d0 d1 d2 d3 d4 d5 a0 a1 a2 a3 a4 a5 b0 b1 b2 b3 b4 b5
                  rintro e V71 ⟨rfl, hbn⟩
                  have hX := hX.step hbn
                  have kbx := kbx.step hbn
                  have kbz := kbz.step hbn
                  clear hbn
                  clear kbx kbz
                  obtain ⟨nv, hnv⟩ : ∃ v, nevB t.holds (candsOf [t] []) = v := ⟨_, rfl⟩
                  obtain ⟨wn, hwn⟩ : ∃ m, witN t [] = m := ⟨_, rfl⟩
                  have Hwn := Lib.hid hwn
                  have Hnv := Lib.hid hnv
                  clear hnv hwn
                  cases nv with
                  | true =>
                    obtain ⟨c0, c1, c2, c3, c4, c5⟩ := ct_cells hX.bt
                    obtain ⟨d0, d1, d2, d3, d4, d5⟩ := ct_cells hX.bu
                    have hK := Witness_any t none 0 [] V71 (hG.later hX.below) ht hX.it (NRow.nil _ _) (by simp)
                    rw [List.length_nil, Hwn.out, (wit_facts Hct.out).1 Hnv.out, CT.val_eq t] at hK
                    go_wp2_with (go_at_call 30; refine hK.mono ?_)
                    clear hK
                    clear c0 c1 c2 c3 c4 c5 d0 d1 d2 d3 d4 d5
                    rintro e V72 ⟨rfl, hbn⟩
                    have hX := hX.step hbn
                    clear hbn
                    rw [val_n wn]
                    obtain ⟨V73, hVV⟩ : ∃ V, V72.alloc (.cells #[.string wn.sp, .string wn.lc] 23) = V := ⟨_, rfl⟩
                    have hbm : Below V72.heap.size V72 V73 := by rw [← hVV]; exact (Below.refl _ _).alloc (Nat.le_refl _) _
                    have kw : Blk V73 V72.heap.size #[.string wn.sp, .string wn.lc] 23 := by rw [← hVV]; exact Blk.new _ _ _
                    obtain ⟨pw, hpp⟩ : ∃ p, V72.heap.size = p := ⟨_, rfl⟩
                    rw [hpp] at kw
                    have hX := hX.step hbm
                    clear hbm
                    obtain ⟨c0, c1, c2, c3, c4, c5⟩ := ct_cells hX.bt
                    obtain ⟨d0, d1, d2, d3, d4, d5⟩ := ct_cells hX.bu
                    have hEm : Calls Tryz.prog 24 #[t.val] V73 fun e w' => e = .returned (.tuple #[.bool true, .int .i64 0]) ∧ Below V73.heap.size V73 w' := by
                      have := Empty_any t V73 (hG.later hX.below) ht hX.it
                      rw [chk_one Hct.out, Hnv.out] at this
                      simpa using this
                    have hK := hEm
                    rw [CT.val_eq t] at hK
                    go_wp2_with (go_at_call 24; refine hK.mono ?_)
                    clear hK hEm hVV hpp
                    clear c0 c1 c2 c3 c4 c5 d0 d1 d2 d3 d4 d5
                    rintro e V74 ⟨rfl, hbn⟩
                    have hX := hX.step hbn
                    have kw := kw.below hbn
                    clear hbn
                    clear kw
                    obtain ⟨c0, c1, c2, c3, c4, c5⟩ := ct_cells hX.bt
                    obtain ⟨d0, d1, d2, d3, d4, d5⟩ := ct_cells hX.bu
                    have n0 := hX.bn.cell 0
                    have n1 := hX.bn.cell 1
                    simp only [List.getElem?_toArray, List.getElem?_cons_zero, List.getElem?_cons_succ] at n0 n1
                    have hK := pieces_any t u n _ V74 (hG.later hX.below) ht hu hX.it hX.iu Hct.out Hcu.out Hone1.out
                    rw [CT.val_eq t, CT.val_eq u, val_n] at hK
                    go_wp2_with (go_at_call 37; refine hK.mono ?_)
                    clear hK n0 n1
                    clear c0 c1 c2 c3 c4 c5 d0 d1 d2 d3 d4 d5
                    rintro e V75 ⟨rfl, hbn⟩
                    have hX := hX.step hbn
                    clear hbn
                    obtain ⟨c0, c1, c2, c3, c4, c5⟩ := ct_cells hX.bt
                    obtain ⟨d0, d1, d2, d3, d4, d5⟩ := ct_cells hX.bu
                    have hK := shown_any V75 (hG.later hX.below)
                    go_wp2_with (go_at_call 8; refine hK.mono ?_)
                    clear hK
                    clear c0 c1 c2 c3 c4 c5 d0 d1 d2 d3 d4 d5
                    rintro e V76 ⟨rfl, hbn⟩
                    have hX := hX.step hbn
                    clear hbn
                    go_wp2
                    go_ret
                    exact ⟨rfl, hX.below⟩
                  | false =>
                    obtain ⟨c0, c1, c2, c3, c4, c5⟩ := ct_cells hX.bt
                    obtain ⟨d0, d1, d2, d3, d4, d5⟩ := ct_cells hX.bu
                    have hK := Witness_any t none 0 [] V71 (hG.later hX.below) ht hX.it (NRow.nil _ _) (by simp)
                    rw [List.length_nil, Hwn.out, ((wit_facts Hct.out).2 Hnv.out).1, CT.val_eq t] at hK
                    go_wp2_with (go_at_call 30; refine hK.mono ?_)
                    clear hK
                    clear c0 c1 c2 c3 c4 c5 d0 d1 d2 d3 d4 d5
                    rintro e V77 ⟨rfl, hbn⟩
                    have hX := hX.step hbn
                    clear hbn
                    rw [val_n wn]
                    obtain ⟨V78, hVV⟩ : ∃ V, V77.alloc (.cells #[.string wn.sp, .string wn.lc] 23) = V := ⟨_, rfl⟩
                    have hbm : Below V77.heap.size V77 V78 := by rw [← hVV]; exact (Below.refl _ _).alloc (Nat.le_refl _) _
                    have kw : Blk V78 V77.heap.size #[.string wn.sp, .string wn.lc] 23 := by rw [← hVV]; exact Blk.new _ _ _
                    obtain ⟨pw, hpp⟩ : ∃ p, V77.heap.size = p := ⟨_, rfl⟩
                    rw [hpp] at kw
                    have hX := hX.step hbm
                    clear hbm
                    obtain ⟨c0, c1, c2, c3, c4, c5⟩ := ct_cells hX.bt
                    obtain ⟨d0, d1, d2, d3, d4, d5⟩ := ct_cells hX.bu
                    have hEm : Calls Tryz.prog 24 #[t.val] V78 fun e w' => e = .returned (.tuple #[.bool false, .int .i64 0]) ∧ Below V78.heap.size V78 w' := by
                      have := Empty_any t V78 (hG.later hX.below) ht hX.it
                      rw [chk_one Hct.out, Hnv.out] at this
                      simpa using this
                    have hK := hEm
                    rw [CT.val_eq t] at hK
                    go_wp2_with (go_at_call 24; refine hK.mono ?_)
                    clear hK hEm hVV hpp
                    clear c0 c1 c2 c3 c4 c5 d0 d1 d2 d3 d4 d5
                    rintro e V79 ⟨rfl, hbn⟩
                    have hX := hX.step hbn
                    have kw := kw.below hbn
                    clear hbn
                    obtain ⟨c0, c1, c2, c3, c4, c5⟩ := ct_cells hX.bt
                    obtain ⟨d0, d1, d2, d3, d4, d5⟩ := ct_cells hX.bu
                    have e0 := kw.cell 0
                    have e1 := kw.cell 1
                    simp only [List.getElem?_toArray, List.getElem?_cons_zero, List.getElem?_cons_succ] at e0 e1
                    have hK := Has_any t wn V79 ht hX.it
                    rw [← Hwn.out, ((wit_facts Hct.out).2 Hnv.out).2, Hwn.out, CT.val_eq t, val_n] at hK
                    go_wp2_with (go_at_call 9; refine hK.mono ?_)
                    clear hK e0 e1
                    clear c0 c1 c2 c3 c4 c5 d0 d1 d2 d3 d4 d5
                    rintro e V80 ⟨rfl, hbn⟩
                    have hX := hX.step hbn
                    clear hbn
                    clear kw
                    obtain ⟨c0, c1, c2, c3, c4, c5⟩ := ct_cells hX.bt
                    obtain ⟨d0, d1, d2, d3, d4, d5⟩ := ct_cells hX.bu
                    have n0 := hX.bn.cell 0
                    have n1 := hX.bn.cell 1
                    simp only [List.getElem?_toArray, List.getElem?_cons_zero, List.getElem?_cons_succ] at n0 n1
                    have hK := pieces_any t u n _ V80 (hG.later hX.below) ht hu hX.it hX.iu Hct.out Hcu.out Hone1.out
                    rw [CT.val_eq t, CT.val_eq u, val_n] at hK
                    go_wp2_with (go_at_call 37; refine hK.mono ?_)
                    clear hK n0 n1
                    clear c0 c1 c2 c3 c4 c5 d0 d1 d2 d3 d4 d5
                    rintro e V81 ⟨rfl, hbn⟩
                    have hX := hX.step hbn
                    clear hbn
                    obtain ⟨c0, c1, c2, c3, c4, c5⟩ := ct_cells hX.bt
                    obtain ⟨d0, d1, d2, d3, d4, d5⟩ := ct_cells hX.bu
                    have hK := shown_any V81 (hG.later hX.below)
                    go_wp2_with (go_at_call 8; refine hK.mono ?_)
                    clear hK
                    clear c0 c1 c2 c3 c4 c5 d0 d1 d2 d3 d4 d5
                    rintro e V82 ⟨rfl, hbn⟩
                    have hX := hX.step hbn
                    clear hbn
                    go_wp2
                    go_ret
                    exact ⟨rfl, hX.below⟩
            · subst h3
              clear kby
              obtain ⟨c0, c1, c2, c3, c4, c5⟩ := ct_cells hX.bt
              obtain ⟨d0, d1, d2, d3, d4, d5⟩ := ct_cells hX.bu
              obtain ⟨a0, a1, a2, a3, a4, a5⟩ := ct_cells kbx.b
              have hK := hI x t true V14 hX.below kbx.i hX.it dx ht Hcx.out Hct.out (inc_norm Hnx.out).1
              rw [CT.val_eq x, CT.val_eq t] at hK
              go_wp2_with (go_at_call 26; refine hK.mono ?_)
              clear hK
              clear c0 c1 c2 c3 c4 c5 d0 d1 d2 d3 d4 d5 a0 a1 a2 a3 a4 a5
              rintro e V83 ⟨rfl, hbn⟩
              have hX := hX.step hbn
              have kbx := kbx.step hbn
              clear hbn
              obtain ⟨c0, c1, c2, c3, c4, c5⟩ := ct_cells hX.bt
              obtain ⟨d0, d1, d2, d3, d4, d5⟩ := ct_cells hX.bu
              obtain ⟨a0, a1, a2, a3, a4, a5⟩ := ct_cells kbx.b
              have hK := hI t x true V83 hX.below hX.it kbx.i ht dx Hct.out Hcx.out (inc_norm Hnx.out).2
              rw [CT.val_eq x, CT.val_eq t] at hK
              go_wp2_with (go_at_call 26; refine hK.mono ?_)
              clear hK
              clear c0 c1 c2 c3 c4 c5 d0 d1 d2 d3 d4 d5 a0 a1 a2 a3 a4 a5
              rintro e V84 ⟨rfl, hbn⟩
              have hX := hX.step hbn
              have kbx := kbx.step hbn
              clear hbn
              obtain ⟨c0, c1, c2, c3, c4, c5⟩ := ct_cells hX.bt
              obtain ⟨d0, d1, d2, d3, d4, d5⟩ := ct_cells hX.bu
              obtain ⟨a0, a1, a2, a3, a4, a5⟩ := ct_cells kbx.b
              have hK := Normal_any x V84 (hG.later hX.below) dx kbx.i
              rw [CT.val_eq x] at hK
              go_wp2_with (go_at_call 15; refine hK.mono ?_)
              clear hK
              clear c0 c1 c2 c3 c4 c5 d0 d1 d2 d3 d4 d5 a0 a1 a2 a3 a4 a5
              rintro e V85 ⟨z, rz, rfl, Hz, hbn⟩
              have hX := hX.step hbn
              have kbx := kbx.step hbn
              clear hbn
              obtain ⟨V86, hVV⟩ : ∃ V, V85.alloc (.cells z.cells.toArray 26) = V := ⟨_, rfl⟩
              have hm := BoxC.made (x := z) (V := V85) (inOn Hz.out.1 (Nat.le_refl _))
              rw [hVV] at hm
              obtain ⟨kbz, hbm⟩ := hm
              have hX := hX.step hbm
              rw [CT.cells_eq] at hVV
              rw [CT.val_eq z]
              obtain ⟨pz, hpp⟩ : ∃ p, V85.heap.size = p := ⟨_, rfl⟩
              rw [hpp] at kbz
              have kbx := kbx.step hbm
              clear hbm
              obtain ⟨hez, h0⟩ := norm_again Hnx.out Hsx.out Hz.out.2.1
              subst h0
              have Hez := Lib.hid hez
              have dz : z.depth ≤ 40 := depth_small hez Hsx.out
              clear hez
              obtain ⟨c0, c1, c2, c3, c4, c5⟩ := ct_cells hX.bt
              obtain ⟨d0, d1, d2, d3, d4, d5⟩ := ct_cells hX.bu
              obtain ⟨a0, a1, a2, a3, a4, a5⟩ := ct_cells kbx.b
              obtain ⟨b0, b1, b2, b3, b4, b5⟩ := ct_cells kbz.b
              have hK := same_true z x V86 Hez.out dz kbz.i kbx.i
              rw [CT.val_eq x, CT.val_eq z] at hK
              go_wp2_with (go_at_call 36; refine hK.mono ?_)
              clear hK hVV hpp
              clear c0 c1 c2 c3 c4 c5 d0 d1 d2 d3 d4 d5 a0 a1 a2 a3 a4 a5 b0 b1 b2 b3 b4 b5
              rintro e V87 ⟨rfl, hbn⟩
              have hX := hX.step hbn
              have kbx := kbx.step hbn
              have kbz := kbz.step hbn
              clear hbn
              clear kbx kbz
              obtain ⟨nv, hnv⟩ : ∃ v, nevB t.holds (candsOf [t] []) = v := ⟨_, rfl⟩
              obtain ⟨wn, hwn⟩ : ∃ m, witN t [] = m := ⟨_, rfl⟩
              have Hwn := Lib.hid hwn
              have Hnv := Lib.hid hnv
              clear hnv hwn
              cases nv with
              | true =>
                obtain ⟨c0, c1, c2, c3, c4, c5⟩ := ct_cells hX.bt
                obtain ⟨d0, d1, d2, d3, d4, d5⟩ := ct_cells hX.bu
                have hK := Witness_any t none 0 [] V87 (hG.later hX.below) ht hX.it (NRow.nil _ _) (by simp)
                rw [List.length_nil, Hwn.out, (wit_facts Hct.out).1 Hnv.out, CT.val_eq t] at hK
                go_wp2_with (go_at_call 30; refine hK.mono ?_)
                clear hK
                clear c0 c1 c2 c3 c4 c5 d0 d1 d2 d3 d4 d5
                rintro e V88 ⟨rfl, hbn⟩
                have hX := hX.step hbn
                clear hbn
                rw [val_n wn]
                obtain ⟨V89, hVV⟩ : ∃ V, V88.alloc (.cells #[.string wn.sp, .string wn.lc] 23) = V := ⟨_, rfl⟩
                have hbm : Below V88.heap.size V88 V89 := by rw [← hVV]; exact (Below.refl _ _).alloc (Nat.le_refl _) _
                have kw : Blk V89 V88.heap.size #[.string wn.sp, .string wn.lc] 23 := by rw [← hVV]; exact Blk.new _ _ _
                obtain ⟨pw, hpp⟩ : ∃ p, V88.heap.size = p := ⟨_, rfl⟩
                rw [hpp] at kw
                have hX := hX.step hbm
                clear hbm
                obtain ⟨c0, c1, c2, c3, c4, c5⟩ := ct_cells hX.bt
                obtain ⟨d0, d1, d2, d3, d4, d5⟩ := ct_cells hX.bu
                have hEm : Calls Tryz.prog 24 #[t.val] V89 fun e w' => e = .returned (.tuple #[.bool true, .int .i64 0]) ∧ Below V89.heap.size V89 w' := by
                  have := Empty_any t V89 (hG.later hX.below) ht hX.it
                  rw [chk_one Hct.out, Hnv.out] at this
                  simpa using this
                have hK := hEm
                rw [CT.val_eq t] at hK
                go_wp2_with (go_at_call 24; refine hK.mono ?_)
                clear hK hEm hVV hpp
                clear c0 c1 c2 c3 c4 c5 d0 d1 d2 d3 d4 d5
                rintro e V90 ⟨rfl, hbn⟩
                have hX := hX.step hbn
                have kw := kw.below hbn
                clear hbn
                clear kw
                obtain ⟨c0, c1, c2, c3, c4, c5⟩ := ct_cells hX.bt
                obtain ⟨d0, d1, d2, d3, d4, d5⟩ := ct_cells hX.bu
                have n0 := hX.bn.cell 0
                have n1 := hX.bn.cell 1
                simp only [List.getElem?_toArray, List.getElem?_cons_zero, List.getElem?_cons_succ] at n0 n1
                have hK := pieces_any t u n _ V90 (hG.later hX.below) ht hu hX.it hX.iu Hct.out Hcu.out Hone1.out
                rw [CT.val_eq t, CT.val_eq u, val_n] at hK
                go_wp2_with (go_at_call 37; refine hK.mono ?_)
                clear hK n0 n1
                clear c0 c1 c2 c3 c4 c5 d0 d1 d2 d3 d4 d5
                rintro e V91 ⟨rfl, hbn⟩
                have hX := hX.step hbn
                clear hbn
                obtain ⟨c0, c1, c2, c3, c4, c5⟩ := ct_cells hX.bt
                obtain ⟨d0, d1, d2, d3, d4, d5⟩ := ct_cells hX.bu
                have hK := shown_any V91 (hG.later hX.below)
                go_wp2_with (go_at_call 8; refine hK.mono ?_)
                clear hK
                clear c0 c1 c2 c3 c4 c5 d0 d1 d2 d3 d4 d5
                rintro e V92 ⟨rfl, hbn⟩
                have hX := hX.step hbn
                clear hbn
                go_wp2
                go_ret
                exact ⟨rfl, hX.below⟩
              | false =>
                obtain ⟨c0, c1, c2, c3, c4, c5⟩ := ct_cells hX.bt
                obtain ⟨d0, d1, d2, d3, d4, d5⟩ := ct_cells hX.bu
                have hK := Witness_any t none 0 [] V87 (hG.later hX.below) ht hX.it (NRow.nil _ _) (by simp)
                rw [List.length_nil, Hwn.out, ((wit_facts Hct.out).2 Hnv.out).1, CT.val_eq t] at hK
                go_wp2_with (go_at_call 30; refine hK.mono ?_)
                clear hK
                clear c0 c1 c2 c3 c4 c5 d0 d1 d2 d3 d4 d5
                rintro e V93 ⟨rfl, hbn⟩
                have hX := hX.step hbn
                clear hbn
                rw [val_n wn]
                obtain ⟨V94, hVV⟩ : ∃ V, V93.alloc (.cells #[.string wn.sp, .string wn.lc] 23) = V := ⟨_, rfl⟩
                have hbm : Below V93.heap.size V93 V94 := by rw [← hVV]; exact (Below.refl _ _).alloc (Nat.le_refl _) _
                have kw : Blk V94 V93.heap.size #[.string wn.sp, .string wn.lc] 23 := by rw [← hVV]; exact Blk.new _ _ _
                obtain ⟨pw, hpp⟩ : ∃ p, V93.heap.size = p := ⟨_, rfl⟩
                rw [hpp] at kw
                have hX := hX.step hbm
                clear hbm
                obtain ⟨c0, c1, c2, c3, c4, c5⟩ := ct_cells hX.bt
                obtain ⟨d0, d1, d2, d3, d4, d5⟩ := ct_cells hX.bu
                have hEm : Calls Tryz.prog 24 #[t.val] V94 fun e w' => e = .returned (.tuple #[.bool false, .int .i64 0]) ∧ Below V94.heap.size V94 w' := by
                  have := Empty_any t V94 (hG.later hX.below) ht hX.it
                  rw [chk_one Hct.out, Hnv.out] at this
                  simpa using this
                have hK := hEm
                rw [CT.val_eq t] at hK
                go_wp2_with (go_at_call 24; refine hK.mono ?_)
                clear hK hEm hVV hpp
                clear c0 c1 c2 c3 c4 c5 d0 d1 d2 d3 d4 d5
                rintro e V95 ⟨rfl, hbn⟩
                have hX := hX.step hbn
                have kw := kw.below hbn
                clear hbn
                obtain ⟨c0, c1, c2, c3, c4, c5⟩ := ct_cells hX.bt
                obtain ⟨d0, d1, d2, d3, d4, d5⟩ := ct_cells hX.bu
                have e0 := kw.cell 0
                have e1 := kw.cell 1
                simp only [List.getElem?_toArray, List.getElem?_cons_zero, List.getElem?_cons_succ] at e0 e1
                have hK := Has_any t wn V95 ht hX.it
                rw [← Hwn.out, ((wit_facts Hct.out).2 Hnv.out).2, Hwn.out, CT.val_eq t, val_n] at hK
                go_wp2_with (go_at_call 9; refine hK.mono ?_)
                clear hK e0 e1
                clear c0 c1 c2 c3 c4 c5 d0 d1 d2 d3 d4 d5
                rintro e V96 ⟨rfl, hbn⟩
                have hX := hX.step hbn
                clear hbn
                clear kw
                obtain ⟨c0, c1, c2, c3, c4, c5⟩ := ct_cells hX.bt
                obtain ⟨d0, d1, d2, d3, d4, d5⟩ := ct_cells hX.bu
                have n0 := hX.bn.cell 0
                have n1 := hX.bn.cell 1
                simp only [List.getElem?_toArray, List.getElem?_cons_zero, List.getElem?_cons_succ] at n0 n1
                have hK := pieces_any t u n _ V96 (hG.later hX.below) ht hu hX.it hX.iu Hct.out Hcu.out Hone1.out
                rw [CT.val_eq t, CT.val_eq u, val_n] at hK
                go_wp2_with (go_at_call 37; refine hK.mono ?_)
                clear hK n0 n1
                clear c0 c1 c2 c3 c4 c5 d0 d1 d2 d3 d4 d5
                rintro e V97 ⟨rfl, hbn⟩
                have hX := hX.step hbn
                clear hbn
                obtain ⟨c0, c1, c2, c3, c4, c5⟩ := ct_cells hX.bt
                obtain ⟨d0, d1, d2, d3, d4, d5⟩ := ct_cells hX.bu
                have hK := shown_any V97 (hG.later hX.below)
                go_wp2_with (go_at_call 8; refine hK.mono ?_)
                clear hK
                clear c0 c1 c2 c3 c4 c5 d0 d1 d2 d3 d4 d5
                rintro e V98 ⟨rfl, hbn⟩
                have hX := hX.step hbn
                clear hbn
                go_wp2
                go_ret
                exact ⟨rfl, hX.below⟩
          · subst h3
            clear kbx
            rcases normR_ok Hy.out.2.1 (chk_one Hcu.out) (dec_one u) with ⟨h0, _, _⟩ | h3
            · subst h0
              clear kby
              obtain ⟨nv, hnv⟩ : ∃ v, nevB t.holds (candsOf [t] []) = v := ⟨_, rfl⟩
              obtain ⟨wn, hwn⟩ : ∃ m, witN t [] = m := ⟨_, rfl⟩
              have Hwn := Lib.hid hwn
              have Hnv := Lib.hid hnv
              clear hnv hwn
              cases nv with
              | true =>
                obtain ⟨c0, c1, c2, c3, c4, c5⟩ := ct_cells hX.bt
                obtain ⟨d0, d1, d2, d3, d4, d5⟩ := ct_cells hX.bu
                have hK := Witness_any t none 0 [] V14 (hG.later hX.below) ht hX.it (NRow.nil _ _) (by simp)
                rw [List.length_nil, Hwn.out, (wit_facts Hct.out).1 Hnv.out, CT.val_eq t] at hK
                go_wp2_with (go_at_call 30; refine hK.mono ?_)
                clear hK
                clear c0 c1 c2 c3 c4 c5 d0 d1 d2 d3 d4 d5
                rintro e V99 ⟨rfl, hbn⟩
                have hX := hX.step hbn
                clear hbn
                rw [val_n wn]
                obtain ⟨V100, hVV⟩ : ∃ V, V99.alloc (.cells #[.string wn.sp, .string wn.lc] 23) = V := ⟨_, rfl⟩
                have hbm : Below V99.heap.size V99 V100 := by rw [← hVV]; exact (Below.refl _ _).alloc (Nat.le_refl _) _
                have kw : Blk V100 V99.heap.size #[.string wn.sp, .string wn.lc] 23 := by rw [← hVV]; exact Blk.new _ _ _
                obtain ⟨pw, hpp⟩ : ∃ p, V99.heap.size = p := ⟨_, rfl⟩
                rw [hpp] at kw
                have hX := hX.step hbm
                clear hbm
                obtain ⟨c0, c1, c2, c3, c4, c5⟩ := ct_cells hX.bt
                obtain ⟨d0, d1, d2, d3, d4, d5⟩ := ct_cells hX.bu
                have hEm : Calls Tryz.prog 24 #[t.val] V100 fun e w' => e = .returned (.tuple #[.bool true, .int .i64 0]) ∧ Below V100.heap.size V100 w' := by
                  have := Empty_any t V100 (hG.later hX.below) ht hX.it
                  rw [chk_one Hct.out, Hnv.out] at this
                  simpa using this
                have hK := hEm
                rw [CT.val_eq t] at hK
                go_wp2_with (go_at_call 24; refine hK.mono ?_)
                clear hK hEm hVV hpp
                clear c0 c1 c2 c3 c4 c5 d0 d1 d2 d3 d4 d5
                rintro e V101 ⟨rfl, hbn⟩
                have hX := hX.step hbn
                have kw := kw.below hbn
                clear hbn
                clear kw
                obtain ⟨c0, c1, c2, c3, c4, c5⟩ := ct_cells hX.bt
                obtain ⟨d0, d1, d2, d3, d4, d5⟩ := ct_cells hX.bu
                have n0 := hX.bn.cell 0
                have n1 := hX.bn.cell 1
                simp only [List.getElem?_toArray, List.getElem?_cons_zero, List.getElem?_cons_succ] at n0 n1
                have hK := pieces_any t u n _ V101 (hG.later hX.below) ht hu hX.it hX.iu Hct.out Hcu.out Hone1.out
                rw [CT.val_eq t, CT.val_eq u, val_n] at hK
                go_wp2_with (go_at_call 37; refine hK.mono ?_)
                clear hK n0 n1
                clear c0 c1 c2 c3 c4 c5 d0 d1 d2 d3 d4 d5
                rintro e V102 ⟨rfl, hbn⟩
                have hX := hX.step hbn
                clear hbn
                obtain ⟨c0, c1, c2, c3, c4, c5⟩ := ct_cells hX.bt
                obtain ⟨d0, d1, d2, d3, d4, d5⟩ := ct_cells hX.bu
                have hK := shown_any V102 (hG.later hX.below)
                go_wp2_with (go_at_call 8; refine hK.mono ?_)
                clear hK
                clear c0 c1 c2 c3 c4 c5 d0 d1 d2 d3 d4 d5
                rintro e V103 ⟨rfl, hbn⟩
                have hX := hX.step hbn
                clear hbn
                go_wp2
                go_ret
                exact ⟨rfl, hX.below⟩
              | false =>
                obtain ⟨c0, c1, c2, c3, c4, c5⟩ := ct_cells hX.bt
                obtain ⟨d0, d1, d2, d3, d4, d5⟩ := ct_cells hX.bu
                have hK := Witness_any t none 0 [] V14 (hG.later hX.below) ht hX.it (NRow.nil _ _) (by simp)
                rw [List.length_nil, Hwn.out, ((wit_facts Hct.out).2 Hnv.out).1, CT.val_eq t] at hK
                go_wp2_with (go_at_call 30; refine hK.mono ?_)
                clear hK
                clear c0 c1 c2 c3 c4 c5 d0 d1 d2 d3 d4 d5
                rintro e V104 ⟨rfl, hbn⟩
                have hX := hX.step hbn
                clear hbn
                rw [val_n wn]
                obtain ⟨V105, hVV⟩ : ∃ V, V104.alloc (.cells #[.string wn.sp, .string wn.lc] 23) = V := ⟨_, rfl⟩
                have hbm : Below V104.heap.size V104 V105 := by rw [← hVV]; exact (Below.refl _ _).alloc (Nat.le_refl _) _
                have kw : Blk V105 V104.heap.size #[.string wn.sp, .string wn.lc] 23 := by rw [← hVV]; exact Blk.new _ _ _
                obtain ⟨pw, hpp⟩ : ∃ p, V104.heap.size = p := ⟨_, rfl⟩
                rw [hpp] at kw
                have hX := hX.step hbm
                clear hbm
                obtain ⟨c0, c1, c2, c3, c4, c5⟩ := ct_cells hX.bt
                obtain ⟨d0, d1, d2, d3, d4, d5⟩ := ct_cells hX.bu
                have hEm : Calls Tryz.prog 24 #[t.val] V105 fun e w' => e = .returned (.tuple #[.bool false, .int .i64 0]) ∧ Below V105.heap.size V105 w' := by
                  have := Empty_any t V105 (hG.later hX.below) ht hX.it
                  rw [chk_one Hct.out, Hnv.out] at this
                  simpa using this
                have hK := hEm
                rw [CT.val_eq t] at hK
                go_wp2_with (go_at_call 24; refine hK.mono ?_)
                clear hK hEm hVV hpp
                clear c0 c1 c2 c3 c4 c5 d0 d1 d2 d3 d4 d5
                rintro e V106 ⟨rfl, hbn⟩
                have hX := hX.step hbn
                have kw := kw.below hbn
                clear hbn
                obtain ⟨c0, c1, c2, c3, c4, c5⟩ := ct_cells hX.bt
                obtain ⟨d0, d1, d2, d3, d4, d5⟩ := ct_cells hX.bu
                have e0 := kw.cell 0
                have e1 := kw.cell 1
                simp only [List.getElem?_toArray, List.getElem?_cons_zero, List.getElem?_cons_succ] at e0 e1
                have hK := Has_any t wn V106 ht hX.it
                rw [← Hwn.out, ((wit_facts Hct.out).2 Hnv.out).2, Hwn.out, CT.val_eq t, val_n] at hK
                go_wp2_with (go_at_call 9; refine hK.mono ?_)
                clear hK e0 e1
                clear c0 c1 c2 c3 c4 c5 d0 d1 d2 d3 d4 d5
                rintro e V107 ⟨rfl, hbn⟩
                have hX := hX.step hbn
                clear hbn
                clear kw
                obtain ⟨c0, c1, c2, c3, c4, c5⟩ := ct_cells hX.bt
                obtain ⟨d0, d1, d2, d3, d4, d5⟩ := ct_cells hX.bu
                have n0 := hX.bn.cell 0
                have n1 := hX.bn.cell 1
                simp only [List.getElem?_toArray, List.getElem?_cons_zero, List.getElem?_cons_succ] at n0 n1
                have hK := pieces_any t u n _ V107 (hG.later hX.below) ht hu hX.it hX.iu Hct.out Hcu.out Hone1.out
                rw [CT.val_eq t, CT.val_eq u, val_n] at hK
                go_wp2_with (go_at_call 37; refine hK.mono ?_)
                clear hK n0 n1
                clear c0 c1 c2 c3 c4 c5 d0 d1 d2 d3 d4 d5
                rintro e V108 ⟨rfl, hbn⟩
                have hX := hX.step hbn
                clear hbn
                obtain ⟨c0, c1, c2, c3, c4, c5⟩ := ct_cells hX.bt
                obtain ⟨d0, d1, d2, d3, d4, d5⟩ := ct_cells hX.bu
                have hK := shown_any V108 (hG.later hX.below)
                go_wp2_with (go_at_call 8; refine hK.mono ?_)
                clear hK
                clear c0 c1 c2 c3 c4 c5 d0 d1 d2 d3 d4 d5
                rintro e V109 ⟨rfl, hbn⟩
                have hX := hX.step hbn
                clear hbn
                go_wp2
                go_ret
                exact ⟨rfl, hX.below⟩
            · subst h3
              clear kby
              obtain ⟨nv, hnv⟩ : ∃ v, nevB t.holds (candsOf [t] []) = v := ⟨_, rfl⟩
              obtain ⟨wn, hwn⟩ : ∃ m, witN t [] = m := ⟨_, rfl⟩
              have Hwn := Lib.hid hwn
              have Hnv := Lib.hid hnv
              clear hnv hwn
              cases nv with
              | true =>
                obtain ⟨c0, c1, c2, c3, c4, c5⟩ := ct_cells hX.bt
                obtain ⟨d0, d1, d2, d3, d4, d5⟩ := ct_cells hX.bu
                have hK := Witness_any t none 0 [] V14 (hG.later hX.below) ht hX.it (NRow.nil _ _) (by simp)
                rw [List.length_nil, Hwn.out, (wit_facts Hct.out).1 Hnv.out, CT.val_eq t] at hK
                go_wp2_with (go_at_call 30; refine hK.mono ?_)
                clear hK
                clear c0 c1 c2 c3 c4 c5 d0 d1 d2 d3 d4 d5
                rintro e V110 ⟨rfl, hbn⟩
                have hX := hX.step hbn
                clear hbn
                rw [val_n wn]
                obtain ⟨V111, hVV⟩ : ∃ V, V110.alloc (.cells #[.string wn.sp, .string wn.lc] 23) = V := ⟨_, rfl⟩
                have hbm : Below V110.heap.size V110 V111 := by rw [← hVV]; exact (Below.refl _ _).alloc (Nat.le_refl _) _
                have kw : Blk V111 V110.heap.size #[.string wn.sp, .string wn.lc] 23 := by rw [← hVV]; exact Blk.new _ _ _
                obtain ⟨pw, hpp⟩ : ∃ p, V110.heap.size = p := ⟨_, rfl⟩
                rw [hpp] at kw
                have hX := hX.step hbm
                clear hbm
                obtain ⟨c0, c1, c2, c3, c4, c5⟩ := ct_cells hX.bt
                obtain ⟨d0, d1, d2, d3, d4, d5⟩ := ct_cells hX.bu
                have hEm : Calls Tryz.prog 24 #[t.val] V111 fun e w' => e = .returned (.tuple #[.bool true, .int .i64 0]) ∧ Below V111.heap.size V111 w' := by
                  have := Empty_any t V111 (hG.later hX.below) ht hX.it
                  rw [chk_one Hct.out, Hnv.out] at this
                  simpa using this
                have hK := hEm
                rw [CT.val_eq t] at hK
                go_wp2_with (go_at_call 24; refine hK.mono ?_)
                clear hK hEm hVV hpp
                clear c0 c1 c2 c3 c4 c5 d0 d1 d2 d3 d4 d5
                rintro e V112 ⟨rfl, hbn⟩
                have hX := hX.step hbn
                have kw := kw.below hbn
                clear hbn
                clear kw
                obtain ⟨c0, c1, c2, c3, c4, c5⟩ := ct_cells hX.bt
                obtain ⟨d0, d1, d2, d3, d4, d5⟩ := ct_cells hX.bu
                have n0 := hX.bn.cell 0
                have n1 := hX.bn.cell 1
                simp only [List.getElem?_toArray, List.getElem?_cons_zero, List.getElem?_cons_succ] at n0 n1
                have hK := pieces_any t u n _ V112 (hG.later hX.below) ht hu hX.it hX.iu Hct.out Hcu.out Hone1.out
                rw [CT.val_eq t, CT.val_eq u, val_n] at hK
                go_wp2_with (go_at_call 37; refine hK.mono ?_)
                clear hK n0 n1
                clear c0 c1 c2 c3 c4 c5 d0 d1 d2 d3 d4 d5
                rintro e V113 ⟨rfl, hbn⟩
                have hX := hX.step hbn
                clear hbn
                obtain ⟨c0, c1, c2, c3, c4, c5⟩ := ct_cells hX.bt
                obtain ⟨d0, d1, d2, d3, d4, d5⟩ := ct_cells hX.bu
                have hK := shown_any V113 (hG.later hX.below)
                go_wp2_with (go_at_call 8; refine hK.mono ?_)
                clear hK
                clear c0 c1 c2 c3 c4 c5 d0 d1 d2 d3 d4 d5
                rintro e V114 ⟨rfl, hbn⟩
                have hX := hX.step hbn
                clear hbn
                go_wp2
                go_ret
                exact ⟨rfl, hX.below⟩
              | false =>
                obtain ⟨c0, c1, c2, c3, c4, c5⟩ := ct_cells hX.bt
                obtain ⟨d0, d1, d2, d3, d4, d5⟩ := ct_cells hX.bu
                have hK := Witness_any t none 0 [] V14 (hG.later hX.below) ht hX.it (NRow.nil _ _) (by simp)
                rw [List.length_nil, Hwn.out, ((wit_facts Hct.out).2 Hnv.out).1, CT.val_eq t] at hK
                go_wp2_with (go_at_call 30; refine hK.mono ?_)
                clear hK
                clear c0 c1 c2 c3 c4 c5 d0 d1 d2 d3 d4 d5
                rintro e V115 ⟨rfl, hbn⟩
                have hX := hX.step hbn
                clear hbn
                rw [val_n wn]
                obtain ⟨V116, hVV⟩ : ∃ V, V115.alloc (.cells #[.string wn.sp, .string wn.lc] 23) = V := ⟨_, rfl⟩
                have hbm : Below V115.heap.size V115 V116 := by rw [← hVV]; exact (Below.refl _ _).alloc (Nat.le_refl _) _
                have kw : Blk V116 V115.heap.size #[.string wn.sp, .string wn.lc] 23 := by rw [← hVV]; exact Blk.new _ _ _
                obtain ⟨pw, hpp⟩ : ∃ p, V115.heap.size = p := ⟨_, rfl⟩
                rw [hpp] at kw
                have hX := hX.step hbm
                clear hbm
                obtain ⟨c0, c1, c2, c3, c4, c5⟩ := ct_cells hX.bt
                obtain ⟨d0, d1, d2, d3, d4, d5⟩ := ct_cells hX.bu
                have hEm : Calls Tryz.prog 24 #[t.val] V116 fun e w' => e = .returned (.tuple #[.bool false, .int .i64 0]) ∧ Below V116.heap.size V116 w' := by
                  have := Empty_any t V116 (hG.later hX.below) ht hX.it
                  rw [chk_one Hct.out, Hnv.out] at this
                  simpa using this
                have hK := hEm
                rw [CT.val_eq t] at hK
                go_wp2_with (go_at_call 24; refine hK.mono ?_)
                clear hK hEm hVV hpp
                clear c0 c1 c2 c3 c4 c5 d0 d1 d2 d3 d4 d5
                rintro e V117 ⟨rfl, hbn⟩
                have hX := hX.step hbn
                have kw := kw.below hbn
                clear hbn
                obtain ⟨c0, c1, c2, c3, c4, c5⟩ := ct_cells hX.bt
                obtain ⟨d0, d1, d2, d3, d4, d5⟩ := ct_cells hX.bu
                have e0 := kw.cell 0
                have e1 := kw.cell 1
                simp only [List.getElem?_toArray, List.getElem?_cons_zero, List.getElem?_cons_succ] at e0 e1
                have hK := Has_any t wn V117 ht hX.it
                rw [← Hwn.out, ((wit_facts Hct.out).2 Hnv.out).2, Hwn.out, CT.val_eq t, val_n] at hK
                go_wp2_with (go_at_call 9; refine hK.mono ?_)
                clear hK e0 e1
                clear c0 c1 c2 c3 c4 c5 d0 d1 d2 d3 d4 d5
                rintro e V118 ⟨rfl, hbn⟩
                have hX := hX.step hbn
                clear hbn
                clear kw
                obtain ⟨c0, c1, c2, c3, c4, c5⟩ := ct_cells hX.bt
                obtain ⟨d0, d1, d2, d3, d4, d5⟩ := ct_cells hX.bu
                have n0 := hX.bn.cell 0
                have n1 := hX.bn.cell 1
                simp only [List.getElem?_toArray, List.getElem?_cons_zero, List.getElem?_cons_succ] at n0 n1
                have hK := pieces_any t u n _ V118 (hG.later hX.below) ht hu hX.it hX.iu Hct.out Hcu.out Hone1.out
                rw [CT.val_eq t, CT.val_eq u, val_n] at hK
                go_wp2_with (go_at_call 37; refine hK.mono ?_)
                clear hK n0 n1
                clear c0 c1 c2 c3 c4 c5 d0 d1 d2 d3 d4 d5
                rintro e V119 ⟨rfl, hbn⟩
                have hX := hX.step hbn
                clear hbn
                obtain ⟨c0, c1, c2, c3, c4, c5⟩ := ct_cells hX.bt
                obtain ⟨d0, d1, d2, d3, d4, d5⟩ := ct_cells hX.bu
                have hK := shown_any V119 (hG.later hX.below)
                go_wp2_with (go_at_call 8; refine hK.mono ?_)
                clear hK
                clear c0 c1 c2 c3 c4 c5 d0 d1 d2 d3 d4 d5
                rintro e V120 ⟨rfl, hbn⟩
                have hX := hX.step hbn
                clear hbn
                go_wp2
                go_ret
                exact ⟨rfl, hX.below⟩
end Np
end Go.Proofs.YtohlhihhadbphaaGreatDoor
