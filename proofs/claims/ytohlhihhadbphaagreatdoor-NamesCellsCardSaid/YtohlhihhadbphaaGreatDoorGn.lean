/- Names: At Av Ax Ap. -/
import Derived.Test.YtohlhihhadbphaaGreatDoorGl
import Derived.Test.YtohlhihhadbphaaGreatDoorRows
import Derived.ChangeArms
import Derived.DataReads
import Derived.WideShapes
import Derived.Test.YtohlhihhadbphaaGreatDoorGc
set_option linter.unusedSimpArgs false
set_option linter.unusedVariables false
/- is; what normal classes and candidates say, for the laws. -/
namespace Go.Proofs.YtohlhihhadbphaaGreatDoor
open Go.RowKit Go.Shelf Go.Lib
namespace Np
theorem inOn {t : CT} {W : World} {n m : Nat} (h : t.On (fun b => n ≤ b ∧ b < m) W) (hm : m ≤ W.heap.size) : t.In W W.heap.size := h.in_ (fun b hb => Nat.lt_of_lt_of_le hb.2 hm)
theorem CT.In.onw {t : CT} {W W' : World} (h : t.In W W.heap.size) (hb : Below W.heap.size W W') : t.In W' W'.heap.size := (h.below hb (Nat.le_refl _)).mono hb.size
def isB (t : CT) (r : Int) (n : Name) (want : Bool) : Bool := if r = 0 then decide ((hasR t n).2 = 0) && ((hasR t n).1 == want) else decide (r = 3)
set_option maxRecDepth 100000 in
theorem is_any (t : CT) (r : Int) (n : Name) (want : Bool) (w : World) (ht : t.depth ≤ 1000) (hIn : t.In w w.heap.size) :
    Calls Tryz.prog 74 #[t.val, .int .i64 r, n.val, .bool want] w fun e w' => e = .returned (.bool (isB t r n want)) ∧ Below w.heap.size w w' := by
  obtain ⟨W1, hW1⟩ : ∃ W1, (w.alloc (.cells t.cells.toArray 26)).alloc (.cells #[.string n.sp, .string n.lc] 23) = W1 := ⟨_, rfl⟩
  have hb1 : Below w.heap.size w W1 := by rw [← hW1]; exact ((Below.refl _ w).alloc (Nat.le_refl _) _).alloc (by simp) _
  have B0 : Blk W1 w.heap.size t.cells.toArray 26 := by rw [← hW1]; exact (Blk.new _ _ _).alloc _
  have B1 : Blk W1 (w.heap.size + 1) #[.string n.sp, .string n.lc] 23 := by
    rw [← hW1]
    have := Blk.new (w.alloc (.cells t.cells.toArray 26)) #[.string n.sp, .string n.lc] 23
    rw [World.size_alloc] at this; exact this
  have hC := Has_any t n W1 ht ((hIn.below hb1 (Nat.le_refl _)).mono hb1.size)
  obtain ⟨v1, hv1⟩ : ∃ v, (hasR t n).1 = v := ⟨_, rfl⟩
  obtain ⟨v2, hv2⟩ : ∃ v, (hasR t n).2 = v := ⟨_, rfl⟩
  have Hr : Hid (isB t r n want = if r = 0 then decide (v2 = 0) && (v1 == want) else decide (r = 3)) := Lib.hid (by unfold isB; rw [hv1, hv2])
  rw [hv1, hv2] at hC
  rw [Hr.out]
  obtain ⟨c0, c1, c2, c3, c4, c5⟩ := ct_cells B0
  have n0 := B1.cell 0
  have n1 := B1.cell 1
  simp only [List.getElem?_toArray, List.getElem?_cons_zero, List.getElem?_cons_succ] at n0 n1
  rw [CT.val_eq] at hC ⊢
  rw [CT.cells_eq] at hW1
  unfold Name.val at hC ⊢
  clear hv1 hv2 B0 B1 Hr
  by_cases h0 : r = 0
  · subst h0
    rw [if_pos rfl]
    have h2 : (v2 == 0) = decide (v2 = 0) := by rw [Bool.eq_iff_iff]; simp
    obtain ⟨z, hz⟩ : ∃ z, decide (v2 = 0) = z := ⟨_, rfl⟩
    rw [hz] at h2 ⊢
    clear hz
    go_enter Tryz.func74, Tryz.ntmps74
    go_wp2_with (go_at_call 9; refine hC.mono ?_)
    rintro e W2 ⟨rfl, hb2⟩
    cases z
    · go_wp2
      go_ret
      exact ⟨rfl, hb1.trans (hb2.mono hb1.size)⟩
    · go_wp2
      go_ret
      exact ⟨by cases v1 <;> cases want <;> rfl, hb1.trans (hb2.mono hb1.size)⟩
  · rw [if_neg h0]
    have h1 : (r == 0) = false := by simpa using h0
    have h2 : (r != 0) = true := by simpa using h0
    have h3 : (r == 3) = decide (r = 3) := by rw [Bool.eq_iff_iff]; simp
    obtain ⟨z, hz⟩ : ∃ z, decide (r = 3) = z := ⟨_, rfl⟩
    rw [hz] at h3 ⊢
    clear hz h0
    go_enter Tryz.func74, Tryz.ntmps74
    go_wp2
    go_ret
    exact ⟨rfl, hb1⟩
/-! ### Plain facts -/
theorem normR_ok {lst : List CT} {S : Name → Bool} {c : Cls} {r : Int} (h : NormR lst S c r) (hc : chkL lst = 0) (hD : Dec (nmsOf (CT.partsL lst 1)) (spsOf (CT.partsL lst 1)) S) : (r = 0 ∧ IsNorm S c ∧ c.small = true) ∨ r = 3 := by
  obtain ⟨c0, h0, h1, h2⟩ := h.2 hc hD
  cases hs : c0.small
  · exact .inr (h2 hs).2
  · obtain ⟨e1, e2⟩ := h1 hs
    exact .inl ⟨e2, by rw [e1]; exact h0, by rw [e1]; exact hs⟩
theorem check_of_norm {S : Name → Bool} {x : CT} (h : IsNorm S x.er) (hs : x.er.small = true) : x.check = 0 := by
  rw [← CT.check_er]; unfold Cls.check; rw [if_pos hs, if_pos h.fits]
theorem nev_iff {lst : List CT} {S : Name → Bool} (hD : Dec (nmsOf (CT.partsL lst 1)) (spsOf (CT.partsL lst 1)) S) : nevB S (candsOf lst []) = true ↔ ∀ x, S x = false := by
  unfold nevB
  rw [List.all_eq_true]
  have := hD.never (candsOf lst []) (fun x hx => by unfold candsOf candL; simp [(mem_asc linN).2 hx]) (fun s hs => by
    unfold candsOf candL
    simp only [List.mem_append, List.mem_map]
    exact .inl (.inr ⟨s, (mem_asc linS).2 hs, rfl⟩)) (by unfold candsOf candL; simp)
  rw [← this]
  exact ⟨fun h x hx => by have := h x hx; simpa using this, fun h x hx => by rw [h x hx]; rfl⟩
theorem nev_eq {lst lst' : List CT} {S T : Name → Bool} (hD : Dec (nmsOf (CT.partsL lst 1)) (spsOf (CT.partsL lst 1)) S) (hD' : Dec (nmsOf (CT.partsL lst' 1)) (spsOf (CT.partsL lst' 1)) T) (h : ∀ x, S x = T x) : nevB S (candsOf lst []) = nevB T (candsOf lst' []) := by
  rw [Bool.eq_iff_iff, nev_iff hD, nev_iff hD']
  exact ⟨fun k x => by rw [← h]; exact k x, fun k x => by rw [h]; exact k x⟩
theorem chk_one {t : CT} (h : t.check = 0) : chkL [t] = 0 := chkL_zero [t] (by simpa using h)
theorem chk_two {t u : CT} (h : t.check = 0) (k : u.check = 0) : chkL [t, u] = 0 := chkL_zero [t, u] (by intro x hx; simp at hx; rcases hx with rfl | rfl <;> assumption)
theorem holds_of_norm {S : Name → Bool} {x : CT} (h : IsNorm S x.er) (n : Name) : x.holds n = S n := h.holds n
theorem is_true {lst : List CT} {S : Name → Bool} {x : CT} {r : Int} {n : Name} {want : Bool} (h : NormR lst S x.er r) (hc : chkL lst = 0) (hD : Dec (nmsOf (CT.partsL lst 1)) (spsOf (CT.partsL lst 1)) S) (hv : validN n = true) (hw : want = S n) : isB x r n want = true := by
  unfold isB
  rcases normR_ok h hc hD with ⟨rfl, h1, h2⟩ | rfl
  · have hk := check_of_norm h1 h2
    have hh : hasR x n = (S n, 0) := by unfold hasR; rw [if_neg (by simpa using hk), if_neg (by simp [hv]), holds_of_norm h1]
    rw [if_pos rfl, hh, hw]; simp
  · rfl
end Np
end Go.Proofs.YtohlhihhadbphaaGreatDoor

/- The laws of names: plain facts. -/
namespace Go.Proofs.YtohlhihhadbphaaGreatDoor
open Go.RowKit Go.Shelf Go.Lib
namespace Np
def incB (t u : CT) : Bool := nevB (fun n => u.holds n && !t.holds n) (candsOf [t, u] [])
theorem incB_iff (t u : CT) : incB t u = true ↔ ∀ n, u.holds n = true → t.holds n = true := by
  unfold incB
  rw [nev_iff (dec_two t u (fun x y => y && !x))]
  constructor
  · intro h n hn
    have := h n
    rw [hn] at this
    simpa using this
  · intro h n
    cases hn : u.holds n
    · simp
    · rw [h n hn]; rfl
theorem same_incs {t u x y : CT} (hx : IsNorm t.holds x.er) (hy : IsNorm u.holds y.er) (hd : x.depth ≤ 40) : sameC 40 x y = (incB t u && incB u t) := by
  rw [Bool.eq_iff_iff, Bool.and_eq_true, incB_iff, incB_iff]
  constructor
  · intro h
    have e := sameC_er 40 x y h
    have hh : ∀ n, t.holds n = u.holds n := fun n => by
      rw [← holds_of_norm hx, ← holds_of_norm hy]; unfold CT.holds; rw [e]
    exact ⟨fun n hn => by rw [hh]; exact hn, fun n hn => by rw [← hh]; exact hn⟩
  · rintro ⟨h1, h2⟩
    have hh : t.holds = u.holds := funext fun n => by
      rw [Bool.eq_iff_iff]; exact ⟨h2 n, h1 n⟩
    rw [hh] at hx
    exact er_sameC 40 x y hd (hx.unique hy)
theorem inc_norm {t x : CT} (hx : IsNorm t.holds x.er) : incB x t = true ∧ incB t x = true :=
  ⟨(incB_iff _ _).2 fun n hn => by rw [holds_of_norm hx]; exact hn, (incB_iff _ _).2 fun n hn => by rw [← holds_of_norm hx]; exact hn⟩
theorem norm_again {t x : CT} {c : Cls} {r : Int} (hx : IsNorm t.holds x.er) (hs : x.er.small = true) (h : NormR [x] x.holds c r) : c = x.er ∧ r = 0 := by
  refine normR_get h (chk_one (check_of_norm hx hs)) (dec_one x) ?_ hs
  have e : x.holds = t.holds := funext fun n => holds_of_norm hx n
  rw [e]; exact hx
theorem word_one (stem : ByteArray) (i : Nat) : stem.size ≤ (word stem i).size := by
  unfold word
  split
  · exact Nat.le_refl _
  · rw [ByteArray.size_append]; omega
theorem fresh_valid {nms : List Name} {s : ByteArray} (hn : nms.length ≤ 1000000) (hs : s.size ≤ 200) : validN (fresh nms [] s) = true := by
  obtain ⟨j, hj, hf⟩ := fresh_free nms [] s
  obtain ⟨_, _, c, _⟩ := ff_spec (takenN nms [] s) (nms.length + ([] : List Name).length) 0 j (Nat.zero_le _) (by omega) hf
  have h1 := word_one xS (ff (takenN nms [] s) (nms.length + ([] : List Name).length) 0)
  have h2 := word_size xS (ff (takenN nms [] s) (nms.length + ([] : List Name).length) 0) (by decide) (by simp at hj c ⊢; omega)
  have h3 : xS.size = 1 := by decide
  unfold validN fresh
  simp only [Bool.and_eq_true, decide_eq_true_eq]
  exact ⟨⟨by omega, by omega⟩, hs⟩
theorem cand_valid {t : CT} (hc : t.check = 0) : ∀ n ∈ candsOf [t] [], validN n = true := by
  have hv := valid_of (lst := [t]) (by simpa using hc)
  have hl : (CT.partsL [t] 1).length ≤ 1000000 := Nat.le_trans (parts_le (by simpa using hc)) (by simp)
  have hn := Nat.le_trans (nmsOf_len (CT.partsL [t] 1)) hl
  have hs := Nat.le_trans (spsOf_len (CT.partsL [t] 1)) hl
  intro n hm
  unfold candsOf candL at hm
  simp only [List.mem_append, List.mem_map, List.mem_singleton] at hm
  rcases hm with (hm | ⟨s, hm, rfl⟩) | rfl
  · exact hv.1 n ((mem_asc linN).1 hm)
  · exact fresh_valid hn (hv.2 s ((mem_asc linS).1 hm))
  · refine fresh_valid hn ?_
    obtain ⟨j, hj, hf⟩ := newS_free (spsOf (CT.partsL [t] 1))
    obtain ⟨_, _, c, _⟩ := ff_spec (takenS (spsOf (CT.partsL [t] 1))) (spsOf (CT.partsL [t] 1)).length 0 j (Nat.zero_le _) (by omega) hf
    exact Nat.le_trans (word_size uS _ (by decide) (by omega)) (by omega)
theorem wit_facts {t : CT} (hc : t.check = 0) : (nevB t.holds (candsOf [t] []) = true → witR t [] = 4) ∧ (nevB t.holds (candsOf [t] []) = false → witR t [] = 0 ∧ hasR t (witN t []) = (true, 0)) := by
  have e : witC t [] = (candsOf [t] []).find? t.holds := by
    unfold witC; congr 1; funext n; simp
  unfold witR witN
  rw [if_pos hc, if_pos hc]
  constructor
  · intro h
    have : witC t [] = none := by
      rw [e, List.find?_eq_none]
      intro n hn
      unfold nevB at h
      have := List.all_eq_true.1 h n hn
      simpa using this
    rw [this]
  · intro h
    cases hw : witC t [] with
    | none =>
      rw [e, List.find?_eq_none] at hw
      have : nevB t.holds (candsOf [t] []) = true := by
        unfold nevB
        rw [List.all_eq_true]
        intro n hn
        have := hw n hn
        simpa using this
      rw [h] at this; cases this
    | some n =>
      rw [e] at hw
      refine ⟨rfl, ?_⟩
      have h1 := List.find?_some hw
      have h2 := cand_valid hc n (List.mem_of_find?_eq_some hw)
      unfold hasR
      rw [if_neg (by simpa using hc), if_neg (by simp [h2])]
      simp [h1]
end Np
end Go.Proofs.YtohlhihhadbphaaGreatDoor

/- The lift: classes and names out of what the arguments read. -/
namespace Go.Proofs.YtohlhihhadbphaaGreatDoor
open Go.RowKit Go.Shelf Go.Lib Go.ChangeShapes Go.WideShapes
namespace Np
noncomputable def fsC : Array Field := match Tryz.prog.underlying 26 with | some (.struct fs) => fs | _ => #[]
noncomputable def fsN : Array Field := match Tryz.prog.underlying 23 with | some (.struct fs) => fs | _ => #[]
theorem fsC_eq : Tryz.prog.underlying 26 = some (.struct fsC) := by kernel_rfl
theorem fsN_eq : Tryz.prog.underlying 23 = some (.struct fsN) := by kernel_rfl
noncomputable def tyC (i : Nat) : TypeId := ((fsC[i]?).map (·.type)).getD 0
noncomputable def tyN (i : Nat) : TypeId := ((fsN[i]?).map (·.type)).getD 0
theorem fld {fs : Array Field} {i : Nat} {ty : TypeId} {off : Nat} (h : (fs[i]?).map (fun f => (f.type, f.offset)) = some (ty, off)) : ∃ f, fs[i]? = some f ∧ f.type = ty ∧ f.offset = off := by
  cases hf : fs[i]? with
  | none => rw [hf] at h; cases h
  | some f => rw [hf] at h; simp at h; exact ⟨f, rfl, h.1, h.2⟩
theorem add_none (b o j : Nat) : (⟨b, o, none⟩ : Addr).add j = ⟨b, o + j, none⟩ := by unfold Addr.add; split <;> simp_all
theorem two_of {α : Type _} {l : List α} (h : l.length = 2) : ∃ a b, l = [a, b] := by
  match l, h with
  | [a, b], _ => exact ⟨a, b, rfl⟩
theorem six_of {α : Type _} {l : List α} (h : l.length = 6) : ∃ a b c d e f, l = [a, b, c, d, e, f] := by
  match l, h with
  | [a, b, c, d, e, f], _ => exact ⟨a, b, c, d, e, f, rfl⟩
theorem five_of {α : Type _} {l : List α} (h : l.length = 5) : ∃ a b c d e, l = [a, b, c, d, e] := by
  match l, h with
  | [a, b, c, d, e], _ => exact ⟨a, b, c, d, e, rfl⟩
section
variable {H : Type} {enc : TypeId × Value → H} {W : World}
theorem open_nm {n : Nat} {cs : List Value} {x : DataW H × List MemPlace} (h : DataW.trod enc Tryz.prog W 0 (fun _ => true) true n 23 cs = some x) : ∃ m : Name, cs = [.string m.sp, .string m.lc] ∧ m.fit := by
  obtain ⟨xs, n, rfl, _, hl, hn, hel⟩ := DataW.trod_struct fsN_eq h
  replace hl : cs.length = 2 := hl.trans (by kernel_rfl)
  replace hn : xs.length = 2 := hn.trans (by kernel_rfl)
  obtain ⟨v0, v1, rfl⟩ := two_of hl
  obtain ⟨x0, x1, rfl⟩ := two_of hn

  obtain ⟨f0, e0, t0, o0⟩ := fld (fs := fsN) (i := 0) (ty := tyN 0) (off := 0) (by kernel_rfl)
  obtain ⟨f1, e1, t1, o1⟩ := fld (fs := fsN) (i := 1) (ty := tyN 1) (off := 1) (by kernel_rfl)
  have h0 := hel 0 f0 e0
  have h1 := hel 1 f1 e1
  rw [t0, o0, show Tryz.prog.cellsOf (tyN 0) = 1 by kernel_rfl] at h0
  rw [t1, o1, show Tryz.prog.cellsOf (tyN 1) = 1 by kernel_rfl] at h1
  simp only [List.drop_zero, List.drop_succ_cons, List.take_succ_cons, List.take_zero, List.getElem?_cons_zero, List.getElem?_cons_succ] at h0 h1
  obtain ⟨s0, g0, _, z0⟩ := DataW.trod_string (by kernel_rfl) h0
  obtain ⟨s1, g1, _, z1⟩ := DataW.trod_string (by kernel_rfl) h1
  simp at g0 g1
  exact ⟨⟨s0, s1⟩, by rw [g0, g1], z0, z1⟩
theorem open_row {n : Nat} {ty : TypeId} {cs : List Value} {x : DataW H × List MemPlace} (hty : Tryz.prog.underlying ty = some (.slice 26))
    (ih : ∀ k, k < n → ∀ cs x, DataW.trod enc Tryz.prog W 0 (fun _ => true) true k 26 cs = some x → ∃ t : CT, cs = t.cells ∧ t.In W W.heap.size)
    (h : DataW.trod enc Tryz.prog W 0 (fun _ => true) true n ty cs = some x) : ∃ (a : Option Addr) (l : List CT) (c : Nat), cs = [.slice a l.length c] ∧ RowIn W W.heap.size a l ∧ ∀ u ∈ l, u.In W W.heap.size := by
  have c6 : Tryz.prog.cellsOf 26 = 6 := by kernel_rfl
  rcases DataW.trod_slice hty h with ⟨rfl, _⟩ | ⟨a, len, cap, elems, rest, m, rfl, rfl, _, _, hlc, hcap, hel, hrow, _, _⟩
  · exact ⟨none, [], 0, rfl, ⟨by simp, by simp⟩, by simp⟩
  · rw [c6] at hrow
    have hch : ∀ i, i < len → ∃ t : CT, W.cells? 0 (a.add (i * 6)) 6 = some t.cells ∧ t.In W W.heap.size := fun i hi => by
      have h1 := hrow i hi
      rw [List.getElem?_eq_getElem (by omega)] at h1
      obtain ⟨cs, h2, h3⟩ := Option.bind_eq_some_iff.1 h1
      obtain ⟨t, rfl, h4⟩ := ih m (Nat.lt_succ_self _) cs _ h3
      exact ⟨t, h2, h4⟩
    obtain ⟨l, hll, hl⟩ : ∃ l : List CT, l.length = len ∧ ∀ i (h : i < l.length), W.cells? 0 (a.add (i * 6)) 6 = some (l[i]).cells ∧ (l[i]).In W W.heap.size :=
      ⟨List.ofFn fun i : Fin len => Classical.choose (hch i.1 i.2), by simp, fun i h => by
        simp only [List.length_ofFn] at h
        rw [List.getElem_ofFn]
        exact Classical.choose_spec (hch i h)⟩
    refine ⟨some a, l, cap, by rw [hll], ⟨by omega, fun hne => ?_⟩, fun u hu => ?_⟩
    · have hpos : 0 < l.length := List.length_pos_iff.2 hne
      obtain ⟨_, _, h0⟩ := World.cells?_some (hl 0 hpos).1
      have h00 := h0 0 (by omega)
      have hsome : ((l[0]'hpos).cells)[0]? = some (.int .i64 (l[0]'hpos).kind) := rfl
      rw [hsome] at h00
      obtain ⟨b, o, spot⟩ := a
      have hsp : spot = none := by
        have := World.cell?_spot h00
        cases spot with
        | none => rfl
        | some s => simp [Addr.add] at this
      subst hsp
      rw [add_none, add_none] at h00
      refine ⟨b, o, rfl, cell_lt h00, fun j hj i v hv => ?_⟩
      obtain ⟨_, hlen, h1⟩ := World.cells?_some (hl j hj).1
      have hi : i < 6 := by
        have := (List.getElem?_eq_some_iff.1 hv).1
        omega
      have h2 := h1 i hi
      rw [add_none, add_none, hv] at h2
      exact h2
    · obtain ⟨i, hi, rfl⟩ := List.getElem_of_mem hu
      exact (hl i hi).2
theorem open_class : ∀ (n : Nat) (cs : List Value) (x : DataW H × List MemPlace), DataW.trod enc Tryz.prog W 0 (fun _ => true) true n 26 cs = some x → ∃ t : CT, cs = t.cells ∧ t.In W W.heap.size := by
  intro n
  induction n using Nat.strongRecOn with
  | _ n ih =>
    intro cs x h
    obtain ⟨xs, n, rfl, _, hl, hn, hel⟩ := DataW.trod_struct fsC_eq h
    replace hl : cs.length = 6 := hl.trans (by kernel_rfl)
    replace hn : xs.length = 5 := hn.trans (by kernel_rfl)
    obtain ⟨v0, v1, v2, v3, v4, v5, rfl⟩ := six_of hl
    obtain ⟨x0, x1, x2, x3, x4, rfl⟩ := five_of hn
    obtain ⟨f0, e0, t0, o0⟩ := fld (fs := fsC) (i := 0) (ty := tyC 0) (off := 0) (by kernel_rfl)
    obtain ⟨f1, e1, t1, o1⟩ := fld (fs := fsC) (i := 1) (ty := 23) (off := 1) (by kernel_rfl)
    obtain ⟨f2, e2, t2, o2⟩ := fld (fs := fsC) (i := 2) (ty := tyC 2) (off := 3) (by kernel_rfl)
    obtain ⟨f3, e3, t3, o3⟩ := fld (fs := fsC) (i := 3) (ty := tyC 3) (off := 4) (by kernel_rfl)
    obtain ⟨f4, e4, t4, o4⟩ := fld (fs := fsC) (i := 4) (ty := tyC 4) (off := 5) (by kernel_rfl)
    have h0 := hel 0 f0 e0
    have h1 := hel 1 f1 e1
    have h2 := hel 2 f2 e2
    have h3 := hel 3 f3 e3
    have h4 := hel 4 f4 e4
    rw [t0, o0, show Tryz.prog.cellsOf (tyC 0) = 1 by kernel_rfl] at h0
    rw [t1, o1, show Tryz.prog.cellsOf 23 = 2 by kernel_rfl] at h1
    rw [t2, o2, show Tryz.prog.cellsOf (tyC 2) = 1 by kernel_rfl] at h2
    rw [t3, o3, show Tryz.prog.cellsOf (tyC 3) = 1 by kernel_rfl] at h3
    rw [t4, o4, show Tryz.prog.cellsOf (tyC 4) = 1 by kernel_rfl] at h4
    simp only [List.drop_zero, List.drop_succ_cons, List.take_succ_cons, List.take_zero, List.getElem?_cons_zero, List.getElem?_cons_succ] at h0 h1 h2 h3 h4
    obtain ⟨k, g0, _, _⟩ := DataW.trod_int (k := .i64) (by kernel_rfl) h0
    obtain ⟨m, g1, z1⟩ := open_nm h1
    obtain ⟨s, g2, _, z2⟩ := DataW.trod_string (by kernel_rfl) h2
    obtain ⟨ea, ex, ec, g3, r3, i3⟩ := open_row (by kernel_rfl) (fun k hk => ih k (Nat.lt_succ_of_lt hk)) h3
    obtain ⟨aa, ar, ac, g4, r4, i4⟩ := open_row (by kernel_rfl) (fun k hk => ih k (Nat.lt_succ_of_lt hk)) h4
    simp at g0 g1 g2 g3 g4
    obtain ⟨g1, g1'⟩ := g1
    refine ⟨.mk k m s ea ec ex aa ac ar, ?_, CT.in_iff.2 ⟨z1, z2, r3, r4, i3, i4⟩⟩
    rw [g0, g1, g1', g2, g3, g4]
    rfl
theorem class_arg {c : Array Value} {d : DataW H} {p : List MemPlace} (h : DataW.Trod enc Tryz.prog W 0 (fun _ => true) true 26 (.agg c) d p) : ∃ t : CT, Value.agg c = t.val ∧ t.In W W.heap.size := by
  obtain ⟨m, hm⟩ := h
  obtain ⟨t, e, hi⟩ := open_class m _ _ hm
  refine ⟨t, ?_, hi⟩
  have : c = t.cells.toArray := by rw [← e]; simp [Value.cells]
  rw [this]; rfl
theorem name_arg {c : Array Value} {d : DataW H} {p : List MemPlace} (h : DataW.Trod enc Tryz.prog W 0 (fun _ => true) true 23 (.agg c) d p) : ∃ n : Name, Value.agg c = n.val ∧ n.fit := by
  obtain ⟨m, hm⟩ := h
  obtain ⟨n, e, hi⟩ := open_nm hm
  refine ⟨n, ?_, hi⟩
  have : c = #[.string n.sp, .string n.lc] := by
    have e' : c.toList = [.string n.sp, .string n.lc] := by simpa [Value.cells] using e
    rw [← Array.toArray_toList (xs := c), e']
  rw [this]; rfl
end
end Np
end Go.Proofs.YtohlhihhadbphaaGreatDoor

/- great: no class that is looked at is deep. -/
namespace Go.Proofs.YtohlhihhadbphaaGreatDoor
open Go.RowKit Go.Shelf Go.Lib
namespace Np
def SizeFor (room : Nat) : Prop := ∀ (t : CT) (w : World), t.In w w.heap.size → Calls Tryz.prog 38 #[t.val, .int .i64 (room : Int)] w fun e w' => ∃ n : Nat, e = .returned (.int .i64 (n : Int)) ∧ Hid (1 ≤ n ∧ n ≤ 100000 * (room + 1) ∧ (n ≤ 400 → t.depth ≤ room)) ∧ Below w.heap.size w w'
theorem depthL_le {l : List CT} {d : Nat} (h : ∀ t ∈ l, t.depth ≤ d) : CT.depthL l ≤ d := by
  induction l with
  | nil => simp [CT.depthL]
  | cons a r ih =>
    rw [CT.depthL]
    have h1 := h a (List.mem_cons_self ..)
    have h2 := ih (fun t ht => h t (List.mem_cons_of_mem _ ht))
    omega
set_option maxRecDepth 100000 in
set_option maxHeartbeats 4000000 in
theorem size_step (room : Nat) (hroom : room ≤ 100) (hS : 1 ≤ room → ∀ (t : CT) (w : World), t.In w w.heap.size → Calls Tryz.prog 38 #[t.val, .int .i64 ((room : Int) - 1)] w fun e w' => ∃ n : Nat, e = .returned (.int .i64 (n : Int)) ∧ Hid (1 ≤ n ∧ n ≤ 100000 * room ∧ (n ≤ 400 → t.depth + 1 ≤ room)) ∧ Below w.heap.size w w') : SizeFor room := by
  intro t w hIn
  have hI := CT.in_iff.1 hIn
  obtain ⟨W1, hW1⟩ : ∃ W1, w.alloc (.cells t.cells.toArray 26) = W1 := ⟨_, rfl⟩
  have hb1 : Below w.heap.size w W1 := by rw [← hW1]; exact (Below.refl _ w).alloc (Nat.le_refl _) _
  have B0 : Blk W1 w.heap.size t.cells.toArray 26 := by rw [← hW1]; exact Blk.new _ _ _
  have hs1 : w.heap.size < W1.heap.size := B0.lt
  have hLe : LIn W1 W1.heap.size t.ea t.ex := LIn.mono (LIn.below ⟨hI.2.2.1, hI.2.2.2.2.1⟩ hb1 (Nat.le_refl _)) (by omega)
  have hLa : LIn W1 W1.heap.size t.aa t.ar := LIn.mono (LIn.below ⟨hI.2.2.2.1, hI.2.2.2.2.2⟩ hb1 (Nat.le_refl _)) (by omega)
  obtain ⟨c0, c1, c2, c3, c4, c5⟩ := ct_cells B0
  rw [CT.cells_eq] at hW1
  rw [CT.val_eq]
  obtain ⟨z1, hz1⟩ : ∃ b, decide (1000 < (t.name.lc.size : Int)) = b := ⟨_, rfl⟩
  obtain ⟨z2, hz2⟩ : ∃ b, decide (1000 < (t.name.sp.size : Int)) = b := ⟨_, rfl⟩
  obtain ⟨z3, hz3⟩ : ∃ b, decide (1000 < (t.space.size : Int)) = b := ⟨_, rfl⟩
  have y1 : decide (1000 < t.name.lc.size) = z1 := by rw [← hz1]; simp only [decide_eq_decide]; omega
  have y2 : decide (1000 < t.name.sp.size) = z2 := by rw [← hz2]; simp only [decide_eq_decide]; omega
  have y3 : decide (1000 < t.space.size) = z3 := by rw [← hz3]; simp only [decide_eq_decide]; omega
  go_enter Tryz.func38, Tryz.ntmps38
  cases hr0 : decide ((room : Int) < 1) with
  | true =>
    have Hr0 := Lib.hid hr0
    go_wp2
    go_ret
    exact ⟨100000, rfl, Lib.hid ⟨by omega, by omega, fun h => by omega⟩, hb1⟩
  | false =>
    have Hr0 : Hid (1 ≤ room) := Lib.hid (by have := of_decide_eq_false hr0; omega)
    cases z1 with
    | true =>
      go_wp2
      go_ret
      exact ⟨100000, rfl, Lib.hid ⟨by omega, by omega, fun h => by omega⟩, hb1⟩
    | false =>
      cases z2 with
      | true =>
        go_wp2
        go_ret
        exact ⟨100000, rfl, Lib.hid ⟨by omega, by omega, fun h => by omega⟩, hb1⟩
      | false =>
        cases z3 with
        | true =>
          go_wp2
          go_ret
          exact ⟨100000, rfl, Lib.hid ⟨by omega, by omega, fun h => by omega⟩, hb1⟩
        | false =>
          have hel := hLe.row.1
          have hal := hLa.row.1
          unfold maxLen at hel hal
          go_wp2
          go_loopw [5, 6] (fun n i wr => ∃ (N k : Nat), k ≤ t.ex.length ∧ n = .int .i64 N ∧ i = .int .i64 k ∧ Hid (1 ≤ N ∧ N ≤ 100000 * (room + 1) ∧ (N ≤ 400 → (∀ u ∈ t.ex.take k, u.depth + 1 ≤ room))) ∧ Below W1.heap.size W1 wr) (fun _ i _ => t.ex.length - (intOf i).toNat)
          case atStart => exact ⟨1, 0, by omega, rfl, rfl, Lib.hid ⟨by omega, by omega, fun _ => by simp⟩, Below.refl _ _⟩
          case round =>
            obtain ⟨N, k, hk, rfl, rfl, HI, hb⟩ := hrel
            try clear hW1
            have hNb := HI.out.2.1
            have B2 : Blk wr w.heap.size t.cells.toArray 26 := (hb.block _ hs1).trans B0
            clear c0 c1 c2 c3 c4 c5
            obtain ⟨c0, c1, c2, c3, c4, c5⟩ := ct_cells B2
            by_cases hlt : k < t.ex.length
            · by_cases hN : N < 100000
              · have d1 : decide ((k : Int) < (t.ex.length : Int)) = true := decide_eq_true (by omega)
                have d2 : decide (k < t.ex.length) = true := decide_eq_true hlt
                have d3 : decide ((N : Int) < 100000) = true := decide_eq_true (by omega)
                have d4 : decide (N < 100000) = true := decide_eq_true hN
                obtain ⟨u, hu⟩ : ∃ u, t.ex[k] = u := ⟨_, rfl⟩
                have hmu : u ∈ t.ex := by rw [← hu]; exact List.getElem_mem hlt
                obtain ⟨b, o, hao, hbn, hcells⟩ := hLe.row.2 (List.ne_nil_of_length_pos (by omega))
                have hcu : ∀ i x, u.cells[i]? = some x → wr.cell? ⟨b, o + k * 6 + i, none⟩ = some x := fun i x hx => (hb.cell (p := ⟨b, o + k * 6 + i, none⟩) hbn).trans (hcells k hlt i x (by rw [hu]; exact hx))
                have u0 := hcu 0 _ rfl
                have u1 := hcu 1 _ rfl
                have u2 := hcu 2 _ rfl
                have u3 := hcu 3 _ rfl
                have u4 := hcu 4 _ rfl
                have u5 := hcu 5 _ rfl
                rw [Nat.add_zero] at u0
                rw [CT.exv_eq] at u4
                rw [CT.arv_eq] at u5
                have hC := hS Hr0.out u wr ((hLe.ins u hmu).below hb (Nat.le_refl _) |>.mono hb.size)
                rw [CT.val_eq] at hC
                have Hu : Hid (t.ex.take (k + 1) = t.ex.take k ++ [u]) := Lib.hid (by rw [List.take_succ_eq_append_getElem hlt, hu])
                clear hu hcu hcells hmu
          
                rw [hao] at c4
                have Hao := Lib.hid hao
                clear hao
                go_wp2_with (go_at_call 38; refine hC.mono ?_)
                rintro e w2 ⟨M, rfl, HM, hb2⟩
                have hM := HM.out.2.1
                have hM1 := HM.out.1
                have H2 : Hid (1 ≤ N + M ∧ N + M ≤ 100000 * (room + 1) ∧ (N + M ≤ 400 → (∀ u ∈ t.ex.take (k + 1), u.depth + 1 ≤ room))) := Lib.hid ⟨by omega, by omega, fun h => by
                  have h1 := HI.out.2.2 (by omega)
                  have h2 := HM.out.2.2 (by omega)
                  rw [Hu.out]
                  refine fun x hx => ?_
                  rcases List.mem_append.1 hx with hx | hx
                  · exact h1 x hx
                  · rw [List.mem_singleton.1 hx]; exact h2⟩
                go_wp2
                go_roundw
                case rel =>
                  have hrl : ∃ (N' k' : Nat), k' ≤ t.ex.length ∧ Value.int .i64 ((N : Int) + (M : Int)) = .int .i64 N' ∧ Value.int .i64 ((k : Int) + 1) = .int .i64 k' ∧ Hid (1 ≤ N' ∧ N' ≤ 100000 * (room + 1) ∧ (N' ≤ 400 → (∀ u ∈ t.ex.take k', u.depth + 1 ≤ room))) ∧ Below W1.heap.size W1 w2 := ⟨N + M, k + 1, by omega, by go_num, by go_num, H2, hb.trans (hb2.mono hb.size)⟩
                  first
                    | exact hrl
                    | ((repeat apply Exists.intro); exact ⟨hrl, rfl⟩)
                case measure =>
                  have e3 : ((k : Int) + 1).toNat = k + 1 := by omega
                  simp only [intOf, e3, Int.toNat_natCast]
                  omega
              · have d1 : decide ((k : Int) < (t.ex.length : Int)) = true := decide_eq_true (by omega)
                have d2 : decide (k < t.ex.length) = true := decide_eq_true hlt
                have d3 : decide ((N : Int) < 100000) = false := decide_eq_false (by omega)
                have d4 : decide (N < 100000) = false := decide_eq_false hN
                have Hx : Hid (N ≤ 400 → (∀ u ∈ t.ex, u.depth + 1 ≤ room)) := Lib.hid (fun h => by omega)
                go_wp2
                go_loopw [5, 7] (fun n i wr => ∃ (N k : Nat), k ≤ t.ar.length ∧ n = .int .i64 N ∧ i = .int .i64 k ∧ Hid (1 ≤ N ∧ N ≤ 100000 * (room + 1) ∧ (N ≤ 400 → (∀ u ∈ t.ex, u.depth + 1 ≤ room) ∧ (∀ u ∈ t.ar.take k, u.depth + 1 ≤ room))) ∧ Below W1.heap.size W1 wr) (fun _ i _ => t.ar.length - (intOf i).toNat)
                case atStart => exact ⟨N, 0, by omega, rfl, rfl, Lib.hid ⟨HI.out.1, HI.out.2.1, fun h => ⟨Hx.out h, by simp⟩⟩, hb⟩
                case round =>
                  obtain ⟨N, k, hk, rfl, rfl, HI, hb⟩ := hrel
                  try clear hW1
                  have hNb := HI.out.2.1
                  have B2 : Blk wr w.heap.size t.cells.toArray 26 := (hb.block _ hs1).trans B0
                  clear c0 c1 c2 c3 c4 c5
                  obtain ⟨c0, c1, c2, c3, c4, c5⟩ := ct_cells B2
                  by_cases hlt : k < t.ar.length
                  · by_cases hN : N < 100000
                    · have d1 : decide ((k : Int) < (t.ar.length : Int)) = true := decide_eq_true (by omega)
                      have d2 : decide (k < t.ar.length) = true := decide_eq_true hlt
                      have d3 : decide ((N : Int) < 100000) = true := decide_eq_true (by omega)
                      have d4 : decide (N < 100000) = true := decide_eq_true hN
                      obtain ⟨u, hu⟩ : ∃ u, t.ar[k] = u := ⟨_, rfl⟩
                      have hmu : u ∈ t.ar := by rw [← hu]; exact List.getElem_mem hlt
                      obtain ⟨b, o, hao, hbn, hcells⟩ := hLa.row.2 (List.ne_nil_of_length_pos (by omega))
                      have hcu : ∀ i x, u.cells[i]? = some x → wr.cell? ⟨b, o + k * 6 + i, none⟩ = some x := fun i x hx => (hb.cell (p := ⟨b, o + k * 6 + i, none⟩) hbn).trans (hcells k hlt i x (by rw [hu]; exact hx))
                      have u0 := hcu 0 _ rfl
                      have u1 := hcu 1 _ rfl
                      have u2 := hcu 2 _ rfl
                      have u3 := hcu 3 _ rfl
                      have u4 := hcu 4 _ rfl
                      have u5 := hcu 5 _ rfl
                      rw [Nat.add_zero] at u0
                      rw [CT.exv_eq] at u4
                      rw [CT.arv_eq] at u5
                      have hC := hS Hr0.out u wr ((hLa.ins u hmu).below hb (Nat.le_refl _) |>.mono hb.size)
                      rw [CT.val_eq] at hC
                      have Hu : Hid (t.ar.take (k + 1) = t.ar.take k ++ [u]) := Lib.hid (by rw [List.take_succ_eq_append_getElem hlt, hu])
                      clear hu hcu hcells hmu
                
                      rw [hao] at c5
                      have Hao := Lib.hid hao
                      clear hao
                      go_wp2_with (go_at_call 38; refine hC.mono ?_)
                      rintro e w2 ⟨M, rfl, HM, hb2⟩
                      have hM := HM.out.2.1
                      have hM1 := HM.out.1
                      have H2 : Hid (1 ≤ N + M ∧ N + M ≤ 100000 * (room + 1) ∧ (N + M ≤ 400 → (∀ u ∈ t.ex, u.depth + 1 ≤ room) ∧ (∀ u ∈ t.ar.take (k + 1), u.depth + 1 ≤ room))) := Lib.hid ⟨by omega, by omega, fun h => by
                        have h1 := HI.out.2.2 (by omega)
                        have h2 := HM.out.2.2 (by omega)
                        rw [Hu.out]
                        refine ⟨h1.1, fun x hx => ?_⟩
                        rcases List.mem_append.1 hx with hx | hx
                        · exact h1.2 x hx
                        · rw [List.mem_singleton.1 hx]; exact h2⟩
                      go_wp2
                      go_roundw
                      case rel =>
                        have hrl : ∃ (N' k' : Nat), k' ≤ t.ar.length ∧ Value.int .i64 ((N : Int) + (M : Int)) = .int .i64 N' ∧ Value.int .i64 ((k : Int) + 1) = .int .i64 k' ∧ Hid (1 ≤ N' ∧ N' ≤ 100000 * (room + 1) ∧ (N' ≤ 400 → (∀ u ∈ t.ex, u.depth + 1 ≤ room) ∧ (∀ u ∈ t.ar.take k', u.depth + 1 ≤ room))) ∧ Below W1.heap.size W1 w2 := ⟨N + M, k + 1, by omega, by go_num, by go_num, H2, hb.trans (hb2.mono hb.size)⟩
                        first
                          | exact hrl
                          | ((repeat apply Exists.intro); exact ⟨hrl, rfl⟩)
                      case measure =>
                        have e3 : ((k : Int) + 1).toNat = k + 1 := by omega
                        simp only [intOf, e3, Int.toNat_natCast]
                        omega
                    · have d1 : decide ((k : Int) < (t.ar.length : Int)) = true := decide_eq_true (by omega)
                      have d2 : decide (k < t.ar.length) = true := decide_eq_true hlt
                      have d3 : decide ((N : Int) < 100000) = false := decide_eq_false (by omega)
                      have d4 : decide (N < 100000) = false := decide_eq_false hN
                      have Hx : Hid (N ≤ 400 → (∀ u ∈ t.ex, u.depth + 1 ≤ room) ∧ (∀ u ∈ t.ar, u.depth + 1 ≤ room)) := Lib.hid (fun h => by omega)
                      go_wp2
                      go_ret
                      exact ⟨N, rfl, Lib.hid ⟨HI.out.1, HI.out.2.1, fun h => by
                        have hx := Hx.out h
                        have he : CT.depthL t.ex ≤ room - 1 := depthL_le (fun x hm => by have := hx.1 x hm; omega)
                        have ha : CT.depthL t.ar ≤ room - 1 := depthL_le (fun x hm => by have := hx.2 x hm; omega)
                        have := Hr0.out
                        rw [CT.depth_eq]; omega⟩, hb1.trans (hb.mono (by omega))⟩
                  · have d1 : decide ((k : Int) < (t.ar.length : Int)) = false := decide_eq_false (by omega)
                    have d2 : decide (k < t.ar.length) = false := decide_eq_false hlt
                    have Hx : Hid (N ≤ 400 → (∀ u ∈ t.ex, u.depth + 1 ≤ room) ∧ (∀ u ∈ t.ar, u.depth + 1 ≤ room)) := Lib.hid (fun h => by
                      have := HI.out.2.2 h
                      rw [List.take_of_length_le (by omega)] at this
                      exact this)
                    go_wp2
                    go_ret
                    exact ⟨N, rfl, Lib.hid ⟨HI.out.1, HI.out.2.1, fun h => by
                      have hx := Hx.out h
                      have he : CT.depthL t.ex ≤ room - 1 := depthL_le (fun x hm => by have := hx.1 x hm; omega)
                      have ha : CT.depthL t.ar ≤ room - 1 := depthL_le (fun x hm => by have := hx.2 x hm; omega)
                      have := Hr0.out
                      rw [CT.depth_eq]; omega⟩, hb1.trans (hb.mono (by omega))⟩
            · have d1 : decide ((k : Int) < (t.ex.length : Int)) = false := decide_eq_false (by omega)
              have d2 : decide (k < t.ex.length) = false := decide_eq_false hlt
              have Hx : Hid (N ≤ 400 → (∀ u ∈ t.ex, u.depth + 1 ≤ room)) := Lib.hid (fun h => by
                have := HI.out.2.2 h
                rw [List.take_of_length_le (by omega)] at this
                exact this)
              go_wp2
              go_loopw [5, 7] (fun n i wr => ∃ (N k : Nat), k ≤ t.ar.length ∧ n = .int .i64 N ∧ i = .int .i64 k ∧ Hid (1 ≤ N ∧ N ≤ 100000 * (room + 1) ∧ (N ≤ 400 → (∀ u ∈ t.ex, u.depth + 1 ≤ room) ∧ (∀ u ∈ t.ar.take k, u.depth + 1 ≤ room))) ∧ Below W1.heap.size W1 wr) (fun _ i _ => t.ar.length - (intOf i).toNat)
              case atStart => exact ⟨N, 0, by omega, rfl, rfl, Lib.hid ⟨HI.out.1, HI.out.2.1, fun h => ⟨Hx.out h, by simp⟩⟩, hb⟩
              case round =>
                obtain ⟨N, k, hk, rfl, rfl, HI, hb⟩ := hrel
                try clear hW1
                have hNb := HI.out.2.1
                have B2 : Blk wr w.heap.size t.cells.toArray 26 := (hb.block _ hs1).trans B0
                clear c0 c1 c2 c3 c4 c5
                obtain ⟨c0, c1, c2, c3, c4, c5⟩ := ct_cells B2
                by_cases hlt : k < t.ar.length
                · by_cases hN : N < 100000
                  · have d1 : decide ((k : Int) < (t.ar.length : Int)) = true := decide_eq_true (by omega)
                    have d2 : decide (k < t.ar.length) = true := decide_eq_true hlt
                    have d3 : decide ((N : Int) < 100000) = true := decide_eq_true (by omega)
                    have d4 : decide (N < 100000) = true := decide_eq_true hN
                    obtain ⟨u, hu⟩ : ∃ u, t.ar[k] = u := ⟨_, rfl⟩
                    have hmu : u ∈ t.ar := by rw [← hu]; exact List.getElem_mem hlt
                    obtain ⟨b, o, hao, hbn, hcells⟩ := hLa.row.2 (List.ne_nil_of_length_pos (by omega))
                    have hcu : ∀ i x, u.cells[i]? = some x → wr.cell? ⟨b, o + k * 6 + i, none⟩ = some x := fun i x hx => (hb.cell (p := ⟨b, o + k * 6 + i, none⟩) hbn).trans (hcells k hlt i x (by rw [hu]; exact hx))
                    have u0 := hcu 0 _ rfl
                    have u1 := hcu 1 _ rfl
                    have u2 := hcu 2 _ rfl
                    have u3 := hcu 3 _ rfl
                    have u4 := hcu 4 _ rfl
                    have u5 := hcu 5 _ rfl
                    rw [Nat.add_zero] at u0
                    rw [CT.exv_eq] at u4
                    rw [CT.arv_eq] at u5
                    have hC := hS Hr0.out u wr ((hLa.ins u hmu).below hb (Nat.le_refl _) |>.mono hb.size)
                    rw [CT.val_eq] at hC
                    have Hu : Hid (t.ar.take (k + 1) = t.ar.take k ++ [u]) := Lib.hid (by rw [List.take_succ_eq_append_getElem hlt, hu])
                    clear hu hcu hcells hmu
              
                    rw [hao] at c5
                    have Hao := Lib.hid hao
                    clear hao
                    go_wp2_with (go_at_call 38; refine hC.mono ?_)
                    rintro e w2 ⟨M, rfl, HM, hb2⟩
                    have hM := HM.out.2.1
                    have hM1 := HM.out.1
                    have H2 : Hid (1 ≤ N + M ∧ N + M ≤ 100000 * (room + 1) ∧ (N + M ≤ 400 → (∀ u ∈ t.ex, u.depth + 1 ≤ room) ∧ (∀ u ∈ t.ar.take (k + 1), u.depth + 1 ≤ room))) := Lib.hid ⟨by omega, by omega, fun h => by
                      have h1 := HI.out.2.2 (by omega)
                      have h2 := HM.out.2.2 (by omega)
                      rw [Hu.out]
                      refine ⟨h1.1, fun x hx => ?_⟩
                      rcases List.mem_append.1 hx with hx | hx
                      · exact h1.2 x hx
                      · rw [List.mem_singleton.1 hx]; exact h2⟩
                    go_wp2
                    go_roundw
                    case rel =>
                      have hrl : ∃ (N' k' : Nat), k' ≤ t.ar.length ∧ Value.int .i64 ((N : Int) + (M : Int)) = .int .i64 N' ∧ Value.int .i64 ((k : Int) + 1) = .int .i64 k' ∧ Hid (1 ≤ N' ∧ N' ≤ 100000 * (room + 1) ∧ (N' ≤ 400 → (∀ u ∈ t.ex, u.depth + 1 ≤ room) ∧ (∀ u ∈ t.ar.take k', u.depth + 1 ≤ room))) ∧ Below W1.heap.size W1 w2 := ⟨N + M, k + 1, by omega, by go_num, by go_num, H2, hb.trans (hb2.mono hb.size)⟩
                      first
                        | exact hrl
                        | ((repeat apply Exists.intro); exact ⟨hrl, rfl⟩)
                    case measure =>
                      have e3 : ((k : Int) + 1).toNat = k + 1 := by omega
                      simp only [intOf, e3, Int.toNat_natCast]
                      omega
                  · have d1 : decide ((k : Int) < (t.ar.length : Int)) = true := decide_eq_true (by omega)
                    have d2 : decide (k < t.ar.length) = true := decide_eq_true hlt
                    have d3 : decide ((N : Int) < 100000) = false := decide_eq_false (by omega)
                    have d4 : decide (N < 100000) = false := decide_eq_false hN
                    have Hx : Hid (N ≤ 400 → (∀ u ∈ t.ex, u.depth + 1 ≤ room) ∧ (∀ u ∈ t.ar, u.depth + 1 ≤ room)) := Lib.hid (fun h => by omega)
                    go_wp2
                    go_ret
                    exact ⟨N, rfl, Lib.hid ⟨HI.out.1, HI.out.2.1, fun h => by
                      have hx := Hx.out h
                      have he : CT.depthL t.ex ≤ room - 1 := depthL_le (fun x hm => by have := hx.1 x hm; omega)
                      have ha : CT.depthL t.ar ≤ room - 1 := depthL_le (fun x hm => by have := hx.2 x hm; omega)
                      have := Hr0.out
                      rw [CT.depth_eq]; omega⟩, hb1.trans (hb.mono (by omega))⟩
                · have d1 : decide ((k : Int) < (t.ar.length : Int)) = false := decide_eq_false (by omega)
                  have d2 : decide (k < t.ar.length) = false := decide_eq_false hlt
                  have Hx : Hid (N ≤ 400 → (∀ u ∈ t.ex, u.depth + 1 ≤ room) ∧ (∀ u ∈ t.ar, u.depth + 1 ≤ room)) := Lib.hid (fun h => by
                    have := HI.out.2.2 h
                    rw [List.take_of_length_le (by omega)] at this
                    exact this)
                  go_wp2
                  go_ret
                  exact ⟨N, rfl, Lib.hid ⟨HI.out.1, HI.out.2.1, fun h => by
                    have hx := Hx.out h
                    have he : CT.depthL t.ex ≤ room - 1 := depthL_le (fun x hm => by have := hx.1 x hm; omega)
                    have ha : CT.depthL t.ar ≤ room - 1 := depthL_le (fun x hm => by have := hx.2 x hm; omega)
                    have := Hr0.out
                    rw [CT.depth_eq]; omega⟩, hb1.trans (hb.mono (by omega))⟩
theorem size_all : ∀ room, room ≤ 100 → SizeFor room
  | 0, h => size_step 0 h (fun h0 => by omega)
  | room + 1, h => size_step (room + 1) h (fun _ t w hIn => by
    have := size_all room (by omega) t w hIn
    rw [show ((room + 1 : Nat) : Int) - 1 = (room : Int) by omega]
    exact this.mono fun _ _ ⟨n, h1, h2, h3⟩ => ⟨n, h1, Lib.hid ⟨h2.out.1, h2.out.2.1, fun hn => by have := h2.out.2.2 hn; omega⟩, h3⟩)
set_option maxRecDepth 100000 in
theorem great_any (t : CT) (w : World) (hIn : t.In w w.heap.size) : Calls Tryz.prog 7 #[t.val, .int .i64 40] w fun e w' => ∃ g : Bool, e = .returned (.bool g) ∧ Hid (g = false → t.depth ≤ 40) ∧ Below w.heap.size w w' := by
  obtain ⟨W1, hW1⟩ : ∃ W1, w.alloc (.cells t.cells.toArray 26) = W1 := ⟨_, rfl⟩
  have hb1 : Below w.heap.size w W1 := by rw [← hW1]; exact (Below.refl _ w).alloc (Nat.le_refl _) _
  have B0 : Blk W1 w.heap.size t.cells.toArray 26 := by rw [← hW1]; exact Blk.new _ _ _
  have hC := size_all 40 (by omega) t W1 ((hIn.below hb1 (Nat.le_refl _)).mono hb1.size)
  obtain ⟨c0, c1, c2, c3, c4, c5⟩ := ct_cells B0
  rw [CT.val_eq, show ((40 : Nat) : Int) = 40 from rfl] at hC
  rw [CT.cells_eq] at hW1
  rw [CT.val_eq]
  clear B0
  go_enter Tryz.func7, Tryz.ntmps7
  go_wp2_with (go_at_call 38; refine hC.mono ?_)
  rintro e W2 ⟨n, rfl, HN, hb2⟩
  have hn := HN.out.2.1
  go_wp2
  go_ret
  exact ⟨_, rfl, Lib.hid (fun h => HN.out.2.2 (by simp at h; omega)), hb1.trans (hb2.mono hb1.size)⟩
end Np
end Go.Proofs.YtohlhihhadbphaaGreatDoor
