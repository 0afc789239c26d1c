/- Names: J K L M N. -/
import Derived.Test.YtohlhihhadbphaaGreatDoorGc
import Derived.Test.YtohlhihhadbphaaGreatDoorGa
import Derived.Laws.EntriesVeiled
import Derived.Deep.Heap
import Derived.Lib.ItoaLen
set_option linter.unusedSimpArgs false
set_option linter.unusedVariables false
/- Keys of maps: names. -/
namespace Go.Proofs.YtohlhihhadbphaaGreatDoor
open Go.RowKit Go.Shelf Go.Lib
namespace Np
def litN (n : Name) : Lit := .string (keyBytes [.string n.sp.data.toList, .string n.lc.data.toList])
theorem laidOut : laidOutB Tryz.prog = true := by kernel_rfl
theorem keyedN : Go.Maps.Keyed Tryz.prog 23 := Go.Maps.Keyed.of_law (deep_law_gate laidOut (of_decide_eq_true (by kernel_rfl)) (of_decide_eq_true (by kernel_rfl)) (by kernel_rfl) (by kernel_rfl))
def strLits : List Value → Option (List Lit)
  | [.string s] => if s.size ≤ maxLen then some [.string s.data.toList] else none
  | _ => none
theorem keyLits_str (D : Nat) (cs : List Value) : Tryz.prog.keyLits (D + 1) 9 cs = strLits cs := by
  unfold Program.keyLits strLits
  simp only [Tryz.underlying9]
  split <;> rename_i h1 h2 <;> simp_all
theorem cells23 : Tryz.prog.cellsOf 23 = 2 := by kernel_rfl
theorem cells9 : Tryz.prog.cellsOf 9 = 1 := by kernel_rfl
theorem keyType23 : Tryz.prog.keyType 23 = true := by kernel_rfl
theorem strLits_inv {cs : List Value} {l : List Lit} (h : strLits cs = some l) : ∃ s : ByteArray, cs = [.string s] ∧ l = [.string s.data.toList] ∧ s.size ≤ maxLen := by
  unfold strLits at h
  split at h
  · split at h
    · rename_i s hs
      cases h
      exact ⟨s, rfl, rfl, hs⟩
    · cases h
  · cases h
theorem keyLits_name {D : Nat} {a b : Value} : Tryz.prog.keyLits (D + 2) 23 [a, b] = ((strLits [a]).bind fun x => (strLits [b]).map fun y => x ++ y) := by
  rw [show D + 2 = (D + 1) + 1 from rfl]
  unfold Program.keyLits
  simp only [Tryz.underlying23]
  simp only [cells23, List.mapM_cons, List.mapM_nil, keyLits_str, cells9, List.drop_zero, List.drop_succ_cons, List.take_succ_cons, List.take_zero]
  rw [if_pos ⟨rfl, by decide +kernel⟩]
  cases strLits [a] <;> cases strLits [b] <;> simp
theorem types_size : Tryz.prog.types.size + 1 = 191 + 2 := by kernel_rfl
theorem keyOf_name (v : Value) : keyOf Tryz.prog 23 v = match v with | .agg cs => (match cs.toList with | [a, b] => ((strLits [a]).bind fun x => (strLits [b]).map fun y => x ++ y).map fun ls => .string (keyBytes ls) | _ => none) | _ => none := by
  unfold keyOf
  simp only [Tryz.underlying23, keyType23, Bool.true_and, types_size]
  cases v <;> simp only [Value.formed, Tryz.underlying23, cells23, Bool.false_eq_true, if_false]
  rename_i cs
  obtain ⟨l⟩ := cs
  match l with
  | [] => rfl
  | [_] => rfl
  | [a, b] => simp [Value.cells, keyLits_name]
  | _ :: _ :: _ :: _ => simp
theorem keyEncN : KeyEnc Tryz.prog 23 Name.val litN Name.fit where
  K := keyedN
  of {n} h := by
    rw [keyOf_name]
    simp [Name.val, strLits, h.1, h.2, litN]
  inv {v l} h := by
    rw [keyOf_name] at h
    split at h
    · rename_i v cs
      obtain ⟨cs⟩ := cs
      split at h
      · rename_i a b hc
        simp only [Option.map_eq_some_iff, Option.bind_eq_some_iff] at h
        obtain ⟨ls, ⟨x, hx, y, hy, rfl⟩, rfl⟩ := h
        obtain ⟨s, e1, rfl, h1⟩ := strLits_inv hx
        obtain ⟨s', e2, rfl, h2⟩ := strLits_inv hy
        cases e1; cases e2
        refine ⟨⟨s, s'⟩, ⟨h1, h2⟩, ?_, rfl⟩
        unfold Name.val
        simp only at hc
        rw [hc]
      · cases h
    · cases h
  inj {x y} h := by
    unfold Name.val at h
    simp at h
    cases x; cases y
    simp at h; simp [h]
end Np
end Go.Proofs.YtohlhihhadbphaaGreatDoor

/- mentionedIn: its state. -/
namespace Go.Proofs.YtohlhihhadbphaaGreatDoor
open Go.RowKit Go.Shelf Go.Lib
namespace Np
def mark (D : Nat) : Deferred := { target := .collected D, args := #[] }
/-- At a return all marks are taken in, one behind the other. -/
theorem leavesM_marks {F : Fence} {n N : Nat} {P : Program} {fn : Func} {tmps : Array Value} {R : Ending → World → Prop} : ∀ (Ds : List Nat) (w : World), Ds.Nodup → (∀ D ∈ Ds, N ≤ D ∧ w.heap[D]? = some (.deferred (some []))) →
    (∀ w', Below N w w' → (∀ b, b ∉ Ds → w'.heap[b]? = w.heap[b]?) → ∃ v, (results fn tmps).run P w' = .ok v w' ∧ R (.returned v) w') → LeavesInM F n P fn tmps R (Ds.map mark) .returning w
  | [], w, _, _, h => h w (Below.refl _ _) (fun _ _ => rfl)
  | D :: Ds, w, hn, hD, h => by
    obtain ⟨h0, h1⟩ := hD D (List.mem_cons_self ..)
    have hn' := List.nodup_cons.1 hn
    refine ⟨by simp, .inl ⟨D, _, rfl, run_takeDeferred h1, ?_⟩⟩
    refine leavesM_marks (N := N) Ds _ hn'.2 (fun E hE => ?_) (fun w' hb hs => h w' ?_ ?_)
    · obtain ⟨h2, h3⟩ := hD E (List.mem_cons_of_mem _ hE)
      exact ⟨h2, (World.putObj_heap_other (fun e => hn'.1 (by rw [← e]; exact hE))).trans h3⟩
    · have hp : Below N w (w.putObj D (.deferred none)) := ⟨rfl, rfl, rfl, by simp [World.putObj], fun k hk => World.putObj_heap_other (by omega)⟩
      exact hp.trans hb
    · intro b hb'
      rw [List.mem_cons, not_or] at hb'
      exact (hs b hb'.2).trans (World.putObj_heap_other hb'.1)

theorem below_of_grown {W W' : World} {N r : Nat} (hg : W.grownBy W' (some r)) (h : N ≤ r) (hs : N ≤ W.heap.size) : Below N W W' :=
  ⟨hg.os, hg.tape, hg.output, hg.size, fun k hk => hg.block k (by omega) (fun e => by cases e; omega)⟩
theorem KpP.of_grown {n₀ Bs B0 r : Nat} {W W' : World} (hg : W.grownBy W' (some r)) (h1 : n₀ ≤ r) (hs : n₀ ≤ W.heap.size) (h2 : r ≠ Bs) (hBs : Bs < W.heap.size) (h3 : r < B0) : KpP n₀ Bs B0 W W' :=
  ⟨below_of_grown hg h1 hs, hg.block Bs hBs (fun e => h2 (by injection e with e; exact e.symm)), fun b o hb ho _ => (hg.block b (Array.getElem?_eq_some_iff.1 ho).1 (fun e => by injection e with e; omega)).trans ho⟩

def litS (s : ByteArray) : Lit := .string s.data.toList
def okS (s : ByteArray) : Prop := s.size ≤ maxLen
theorem keyEncS : KeyEnc Tryz.prog 9 (fun s : ByteArray => .string s) litS okS := keyEnc_string Tryz.underlying9
/-- A set as a function. -/
def mN (l : List Name) (n : Name) : Option Bool := if n ∈ l then some true else none
def mS (l : List ByteArray) (s : ByteArray) : Option Bool := if hasS l s then some true else none
def nmsOf (P : List (CT × Nat)) : List Name := P.filterMap fun x => nmOf x.1.er
def spsOf (P : List (CT × Nat)) : List ByteArray := P.filterMap fun x => spOf x.1.er
theorem nmsOf_snoc (P : List (CT × Nat)) (x : CT × Nat) : nmsOf (P ++ [x]) = nmsOf P ++ (if x.1.kind = 1 then [x.1.name] else []) := by
  unfold nmsOf nmOf
  rw [List.filterMap_append]
  by_cases h : x.1.kind = 1 <;> simp [CT.kind_er, CT.name_er, h]
theorem spsOf_snoc (P : List (CT × Nat)) (x : CT × Nat) : spsOf (P ++ [x]) = spsOf P ++ (if x.1.kind = 1 then [x.1.name.sp] else if x.1.kind = 2 then [x.1.space] else []) := by
  unfold spsOf spOf
  rw [List.filterMap_append]
  by_cases h : x.1.kind = 1
  · simp [CT.kind_er, CT.name_er, h]
  · by_cases h2 : x.1.kind = 2 <;> simp [CT.kind_er, CT.name_er, CT.space_er, h, h2]
theorem mN_snoc (l : List Name) (n : Name) : (fun y => if y = n then some true else mN l y) = mN (l ++ [n]) := by
  funext y; unfold mN; by_cases h : y = n <;> simp [h]
theorem hasS_append (l m : List ByteArray) (x : ByteArray) : hasS (l ++ m) x = (hasS l x || hasS m x) := by unfold hasS; rw [List.any_append]
theorem mS_snoc (l : List ByteArray) (n : ByteArray) : (fun y => if y = n then some true else mS l y) = mS (l ++ [n]) := by
  funext y; unfold mS; rw [hasS_append]
  by_cases h : y = n
  · subst h; simp [hasS]
  · have : hasS [n] y = false := hasS_false.2 (by simpa using h)
    rw [if_neg h, this, Bool.or_false]
abbrev NMap (W : World) (b n : Nat) (m : Name → Option Bool) : Prop := BMap Tryz.prog 23 4 litN Name.fit W b n m
abbrev SMap (W : World) (b n : Nat) (m : ByteArray → Option Bool) : Prop := BMap Tryz.prog 9 4 litS okS W b n m

/-- What has been mentioned in these parts; and the marks of the loops so far. -/
structure MenSt (w : World) (P : List (CT × Nat)) (Ds : List Nat) (W : World) : Prop where
  below : Below w.heap.size w W
  res : Blk W w.heap.size #[.map none, .map none] 76
  box : Blk W (w.heap.size + 3) #[.map (some (w.heap.size + 1)), .map (some (w.heap.size + 2))] 76
  nms : NMap W (w.heap.size + 1) P.length (mN (nmsOf P))
  sps : SMap W (w.heap.size + 2) P.length (mS (spsOf P))
  marks : ∀ D ∈ Ds, w.heap.size + 4 ≤ D ∧ W.heap[D]? = some (.deferred (some []))
theorem MenSt.kept {w : World} {P : List (CT × Nat)} {Ds : List Nat} {W W' : World} {row : Option Nat} {B : Nat} (h : MenSt w P Ds W) (hg : W.grownBy W' row) (hr : ∀ r, row = some r → B ≤ r) (hB : w.heap.size + 4 ≤ B) (hD : ∀ D ∈ Ds, D < B) : MenSt w P Ds W' where
  below := ⟨hg.os.trans h.below.os, hg.tape.trans h.below.tape, hg.output.trans h.below.output, Nat.le_trans h.below.size hg.size, fun k hk => (hg.block k (Nat.lt_of_lt_of_le hk h.below.size) (fun e => by have := hr k e.symm; omega)).trans (h.below.block k hk)⟩
  res := h.res.kept hg (fun e => by have := hr _ e.symm; omega)
  box := h.box.kept hg (fun e => by have := hr _ e.symm; omega)
  nms := h.nms.kept hg (fun e => by have := hr _ e.symm; omega)
  sps := h.sps.kept hg (fun e => by have := hr _ e.symm; omega)
  marks D hDm := ⟨(h.marks D hDm).1, (hg.block D (Array.getElem?_eq_some_iff.1 (h.marks D hDm).2).1 (fun e => by have := hr _ e.symm; have := hD D hDm; omega)).trans (h.marks D hDm).2⟩
theorem MenSt.later {w : World} {P : List (CT × Nat)} {Ds : List Nat} {W W' : World} (h : MenSt w P Ds W) (hb : Below W.heap.size W W') : MenSt w P Ds W' :=
  h.kept (B := W.heap.size) (below_grown hb) (fun r e => by cases e) (by have := h.box.lt; omega) (fun D hD => (Array.getElem?_eq_some_iff.1 (h.marks D hD).2).1)
theorem MenSt.own {w : World} {P : List (CT × Nat)} {Ds : List Nat} {B : Nat} {t : CT} (hB : w.heap.size + 4 ≤ B) (hD : ∀ D ∈ Ds, D < B) : OwnFrom B (fun (pre : List (PI t)) W => MenSt w (P ++ pvals pre) Ds W) :=
  fun _ _ _ _ hs hg hr => hs.kept hg (fun r e => (hr r e).1) hB hD
end Np
end Go.Proofs.YtohlhihhadbphaaGreatDoor

/- mentionedIn. -/
namespace Go.Proofs.YtohlhihhadbphaaGreatDoor
open Go.RowKit Go.Shelf Go.Lib
attribute [local go_sem] Oper.semAt_some
namespace Np
theorem Blk.set {W : World} {B : Nat} {cs : Array Value} {t : TypeId} (h : Blk W B cs t) (i : Nat) (hi : i < cs.size) (v : Value) : Blk (W.setCell ⟨B, i, none⟩ v) B (cs.setIfInBounds i v) t := by
  have hl := h.lt
  unfold Blk at *
  simp only [World.setCell, Option.isSome_none, Bool.false_eq_true, if_false, Array.getElem?_modify, if_true, h, Option.map_some]
theorem sameMap_setCell {W : World} {B i : Nat} {v : Value} {b : Nat} (hne : b ≠ B) : (W.setCell ⟨B, i, none⟩ v).heap[b]? = W.heap[b]? := Go.Deep.blk_setCell_other W _ v b hne
set_option maxRecDepth 100000 in
set_option maxHeartbeats 4000000 in
theorem mentioned_any (a : Option Addr) (c : Nat) (lst : List CT) (w : World) (hL : LIn w w.heap.size a lst) (hd : ∀ u ∈ lst, u.depth ≤ 1000) (hbig : (CT.partsL lst 1).length ≤ 1000000) :
    Calls Tryz.prog 65 #[.slice a lst.length c] w fun e w' => e = .returned (.agg #[.map (some (w.heap.size + 1)), .map (some (w.heap.size + 2))]) ∧ Below w.heap.size w w' ∧
      NMap w' (w.heap.size + 1) 1000000 (mN (nmsOf (CT.partsL lst 1))) ∧ SMap w' (w.heap.size + 2) 1000000 (mS (spsOf (CT.partsL lst 1))) := by
  have hml := hL.row.1
  unfold maxLen at hml
  have hmm := @run_makeMap Tryz.prog
  refine (callsIn_wide (n := 9)).1 ?_
  refine callsIn_of_wp_marks Tryz.func65 rfl trivial ?_ rfl
  simp only [Tryz.ntmps65, List.size_toArray, List.length_cons, List.length_nil, Nat.reduceAdd, Nat.reduceSub, Array.replicate_succ, Array.replicate_zero, List.push_toArray, List.append_toArray, List.nil_append, List.cons_append]
  obtain ⟨W0, hW0⟩ : ∃ W0, (((w.alloc (.cells #[.map none, .map none] 76)).alloc (.map #[] 0)).alloc (.map #[] 0)).alloc (.cells #[.map (some (w.heap.size + 1)), .map (some (w.heap.size + 2))] 76) = W0 := ⟨_, rfl⟩
  have hsz0 : W0.heap.size = w.heap.size + 4 := by rw [← hW0]; simp
  have hB0 : Below w.heap.size w W0 := by rw [← hW0]; exact ((((Below.refl _ w).alloc (Nat.le_refl _) _).alloc (by simp) _).alloc (by simp; omega) _).alloc (by simp; omega) _
  have hS0 : MenSt w (CT.partsL (lst.take 0) 1) [] W0 := by
    have m1 := BMap.made (P := Tryz.prog) (k := 23) (e := 4) (lit := litN) (ok := Name.fit) (w.alloc (.cells #[.map none, .map none] 76))
    have m2 := BMap.made (P := Tryz.prog) (k := 9) (e := 4) (lit := litS) (ok := okS) ((w.alloc (.cells #[.map none, .map none] 76)).alloc (.map #[] 0))
    have m3 := Blk.new (((w.alloc (.cells #[.map none, .map none] 76)).alloc (.map #[] 0)).alloc (.map #[] 0)) #[.map (some (w.heap.size + 1)), .map (some (w.heap.size + 2))] 76
    simp only [World.size_alloc, Nat.add_assoc, Nat.reduceAdd] at m1 m2 m3
    refine ⟨hB0, ?_, ?_, ?_, ?_, by simp⟩
    · rw [← hW0]; exact (((Blk.new w _ _).alloc _).alloc _).alloc _
    · rw [← hW0]; exact m3
    · rw [← hW0]; exact (m1.alloc _).alloc _
    · rw [← hW0]; exact m2.alloc _
  gi_wp2
  simp only [Nat.add_assoc, Nat.reduceAdd]
  clear hW0
  refine wpIn_loop (fun a' w' => ∃ (k : Nat) (Ds : List Nat), k ≤ lst.length ∧ MenSt w (CT.partsL (lst.take k) 1) Ds w' ∧ Ds.Nodup ∧ w.heap.size + 4 ≤ w'.heap.size ∧ ∃ (v5 v6 v13 v14 v15 v16 v17 v18 v19 v20 v21 v22 v23 v24 v25 v26 v27 v28 v29 v30 v31 v32 v33 v34 v35 v36 v37 v38 v39 : Value), a' = { tmps := #[.slice a lst.length c, undef, .pointer (some ⟨w.heap.size, 0, none⟩), .pointer (some ⟨w.heap.size + 3, 0, none⟩), undef, v5, v6, .map (some (w.heap.size + 1)), .map (some (w.heap.size + 2)), .agg #[.map (some (w.heap.size + 1)), .map (some (w.heap.size + 2))], .slice a lst.length c, .int .i64 (lst.length : Int), .int .i64 (k : Int), v13, v14, v15, v16, v17, v18, v19, v20, v21, v22, v23, v24, v25, v26, v27, v28, v29, v30, v31, v32, v33, v34, v35, v36, v37, v38, v39, undef], defers := Ds.map mark }) (fun a' _ => lst.length - (intOf (a'.tmps.getD 12 undef)).toNat) ?start ?round
  case start => exact ⟨0, [], by omega, hS0, List.nodup_nil, by omega, undef, undef, undef, undef, undef, undef, undef, undef, undef, undef, undef, undef, undef, undef, undef, undef, undef, undef, undef, undef, undef, undef, undef, undef, undef, undef, undef, undef, undef, rfl⟩
  case round =>
    rintro a' wr ⟨k, Ds, hk, hS, hnd, hsz, v5, v6, v13, v14, v15, v16, v17, v18, v19, v20, v21, v22, v23, v24, v25, v26, v27, v28, v29, v30, v31, v32, v33, v34, v35, v36, v37, v38, v39, rfl⟩
    by_cases hlt : k < lst.length
    · obtain ⟨u, hu⟩ : ∃ u, lst[k] = u := ⟨_, rfl⟩
      have hmem : u ∈ lst := by rw [← hu]; exact List.getElem_mem hlt
      obtain ⟨b, o, rfl, hbn, hcells⟩ := hL.row.2 (List.ne_nil_of_length_pos (by omega))
      have hcu : ∀ i v, u.cells[i]? = some v → wr.cell? ⟨b, o + k * 6 + i, none⟩ = some v := fun i v hv => (hS.below.cell (p := ⟨b, o + k * 6 + i, none⟩) hbn).trans (hcells k hlt i v (by rw [hu]; exact hv))
      have u0 := hcu 0 _ rfl
      have u1 := hcu 1 _ rfl
      have u2 := hcu 2 _ rfl
      have u3 := hcu 3 _ rfl
      have u4 := hcu 4 _ rfl
      have u5 := hcu 5 _ rfl
      rw [Nat.add_zero] at u0
      rw [CT.exv_eq] at u4
      rw [CT.arv_eq] at u5
      have Hu : Hid (CT.partsL (lst.take (k + 1)) 1 = CT.partsL (lst.take k) 1 ++ u.parts 1 ∧ CT.partsL lst 1 = CT.partsL (lst.take (k + 1)) 1 ++ CT.partsL (lst.drop (k + 1)) 1) := Lib.hid ⟨by rw [List.take_succ_eq_append_getElem hlt, hu, CT.partsL_append]; simp [CT.partsL], by rw [← CT.partsL_append, List.take_append_drop]⟩
      have hP := parts_any u
      rw [CT.val_eq] at hP
      have hud := hd u hmem
      have hui := hL.ins u hmem
      clear hu hcu hcells
      gi_wp2_with (refine ⟨trivial, ?_⟩; gi_at_call 47; refine (callsIn_wide.2 (hP _)).mono ?_)
      rintro e w' ⟨rfl, rfl⟩
      obtain ⟨W1, hW1⟩ : ∃ W1, (wr.alloc (.cells #[.int .i64 u.kind, .string u.name.sp, .string u.name.lc, .string u.space, .slice u.ea u.ex.length u.ec, .slice u.aa u.ar.length u.ac] 26)).alloc (.cells u.cells.toArray 26) = W1 := ⟨_, rfl⟩
      have hbw : Below wr.heap.size wr W1 := by rw [← hW1]; exact ((Below.refl _ _).alloc (Nat.le_refl _) _).alloc (by simp) _
      have hsz1 : W1.heap.size = wr.heap.size + 2 := by rw [← hW1]; simp
      have hS1 := hS.later hbw
      have hbx : Blk W1 (wr.heap.size + 1) u.cells.toArray 26 := by
        rw [← hW1]
        have := Blk.new (wr.alloc (.cells #[.int .i64 u.kind, .string u.name.sp, .string u.name.lc, .string u.space, .slice u.ea u.ex.length u.ec, .slice u.aa u.ar.length u.ac] 26)) u.cells.toArray 26
        rw [World.size_alloc] at this; exact this
      gi_wp2
      clear hW1
      have hDl : ∀ D ∈ Ds, D < W1.heap.size := fun D hD => (Array.getElem?_eq_some_iff.1 (hS1.marks D hD).2).1
      refine wpIn_rangeFunc_ownH rfl (by omega) (gf := 77) (lb := #[.pointer (some ⟨wr.heap.size + 1, 0, none⟩)]) rfl trivial (enters_of Tryz.func77 (by kernel_rfl) rfl)
        (parts_stops _ (wr.heap.size + 1) w.heap.size W1.heap.size u hud W1 (by omega) _ hbx hS1.below.size (hui.below hS1.below (Nat.le_refl _))) (fun h k => h.trans k) (kpP_b hS1.below.size (by omega)) (Below.refl _ _) (fun _ => rfl)
        (fun (pre : List (PI u)) W => MenSt w (CT.partsL (lst.take k) 1 ++ pvals pre) Ds W ∧ W1.heap.size ≤ W.heap.size)
        (fun _ _ _ => False)
        (OwnFrom.and (MenSt.own (by omega) hDl) (fun _ _ _ _ hs hg _ => Nat.le_trans hs hg.size)) (fun _ _ _ _ _ hs _ _ => hs)
        ⟨by simpa using hS1, Nat.le_refl _⟩
        (fun x a' W => ∃ Bx, W1.heap.size ≤ Bx ∧ Blk W Bx x.1.1.cells.toArray 26 ∧ a' = { tmps := #[.slice (some ⟨b, o, none⟩) lst.length c, undef, .pointer (some ⟨w.heap.size, 0, none⟩), .pointer (some ⟨w.heap.size + 3, 0, none⟩), undef, .pointer (some ⟨wr.heap.size, 0, none⟩), .pointer (some ⟨Bx, 0, none⟩), .map (some (w.heap.size + 1)), .map (some (w.heap.size + 2)), .agg #[.map (some (w.heap.size + 1)), .map (some (w.heap.size + 2))], .slice (some ⟨b, o, none⟩) lst.length c, .int .i64 (lst.length : Int), .int .i64 (k : Int), .bool true, .pointer (some ⟨b, o + k * 6, none⟩), .agg #[.int .i64 u.kind, .string u.name.sp, .string u.name.lc, .string u.space, .slice u.ea u.ex.length u.ec, .slice u.aa u.ar.length u.ac], .agg #[.int .i64 u.kind, .string u.name.sp, .string u.name.lc, .string u.space, .slice u.ea u.ex.length u.ec, .slice u.aa u.ar.length u.ac], .func (.func 77) #[] #[.pointer (some ⟨wr.heap.size + 1, 0, none⟩)], x.1.1.val, .int .i64 (x.1.2 : Int), v20, v21, v22, v23, v24, v25, v26, v27, v28, v29, v30, v31, v32, v33, v34, v35, v36, v37, v38, v39, undef], defers := [] })
        (fun x a' => Own.from (fun _ A B row hs hg hr => by obtain ⟨Bx, h1, h2, h3⟩ := hs; exact ⟨Bx, h1, blk_own _ _ (fun _ : Unit => x.1.1.cells.toArray) () A B row h2 hg hr, h3⟩) _) ?assign ?body ?done ?stop
      case stop => intro D c pre W _ _ h _; exact h.elim
      case assign =>
        rintro l pre x W K ⟨h1, h2⟩ hK
        simp only [encPI, encP]
        rw [CT.val_eq x.1.1]
        gi_wp2
        refine hK _ _ ((KeepsOthers.alloc _ _).from _) (KpP.of_below h1.below.size (by omega) ((Below.refl _ _).alloc (Nat.le_refl _) _)) ⟨h1.later ((Below.refl _ _).alloc (Nat.le_refl _) _), by simp; omega⟩ ⟨W.heap.size, h2, ?_, ?_⟩
        · rw [CT.cells_eq]; exact Blk.new _ _ _
        · rw [CT.val_eq x.1.1]
      case body =>
        rintro l pre x a' W hl ⟨r, hr⟩ ⟨h1, h2⟩ ⟨Bx, hBx, bx, rfl⟩ hlt2
        have hlen : (CT.partsL (lst.take k) 1 ++ pvals pre).length < maxLen := by
          have e1 := congrArg List.length Hu.out.1
          have e2 := congrArg List.length Hu.out.2
          rw [List.length_append] at e1 e2
          rw [List.length_append, List.length_map]
          unfold maxLen
          omega
        obtain ⟨c0, c1, c2, c3, c4, c5⟩ := ct_cells bx
        have hfit := CT.in_iff.1 (hui.parts 1 x.1 x.2)
        rw [CT.val_eq x.1.1]
        have bm0 := h1.box.cell 0
        have bm1 := h1.box.cell 1
        simp only [List.getElem?_toArray, List.getElem?_cons_zero, List.getElem?_cons_succ] at bm0 bm1
        have hnm : nmsOf (CT.partsL (lst.take k) 1 ++ pvals (pre ++ [x])) = nmsOf (CT.partsL (lst.take k) 1 ++ pvals pre) ++ (if x.1.1.kind = 1 then [x.1.1.name] else []) := by
          rw [← nmsOf_snoc]; simp [pvals]
        have hsm : spsOf (CT.partsL (lst.take k) 1 ++ pvals (pre ++ [x])) = spsOf (CT.partsL (lst.take k) 1 ++ pvals pre) ++ (if x.1.1.kind = 1 then [x.1.1.name.sp] else if x.1.1.kind = 2 then [x.1.1.space] else []) := by
          rw [← spsOf_snoc]; simp [pvals]
        have hlm : (CT.partsL (lst.take k) 1 ++ pvals (pre ++ [x])).length = (CT.partsL (lst.take k) 1 ++ pvals pre).length + 1 := by simp [pvals]; omega
        have Hnm := Lib.hid hnm
        have Hsm := Lib.hid hsm
        have Hlm := Lib.hid hlm
        clear hnm hsm hlm
        by_cases k1 : x.1.1.kind = 1
        · have g1 : (x.1.1.kind == 1) = true := by rw [k1]; rfl
          obtain ⟨W2, hrun1, hm1, hg1⟩ := h1.nms.update keyEncN Tryz.underlying71 Tryz.underlying4 hlen hfit.1 true
          have hs2 := hg1.size
          have hbox2 := h1.box.kept hg1 (by simp)
          have bx2 := bx.kept hg1 (by simp; omega)
          obtain ⟨W3, hrun2, hm2, hg2⟩ := (h1.sps.kept hg1 (by simp)).update keyEncS Tryz.underlying74 Tryz.underlying4 hlen (show okS x.1.1.name.sp from hfit.1.1) true
          have hs3 := hg2.size
          have hm1' := hm1.kept hg2 (by simp)
          have bn1 := hbox2.cell 1
          simp only [List.getElem?_toArray, List.getElem?_cons_zero, List.getElem?_cons_succ] at bn1
          obtain ⟨d0, d1, d2, d3, d4, d5⟩ := ct_cells bx2
          unfold Name.val at hrun1
          have K1 := Lib.hid k1
          rw [mN_snoc] at hm1'
          rw [mS_snoc] at hm2
          have Hm1 := Lib.hid hm1'
          have Hm2 := Lib.hid hm2
          have hbl : Below w.heap.size w W3 := (h1.below.trans (below_of_grown hg1 (by omega) h1.below.size)).trans (below_of_grown hg2 (by omega) (Nat.le_trans h1.below.size hs2))
          have hres := (h1.res.kept hg1 (by simp)).kept hg2 (by simp)
          have hbox := hbox2.kept hg2 (by simp)
          have hmk : ∀ D ∈ Ds, w.heap.size + 4 ≤ D ∧ W3.heap[D]? = some (.deferred (some [])) := fun D hD => by
            obtain ⟨q1, q2⟩ := h1.marks D hD
            have l1 := (Array.getElem?_eq_some_iff.1 q2).1
            exact ⟨q1, (hg2.block D (by omega) (fun e => by injection e; omega)).trans ((hg1.block D l1 (fun e => by injection e; omega)).trans q2)⟩
          clear k1 hm1 hm1' hm2 hbox2
          gi_wp2
          refine ⟨(KeepsFrom.of_grownBy hg1 (fun j e => by injection e; omega)).trans (KeepsFrom.of_grownBy hg2 (fun j e => by injection e; omega)), (KpP.of_grown hg1 (by omega) h1.below.size (by omega) (by omega) (by omega)).trans (KpP.of_grown hg2 (by omega) (Nat.le_trans h1.below.size hs2) (by omega) (by omega) (by omega)), ⟨hbl, hres, hbox, ?_, ?_, hmk⟩, by omega⟩
          · rw [Hnm.out, Hlm.out, if_pos K1.out]; exact Hm1.out
          · rw [Hsm.out, Hlm.out, if_pos K1.out]; exact Hm2.out
        · have g1 : (x.1.1.kind == 1) = false := by simpa using k1
          by_cases k2 : x.1.1.kind = 2
          · have g2 : (x.1.1.kind == 2) = true := by rw [k2]; rfl
            obtain ⟨W3, hrun2, hm2, hg2⟩ := h1.sps.update keyEncS Tryz.underlying74 Tryz.underlying4 hlen (show okS x.1.1.space from hfit.2.1) true
            have hs3 := hg2.size
            have hm1' := h1.nms.kept hg2 (by simp)
            have K1 := Lib.hid k1
            have K2 := Lib.hid k2
            rw [mS_snoc] at hm2
            have Hm1 := Lib.hid hm1'
            have Hm2 := Lib.hid hm2
            have hbl : Below w.heap.size w W3 := h1.below.trans (below_of_grown hg2 (by omega) h1.below.size)
            have hres := h1.res.kept hg2 (by simp)
            have hbox := h1.box.kept hg2 (by simp)
            have hmk : ∀ D ∈ Ds, w.heap.size + 4 ≤ D ∧ W3.heap[D]? = some (.deferred (some [])) := fun D hD => by
              obtain ⟨q1, q2⟩ := h1.marks D hD
              have l1 := (Array.getElem?_eq_some_iff.1 q2).1
              exact ⟨q1, (hg2.block D l1 (fun e => by injection e; omega)).trans q2⟩
            clear k1 k2 hm1' hm2
            gi_wp2
            refine ⟨KeepsFrom.of_grownBy hg2 (fun j e => by injection e; omega), KpP.of_grown hg2 (by omega) h1.below.size (by omega) (by omega) (by omega), ⟨hbl, hres, hbox, ?_, ?_, hmk⟩, by omega⟩
            · rw [Hnm.out, Hlm.out, if_neg K1.out, List.append_nil]; exact Hm1.out.mono (by omega)
            · rw [Hsm.out, Hlm.out, if_neg K1.out, if_pos K2.out]; exact Hm2.out
          · have g2 : (x.1.1.kind == 2) = false := by simpa using k2
            have K1 := Lib.hid k1
            have K2 := Lib.hid k2
            clear k1 k2
            gi_wp2
            refine ⟨KeepsFrom.refl _ _, KpP.refl _ _ _ _, ⟨h1.below, h1.res, h1.box, ?_, ?_, h1.marks⟩, h2⟩
            · rw [Hnm.out, Hlm.out, if_neg K1.out, List.append_nil]; exact h1.nms.mono (by omega)
            · rw [Hsm.out, Hlm.out, if_neg K1.out, if_neg K2.out, List.append_nil]; exact h1.sps.mono (by omega)
      case done =>
        rintro D ys W hD hys ⟨h1, h2⟩ hK
        rw [hys, ← Hu.out.1] at h1
        clear hys
        gi_wp2
        have e3 : (k : Int) + 1 = ((k + 1 : Nat) : Int) := by omega
        rw [e3]
        refine ⟨⟨k + 1, D :: Ds, by omega, ⟨h1.below, h1.res, h1.box, h1.nms, h1.sps, ?_⟩, List.nodup_cons.2 ⟨fun hD' => by have := hDl D hD'; omega, hnd⟩, by omega, ?_⟩, ?_⟩
        · intro E hE
          rcases List.mem_cons.1 hE with rfl | hE
          · exact ⟨by omega, hK⟩
          · exact h1.marks E hE
        · exact ⟨_, _, _, _, _, _, _, _, _, _, _, _, _, _, _, _, _, _, _, _, _, _, _, _, _, _, _, _, _, rfl⟩
        · simp [intOf]
          omega
    · obtain rfl : k = lst.length := by omega
      rw [List.take_length] at hS
      have hbig' := hbig
      have b0 := hS.box.cell 0
      have b1 := hS.box.cell 1
      have r0 := hS.res.cell 0
      have r1 := hS.res.cell 1
      have f0 := hS.res.frozen 0
      have f1 := hS.res.frozen 1
      simp only [List.getElem?_toArray, List.getElem?_cons_zero, List.getElem?_cons_succ] at b0 b1 r0 r1
      have q1 := (hS.res.set 0 (by simp) (.map (some (w.heap.size + 1)))).set 1 (by simp) (.map (some (w.heap.size + 2)))
      simp only [List.setIfInBounds_toArray, List.set_cons_zero, List.set_cons_succ] at q1
      have hbl := (hS.below.setCell (p := ⟨w.heap.size, 0, none⟩) (Nat.le_refl _) (.map (some (w.heap.size + 1)))).setCell (p := ⟨w.heap.size, 1, none⟩) (Nat.le_refl _) (.map (some (w.heap.size + 2)))
      have hmk : ∀ D ∈ Ds, w.heap.size + 4 ≤ D ∧ ((wr.setCell ⟨w.heap.size, 0, none⟩ (.map (some (w.heap.size + 1)))).setCell ⟨w.heap.size, 1, none⟩ (.map (some (w.heap.size + 2)))).heap[D]? = some (.deferred (some [])) := fun D hD => by
        obtain ⟨q1, q2⟩ := hS.marks D hD
        exact ⟨q1, ((sameMap_setCell (by omega)).trans (sameMap_setCell (by omega))).trans q2⟩
      have hn1 : NMap ((wr.setCell ⟨w.heap.size, 0, none⟩ (.map (some (w.heap.size + 1)))).setCell ⟨w.heap.size, 1, none⟩ (.map (some (w.heap.size + 2)))) (w.heap.size + 1) 1000000 (mN (nmsOf (CT.partsL lst 1))) := (hS.nms.mono hbig).same ((sameMap_setCell (by omega)).trans (sameMap_setCell (by omega)))
      have hs1 : SMap ((wr.setCell ⟨w.heap.size, 0, none⟩ (.map (some (w.heap.size + 1)))).setCell ⟨w.heap.size, 1, none⟩ (.map (some (w.heap.size + 2)))) (w.heap.size + 2) 1000000 (mS (spsOf (CT.partsL lst 1))) := (hS.sps.mono hbig).same ((sameMap_setCell (by omega)).trans (sameMap_setCell (by omega)))
      gi_wp2
      refine leavesM_marks (N := w.heap.size + 4) Ds _ hnd hmk (fun w' hb hsame => ?_)
      have hbx : Blk w' w.heap.size #[.map (some (w.heap.size + 1)), .map (some (w.heap.size + 2))] 76 := (hb.block _ (by omega)).trans q1
      have e0 := hbx.cell 0
      have e1 := hbx.cell 1
      simp only [List.getElem?_toArray, List.getElem?_cons_zero, List.getElem?_cons_succ] at e0 e1
      refine ⟨.agg #[.map (some (w.heap.size + 1)), .map (some (w.heap.size + 2))], ?_, rfl, hbl.trans (hb.mono (by omega)), hn1.same (hb.block _ (by omega)), hs1.same (hb.block _ (by omega))⟩
      simp [results, Tryz.f65, go_sem, e0, e1]
end Np
end Go.Proofs.YtohlhihhadbphaaGreatDoor

/- firstFree, fresh, newSpace. -/
namespace Go.Proofs.YtohlhihhadbphaaGreatDoor
open Go.RowKit Go.Shelf Go.Lib
namespace Np
/-- What the walks want of the package-level variables. -/
def G (w : World) : Prop := (∀ w', Below 4 w w' → TabIs Tryz.prog w' "internal/strconv.uint64pow10" .u64 pow10Tab) ∧ 4 ≤ w.heap.size
theorem G.below {n : Nat} {w w' : World} (hn : 4 ≤ n) (h : G w) (hb : Below n w w') : G w' := ⟨fun w1 h1 => h.1 w1 ((hb.mono hn).trans h1), Nat.le_trans h.2 hb.size⟩
theorem G.later {w w' : World} (h : G w) (hb : Below w.heap.size w w') : G w' := h.below h.2 hb
theorem Itoa_any (k : Nat) (hk : k ≤ 1000000000) (w : World) (hG : G w) :
    Calls Tryz.prog 120 #[.int .i64 (k : Int)] w fun e w' => e = .returned (.string ⟨(decDigits k).toArray⟩) ∧ Below w.heap.size w w' := by
  have h := Tryz.strconv_Itoa (k : Int) (by omega) (by omega) w (hG.1 w (Below.refl _ _))
  have e : itoa (k : Int) = decDigits k := by unfold itoa; rw [if_neg (by omega)]; simp
  rw [e] at h
  exact h.mono fun e w' ⟨he, q, os, hw⟩ => ⟨he, hw ▸ below_grow _ q os⟩

set_option maxRecDepth 100000 in
set_option maxHeartbeats 2000000 in
theorem firstFree_any (stem : ByteArray) (g : Nat) (lb : Array Value) (p : ByteArray → Bool) (N : Nat) (hN : N ≤ 1000000) (hst : stem.size ≤ 1000) (w : World) (hG : G w) (eg : ∀ args w, (callFunc g args).run Tryz.prog w = .ok (.enter g args) w)
    (hp : ∀ i W, i ≤ N → Below w.heap.size w W → Calls Tryz.prog g (#[.string (word stem i)] ++ lb) W fun e w' => e = .returned (.bool (p (word stem i))) ∧ Below W.heap.size W w') (hfree : ∃ j, j ≤ N ∧ p (word stem j) = false) :
    Calls Tryz.prog 108 #[.string stem, .func (.func g) #[] lb] w fun e w' => e = .returned (.string (word stem (ff (fun i => p (word stem i)) N 0))) ∧ Below w.heap.size w w' := by
  obtain ⟨j, hj, hjf⟩ := hfree
  obtain ⟨r, hr⟩ : ∃ r, word stem (ff (fun i => p (word stem i)) N 0) = r := ⟨_, rfl⟩
  rw [hr]
  have Hr := Lib.hid hr
  have Hj := Lib.hid hjf
  clear hr hjf
  go_enter Tryz.func108, Tryz.ntmps108
  go_wp2
  go_loopw [5, 6] (fun s i wr => ∃ k : Nat, k ≤ j ∧ s = .string (word stem k) ∧ i = .int .i64 ((k : Int) + 1) ∧ (∀ i, i < k → p (word stem i) = true) ∧ Below w.heap.size w wr) (fun _ i _ => (N + 2 - (intOf i)).toNat)
  case atStart => exact ⟨0, by omega, rfl, rfl, by intro i hi; omega, Below.refl _ _⟩
  case round =>
    obtain ⟨k, hk, rfl, rfl, hall, hb⟩ := hrel
    have hc := hp k wr (by omega) hb
    have Hall := Lib.hid hall
    clear hall
    obtain ⟨v, hv⟩ : ∃ v, p (word stem k) = v := ⟨_, rfl⟩
    rw [hv] at hc
    have Hv := Lib.hid hv
    clear hv
    cases v
    · have Hres : Hid (word stem k = r) := Lib.hid (by
        rw [← Hr.out, ff_is (fun i => p (word stem i)) N k (by omega) Hv.out Hall.out])
      go_wp2_with fail
      refine hc.mono ?_
      rintro e w2 ⟨rfl, hb2⟩
      go_wp2
      go_ret
      exact ⟨by rw [← Hres.out]; rfl, hb.trans (hb2.mono hb.size)⟩
    · have hkj : k < j := by
        rcases Nat.lt_or_ge k j with h | h
        · exact h
        · exfalso
          obtain rfl : k = j := by omega
          have h1 := Hv.out
          have h2 := Hj.out
          rw [h1] at h2; cases h2
      go_wp2_with fail
      refine hc.mono ?_
      rintro e w2 ⟨rfl, hb2⟩
      have hI := Itoa_any (k + 1) (by omega) w2 (hG.later (hb.trans (hb2.mono hb.size)))
      rw [Int.natCast_add, Int.natCast_one] at hI
      go_wp2_with (go_at_call 120; refine hI.mono ?_)
      rintro e w3 ⟨rfl, hb3⟩
      have Hw : Hid (stem ++ (⟨(decDigits (k + 1)).toArray⟩ : ByteArray) = word stem (k + 1)) := Lib.hid (by unfold word; rw [if_neg (by omega)])
      have hdl : (decDigits (k + 1)).length ≤ 20 := by rw [decDigits_length]; exact nDigits_le20 _ (by omega)
      have hsum : ¬ maxLen < stem.size + (decDigits (k + 1)).length := by unfold maxLen; omega
      go_wp2
      go_roundw
      case rel =>
        refine ⟨k + 1, by omega, by rw [Hw.out], by rw [Int.natCast_add, Int.natCast_one], ?_, hb.trans ((hb2.trans (hb3.mono hb2.size)).mono hb.size)⟩
        intro i hi
        by_cases h : i = k
        · rw [h]; exact Hv.out
        · exact Hall.out i (by omega)
      case measure =>
        simp only [intOf]
        omega
/-- The names that are to be avoided: none, or a map. -/
def AvIn (W : World) (mo : Option Nat) (av : List Name) : Prop :=
  match mo with
  | none => av = []
  | some ba => ∃ n, NMap W ba n (mN av)
theorem AvIn.kept {W W' : World} {mo : Option Nat} {av : List Name} (h : AvIn W mo av) (hg : W.grownBy W' none) : AvIn W' mo av := by
  cases mo with
  | none => exact h
  | some ba => obtain ⟨n, h⟩ := h; exact ⟨n, BMap.kept h hg (by simp)⟩
theorem AvIn.later {W W' : World} {mo : Option Nat} {av : List Name} (h : AvIn W mo av) (hb : Below W.heap.size W W') : AvIn W' mo av := h.kept (below_grown hb)
theorem AvIn.lt {W : World} {ba : Nat} {av : List Name} (h : AvIn W (some ba) av) : ba < W.heap.size := by obtain ⟨n, h⟩ := h; exact h.lt
theorem AvIn.below {W W' : World} {mo : Option Nat} {av : List Name} (h : AvIn W mo av) {N : Nat} (hb : Below N W W') (hn : ∀ ba, mo = some ba → ba < N) : AvIn W' mo av := by
  cases mo with
  | none => exact h
  | some ba => obtain ⟨n, h⟩ := h; exact ⟨n, BMap.below h hb (hn ba rfl)⟩
theorem look_av {W : World} {mo : Option Nat} {av : List Name} (h : AvIn W mo av) (x : Name) (hx : x.fit) :
    (Instr.lookup 71 (.map mo) (.agg #[.string x.sp, .string x.lc]) false).run Tryz.prog W = .ok (.bool (decide (x ∈ av))) W := by
  cases mo with
  | none =>
    have h : av = [] := h
    subst h
    exact Np.look_nil keyEncN Tryz.underlying71 (Tryz.zeroValue4 _) hx
  | some ba =>
    obtain ⟨n, h⟩ := h
    have := BMap.look keyEncN Tryz.underlying71 Tryz.underlying4 (Tryz.zeroValue4 _) h hx
    rw [show ((mN av x).getD false) = decide (x ∈ av) by unfold mN; by_cases h : x ∈ av <;> simp [h]] at this
    exact this
theorem look_n {W : World} {b n : Nat} {l : List Name} (h : NMap W b n (mN l)) (x : Name) (hx : x.fit) :
    (Instr.lookup 71 (.map (some b)) (.agg #[.string x.sp, .string x.lc]) false).run Tryz.prog W = .ok (.bool (decide (x ∈ l))) W := look_av (mo := some b) ⟨n, h⟩ x hx
theorem look_s {W : World} {b n : Nat} {l : List ByteArray} (h : SMap W b n (mS l)) (x : ByteArray) (hx : okS x) :
    (Instr.lookup 74 (.map (some b)) (.string x) false).run Tryz.prog W = .ok (.bool (hasS l x)) W := by
  have := BMap.look keyEncS Tryz.underlying74 Tryz.underlying4 (Tryz.zeroValue4 _) h hx
  rw [show ((mS l x).getD false) = hasS l x by unfold mS; cases hasS l x <;> simp] at this
  exact this

set_option maxRecDepth 100000 in
set_option maxHeartbeats 2000000 in
theorem freshTaken_any (sp loc : ByteArray) (Bs Bm Ba b1 b2 n1 : Nat) (mo : Option Nat) (nms av : List Name) (hsp : sp.size ≤ maxLen) (hloc : loc.size ≤ maxLen) (W : World) (hs : Blk W Bs #[.string sp] 9) (hm : Blk W Bm #[.map (some b1), .map (some b2)] 76)
    (ha : Blk W Ba #[.map mo] 71) (h1 : NMap W b1 n1 (mN nms)) (hav : AvIn W mo av) :
    Calls Tryz.prog 109 #[.string loc, .pointer (some ⟨Bs, 0, none⟩), .pointer (some ⟨Bm, 0, none⟩), .pointer (some ⟨Ba, 0, none⟩)] W fun e w' => e = .returned (.bool (decide ((⟨sp, loc⟩ : Name) ∈ nms) || decide ((⟨sp, loc⟩ : Name) ∈ av))) ∧ Below W.heap.size W w' := by
  obtain ⟨W1, hW1⟩ : ∃ W1, W.alloc (.cells #[.string sp, .string loc] 23) = W1 := ⟨_, rfl⟩
  have hb : Below W.heap.size W W1 := by rw [← hW1]; exact (Below.refl _ _).alloc (Nat.le_refl _) _
  have hx : Name.fit ⟨sp, loc⟩ := ⟨hsp, hloc⟩
  have r1 := look_n (h1.kept (below_grown hb) (by simp)) ⟨sp, loc⟩ hx
  have r2 := look_av (hav.later hb) ⟨sp, loc⟩ hx
  have s0 := hs.cell 0
  have m1 := (hm.below hb).cell 0
  have a1 := (ha.below hb).cell 0
  have n0 : W1.cell? ⟨W.heap.size, 0, none⟩ = some (.string sp) := by rw [← hW1]; exact (Blk.new _ _ _).cell 0
  have n1 : W1.cell? ⟨W.heap.size, 1, none⟩ = some (.string loc) := by rw [← hW1]; exact (Blk.new _ _ _).cell 1
  simp only [List.getElem?_toArray, List.getElem?_cons_zero, List.getElem?_cons_succ] at s0 m1 a1
  obtain ⟨v1, hv1⟩ : ∃ v, decide ((⟨sp, loc⟩ : Name) ∈ nms) = v := ⟨_, rfl⟩
  obtain ⟨v2, hv2⟩ : ∃ v, decide ((⟨sp, loc⟩ : Name) ∈ av) = v := ⟨_, rfl⟩
  rw [hv1] at r1 ⊢
  rw [hv2] at r2 ⊢
  have hsl := hs.lt
  clear hv1 hv2 hs hm ha h1 hav
  cases v1
  · go_enter Tryz.func109, Tryz.ntmps109
    go_wp2
    go_ret
    exact ⟨rfl, hb⟩
  · go_enter Tryz.func109, Tryz.ntmps109
    go_wp2
    go_ret
    exact ⟨rfl, hb⟩
set_option maxHeartbeats 1000000 in
theorem spaceTaken_any (sp : ByteArray) (Bm b1 b2 n2 : Nat) (sps : List ByteArray) (hsp : sp.size ≤ maxLen) (W : World) (hm : Blk W Bm #[.map (some b1), .map (some b2)] 76) (h2 : SMap W b2 n2 (mS sps)) :
    Calls Tryz.prog 110 #[.string sp, .pointer (some ⟨Bm, 0, none⟩)] W fun e w' => e = .returned (.bool (hasS sps sp)) ∧ w' = W := by
  have r1 := look_s h2 sp hsp
  have m1 := hm.cell 1
  simp only [List.getElem?_toArray, List.getElem?_cons_zero, List.getElem?_cons_succ] at m1
  go_enter Tryz.func110, Tryz.ntmps110
  go_wp2
  go_ret
  exact ⟨rfl, rfl⟩
end Np
end Go.Proofs.YtohlhihhadbphaaGreatDoor

/- fresh, newSpace. -/
namespace Go.Proofs.YtohlhihhadbphaaGreatDoor
open Go.RowKit Go.Shelf Go.Lib
namespace Np
theorem word_size (stem : ByteArray) (i : Nat) (hs : stem.size ≤ 1) (hi : i ≤ 1000000) : (word stem i).size ≤ 21 := by
  unfold word
  split
  · omega
  · have := nDigits_le20 i (by omega)
    rw [ByteArray.size_append]
    have e : (⟨(decDigits i).toArray⟩ : ByteArray).size = (decDigits i).length := by simp [ByteArray.size]
    rw [e, decDigits_length]; omega
theorem big21 {n : Nat} (h : n ≤ 21) : n ≤ maxLen := by unfold maxLen; omega

set_option maxRecDepth 100000 in
set_option maxHeartbeats 2000000 in
theorem fresh_any (sp : ByteArray) (b1 b2 n1 : Nat) (mo : Option Nat) (nms av : List Name) (hsp : sp.size ≤ maxLen) (hN : nms.length + av.length ≤ 1000000) (w : World) (hG : G w) (h1 : NMap w b1 n1 (mN nms)) (hav : AvIn w mo av) :
    Calls Tryz.prog 93 #[.agg #[.map (some b1), .map (some b2)], .string sp, .map mo] w fun e w' => e = .returned (fresh nms av sp).val ∧ Below w.heap.size w w' := by
  obtain ⟨W1, hW1⟩ : ∃ W1, (((w.alloc (.cells #[.map (some b1), .map (some b2)] 76)).alloc (.cells #[.string sp] 9)).alloc (.cells #[.map mo] 71)).alloc (.cells #[.string ⟨#[]⟩, .string ⟨#[]⟩] 23) = W1 := ⟨_, rfl⟩
  have hb : Below w.heap.size w W1 := by rw [← hW1]; exact ((((Below.refl _ w).alloc (Nat.le_refl _) _).alloc (by simp) _).alloc (by simp; omega) _).alloc (by simp; omega) _
  have hsz : W1.heap.size = w.heap.size + 4 := by rw [← hW1]; simp
  have B0 : Blk W1 w.heap.size #[.map (some b1), .map (some b2)] 76 := by rw [← hW1]; exact (((Blk.new _ _ _).alloc _).alloc _).alloc _
  have B1 : Blk W1 (w.heap.size + 1) #[.string sp] 9 := by
    rw [← hW1]
    have := Blk.new (w.alloc (.cells #[.map (some b1), .map (some b2)] 76)) #[.string sp] 9
    rw [World.size_alloc] at this
    exact (this.alloc _).alloc _
  have B2 : Blk W1 (w.heap.size + 2) #[.map mo] 71 := by
    rw [← hW1]
    have := Blk.new ((w.alloc (.cells #[.map (some b1), .map (some b2)] 76)).alloc (.cells #[.string sp] 9)) #[.map mo] 71
    rw [World.size_alloc, World.size_alloc] at this
    exact this.alloc _
  have B3 : Blk W1 (w.heap.size + 3) #[.string ⟨#[]⟩, .string ⟨#[]⟩] 23 := by
    rw [← hW1]
    have := Blk.new (((w.alloc (.cells #[.map (some b1), .map (some b2)] 76)).alloc (.cells #[.string sp] 9)).alloc (.cells #[.map mo] 71)) #[.string ⟨#[]⟩, .string ⟨#[]⟩] 23
    rw [World.size_alloc, World.size_alloc, World.size_alloc] at this
    exact this
  have hG1 := hG.later hb
  have hF := firstFree_any xS 109 #[.pointer (some ⟨w.heap.size + 1, 0, none⟩), .pointer (some ⟨w.heap.size, 0, none⟩), .pointer (some ⟨w.heap.size + 2, 0, none⟩)] (fun loc => decide ((⟨sp, loc⟩ : Name) ∈ nms) || decide ((⟨sp, loc⟩ : Name) ∈ av)) (nms.length + av.length) hN (by decide) W1 hG1 (enters_of Tryz.func109 (by kernel_rfl) rfl)
    (fun i W hi hbW => freshTaken_any sp (word xS i) (w.heap.size + 1) w.heap.size (w.heap.size + 2) b1 b2 n1 mo nms av hsp (big21 (word_size xS i (by decide) (by omega))) W (B1.below hbW) (B0.below hbW) (B2.below hbW) ((h1.kept (below_grown hb) (by simp)).kept (below_grown hbW) (by simp)) ((hav.later hb).later hbW))
    (fresh_free nms av sp)
  have Hr : Hid ((⟨sp, word xS (ff (fun i => (fun loc => decide ((⟨sp, loc⟩ : Name) ∈ nms) || decide ((⟨sp, loc⟩ : Name) ∈ av)) (word xS i)) (nms.length + av.length) 0)⟩ : Name) = fresh nms av sp) := Lib.hid rfl
  obtain ⟨r, hr⟩ : ∃ r, word xS (ff (fun i => (fun loc => decide ((⟨sp, loc⟩ : Name) ∈ nms) || decide ((⟨sp, loc⟩ : Name) ∈ av)) (word xS i)) (nms.length + av.length) 0) = r := ⟨_, rfl⟩
  have Hr2 : Hid (fresh nms av sp = ⟨sp, r⟩) := Lib.hid (by rw [← hr]; exact Hr.out.symm)
  rw [hr] at hF
  have Hsz := Lib.hid hsz
  have hxs : (.string xS : Value) = .string ⟨#[120]⟩ := rfl
  rw [hxs] at hF
  rw [Hr2.out]
  unfold Name.val
  clear hr Hr hsz hxs
  go_enter Tryz.func93, Tryz.ntmps93
  go_wp2_with (go_at_call 108; refine hF.mono ?_)
  rintro e w2 ⟨rfl, hb2⟩
  have e1 := (B1.below hb2).cell 0
  have C3 := B3.below hb2
  have e3 := C3.cell 0
  have e4 := C3.cell 1
  have f3 := C3.frozen 0
  have f4 := C3.frozen 1
  simp only [List.getElem?_toArray, List.getElem?_cons_zero, List.getElem?_cons_succ] at e1 e3 e4
  have q := (C3.set 0 (by simp) (.string sp)).set 1 (by simp) (.string r)
  simp only [List.setIfInBounds_toArray, List.set_cons_zero, List.set_cons_succ] at q
  have q0 := q.cell 0
  have q1 := q.cell 1
  simp only [List.getElem?_toArray, List.getElem?_cons_zero, List.getElem?_cons_succ] at q0 q1
  go_wp2
  refine bodyPost_ret (v := .agg #[.string sp, .string r]) ?_ rfl ⟨rfl, ?_⟩
  · simp [results, Tryz.f93, go_sem, q0, q1]
  · exact ((hb.trans (hb2.mono hb.size)).setCell (p := ⟨w.heap.size + 3, 0, none⟩) (by simp) _).setCell (p := ⟨w.heap.size + 3, 1, none⟩) (by simp) _

set_option maxHeartbeats 2000000 in
theorem newSpace_any (b1 b2 n2 : Nat) (sps : List ByteArray) (hN : sps.length ≤ 1000000) (w : World) (hG : G w) (h2 : SMap w b2 n2 (mS sps)) :
    Calls Tryz.prog 94 #[.agg #[.map (some b1), .map (some b2)]] w fun e w' => e = .returned (.string (newS sps)) ∧ Below w.heap.size w w' := by
  obtain ⟨W1, hW1⟩ : ∃ W1, w.alloc (.cells #[.map (some b1), .map (some b2)] 76) = W1 := ⟨_, rfl⟩
  have hb : Below w.heap.size w W1 := by rw [← hW1]; exact (Below.refl _ w).alloc (Nat.le_refl _) _
  have B0 : Blk W1 w.heap.size #[.map (some b1), .map (some b2)] 76 := by rw [← hW1]; exact Blk.new _ _ _
  have hF := firstFree_any uS 110 #[.pointer (some ⟨w.heap.size, 0, none⟩)] (fun s => hasS sps s) sps.length hN (by decide) W1 (hG.later hb) (enters_of Tryz.func110 (by kernel_rfl) rfl)
    (fun i W hi hbW => (spaceTaken_any (word uS i) w.heap.size b1 b2 n2 sps (big21 (word_size uS i (by decide) (by omega))) W (B0.below hbW) ((h2.kept (below_grown hb) (by simp)).kept (below_grown hbW) (by simp))).mono fun e w' ⟨he, hw⟩ => ⟨he, hw ▸ Below.refl _ _⟩)
    (newS_free sps)
  have Hr : Hid (word uS (ff (fun i => (fun s => hasS sps s) (word uS i)) sps.length 0) = newS sps) := Lib.hid rfl
  rw [Hr.out, show (.string uS : Value) = .string ⟨#[117]⟩ from rfl] at hF
  clear Hr
  go_enter Tryz.func94, Tryz.ntmps94
  go_wp2_with (go_at_call 108; refine hF.mono ?_)
  rintro e w2 ⟨rfl, hb2⟩
  go_wp2
  go_ret
  exact ⟨rfl, hb.trans (hb2.mono hb.size)⟩
end Np
end Go.Proofs.YtohlhihhadbphaaGreatDoor
