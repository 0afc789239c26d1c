/- Names: Ak Al Am An. -/
import Derived.Test.YtohlhihhadbphaaGreatDoorGd
import Derived.Test.YtohlhihhadbphaaGreatDoorGj
import Derived.Test.YtohlhihhadbphaaGreatDoorGi
import Derived.Deep.WholeRow
import Derived.WalkSpells
set_option linter.unusedSimpArgs false
set_option linter.unusedVariables false
/- Keys of maps: rows of a hundred bools. -/
namespace Go.Proofs.YtohlhihhadbphaaGreatDoor
open Go.RowKit Go.Shelf Go.Lib
namespace Np
def boolLits : List Value → Option (List Lit)
  | [.bool b] => some [.bool b]
  | _ => none
theorem keyLits_bool (D : Nat) (cs : List Value) : Tryz.prog.keyLits (D + 1) 4 cs = boolLits cs := by
  unfold Program.keyLits boolLits
  simp only [Tryz.underlying4]
  split <;> rename_i h1 h2 <;> simp_all
theorem cells83 : Tryz.prog.cellsOf 83 = 100 := by kernel_rfl
theorem cells4 : Tryz.prog.cellsOf 4 = 1 := by kernel_rfl
theorem keyType83 : Tryz.prog.keyType 83 = true := by kernel_rfl
theorem keyedB : Go.Maps.Keyed Tryz.prog 83 := Go.Maps.Keyed.of_law (deep_law_gate laidOut (of_decide_eq_true (by kernel_rfl)) (of_decide_eq_true (by kernel_rfl)) (by kernel_rfl) (by kernel_rfl))
theorem windows {α β : Type} (f : List α → Option β) : ∀ (cs : List α), (List.range cs.length).mapM (fun i => f ((cs.drop i).take 1)) = cs.mapM (fun c => f [c])
  | [] => rfl
  | c :: r => by
    have ih := windows f r
    rw [List.length_cons, List.range_succ_eq_map, List.mapM_cons, List.mapM_cons, List.mapM_map]
    simp only [List.drop_zero, List.take_succ_cons, List.take_zero, List.drop_succ_cons, Function.comp_def]
    rw [ih]
theorem boolLits_all {cs : List Value} {ls : List (List Lit)} : cs.mapM (fun c => boolLits [c]) = some ls ↔ ∃ bs : List Bool, cs = bs.map Value.bool ∧ ls = bs.map (fun b => [Lit.bool b]) := by
  induction cs generalizing ls with
  | nil =>
    simp only [List.mapM_nil]
    constructor
    · intro h; exact ⟨[], rfl, by simpa using h.symm⟩
    · rintro ⟨bs, h1, h2⟩
      cases bs with
      | nil => simp [h2]
      | cons => simp at h1
  | cons c r ih =>
    rw [List.mapM_cons]
    constructor
    · intro h
      simp only [Option.bind_eq_bind, Option.bind_eq_some_iff] at h
      obtain ⟨x, hx, y, hy, hz⟩ := h
      obtain ⟨bs, rfl, rfl⟩ := ih.1 hy
      unfold boolLits at hx
      split at hx
      · rename_i b hb
        cases hb; cases hx
        refine ⟨b :: bs, rfl, ?_⟩
        simpa using hz.symm
      · cases hx
    · rintro ⟨bs, h1, h2⟩
      cases bs with
      | nil => simp at h1
      | cons b bs =>
        simp only [List.map_cons, List.cons.injEq] at h1
        obtain ⟨rfl, rfl⟩ := h1
        rw [ih.2 ⟨bs, rfl, rfl⟩]
        simp [boolLits, h2]
theorem keyLits_bools {D : Nat} {cs : List Value} (h : cs.length = 100) : Tryz.prog.keyLits (D + 2) 83 cs = (cs.mapM (fun c => boolLits [c])).map List.flatten := by
  rw [show D + 2 = (D + 1) + 1 from rfl]
  unfold Program.keyLits
  simp only [Tryz.underlying83, cells83, cells4, keyLits_bool, Nat.mul_one]
  rw [if_pos h, ← windows boolLits cs, h]
def valB (l : List Bool) : Value := .agg (l.map Value.bool).toArray
def litB (l : List Bool) : Lit := .string (keyBytes (l.map Lit.bool))
theorem keyOf_bools (v : Value) : keyOf Tryz.prog 83 v = match v with | .agg cs => if cs.size = 100 then ((cs.toList.mapM (fun c => boolLits [c])).map List.flatten).map (fun ls => .string (keyBytes ls)) else none | _ => none := by
  unfold keyOf
  simp only [Tryz.underlying83, keyType83, Bool.true_and, types_size]
  cases v <;> simp only [Value.formed, Tryz.underlying83, cells83, Bool.false_eq_true, if_false]
  rename_i cs
  by_cases h : cs.size = 100
  · have hl : cs.toList.length = 100 := by simpa using h
    simp [h, Value.cells, keyLits_bools hl]
  · simp [h]
theorem flat_bools (bs : List Bool) : (bs.map (fun b => [Lit.bool b])).flatten = bs.map Lit.bool := by
  induction bs with
  | nil => rfl
  | cons b r ih => simpa using ih
theorem keyEncB : KeyEnc Tryz.prog 83 valB litB (fun l => l.length = 100) where
  K := keyedB
  of {l} h := by
    rw [keyOf_bools]
    have hl : (l.map Value.bool).toArray.size = 100 := by simpa using h
    simp only [valB]
    rw [if_pos hl, (boolLits_all (cs := (l.map Value.bool).toArray.toList)).2 ⟨l, by simp, rfl⟩]
    simp [flat_bools, litB]
  inv {v l} h := by
    rw [keyOf_bools] at h
    split at h
    · rename_i v cs
      split at h
      · rename_i hs
        simp only [Option.map_eq_some_iff] at h
        obtain ⟨ls, ⟨x, hx, rfl⟩, rfl⟩ := h
        obtain ⟨bs, h1, rfl⟩ := boolLits_all.1 hx
        have hlen := congrArg List.length h1
        rw [List.length_map, Array.length_toList, hs] at hlen
        refine ⟨bs, hlen.symm, ?_, by rw [flat_bools]; rfl⟩
        unfold valB
        rw [← h1]
      · cases h
    · cases h
  inj {x y} h := by
    unfold valB at h
    injection h with h
    have := congrArg Array.toList h
    simp only at this
    exact (List.map_inj_right (fun a b e => by injection e)).1 this
end Np
end Go.Proofs.YtohlhihhadbphaaGreatDoor

/- Cells: what lies in memory; slices.Clone. -/
namespace Go.Proofs.YtohlhihhadbphaaGreatDoor
open Go.RowKit Go.Shelf Go.Lib Go.Maps
attribute [local go_sem] Oper.semAt_some
namespace Np
theorem infoB : (Tryz.prog.info? 4).map (fun i => (i.zero, i.size, i.bytes)) = some (some (.bool false), 1, 1) := by kernel_rfl
theorem info_partsB : ∃ i0, Tryz.prog.info? 4 = some i0 ∧ i0.zero = some (.bool false) ∧ i0.size = 1 ∧ i0.bytes = 1 := by
  have h := infoB
  cases hq : Tryz.prog.info? 4 with
  | none => rw [hq] at h; cases h
  | some i =>
    rw [hq] at h
    simp only [Option.map_some, Option.some.injEq, Prod.mk.injEq] at h
    exact ⟨i, rfl, h.1, h.2.1, h.2.2⟩
/-- A row of bools lies at the beginning of a block. -/
def BRow (W : World) (b : Nat) (l : List Bool) : Prop := ∃ cur, W.heap[b]? = some (.cells cur 4 (0, 0)) ∧ cur.toList.take l.length = l.map Value.bool
theorem BRow.cell {W : World} {b : Nat} {l : List Bool} (h : BRow W b l) {j : Nat} (hj : j < l.length) : W.cell? ⟨b, j, none⟩ = some (.bool l[j]) := by
  obtain ⟨cur, hb, ht⟩ := h
  have h1 : (l.map Value.bool)[j]? = some (.bool l[j]) := by simp [hj]
  rw [← ht, List.getElem?_take_of_lt hj, Array.getElem?_toList] at h1
  simpa [World.cell?, hb] using h1
theorem BRow.same {W W' : World} {b : Nat} {l : List Bool} (h : BRow W b l) (hs : W'.heap[b]? = W.heap[b]?) : BRow W' b l := by
  obtain ⟨cur, hb, ht⟩ := h; exact ⟨cur, hs.trans hb, ht⟩
set_option maxRecDepth 100000 in
set_option maxHeartbeats 1000000 in
theorem Clone_any (b k c : Nat) (bs : List Bool) (hk : bs.length = k) (hk2 : k ≤ 100) (W : World) (hc : ∀ j (h : j < bs.length), W.cell? ⟨b, j, none⟩ = some (.bool bs[j])) :
    Calls Tryz.prog 70 #[.slice (some ⟨b, 0, none⟩) k c] W fun e w' => ∃ (b' c' : Nat), e = .returned (.slice (some ⟨b', 0, none⟩) k c') ∧ Hid (W.heap.size ≤ b' ∧ b' < w'.heap.size ∧ BRow w' b' bs) ∧ Below W.heap.size W w' := by
  obtain ⟨W1, hW1⟩ : ∃ W1, W.alloc (.cells #[] 4) = W1 := ⟨_, rfl⟩
  have hb1 : Below W.heap.size W W1 := by rw [← hW1]; exact (Below.refl _ _).alloc (Nat.le_refl _) _
  have hown : W1.ownsRow W.heap.size 4 1 (.slice (some ⟨W.heap.size, 0, none⟩) 0 0) 0 [] := by
    rw [← hW1]
    exact World.ownsRow_made W #[] 0 (Nat.le_refl _) (Nat.zero_le _) (by simp)
  obtain ⟨i0, hi, hz0, hz1, hz2⟩ := info_partsB
  have hs1 := hb1.size
  obtain ⟨v', W2, hap, hown2, hg2, hnil, hat⟩ := run_append_own_at W1 W.heap.size 50 50 4 i0 (.bool false) 1 1 Tryz.underlying50 hi hz0 hz1 hz2 rfl (by decide) _ 0 [] hown ⟨b, 0, none⟩ k c (bs.map Value.bool) (by simp [hk]) (fun j u hu => by
      have e : (⟨b, 0, none⟩ : Addr).add j = ⟨b, j, none⟩ := by unfold Addr.add; split <;> simp_all
      rw [e]
      have hj : j < bs.length := by have := (List.getElem?_eq_some_iff.1 hu).1; simpa using this
      rw [List.getElem?_map, List.getElem?_eq_getElem hj] at hu
      injection hu with hu
      rw [← hu]
      exact (hb1.cell (p := ⟨b, j, none⟩) (cell_lt (hc j hj))).trans (hc j hj)) (fun u hu => by
      obtain ⟨x, _, rfl⟩ := List.mem_map.1 hu; rfl) (by unfold maxLen; omega) (by omega) hs1
  obtain ⟨b', c', hv, hb', hrow⟩ : ∃ b' c', v' = .slice (some ⟨b', 0, none⟩) k c' ∧ (W.heap.size ≤ b' ∧ b' < W2.heap.size) ∧ BRow W2 b' bs := by
    rcases hown2.2 with ⟨h1, _⟩ | ⟨g, cap, cur, h1, h2, h3, h4, h5, h6, h7⟩
    · have := (hnil.1 h1).1; simp at this
    · refine ⟨g, cap, by rw [h1]; simp, ⟨h2, (Array.getElem?_eq_some_iff.1 h3).1⟩, cur, h3, ?_⟩
      rw [hk]; simpa using h7
  have Hrow := Lib.hid hrow
  have hB2 : Below W.heap.size W W2 := hb1.grown hg2 hs1 (fun r hr => by simp [Value.ownBlock] at hr; omega)
  subst hv
  clear hc hrow hown hown2 hg2 hnil hat hi hz0 hz1 hz2
  have heq : (binOp .eql 50 (.slice (some ⟨b, 0, none⟩) k c) (.slice none 0 0)).run Tryz.prog W = .ok (.bool false) W := Lib.run_eql_slice_nil W 50 4 (some ⟨b, 0, none⟩) k c 0 0 Tryz.underlying50
  go_enter Tryz.func70, Tryz.ntmps70
  go_wp2_with (at_builtin; refine wpList_append_run rfl _ _ 50 rfl rfl rfl hap ?_)
  go_wp2
  go_ret
  exact ⟨b', c', rfl, Lib.hid ⟨hb'.1, hb'.2, Hrow.out⟩, hB2⟩
end Np
end Go.Proofs.YtohlhihhadbphaaGreatDoor

/- Cells. -/
namespace Go.Proofs.YtohlhihhadbphaaGreatDoor
open Go.RowKit Go.Shelf Go.Lib Go.Maps
attribute [local go_sem] Oper.semAt_some
namespace Np
def inR (lst : List CT) (n : Name) : List Bool := lst.map fun u => u.holds n
def stepC (lst : List CT) (cs : List (Name × List Bool)) (n : Name) : List (Name × List Bool) := if inR lst n ∈ cs.map Prod.snd then cs else cs ++ [(n, inR lst n)]
def cellsF (lst : List CT) (cands : List Name) : List (Name × List Bool) := cands.foldl (stepC lst) []
def pad (l : List Bool) : List Bool := l ++ List.replicate (100 - l.length) false
theorem pad_len {l : List Bool} (h : l.length ≤ 100) : (pad l).length = 100 := by simp [pad]; omega
theorem pad_inj {l m : List Bool} (h : l.length = m.length) (e : pad l = pad m) : l = m := (List.append_inj e h).1
def seenF (cs : List (Name × List Bool)) (l : List Bool) : Option Bool := if l ∈ cs.map (fun c => pad c.2) then some true else none
theorem inR_len (lst : List CT) (n : Name) : (inR lst n).length = lst.length := by simp [inR]
theorem cellsF_len (lst : List CT) (cands : List Name) : ∀ c ∈ cellsF lst cands, c.2.length = lst.length := by
  unfold cellsF
  suffices H : ∀ (cands : List Name) (cs : List (Name × List Bool)), (∀ c ∈ cs, c.2.length = lst.length) → ∀ c ∈ cands.foldl (stepC lst) cs, c.2.length = lst.length from H cands [] (by simp)
  intro cands
  induction cands with
  | nil => intro cs h; exact h
  | cons n r ih =>
    intro cs h
    refine ih _ ?_
    unfold stepC
    split
    · exact h
    · intro c hc
      rcases List.mem_append.1 hc with hc | hc
      · exact h c hc
      · rw [List.mem_singleton.1 hc]; exact inR_len _ _
theorem cellsF_le (lst : List CT) (cands : List Name) : (cellsF lst cands).length ≤ cands.length := by
  unfold cellsF
  suffices H : ∀ (cands : List Name) (cs : List (Name × List Bool)), (cands.foldl (stepC lst) cs).length ≤ cs.length + cands.length by simpa using H cands []
  intro cands
  induction cands with
  | nil => intro cs; simp
  | cons n r ih =>
    intro cs
    have h1 := ih (stepC lst cs n)
    have h2 : (stepC lst cs n).length ≤ cs.length + 1 := by unfold stepC; split <;> simp
    simp only [List.foldl_cons, List.length_cons]; omega
theorem seen_iff {lst : List CT} {cs : List (Name × List Bool)} (h : ∀ c ∈ cs, c.2.length = lst.length) (n : Name) : (seenF cs (pad (inR lst n))).getD false = decide (inR lst n ∈ cs.map Prod.snd) := by
  unfold seenF
  have : pad (inR lst n) ∈ cs.map (fun c => pad c.2) ↔ inR lst n ∈ cs.map Prod.snd := by
    simp only [List.mem_map]
    constructor
    · rintro ⟨c, hc, e⟩; exact ⟨c, hc, pad_inj ((h c hc).trans (inR_len lst n).symm) e⟩
    · rintro ⟨c, hc, e⟩; exact ⟨c, hc, by rw [e]⟩
  by_cases hm : inR lst n ∈ cs.map Prod.snd
  · rw [if_pos (this.2 hm), decide_eq_true hm]; rfl
  · rw [if_neg (fun e => hm (this.1 e)), decide_eq_false hm]; rfl
def arrB (l : List Bool) : Array Value := ((pad l).map Value.bool).toArray
theorem arrB_zero : Tryz.zeroCells83 = arrB [] := by kernel_rfl
theorem pad_set {l : List Bool} {k : Nat} (hk : k < l.length) (hl : l.length ≤ 100) : (pad (l.take k)).set k l[k] = pad (l.take (k + 1)) := by
  apply List.ext_getElem?
  intro i
  unfold pad
  rw [List.getElem?_set]
  simp only [List.length_append, List.length_take, List.length_replicate, Nat.min_eq_left (Nat.le_of_lt hk), Nat.min_eq_left (show k + 1 ≤ l.length by omega)]
  by_cases e : k = i
  · subst e
    rw [if_pos rfl, if_pos (by omega), List.getElem?_append_left (by simp; omega)]
    simp
  · rw [if_neg e]
    by_cases h1 : i < k
    · rw [List.getElem?_append_left (by simp; omega), List.getElem?_append_left (by simp; omega), List.getElem?_take_of_lt h1, List.getElem?_take_of_lt (by omega)]
    · rw [List.getElem?_append_right (by simp; omega), List.getElem?_append_right (by simp; omega)]
      simp only [List.length_take, Nat.min_eq_left (Nat.le_of_lt hk), Nat.min_eq_left (show k + 1 ≤ l.length by omega), List.getElem?_replicate]
      by_cases h2 : i < 100
      · rw [if_pos (by omega), if_pos (by omega)]
      · rw [if_neg (by omega), if_neg (by omega)]
theorem arrB_set {l : List Bool} {k : Nat} (hk : k < l.length) (hl : l.length ≤ 100) : (arrB (l.take k)).setIfInBounds k (.bool l[k]) = arrB (l.take (k + 1)) := by
  unfold arrB
  rw [← pad_set hk hl, List.setIfInBounds_toArray, List.map_set]
theorem arrB_size {l : List Bool} (h : l.length ≤ 100) : (arrB l).size = 100 := by unfold arrB; simp [pad_len h]
theorem arrB_get {l : List Bool} {k : Nat} (h : k < 100) (hl : l.length ≤ 100) : ∃ v, (arrB l)[k]? = some v := by
  have : k < (arrB l).size := by rw [arrB_size hl]; exact h
  exact ⟨_, Array.getElem?_eq_getElem this⟩
/-- A cell of the answer, with the place of its In. -/
structure CM where
  n : Name
  ib : Nat
  ic : Nat
  bs : List Bool
def CM.cells (c : CM) : List Value := [.string c.n.sp, .string c.n.lc, .slice (some ⟨c.ib, 0, none⟩) c.bs.length c.ic]
/-- A list of cells in a row of the call's own, each In elsewhere. -/
def OwnCells (W : World) (lo : Nat) (v : Value) (cs : List (Name × List Bool)) : Prop :=
  ∃ cms : List CM, cms.map (fun c => (c.n, c.bs)) = cs ∧ W.ownsRow lo 52 3 v cms.length (cms.flatMap CM.cells) ∧ ∀ c ∈ cms, lo ≤ c.ib ∧ c.ib < W.heap.size ∧ some c.ib ≠ v.ownBlock ∧ BRow W c.ib c.bs
theorem OwnCells.nil (W : World) (lo : Nat) : OwnCells W lo (.slice none 0 0) [] := ⟨[], rfl, World.ownsRow_nil _ _ _ _, by simp⟩
theorem OwnCells.keep {W W' : World} {lo : Nat} {v : Value} {cs : List (Name × List Bool)} (h : OwnCells W lo v cs) (hs : W.heap.size ≤ W'.heap.size) (hk : ∀ b cur t, lo ≤ b → W.heap[b]? = some (.cells cur t (0, 0)) → (t = 52 ∨ t = 4) → W'.heap[b]? = W.heap[b]?) : OwnCells W' lo v cs := by
  obtain ⟨cms, h1, h2, h3⟩ := h
  refine ⟨cms, h1, ⟨h2.1, ?_⟩, fun c hc => ?_⟩
  · rcases h2.2 with h | ⟨g, cap, cur, e1, e2, e3, e4⟩
    · exact .inl h
    · exact .inr ⟨g, cap, cur, e1, e2, (hk g cur _ e2 e3 (.inl rfl)).trans e3, e4⟩
  · obtain ⟨q1, q2, q3, q4⟩ := h3 c hc
    refine ⟨q1, by omega, q3, ?_⟩
    obtain ⟨cur, hb, ht⟩ := q4
    exact ⟨cur, (hk _ cur _ q1 hb (.inr rfl)).trans hb, ht⟩
/-- The state of Cells. -/
structure CSt (w : World) (a : Option Addr) (len c p B : Nat) (cs : List (Name × List Bool)) (W : World) : Prop where
  below : Below w.heap.size w W
  size : B ≤ W.heap.size
  box : Blk W w.heap.size #[.slice a len c] 24
  var : ∃ v, Blk W p #[v] 45 ∧ OwnCells W B v cs
  seen : Blk W (p + 2) #[.map (some (p + 1))] 82
  map : BMap Tryz.prog 83 4 litB (fun l => l.length = 100) W (p + 1) cs.length (seenF cs)
theorem CSt.below' {w : World} {a : Option Addr} {len c p B : Nat} {cs : List (Name × List Bool)} {W W' : World} (h : CSt w a len c p B cs W) (hb : Below W.heap.size W W') : CSt w a len c p B cs W' :=
  ⟨h.below.trans (hb.mono h.below.size), Nat.le_trans h.size hb.size, h.box.below hb, by
    obtain ⟨v, h1, h2⟩ := h.var
    exact ⟨v, h1.below hb, h2.keep hb.size (fun b cur t _ ho _ => hb.block b (Array.getElem?_eq_some_iff.1 ho).1)⟩, h.seen.below hb, BMap.below h.map hb (BMap.lt h.map)⟩
theorem CSt.kept {w : World} {a : Option Addr} {len c p B : Nat} {cs : List (Name × List Bool)} {W W' : World} {row : Option Nat} (h1 : w.heap.size < p) (h2 : p + 2 < B) (h : CSt w a len c p B cs W) (hg : W.grownBy W' row) (hr : ∀ r, row = some r → B ≤ r ∧ ∃ o : Obj, W.heap[r]? = some o ∧ o.isCells = false) : CSt w a len c p B cs W' :=
  ⟨⟨hg.os.trans h.below.os, hg.tape.trans h.below.tape, hg.output.trans h.below.output, Nat.le_trans h.below.size hg.size, fun k hk => (hg.block k (Nat.lt_of_lt_of_le hk h.below.size) (fun e => by have := (hr k e.symm).1; omega)).trans (h.below.block k hk)⟩, Nat.le_trans h.size hg.size, h.box.kept hg (fun e => by have := (hr _ e.symm).1; omega), by
    obtain ⟨v, h1, h2⟩ := h.var
    exact ⟨v, h1.kept hg (fun e => by have := (hr _ e.symm).1; omega), h2.keep hg.size (fun b cur t _ ho _ => hg.block b (Array.getElem?_eq_some_iff.1 ho).1 (fun e => by
      obtain ⟨_, o, h3, h4⟩ := hr b e.symm
      rw [ho] at h3
      injection h3 with h3
      subst h3
      cases h4))⟩, h.seen.kept hg (fun e => by have := (hr _ e.symm).1; omega), BMap.kept h.map hg (fun e => by have := (hr _ e.symm).1; omega)⟩
theorem CSt.setArr {w : World} {a : Option Addr} {len c p B : Nat} {cs : List (Name × List Bool)} {W : World} (h1 : w.heap.size < p) (h2 : p + 2 < B) (h : CSt w a len c p B cs W) {b8 : Nat} {arr : Array Value} (hb : Blk W b8 arr 83) (hB : B ≤ b8) (k : Nat) (v : Value) : CSt w a len c p B cs (W.setCell ⟨b8, k, none⟩ v) :=
  have hk : ∀ b, b ≠ b8 → (W.setCell ⟨b8, k, none⟩ v).heap[b]? = W.heap[b]? := fun b hb => sameMap_setCell hb
  ⟨h.below.setCell (p := ⟨b8, k, none⟩) (show w.heap.size ≤ b8 by omega) _, by simp; exact h.size, (hk _ (by omega)).trans h.box, by
    obtain ⟨v', h3, h4⟩ := h.var
    exact ⟨v', (hk _ (by omega)).trans h3, h4.keep (by simp) (fun b cur t _ ho ht => hk b (fun e => by
      subst e
      unfold Blk at hb
      rw [hb] at ho
      injection ho with ho
      injection ho with _ e2 _
      rcases ht with ht | ht <;> rw [ht] at e2 <;> exact absurd e2 (by decide)))⟩, (hk _ (by omega)).trans h.seen, BMap.same h.map (hk _ (by omega))⟩
theorem wpIn_load_row {F : Fence} {n : Nat} {P : Program} {op : Oper} {a : Act} {w : World} {K : Act → World → Prop} {Q : Exit → Act → World → Prop} (ty : TypeId) (x : Operand) (ho : op.op = .load ty x) {p : Addr} (hx : a.eval x = .pointer (some p)) {v : Value}
    (hrun : (loadVar ty p).run P w = .ok v w) (h : K (a.put op.dst v) w) : op.wpIn F n P a w K Q := by
  refine ⟨fun f hf => ?_, ?_⟩
  · simp [Oper.about, ho] at hf
  · rw [Oper.semAt_eq _ _ _ (fun c e => by rw [ho] at e; cases e)]
    unfold execOp
    simp only [ho, hx, Instr.loadAt, Instr.sureAddr, Sem.run_bind, Sem.run_pure, Result.andThen_ok, hrun]
    exact h
theorem ownsRow_base {W : World} {lo lo' size n : Nat} {e : TypeId} {v : Value} {xs : List Value} (h : W.ownsRow lo e size v n xs) (hl : lo' ≤ lo) : W.ownsRow lo' e size v n xs :=
  ⟨h.1, h.2.imp id (fun ⟨g, cap, cur, e1, e2, e3⟩ => ⟨g, cap, cur, e1, Nat.le_trans hl e2, e3⟩)⟩
theorem wpIn_append_run {F : Fence} {n : Nat} {P : Program} {op : Oper} {a : Act} {w : World} {K : Act → World → Prop} {Q : Exit → Act → World → Prop} (s x : Operand) (t : TypeId)
    (ho : op.op = .call { callee := .builtin .append, args := #[s, x], argTypes := #[t, t] }) {vs vx v' : Value} {w' : World} (hs : a.eval s = vs) (hx : a.eval x = vx) (hrun : (Builtin.append_ #[t, t] op.type #[vs, vx]).run P w = .ok v' w')
    (h : K (a.put op.dst v') w') : op.wpIn F n P a w K Q := by
  refine ⟨fun f hf => ?_, ?_⟩
  · simp [Oper.about, ho, resolve, Target.leads] at hf
  · rw [Oper.semAt_eq _ _ _ (fun c e => by rw [ho] at e; cases e)]
    simp [execOp, ho, resolve, invoke, builtin, hs, hx, hrun, Result.andThen]
    exact h
theorem infoCell : (Tryz.prog.info? 52).map (fun i => (i.zero, i.size, i.bytes)) = some (some (.agg #[.string ⟨#[]⟩, .string ⟨#[]⟩, .slice none 0 0]), 3, 56) := by kernel_rfl
theorem info_partsC : ∃ i0, Tryz.prog.info? 52 = some i0 ∧ i0.zero = some (.agg #[.string ⟨#[]⟩, .string ⟨#[]⟩, .slice none 0 0]) ∧ i0.size = 3 ∧ i0.bytes = 56 := by
  have h := infoCell
  cases hq : Tryz.prog.info? 52 with
  | none => rw [hq] at h; cases h
  | some i =>
    rw [hq] at h
    simp only [Option.map_some, Option.some.injEq, Prod.mk.injEq] at h
    exact ⟨i, rfl, h.1, h.2.1, h.2.2⟩
theorem seenF_snoc (cs : List (Name × List Bool)) (n : Name) (r : List Bool) : (fun y => if y = pad r then some true else seenF cs y) = seenF (cs ++ [(n, r)]) := by
  funext y
  have h : y ∈ (cs ++ [(n, r)]).map (fun c => pad c.2) ↔ y ∈ cs.map (fun c => pad c.2) ∨ y = pad r := by simp
  unfold seenF
  by_cases e : y = pad r
  · rw [if_pos e, if_pos (h.2 (.inr e))]
  · rw [if_neg e]
    by_cases m : y ∈ cs.map (fun c => pad c.2)
    · rw [if_pos m, if_pos (h.2 (.inl m))]
    · rw [if_neg m, if_neg (fun k => (h.1 k).elim m e)]
theorem KpC.of_row {K : List Nat} {B0 g : Nat} {W W' : World} (hg : W.grownBy W' (some g)) (h4 : 4 ≤ g) (h4' : 4 ≤ W.heap.size) (hK : ∀ k, k ∈ K → k < W.heap.size) (hr : g ∉ K) {cur : Array Value} (hc : W.heap[g]? = some (.cells cur 52 (0, 0))) : KpC K B0 W W' :=
  ⟨below_of_grown hg h4 h4', fun k hk => hg.block k (hK k hk) (fun e => by injection e with e; exact hr (e ▸ hk)), fun b c t fz _ ho ht => (hg.block b (Array.getElem?_eq_some_iff.1 ho).1 (fun e => by
    injection e with e
    subst e
    rw [hc] at ho
    injection ho with ho
    injection ho with _ e2 _
    rcases ht with ht | ht <;> rw [ht] at e2 <;> exact absurd e2 (by decide))).trans ho⟩
/-- One cell more behind the answer. -/
theorem cells_append {W10 : World} {B : Nat} {vv : Value} {cs : List (Name × List Bool)} (hlen : cs.length ≤ 1000000) (hO : OwnCells W10 B vv cs) (hB : B ≤ W10.heap.size) (n : Name) (b' c' : Nat) (r : List Bool) (h1 : B ≤ b') (h2 : b' < W10.heap.size) (h3 : some b' ≠ vv.ownBlock) (hr : BRow W10 b' r) :
    ∃ v' W12, (Builtin.append_ #[45, 45] 45 #[vv, .slice (some ⟨W10.heap.size, 0, none⟩) 1 1]).run Tryz.prog (W10.alloc (.cells #[.string n.sp, .string n.lc, .slice (some ⟨b', 0, none⟩) r.length c'] 52)) = .ok v' W12 ∧ OwnCells W12 B v' (cs ++ [(n, r)]) ∧
      (W10.alloc (.cells #[.string n.sp, .string n.lc, .slice (some ⟨b', 0, none⟩) r.length c'] 52)).grownBy W12 vv.ownBlock ∧ ∀ g, vv.ownBlock = some g → B ≤ g ∧ g < W10.heap.size ∧ ∃ cur, (W10.alloc (.cells #[.string n.sp, .string n.lc, .slice (some ⟨b', 0, none⟩) r.length c'] 52)).heap[g]? = some (.cells cur 52 (0, 0)) := by
  obtain ⟨cms, hcs, hrow, hin⟩ := hO
  obtain ⟨W11, hW11⟩ : ∃ W11, W10.alloc (.cells #[.string n.sp, .string n.lc, .slice (some ⟨b', 0, none⟩) r.length c'] 52) = W11 := ⟨_, rfl⟩
  have hb11 : Below W10.heap.size W10 W11 := by rw [← hW11]; exact (Below.refl _ _).alloc (Nat.le_refl _) _
  have hs11 : W11.heap.size = W10.heap.size + 1 := by rw [← hW11]; simp
  have hnb : Blk W11 W10.heap.size #[.string n.sp, .string n.lc, .slice (some ⟨b', 0, none⟩) r.length c'] 52 := by rw [← hW11]; exact Blk.new _ _ _
  have hrow11 := ownsRow_kept hrow (below_grown hb11) (by cases vv.ownBlock <;> simp)
  have hcl : cms.length = cs.length := by rw [← hcs, List.length_map]
  obtain ⟨i0, hi, hz0, hz1, hz2⟩ := info_partsC
  obtain ⟨v', W12, hap, hown, hg, _, hat⟩ := run_append_own_at W11 B 45 45 52 i0 (.agg #[.string ⟨#[]⟩, .string ⟨#[]⟩, .slice none 0 0]) 3 56 Tryz.underlying45 hi hz0 hz1 hz2 rfl (by decide) vv _ _ hrow11 ⟨W10.heap.size, 0, none⟩ 1 1 (CM.cells ⟨n, b', c', r⟩) rfl (fun j u hu => by
      have e : (⟨W10.heap.size, 0, none⟩ : Addr).add j = ⟨W10.heap.size, j, none⟩ := by unfold Addr.add; split <;> simp_all
      rw [e, hnb.cell j]
      simpa [CM.cells] using hu) (fun u hu => by
      simp [CM.cells] at hu
      rcases hu with rfl | rfl | rfl <;> rfl) (by unfold maxLen; omega) (by omega) (by omega)
  rw [hW11]
  have hrl : ∀ g, vv.ownBlock = some g → B ≤ g ∧ g < W10.heap.size ∧ ∃ cur, W11.heap[g]? = some (.cells cur 52 (0, 0)) := fun g hgv => by
    obtain ⟨q1, q2, cur, q3⟩ := ownsRow_lt hrow hgv
    exact ⟨q1, q2, cur, (hb11.block g q2).trans q3⟩
  refine ⟨v', W12, hap, ⟨cms ++ [⟨n, b', c', r⟩], by rw [List.map_append, hcs]; rfl, by rw [List.length_append, List.flatMap_append]; simpa using hown, fun c hc => ?_⟩, hg, hrl⟩
  have hk : ∀ b, b < W10.heap.size → some b ≠ vv.ownBlock → b < W12.heap.size ∧ some b ≠ v'.ownBlock ∧ W12.heap[b]? = W10.heap[b]? := fun b hb hne => by
    have := hg.size
    refine ⟨by omega, fun e => ?_, (hg.block b (by omega) hne).trans (hb11.block b hb)⟩
    rcases hat with h | h
    · exact hne (e.trans h)
    · rw [h] at e; injection e; omega
  rcases List.mem_append.1 hc with hc | hc
  · obtain ⟨q1, q2, q3, q4⟩ := hin c hc
    obtain ⟨k1, k2, k3⟩ := hk c.ib q2 q3
    exact ⟨q1, k1, k2, q4.same k3⟩
  · rw [List.mem_singleton.1 hc]
    obtain ⟨k1, k2, k3⟩ := hk b' h2 h3
    exact ⟨h1, k1, k2, hr.same k3⟩
end Np
end Go.Proofs.YtohlhihhadbphaaGreatDoor

/- Cells: the walk. -/
namespace Go.Proofs.YtohlhihhadbphaaGreatDoor
open Go.RowKit Go.Shelf Go.Lib Go.Maps
attribute [local go_sem] Oper.semAt_some
namespace Np
def CellsE (w : World) (lst : List CT) (e : Ending) (w' : World) : Prop := ∃ v : Value, e = .returned (.tuple #[v, .int .i64 (if 100 < lst.length then 3 else chkL lst)]) ∧ Hid (OwnCells w' w.heap.size v (if 100 < lst.length then [] else if chkL lst = 0 then cellsF lst (candsOf lst []) else [])) ∧ Below w.heap.size w w'
set_option maxRecDepth 100000 in
set_option maxHeartbeats 4000000 in
theorem Cells_any (a : Option Addr) (c : Nat) (lst : List CT) (w : World) (hG : G w) (hL : LIn w w.heap.size a lst) (hd : ∀ u ∈ lst, u.depth ≤ 1000) :
    Calls Tryz.prog 32 #[.slice a lst.length c] w (CellsE w lst) := by
  have hdd : ∀ k : Nat, (Fence.wide.depth.isSome = true → 1 ≤ k) := fun k h => by cases h
  have hmm := @run_makeMap Tryz.prog
  have hml := hL.row.1
  unfold maxLen at hml
  refine (callsIn_wide (n := 9)).1 ?_
  refine callsIn_of_wp_marks Tryz.func32 rfl trivial ?_ rfl
  simp only [Tryz.ntmps32, List.size_toArray, List.length_cons, List.length_nil, Nat.reduceAdd, Nat.reduceSub, Array.replicate_succ, Array.replicate_zero, List.push_toArray, List.append_toArray, List.nil_append, List.cons_append]
  obtain ⟨W0, hW0⟩ : ∃ W0, w.alloc (.cells #[.slice a lst.length c] 24) = W0 := ⟨_, rfl⟩
  have hb0 : Below w.heap.size w W0 := by rw [← hW0]; exact (Below.refl _ w).alloc (Nat.le_refl _) _
  have d0 : Blk W0 w.heap.size #[.slice a lst.length c] 24 := by rw [← hW0]; exact Blk.new _ _ _
  have hs0 : w.heap.size + 1 ≤ W0.heap.size := d0.lt
  have hck := checkAll_any a c lst W0 ((hL.below hb0 (Nat.le_refl _)).mono hb0.size) hd
  obtain ⟨r, hr⟩ : ∃ r, chkL lst = r := ⟨_, rfl⟩
  rw [hr] at hck
  have Hr := Lib.hid hr
  clear hr
  have e0 := d0.cell 0
  simp only [List.getElem?_toArray, List.getElem?_cons_zero] at e0
  by_cases hlen : 100 < lst.length
  · have hl1 : decide (100 < (lst.length : Int)) = true := by simp; omega
    have hl2 : decide (100 < lst.length) = true := by simpa using hlen
    have Hlen := Lib.hid hlen
    clear hlen hck
    gi_wp2
    refine ⟨.tuple #[.slice none 0 0, .int .i64 3], by simp [results, Tryz.f32, go_sem], .slice none 0 0, ?_, Lib.hid ?_, hb0⟩
    · rw [if_pos Hlen.out]
    · rw [if_pos Hlen.out]; exact OwnCells.nil _ _
  · have hl1 : decide (100 < (lst.length : Int)) = false := by simp; omega
    have hl2 : decide (100 < lst.length) = false := by simpa using hlen
    have Hlen := Lib.hid hlen
    gi_wp2
    refine ⟨trivial, (callsIn_wide.2 hck).mono ?_⟩
    clear hck hl1 hl2 e0 hW0
    rintro e W1 ⟨rfl, hb1⟩
    have hB1 : Below w.heap.size w W1 := hb0.trans (hb1.mono hb0.size)
    have hs1 := hb1.size
    have d1 := d0.kept (below_grown hb1) (by simp)
    by_cases h0 : r = 0
    · have H0 := Lib.hid (Hr.out.trans h0)
      subst h0
      clear Hr d0
      obtain ⟨W2, hW2⟩ : ∃ W2, ((W1.alloc (.cells #[.slice none 0 0] 45)).alloc (.map #[] 0)).alloc (.cells #[.map (some (W1.heap.size + 1))] 82) = W2 := ⟨_, rfl⟩
      have hb2 : Below W1.heap.size W1 W2 := by rw [← hW2]; exact (((Below.refl _ _).alloc (Nat.le_refl _) _).alloc (by simp) _).alloc (by simp; omega) _
      have hv2 : Blk W2 W1.heap.size #[.slice none 0 0] 45 := by rw [← hW2]; exact ((Blk.new _ _ _).alloc _).alloc _
      have hm2 : BMap Tryz.prog 83 4 litB (fun l => l.length = 100) W2 (W1.heap.size + 1) 0 (seenF []) := by
        rw [← hW2]
        have := BMap.made (P := Tryz.prog) (k := 83) (e := 4) (lit := litB) (ok := fun l : List Bool => l.length = 100) (W1.alloc (.cells #[.slice none 0 0] 45))
        rw [World.size_alloc] at this
        exact BMap.alloc (BMap.ext this (fun _ _ => by simp [seenF])) _
      have hx2 : Blk W2 (W1.heap.size + 2) #[.map (some (W1.heap.size + 1))] 82 := by
        rw [← hW2]
        have := Blk.new ((W1.alloc (.cells #[.slice none 0 0] 45)).alloc (.map #[] 0)) #[.map (some (W1.heap.size + 1))] 82
        simp only [World.size_alloc, Nat.add_assoc, Nat.reduceAdd] at this; exact this
      have hs2 : W1.heap.size + 3 ≤ W2.heap.size := hx2.lt
      have hB2 : Below w.heap.size w W2 := hB1.trans (hb2.mono (by omega))
      have hL2 := (hL.below hB2 (Nat.le_refl _)).mono (m := W2.heap.size) (by omega)
      have hsm : (CT.partsL lst 1).length ≤ 400000 := Nat.le_trans (parts_le (chk_all H0.out)) (by omega)
      have hmt := mentioned_h a c lst W2 hL2 hd (by omega)
      have hnf := nmsOf_fit hL2
      have hso := spsOf_ok hL2
      have hn1 := Nat.le_trans (nmsOf_len (CT.partsL lst 1)) hsm
      have hn2 := Nat.le_trans (spsOf_len (CT.partsL lst 1)) hsm
      obtain ⟨nms, hnms⟩ : ∃ x, nmsOf (CT.partsL lst 1) = x := ⟨_, rfl⟩
      obtain ⟨sps, hsps⟩ : ∃ x, spsOf (CT.partsL lst 1) = x := ⟨_, rfl⟩
      rw [hnms, hsps] at hmt
      rw [hnms] at hnf hn1
      rw [hsps] at hso hn2
      have d2 := d1.kept (below_grown hb2) (by simp)
      have e2 := d2.cell 0
      simp only [List.getElem?_toArray, List.getElem?_cons_zero] at e2
      have Hnms := Lib.hid hnms
      have Hsps := Lib.hid hsps
      clear hnms hsps hsm
      gi_wp2
      simp only [Nat.add_assoc, Nat.reduceAdd]
      refine ⟨trivial, (callsIn_wide.2 hmt).mono ?_⟩
      clear hmt hW2 e2
      rintro e W3 ⟨rfl, HM⟩
      obtain ⟨hb3, hm1, hm3⟩ := HM.out
      clear HM
      have hs3 := hb3.size
      have hca := candidates_any (W2.heap.size + 1) (W2.heap.size + 2) none W3
      gi_wp2
      refine ⟨trivial, (callsIn_wide.2 hca).mono ?_⟩
      clear hca
      rintro e W4 ⟨rfl, hW4⟩
      have hb4 : Below W3.heap.size W3 W4 := by rw [hW4]; exact ((Below.refl _ _).alloc (Nat.le_refl _) _).alloc (by simp) _
      have hB3 : Below w.heap.size w W3 := hB2.trans (hb3.mono (by omega))
      have hB4 : Below w.heap.size w W4 := hB3.trans (hb4.mono (by omega))
      have hs4 : W4.heap.size = W3.heap.size + 2 := by rw [hW4]; simp
      have hC4 : Cs W3.heap.size (W3.heap.size + 1) (W2.heap.size + 1) (W2.heap.size + 2) none nms sps [] W4 := by
        refine ⟨hG.later hB4, ?_, ?_, BMap.kept hm1 (below_grown hb4) (by simp), BMap.kept hm3 (below_grown hb4) (by simp), rfl⟩
        · rw [hW4]; exact (Blk.new _ _ _).alloc _
        · rw [hW4]
          have := Blk.new (W3.alloc (.cells #[.map (some (W2.heap.size + 1)), .map (some (W2.heap.size + 2))] 76)) #[.map none] 71
          rw [World.size_alloc] at this; exact this
      have hS2 : CSt w a lst.length c W1.heap.size W2.heap.size [] W2 := ⟨hB2, Nat.le_refl _, d2, ⟨_, hv2, OwnCells.nil _ _⟩, hx2, hm2⟩
      have hS4 : CSt w a lst.length c W1.heap.size W4.heap.size [] W4 := by
        have h := (hS2.below' hb3).below' hb4
        exact ⟨h.below, Nat.le_refl _, h.box, ⟨_, (hv2.below hb3).below hb4, OwnCells.nil _ _⟩, h.seen, h.map⟩
      clear hW4 hm1 hm3 d2 hv2 hx2 hm2 hS2
      obtain ⟨C, hC⟩ : ∃ C, C = candL nms [] sps := ⟨_, rfl⟩
      have HC : Hid (C = candsOf lst []) := Lib.hid (by rw [hC]; unfold candsOf; rw [Hnms.out, Hsps.out])
      have hCf : ∀ x ∈ C, x.fit := by rw [hC]; exact candL_fit (by simp; omega) (by omega) hnf hso
      have hCl : C.length ≤ 1000000 := by
        rw [hC]; unfold candL
        have e1 := asc_length cmpN nms
        have e2 := asc_length cmpS sps
        simp; omega
      have hst := cand_stops 8 W3.heap.size (W3.heap.size + 1) (W2.heap.size + 1) (W2.heap.size + 2) W4.heap.size none nms [] sps (by simp; omega) (by omega) hnf hso C hC W4 (Nat.le_refl _) hC4
      gi_wp2
      refine wpIn_rangeFunc_ownH rfl (by omega) (gf := 88) (lb := #[.pointer (some ⟨W3.heap.size, 0, none⟩), .pointer (some ⟨W3.heap.size + 1, 0, none⟩)]) rfl trivial (enters_of Tryz.func88 (by kernel_rfl) rfl)
        hst (fun h k => h.trans k) (kpC_b hC4 (Nat.le_refl _)) (Below.refl _ _) (fun _ => rfl)
        (fun (pre : List (CN C)) W => CSt w a lst.length c W1.heap.size W4.heap.size (cellsF lst (cvals pre)) W)
        (fun _ _ _ => False)
        (fun _ _ _ _ hs hg hr => hs.kept (by omega) (by omega) hg hr) (fun _ _ _ _ _ hs _ _ => hs)
        hS4
        (fun x a' W => ∃ Bx, W4.heap.size ≤ Bx ∧ Blk W Bx #[.string x.1.sp, .string x.1.lc] 23 ∧ a' = { tmps := #[.slice a lst.length c, .pointer (some ⟨w.heap.size, 0, none⟩), .slice none 0 0, .int .i64 0, .int .i64 0, .pointer (some ⟨W1.heap.size, 0, none⟩), .pointer (some ⟨W1.heap.size + 2, 0, none⟩), .pointer (some ⟨Bx, 0, none⟩), undef, undef, undef, .slice a lst.length c, .int .i64 (lst.length : Int), .bool false, .slice a lst.length c, .int .i64 0, .int .i64 0, .bool false, undef, .map (some (W1.heap.size + 1)), .slice a lst.length c, .agg #[.map (some (W2.heap.size + 1)), .map (some (W2.heap.size + 2))], .func (.func 88) #[] #[.pointer (some ⟨W3.heap.size, 0, none⟩), .pointer (some ⟨W3.heap.size + 1, 0, none⟩)], .agg #[.string x.1.sp, .string x.1.lc], undef, undef, undef, undef, undef, undef, undef, undef, undef, undef, undef, undef, undef, undef, undef, undef, undef, undef, undef, undef, undef, undef, undef, undef, undef, undef, undef, undef, undef], defers := [] })
        (fun x a' => Own.from (fun _ A B row hs hg hr => by obtain ⟨Bx, h1, h2, h3⟩ := hs; exact ⟨Bx, h1, blk_own _ _ (fun _ : Unit => #[.string x.1.sp, .string x.1.lc]) () A B row h2 hg hr, h3⟩) _) ?assign ?body ?done ?stop
      case stop => intro D c pre W _ _ h _; exact h.elim
      case assign =>
        rintro l pre x W K hS hK
        have hN := hS.size
        simp only [encCN, encCd, Name.val]
        gi_wp2
        have hbx : Below W.heap.size W (W.alloc (.cells #[.string x.1.sp, .string x.1.lc] 23)) := (Below.refl _ _).alloc (Nat.le_refl _) _
        exact hK _ _ ((KeepsOthers.alloc _ _).from _) (KpC.of_below (Nat.le_trans hC4.g.2 hN) (fun k hk => Nat.lt_of_lt_of_le (hC4.lt k hk) hN) hbx) (hS.below' hbx) ⟨W.heap.size, hN, Blk.new _ _ _, rfl⟩
      case body =>
        rintro l pre x a' W hl ⟨r', hr'⟩ hS ⟨Bx, hBx, bx, rfl⟩ hlt
        have hN := hS.size
        have hxf := hCf x.1 x.2
        obtain ⟨W5, hW5⟩ : ∃ W5, W.alloc (.cells Tryz.zeroCells83 83) = W5 := ⟨_, rfl⟩
        have hb5 : Below W.heap.size W W5 := by rw [← hW5]; exact (Below.refl _ _).alloc (Nat.le_refl _) _
        have hS5 := hS.below' hb5
        have b8 : Blk W5 W.heap.size (arrB ((inR lst x.1).take 0)) 83 := by rw [← hW5, arrB_zero]; exact Blk.new _ _ _
        have bx5 := bx.below hb5
        have e5 := hS5.box.cell 0
        simp only [List.getElem?_toArray, List.getElem?_cons_zero] at e5
        have hRl := inR_len lst x.1
        gi_wp2
        clear hW5 e5
        refine wpIn_loop (fun a' w' => ∃ (k : Nat) (v9 v10 v27 v28 v29 v30 v31 v32 v33 v34 v35 v36 : Value), k ≤ lst.length ∧ (CSt w a lst.length c W1.heap.size W4.heap.size (cellsF lst (cvals pre)) w' ∧ Blk w' Bx #[.string x.1.sp, .string x.1.lc] 23 ∧ Blk w' W.heap.size (arrB ((inR lst x.1).take k)) 83 ∧ Below W.heap.size W w') ∧ a' = { tmps := #[.slice a lst.length c, .pointer (some ⟨w.heap.size, 0, none⟩), .slice none 0 0, .int .i64 0, .int .i64 0, .pointer (some ⟨W1.heap.size, 0, none⟩), .pointer (some ⟨W1.heap.size + 2, 0, none⟩), .pointer (some ⟨Bx, 0, none⟩), .pointer (some ⟨W.heap.size, 0, none⟩), v9, v10, .slice a lst.length c, .int .i64 (lst.length : Int), .bool false, .slice a lst.length c, .int .i64 0, .int .i64 0, .bool false, undef, .map (some (W1.heap.size + 1)), .slice a lst.length c, .agg #[.map (some (W2.heap.size + 1)), .map (some (W2.heap.size + 2))], .func (.func 88) #[] #[.pointer (some ⟨W3.heap.size, 0, none⟩), .pointer (some ⟨W3.heap.size + 1, 0, none⟩)], .agg #[.string x.1.sp, .string x.1.lc], .slice a lst.length c, .int .i64 (lst.length : Int), .int .i64 (k : Int), v27, v28, v29, v30, v31, v32, v33, v34, v35, v36, undef, undef, undef, undef, undef, undef, undef, undef, undef, undef, undef, undef, undef, undef, undef, undef], defers := [] }) (fun a' _ => lst.length - (intOf (a'.tmps.getD 26 undef)).toNat) ?start ?round
        case start => exact ⟨0, undef, undef, undef, undef, undef, undef, undef, undef, undef, undef, undef, undef, by omega, ⟨hS5, bx5, b8, hb5⟩, rfl⟩
        case round =>
          rintro a' wr ⟨k, v9, v10, v27, v28, v29, v30, v31, v32, v33, v34, v35, v36, hk, ⟨hSr, bxr, b8r, hbr⟩, rfl⟩
          have hsr := hbr.size
          by_cases hlt2 : k < lst.length
          · obtain ⟨u, hu⟩ : ∃ u, lst[k] = u := ⟨_, rfl⟩
            have hmem : u ∈ lst := by rw [← hu]; exact List.getElem_mem hlt2
            obtain ⟨b, o, rfl, hbn, hcells⟩ := hL.row.2 (List.ne_nil_of_length_pos (by omega))
            have hcu : ∀ i v, u.cells[i]? = some v → wr.cell? ⟨b, o + k * 6 + i, none⟩ = some v := fun i v hv => (hSr.below.cell (p := ⟨b, o + k * 6 + i, none⟩) hbn).trans (hcells k hlt2 i v (by rw [hu]; exact hv))
            have u0 := hcu 0 _ rfl
            have u1 := hcu 1 _ rfl
            have u2 := hcu 2 _ rfl
            have u3 := hcu 3 _ rfl
            have u4 := hcu 4 _ rfl
            have u5 := hcu 5 _ rfl
            rw [Nat.add_zero] at u0
            rw [CT.exv_eq] at u4
            rw [CT.arv_eq] at u5
            obtain ⟨W6, hW6⟩ : ∃ W6, wr.alloc (.cells #[.int .i64 u.kind, .string u.name.sp, .string u.name.lc, .string u.space, .slice u.ea u.ex.length u.ec, .slice u.aa u.ar.length u.ac] 26) = W6 := ⟨_, rfl⟩
            have hb6 : Below wr.heap.size wr W6 := by rw [← hW6]; exact (Below.refl _ _).alloc (Nat.le_refl _) _
            have hS6 := hSr.below' hb6
            have bx6 := bxr.below hb6
            have b86 := b8r.below hb6
            have bu6 : Blk W6 wr.heap.size u.cells.toArray 26 := by rw [← hW6, CT.cells_eq]; exact Blk.new _ _ _
            have hh := holds_any u x.1 W6 (((hL.ins u hmem).below hS6.below (Nat.le_refl _)).mono hS6.below.size)
            obtain ⟨v, hv⟩ : ∃ v, u.holds x.1 = v := ⟨_, rfl⟩
            rw [hv, CT.val_eq] at hh
            unfold Name.val at hh
            have Hv : Hid ((inR lst x.1)[k]'(by omega) = v) := Lib.hid (by rw [← hv, ← hu]; simp [inR])
            obtain ⟨c0, c1, c2, c3, c4, c5⟩ := ct_cells bu6
            have n0 := bx6.cell 0
            have n1 := bx6.cell 1
            simp only [List.getElem?_toArray, List.getElem?_cons_zero, List.getElem?_cons_succ] at n0 n1
            have hs6 := hb6.size
            clear hcu hcells hu hv hmem
            gi_wp2
            refine ⟨trivial, (CallsIn.inRound l (callsIn_wide.2 hh)).mono ?_⟩
            clear hh c0 c1 c2 c3 c4 c5 n0 n1 hW6
            rintro e w7 ⟨rfl, hb7⟩
            have hS7 := hS6.below' hb7
            have bx7 := bx6.below hb7
            have b87 := b86.below hb7
            have hs7 := hb7.size
            have hk100 : k < 100 := by have := Hlen.out; omega
            have htl : ((inR lst x.1).take k).length ≤ 100 := by rw [List.length_take]; omega
            obtain ⟨z, hz⟩ := arrB_get (l := (inR lst x.1).take k) hk100 htl
            have y0 := b87.cell k
            rw [hz] at y0
            have y1 := b87.frozen k
            have hRk : k < (inR lst x.1).length := by omega
            have hset := b87.set k (by rw [arrB_size htl]; exact hk100) (.bool v)
            rw [show Value.bool v = .bool ((inR lst x.1)[k]'hRk) by rw [Hv.out], arrB_set hRk (by have := Hlen.out; omega), Hv.out] at hset
            have hS8 := hS7.setArr (by omega) (by omega) b87 hS.size k (.bool v)
            have bx8 : Blk (w7.setCell ⟨W.heap.size, k, none⟩ (.bool v)) Bx #[.string x.1.sp, .string x.1.lc] 23 := (sameMap_setCell (by have := bx.lt; omega)).trans bx7
            have hb8 : Below W.heap.size W (w7.setCell ⟨W.heap.size, k, none⟩ (.bool v)) := ((hbr.trans (hb6.mono hsr)).trans (hb7.mono (by omega))).setCell (p := ⟨W.heap.size, k, none⟩) (Nat.le_refl _) _
            have Hend := Lib.hid (And.intro hS8 (And.intro bx8 (And.intro hset hb8)))
            clear hset hS8 bx8 hb8 hz
            gi_wp2
            have e3 : (k : Int) + 1 = ((k + 1 : Nat) : Int) := by omega
            rw [e3]
            refine ⟨⟨k + 1, ?_⟩, ?_⟩
            · exact ⟨_, _, _, _, _, _, _, _, _, _, _, _, by omega, Hend.out, rfl⟩
            · simp [intOf]
              omega
          · obtain rfl : k = lst.length := by omega
            have htk : (inR lst x.1).take lst.length = inR lst x.1 := by rw [← hRl, List.take_length]
            rw [htk] at b8r
            have hnl : decide (lst.length < lst.length) = false := by simp
            have hload : (loadVar 83 ⟨W.heap.size, 0, none⟩).run Tryz.prog wr = .ok (.agg (arrB (inR lst x.1))) wr := run_loadVar_row wr W.heap.size _ _ _ _ _ b8r Tryz.underlying83 rfl (by rw [arrB_size (by have := Hlen.out; omega)]; kernel_rfl)
            have m0 := hSr.seen.cell 0
            simp only [List.getElem?_toArray, List.getElem?_cons_zero] at m0
            have hpl : (pad (inR lst x.1)).length = 100 := pad_len (by have := Hlen.out; omega)
            have hlk := BMap.look keyEncB Tryz.underlying82 Tryz.underlying4 (Tryz.zeroValue4 _) hSr.map (x := pad (inR lst x.1)) hpl
            obtain ⟨sb, hsb⟩ : ∃ sb, (seenF (cellsF lst (cvals pre)) (pad (inR lst x.1))).getD false = sb := ⟨_, rfl⟩
            rw [hsb] at hlk
            change (Instr.lookup _ _ (.agg (arrB (inR lst x.1))) _).run _ _ = _ at hlk
            have Hsb := Lib.hid hsb
            clear hsb htk
            gi_wp2
            refine wpIn_load_row _ _ rfl rfl hload ?_
            have hstep : cellsF lst (cvals (pre ++ [x])) = stepC lst (cellsF lst (cvals pre)) x.1 := by simp [cellsF, cvals, List.foldl_append]
            have hsi := seen_iff (cellsF_len lst (cvals pre)) x.1
            rw [Hsb.out] at hsi
            have hko : KeepsFrom W4.heap.size W wr := (keepsOthers_below hbr).from _
            have hkp : KpC (csK W3.heap.size (W3.heap.size + 1) (W2.heap.size + 1) (W2.heap.size + 2) none) W4.heap.size W wr := KpC.of_below (Nat.le_trans hC4.g.2 hN) (fun k hk => Nat.lt_of_lt_of_le (hC4.lt k hk) hN) hbr
            have hkn : W1.heap.size ∉ csK W3.heap.size (W3.heap.size + 1) (W2.heap.size + 1) (W2.heap.size + 2) none ∧ W1.heap.size + 1 ∉ csK W3.heap.size (W3.heap.size + 1) (W2.heap.size + 1) (W2.heap.size + 2) none ∧ ∀ g, W4.heap.size ≤ g → g ∉ csK W3.heap.size (W3.heap.size + 1) (W2.heap.size + 1) (W2.heap.size + 2) none := by
              refine ⟨?_, ?_, fun g hg hm => by have := hC4.lt g hm; omega⟩ <;> simp [csK] <;> omega
            have h4w : 4 ≤ w.heap.size := hG.2
            cases sb
            · -- a new cell
              have hmem : inR lst x.1 ∉ (cellsF lst (cvals pre)).map Prod.snd := by simpa using hsi
              have hst2 : cellsF lst (cvals (pre ++ [x])) = cellsF lst (cvals pre) ++ [(x.1, inR lst x.1)] := by rw [hstep]; unfold stepC; rw [if_neg hmem]
              obtain ⟨cs, hcs⟩ : ∃ cs, cellsF lst (cvals pre) = cs := ⟨_, rfl⟩
              have hcl : cs.length ≤ 1000000 := by
                rw [← hcs]
                refine Nat.le_trans (cellsF_le lst _) ?_
                rw [List.length_map]; omega
              rw [hcs] at hst2 hSr hmem
              have Hst := Lib.hid hst2
              have Hcs := Lib.hid hcs
              obtain ⟨W9, hup, hm9, hg9⟩ := BMap.update keyEncB Tryz.underlying82 Tryz.underlying4 hSr.map (by unfold maxLen; omega) hpl true
              change (Instr.mapUpdate _ _ (.agg (arrB (inR lst x.1))) _).run _ _ = _ at hup
              rw [seenF_snoc cs x.1] at hm9
              have hs9 := hg9.size
              obtain ⟨vv, hvar, hown⟩ := hSr.var
              have hbx9 := hSr.box.kept hg9 (fun e => by injection e; omega)
              have hvar9 := hvar.kept hg9 (fun e => by injection e; omega)
              have hown9 : OwnCells W9 W4.heap.size vv cs := hown.keep hg9.size (fun b cur t hb ho _ => hg9.block b (Array.getElem?_eq_some_iff.1 ho).1 (fun e => by injection e; omega))
              have hseen9 := hSr.seen.kept hg9 (fun e => by injection e; omega)
              have bx9 := bxr.kept hg9 (fun e => by injection e; omega)
              have b89 := b8r.kept hg9 (fun e => by injection e; omega)
              have hbel9 : Below w.heap.size w W9 := hSr.below.trans (below_of_grown hg9 (by omega) hSr.below.size)
              have hko9 := hko.trans (KeepsFrom.of_grownBy (B := W4.heap.size) hg9 (fun j e => by injection e; omega))
              have hkp9 := hkp.trans (KpC.of_grown hg9 (by omega) (by omega) hkn.2.1 (fun k hk => Nat.lt_of_lt_of_le (hC4.lt k hk) (by omega)) (by omega))
              clear hst2 hcs hmem hsi hstep hown hvar
              obtain ⟨Wd, hWd⟩ : ∃ Wd, W9.drew = Wd := ⟨_, rfl⟩
              have hbd : Below W9.heap.size W9 Wd := by rw [← hWd]; exact ⟨rfl, rfl, rfl, Nat.le_refl _, fun _ _ => rfl⟩
              have hsd : Wd.heap.size = W9.heap.size := by rw [← hWd]; rfl
              have hvard := hvar9.below hbd
              have bxd := bx9.below hbd
              have hboxd := hbx9.below hbd
              have b8d := b89.below hbd
              have hownd : OwnCells Wd W4.heap.size vv cs := hown9.keep hbd.size (fun b cur t _ ho _ => hbd.block b (Array.getElem?_eq_some_iff.1 ho).1)
              have hseend := hseen9.below hbd
              have hmapd := BMap.below hm9 hbd (BMap.lt hm9)
              have hbeld : Below w.heap.size w Wd := hbel9.trans (hbd.mono hbel9.size)
              have hkod : KeepsFrom W4.heap.size W Wd := hko9.trans ((keepsOthers_below hbd).from _)
              have hkpd := hkp9.trans (KpC.of_below (by omega) (fun k hk => Nat.lt_of_lt_of_le (hC4.lt k hk) (by omega)) hbd)
              obtain ⟨A5, hA5⟩ : ∃ A5 : Value → World → Prop, A5 = fun t48 w' => ∃ b' c', t48 = .slice (some ⟨b', 0, none⟩) lst.length c' ∧ Wd.heap.size ≤ b' ∧ b' < w'.heap.size ∧ BRow w' b' (inR lst x.1) ∧ Below Wd.heap.size Wd w' := ⟨_, rfl⟩
              obtain ⟨A7, hA7⟩ : ∃ A7 : Value → Value → World → Prop, A7 = fun t48 t50 w' => ∃ W10, A5 t48 W10 ∧ t50 = .slice (some ⟨W10.heap.size, 0, none⟩) 1 1 ∧ w' = W10.alloc (.cells #[.string x.1.sp, .string x.1.lc, t48] 52) := ⟨_, rfl⟩
              obtain ⟨A8, hA8⟩ : ∃ A8 : Value → World → Prop, A8 = fun v w' => OwnCells w' W4.heap.size v (cs ++ [(x.1, inR lst x.1)]) ∧ Blk w' W1.heap.size #[vv] 45 ∧ (Below w.heap.size w w' ∧ W4.heap.size ≤ w'.heap.size ∧ Blk w' w.heap.size #[.slice a lst.length c] 24 ∧ Blk w' (W1.heap.size + 2) #[.map (some (W1.heap.size + 1))] 82 ∧ BMap Tryz.prog 83 4 litB (fun l => l.length = 100) w' (W1.heap.size + 1) (cs.length + 1) (seenF (cs ++ [(x.1, inR lst x.1)]))) ∧ KeepsFrom W4.heap.size W w' ∧ KpC (csK W3.heap.size (W3.heap.size + 1) (W2.heap.size + 1) (W2.heap.size + 2) none) W4.heap.size W w' := ⟨_, rfl⟩
              obtain ⟨A9, hA9⟩ : ∃ A9 : World → Prop, A9 = fun w' => KeepsFrom W4.heap.size W w' ∧ KpC (csK W3.heap.size (W3.heap.size + 1) (W2.heap.size + 1) (W2.heap.size + 2) none) W4.heap.size W w' ∧ CSt w a lst.length c W1.heap.size W4.heap.size (cellsF lst (cvals (pre ++ [x]))) w' := ⟨_, rfl⟩
              have hlen100 : (lst.length : Int) ≤ 100 := by have := Hlen.out; omega
              have hclone : Calls Tryz.prog 70 #[.slice (some ⟨W.heap.size, 0, none⟩) lst.length 100] Wd fun e w' => ∃ v, e = .returned v ∧ A5 v w' := by
                rw [hA5]
                refine (Clone_any W.heap.size lst.length 100 (inR lst x.1) hRl (by omega) Wd (fun j hj => ?_)).mono ?_
                · have := b8d.cell j
                  rw [this]
                  unfold arrB pad
                  rw [List.getElem?_toArray, List.getElem?_map, List.getElem?_append_left hj, List.getElem?_eq_getElem hj]
                  rfl
                · rintro e w' ⟨b', c', rfl, hh, hb⟩
                  exact ⟨_, rfl, b', c', rfl, hh.out.1, hh.out.2.1, hh.out.2.2, hb⟩
              have happ : ∀ t48 t50 w', A7 t48 t50 w' → ∃ v' W12, (Builtin.append_ #[45, 45] 45 #[vv, t50]).run Tryz.prog w' = .ok v' W12 ∧ A8 v' W12 := by
                rw [hA7, hA8, hA5]
                rintro t48 t50 w' ⟨W10, ⟨b', c', rfl, h1, h2, h3, h4⟩, rfl, rfl⟩
                have hs10 := h4.size
                have hown10 : OwnCells W10 W4.heap.size vv cs := hownd.keep h4.size (fun b cur t _ ho _ => h4.block b (Array.getElem?_eq_some_iff.1 ho).1)
                have hvb : ∀ g, vv.ownBlock = some g → g < Wd.heap.size := fun g hg => by
                  obtain ⟨cms, _, hrow, _⟩ := hownd
                  exact (ownsRow_lt hrow hg).2.1
                have hca := cells_append hcl hown10 (by omega) x.1 b' c' (inR lst x.1) (by omega) h2 (fun e => by have := hvb _ e.symm; omega) h3
                rw [hRl] at hca
                obtain ⟨v', W12, hap, ho12, hg12, hrl⟩ := hca
                have hb11 : Below W10.heap.size W10 (W10.alloc (.cells #[.string x.1.sp, .string x.1.lc, .slice (some ⟨b', 0, none⟩) lst.length c'] 52)) := (Below.refl _ _).alloc (Nat.le_refl _) _
                have hb1d := h4.trans (hb11.mono h4.size)
                generalize W10.alloc (.cells #[.string x.1.sp, .string x.1.lc, .slice (some ⟨b', 0, none⟩) lst.length c'] 52) = W11 at hap hg12 hrl hb11 hb1d
                have hs11 := hb11.size
                have hs12 := hg12.size
                have hne : ∀ k, k < W4.heap.size → some k ≠ vv.ownBlock := fun k hk e => by have := (hrl k e.symm).1; omega
                refine ⟨v', W12, hap, ho12, (hvard.below hb1d).kept hg12 (hne _ (by omega)), ⟨?_, by omega, (hboxd.below hb1d).kept hg12 (hne _ (by omega)), (hseend.below hb1d).kept hg12 (hne _ (by omega)), BMap.kept (BMap.below hmapd hb1d (BMap.lt hmapd)) hg12 (hne _ (by omega))⟩, ?_, ?_⟩
                · exact (hbeld.trans (hb1d.mono (by omega))).grown hg12 (by omega) (fun k hk => by have := (hrl k hk).1; omega)
                · exact (hkod.trans ((keepsOthers_below hb1d).from _)).trans ((KeepsOthers.of_grownBy hg12 (fun j o hj ho => by
                    obtain ⟨_, _, cur, hc⟩ := hrl j hj
                    rw [hc] at ho; injection ho with ho; rw [← ho]; rfl)).from _)
                · have hk1 := hkpd.trans (KpC.of_below (by omega) (fun k hk => Nat.lt_of_lt_of_le (hC4.lt k hk) (by omega)) hb1d)
                  cases hvo : vv.ownBlock with
                  | none =>
                    rw [hvo] at hg12
                    exact hk1.trans (KpC.of_below (by omega) (fun k hk => Nat.lt_of_lt_of_le (hC4.lt k hk) (by omega)) ⟨hg12.os, hg12.tape, hg12.output, hg12.size, fun k hk => hg12.block k hk (by simp)⟩)
                  | some g =>
                    obtain ⟨q1, q2, cur, q3⟩ := hrl g hvo
                    rw [hvo] at hg12
                    exact hk1.trans (KpC.of_row hg12 (by omega) (by omega) (fun k hk => Nat.lt_of_lt_of_le (hC4.lt k hk) (by omega)) (hkn.2.2 g q1) q3)
              have hslice : ∀ v w', A8 v w' → ∃ ea en ec, v = .slice ea en ec := by
                rw [hA8]
                rintro v w' ⟨⟨cms, _, hrow, _⟩, _⟩
                obtain ⟨ea, ec, h⟩ := slice_of_owns hrow
                exact ⟨ea, _, ec, h⟩
              have hstore : ∀ v w', A8 v w' → w'.cell? ⟨W1.heap.size, 0, none⟩ = some vv ∧ w'.frozen? ⟨W1.heap.size, 0, none⟩ = false ∧ A9 (w'.setCell ⟨W1.heap.size, 0, none⟩ v) := by
                rw [hA8, hA9, Hst.out]
                rintro v w' ⟨h1, h2, ⟨h3, h4, h5, h6, h7⟩, h8, h9⟩
                have hk : ∀ b, b ≠ W1.heap.size → (w'.setCell ⟨W1.heap.size, 0, none⟩ v).heap[b]? = w'.heap[b]? := fun b hb => sameMap_setCell hb
                have hset := h2.set 0 (by simp) v
                simp only [List.setIfInBounds_toArray, List.set_cons_zero] at hset
                refine ⟨h2.cell 0, h2.frozen 0, h8.trans ((KeepsOthers.setCell _ _ _).from _), h9.trans ⟨(Below.refl _ _).setCell (p := ⟨W1.heap.size, 0, none⟩) (show 4 ≤ W1.heap.size by omega) _, fun k hk' => hk k (fun e => hkn.1 (e ▸ hk')), fun b _ _ _ hb ho _ => (hk b (by omega)).trans ho⟩, ⟨h3.setCell (p := ⟨W1.heap.size, 0, none⟩) (show w.heap.size ≤ W1.heap.size by omega) _, by simp; exact h4, (hk _ (by omega)).trans h5, ⟨v, hset, h1.keep (by simp) (fun b cur t hb _ _ => hk b (by omega))⟩, (hk _ (by omega)).trans h6, by rw [List.length_append]; exact BMap.same h7 (hk _ (by omega))⟩⟩
              gi_wp2
              refine wpIn_load_row _ _ rfl rfl hload ?_
              clear hload
              gi_wp2
              clear hup hbd hbx9 hvar9 hown9 hseen9 bx9 b89 hm9 hg9 hko9 hkp9 hbel9 hko hkp hkod hkpd hmapd hseend hbeld hownd
              refine region_round_inv (fun ls a' w' => ∃ (l0 l1 l2 l3 l4 l5 l6 l7 l8 l9 : Bool) (t43 t44 t45 t46 t47 t48 t49 t50 t51 : Value), ls = [l0, l1, l2, l3, l4, l5, l6, l7, l8, l9] ∧ a' = { tmps := #[.slice a lst.length c, .pointer (some ⟨w.heap.size, 0, none⟩), .slice none 0 0, .int .i64 0, .int .i64 0, .pointer (some ⟨W1.heap.size, 0, none⟩), .pointer (some ⟨W1.heap.size + 2, 0, none⟩), .pointer (some ⟨Bx, 0, none⟩), .pointer (some ⟨W.heap.size, 0, none⟩), v9, v10, .slice a lst.length c, .int .i64 (lst.length : Int), .bool false, .slice a lst.length c, .int .i64 0, .int .i64 0, .bool false, undef, .map (some (W1.heap.size + 1)), .slice a lst.length c, .agg #[.map (some (W2.heap.size + 1)), .map (some (W2.heap.size + 2))], .func (.func 88) #[] #[.pointer (some ⟨W3.heap.size, 0, none⟩), .pointer (some ⟨W3.heap.size + 1, 0, none⟩)], .agg #[.string x.1.sp, .string x.1.lc], .slice a lst.length c, .int .i64 (lst.length : Int), .int .i64 (lst.length : Int), .bool false, v28, v29, v30, v31, v32, v33, v34, v35, v36, .map (some (W1.heap.size + 1)), .agg (arrB (inR lst x.1)), .bool false, .bool true, .map (some (W1.heap.size + 1)), .agg (arrB (inR lst x.1)), t43, t44, t45, t46, t47, t48, t49, t50, t51, undef], defers := [] } ∧ (l0 = true → t43 = vv) ∧ (l1 = true → t44 = .agg #[.string x.1.sp, .string x.1.lc]) ∧ (l2 = true → t45 = .slice a lst.length c) ∧ (l3 = true → t46 = .int .i64 (lst.length : Int)) ∧ (l4 = true → t47 = .slice (some ⟨W.heap.size, 0, none⟩) lst.length 100) ∧ (l6 = true → t49 = .agg #[.string x.1.sp, .string x.1.lc, t48]) ∧
                (l5 = false → w' = Wd) ∧ (l5 = true → l7 = false → A5 t48 w') ∧ (l7 = true → l8 = false → A7 t48 t50 w') ∧ (l8 = true → l9 = false → A8 t51 w') ∧ (l9 = true → A9 w')) (by kernel_rfl) (by kernel_rfl) (by kernel_rfl) ?rlen ?rdone ?rh0 ?rstep
              case rlen => rintro ls a' w' ⟨l0, l1, l2, l3, l4, l5, l6, l7, l8, l9, t43, t44, t45, t46, t47, t48, t49, t50, t51, rfl, _⟩; rfl
              case rh0 => exact ⟨false, false, false, false, false, false, false, false, false, false, undef, undef, undef, undef, undef, undef, undef, undef, undef, rfl, rfl, by simp, by simp, by simp, by simp, by simp, by simp, fun _ => hWd, by simp, by simp, by simp, by simp⟩
              case rdone =>
                rintro ls a' w' ⟨l0, l1, l2, l3, l4, l5, l6, l7, l8, l9, t43, t44, t45, t46, t47, t48, t49, t50, t51, rfl, rfl, h43, h44, h45, h46, h47, h49, B0, B5, B7, B8, B9⟩ hl
                have hP := B9 (hl 9)
                rw [hA9] at hP
                clear h43 h44 h45 h46 h47 h49 B0 B5 B7 B8 B9 hl hA5 hA7 hA8 hA9 happ hstore hclone
                have HP := Lib.hid hP
                clear hP
                gi_wp2
                exact HP.out
              case rstep =>
                rintro i oo ho ls a' w' ⟨l0, l1, l2, l3, l4, l5, l6, l7, l8, l9, t43, t44, t45, t46, t47, t48, t49, t50, t51, rfl, rfl, h43, h44, h45, h46, h47, h49, B0, B5, B7, B8, B9⟩ hcl hu hd K hK
                rcases i with _ | _ | _ | _ | _ | _ | _ | _ | _ | _ | i <;> simp only [List.getElem?_cons_zero, List.getElem?_cons_succ, List.getElem?_nil, Option.some.injEq, reduceCtorEq] at ho
                all_goals subst ho
                · have hu : l0 = false := hu
                  have e8 : l8 = false := Bool.eq_false_iff.2 fun e => by have h : l0 = true := hcl 8 _ rfl e 0 (by decide +kernel); rw [hu] at h; cases h
                  have e9 : l9 = false := Bool.eq_false_iff.2 fun e => by have h : l8 = true := hcl 9 _ rfl e 8 (by decide +kernel); rw [e8] at h; cases h
                  have E8 := e8
                  have hbase : Below Wd.heap.size Wd w' := by
                    cases l5
                    · rw [B0 rfl]; exact Below.refl _ _
                    · cases l7
                      · obtain ⟨_, _, _, _, _, _, hb⟩ := (by have := B5 rfl rfl; rw [hA5] at this; exact this); exact hb
                      · obtain ⟨W10, h5, _, rfl⟩ := (by have := B7 rfl E8; rw [hA7] at this; exact this)
                        rw [hA5] at h5
                        obtain ⟨_, _, _, _, _, _, hb⟩ := h5
                        exact hb.alloc (hb.size) _
                  have y0 := (hvard.below hbase).cell 0
                  simp only [List.getElem?_toArray, List.getElem?_cons_zero] at y0
                  clear hcl hbase E8
                  go_simp
                  refine hK _ _ ⟨true, l1, l2, l3, l4, l5, l6, l7, l8, l9, _, t44, t45, t46, t47, t48, t49, t50, t51, rfl, rfl, fun _ => rfl, h44, h45, h46, h47, h49, B0, B5, B7, B8, B9⟩
                · have hu : l1 = false := hu
                  have e6 : l6 = false := Bool.eq_false_iff.2 fun e => by have h : l1 = true := hcl 6 _ rfl e 1 (by decide +kernel); rw [hu] at h; cases h
                  have e7 : l7 = false := Bool.eq_false_iff.2 fun e => by have h : l6 = true := hcl 7 _ rfl e 6 (by decide +kernel); rw [e6] at h; cases h
                  have e8 : l8 = false := Bool.eq_false_iff.2 fun e => by have h : l7 = true := hcl 8 _ rfl e 7 (by decide +kernel); rw [e7] at h; cases h
                  have E8 := e8
                  have hbase : Below Wd.heap.size Wd w' := by
                    cases l5
                    · rw [B0 rfl]; exact Below.refl _ _
                    · cases l7
                      · obtain ⟨_, _, _, _, _, _, hb⟩ := (by have := B5 rfl rfl; rw [hA5] at this; exact this); exact hb
                      · obtain ⟨W10, h5, _, rfl⟩ := (by have := B7 rfl E8; rw [hA7] at this; exact this)
                        rw [hA5] at h5
                        obtain ⟨_, _, _, _, _, _, hb⟩ := h5
                        exact hb.alloc (hb.size) _
                  have y0 := (bxd.below hbase).cell 0
                  have y1 := (bxd.below hbase).cell 1
                  simp only [List.getElem?_toArray, List.getElem?_cons_zero, List.getElem?_cons_succ] at y0 y1
                  clear hcl hbase E8
                  go_simp
                  refine hK _ _ ⟨l0, true, l2, l3, l4, l5, l6, l7, l8, l9, t43, _, t45, t46, t47, t48, t49, t50, t51, rfl, rfl, h43, fun _ => rfl, h45, h46, h47, h49, B0, B5, B7, B8, B9⟩
                · have hu : l2 = false := hu
                  have e3 : l3 = false := Bool.eq_false_iff.2 fun e => by have h : l2 = true := hcl 3 _ rfl e 2 (by decide +kernel); rw [hu] at h; cases h
                  have e4 : l4 = false := Bool.eq_false_iff.2 fun e => by have h : l3 = true := hcl 4 _ rfl e 3 (by decide +kernel); rw [e3] at h; cases h
                  have e5 : l5 = false := Bool.eq_false_iff.2 fun e => by have h : l4 = true := hcl 5 _ rfl e 4 (by decide +kernel); rw [e4] at h; cases h
                  have y := B0 e5
                  have y0 := hboxd.cell 0
                  simp only [List.getElem?_toArray, List.getElem?_cons_zero] at y0
                  subst y
                  clear hcl
                  go_simp
                  refine hK _ _ ⟨l0, l1, true, l3, l4, l5, l6, l7, l8, l9, t43, t44, _, t46, t47, t48, t49, t50, t51, rfl, rfl, h43, h44, fun _ => rfl, h46, h47, h49, B0, B5, B7, B8, B9⟩
                · have hu : l3 = false := hu
                  have y := h45 (hd 2 (by decide +kernel))
                  subst y
                  clear hcl
                  go_simp
                  refine hK _ _ ⟨l0, l1, l2, true, l4, l5, l6, l7, l8, l9, t43, t44, _, _, t47, t48, t49, t50, t51, rfl, rfl, h43, h44, fun _ => rfl, fun _ => rfl, h47, h49, B0, B5, B7, B8, B9⟩
                · have hu : l4 = false := hu
                  have y := h46 (hd 3 (by decide +kernel))
                  subst y
                  clear hcl
                  go_simp
                  refine hK _ _ ⟨l0, l1, l2, l3, true, l5, l6, l7, l8, l9, t43, t44, t45, _, _, t48, t49, t50, t51, rfl, rfl, h43, h44, h45, fun _ => rfl, fun _ => rfl, h49, B0, B5, B7, B8, B9⟩
                · have hu : l5 = false := hu
                  have e6 : l6 = false := Bool.eq_false_iff.2 fun e => by have h : l5 = true := hcl 6 _ rfl e 5 (by decide +kernel); rw [hu] at h; cases h
                  have e7 : l7 = false := Bool.eq_false_iff.2 fun e => by have h : l6 = true := hcl 7 _ rfl e 6 (by decide +kernel); rw [e6] at h; cases h
                  have e8 : l8 = false := Bool.eq_false_iff.2 fun e => by have h : l7 = true := hcl 8 _ rfl e 7 (by decide +kernel); rw [e7] at h; cases h
                  have e9 : l9 = false := Bool.eq_false_iff.2 fun e => by have h : l8 = true := hcl 9 _ rfl e 8 (by decide +kernel); rw [e8] at h; cases h
                  have y := B0 hu
                  have y47 := h47 (hd 4 (by decide +kernel))
                  subst y y47
                  clear hcl
                  go_simp
                  refine ⟨trivial, (CallsIn.mono (callsIn_wide.2 hclone) ?_)⟩
                  rintro e w4 ⟨t48', rfl, hA⟩
                  refine hK _ _ ⟨l0, l1, l2, l3, l4, true, l6, l7, l8, l9, t43, t44, t45, t46, _, _, t49, t50, t51, rfl, rfl, h43, h44, h45, h46, fun _ => rfl, fun h => absurd h (by rw [e6]; simp), by simp, fun _ _ => hA, fun h => absurd h (by rw [e7]; simp), fun h => absurd h (by rw [e8]; simp), fun h => absurd h (by rw [e9]; simp)⟩
                · have hu : l6 = false := hu
                  have e7 : l7 = false := Bool.eq_false_iff.2 fun e => by have h : l6 = true := hcl 7 _ rfl e 6 (by decide +kernel); rw [hu] at h; cases h
                  have y44 := h44 (hd 1 (by decide +kernel))
                  have y5 : l5 = true := hd 5 (by decide +kernel)
                  have hA := B5 y5 e7
                  have hA' := hA
                  rw [hA5] at hA'
                  obtain ⟨b', c', y48, _⟩ := hA'
                  subst y44 y48
                  clear hcl
                  go_simp
                  refine hK _ _ ⟨l0, l1, l2, l3, l4, l5, true, l7, l8, l9, t43, _, t45, t46, t47, _, _, t50, t51, rfl, rfl, h43, fun _ => rfl, h45, h46, h47, fun _ => rfl, B0, B5, B7, B8, B9⟩
                · have hu : l7 = false := hu
                  have e8 : l8 = false := Bool.eq_false_iff.2 fun e => by have h : l7 = true := hcl 8 _ rfl e 7 (by decide +kernel); rw [hu] at h; cases h
                  have e9 : l9 = false := Bool.eq_false_iff.2 fun e => by have h : l8 = true := hcl 9 _ rfl e 8 (by decide +kernel); rw [e8] at h; cases h
                  have y6 : l6 = true := hd 6 (by decide +kernel)
                  have y5 : l5 = true := hcl 6 _ rfl y6 5 (by decide +kernel)
                  have y49 := h49 y6
                  have hA := B5 y5 hu
                  subst y49
                  clear hcl
                  go_simp
                  refine hK _ _ ⟨l0, l1, l2, l3, l4, l5, l6, true, l8, l9, t43, t44, t45, t46, t47, t48, _, _, t51, rfl, rfl, h43, h44, h45, h46, h47, fun _ => rfl, fun h => absurd h (by rw [y5]; simp), fun _ h => (by cases h), fun _ _ => by rw [hA7]; exact ⟨_, hA, rfl, rfl⟩, fun h => absurd h (by rw [e8]; simp), fun h => absurd h (by rw [e9]; simp)⟩
                · have hu : l8 = false := hu
                  have e9 : l9 = false := Bool.eq_false_iff.2 fun e => by have h : l8 = true := hcl 9 _ rfl e 8 (by decide +kernel); rw [hu] at h; cases h
                  have y7 : l7 = true := hd 7 (by decide +kernel)
                  have y0 := h43 (hd 0 (by decide +kernel))
                  have hA := B7 y7 hu
                  obtain ⟨v', W12, hrun, hA8'⟩ := happ _ _ _ hA
                  have y6 : l6 = true := hcl 7 _ rfl y7 6 (by decide +kernel)
                  have y5 : l5 = true := hcl 6 _ rfl y6 5 (by decide +kernel)
                  subst y0
                  rw [if_pos (by rfl)]
                  refine wpIn_append_run (.tmp 43) (.tmp 50) _ rfl rfl rfl hrun ?_
                  refine hK _ _ ⟨l0, l1, l2, l3, l4, l5, l6, l7, true, l9, _, t44, t45, t46, t47, t48, t49, t50, _, rfl, rfl, fun _ => rfl, h44, h45, h46, h47, h49, fun h => absurd h (by rw [y5]; simp), fun _ h => absurd h (by rw [y7]; simp), by simp, fun _ _ => hA8', fun h => absurd h (by rw [e9]; simp)⟩
                · have hu : l9 = false := hu
                  have y8 : l8 = true := hd 8 (by decide +kernel)
                  have hA := B8 y8 hu
                  obtain ⟨hc9, hf9, hA9⟩ := hstore _ _ hA
                  have y7 : l7 = true := hcl 8 _ rfl y8 7 (by decide +kernel)
                  have y6 : l6 = true := hcl 7 _ rfl y7 6 (by decide +kernel)
                  have y5 : l5 = true := hcl 6 _ rfl y6 5 (by decide +kernel)
                  have y49 := h49 y6
                  subst y49
                  obtain ⟨ea, en, ec, hsl⟩ := hslice _ _ hA
                  subst hsl
                  clear hcl
                  go_simp
                  refine hK _ _ ⟨l0, l1, l2, l3, l4, l5, l6, l7, l8, true, t43, t44, t45, t46, t47, t48, _, t50, _, rfl, rfl, h43, h44, h45, h46, h47, fun _ => rfl, fun h => absurd h (by rw [y5]; simp), fun _ h => absurd h (by rw [y7]; simp), fun _ h => absurd h (by rw [y8]; simp), by simp, fun _ => hA9⟩
            · have hmem : inR lst x.1 ∈ (cellsF lst (cvals pre)).map Prod.snd := by simpa using hsi
              have Hend : Hid (KeepsFrom W4.heap.size W wr ∧ KpC (csK W3.heap.size (W3.heap.size + 1) (W2.heap.size + 1) (W2.heap.size + 2) none) W4.heap.size W wr ∧ CSt w a lst.length c W1.heap.size W4.heap.size (cellsF lst (cvals (pre ++ [x]))) wr) := Lib.hid ⟨hko, hkp, by rw [hstep]; unfold stepC; rw [if_pos hmem]; exact hSr⟩
              clear hsi hstep hko hkp hkn hmem
              gi_wp2
              exact Hend.out
      case done =>
        rintro D ys W hD hys hS hK
        rw [hys, HC.out] at hS
        clear hys
        obtain ⟨v, hv, hO⟩ := hS.var
        have e0 := hv.cell 0
        simp only [List.getElem?_toArray, List.getElem?_cons_zero] at e0
        have HO := Lib.hid hO
        have hN := hS.size
        clear hO
        gi_wp2
        refine ⟨by simp, .inl ⟨_, _, rfl, run_takeDeferred hK, ?_⟩⟩
        have hput : ∀ b, b ≠ D → (W.putObj D (.deferred none)).heap[b]? = W.heap[b]? := fun b hb => World.putObj_heap_other hb
        have hs : (W.putObj D (.deferred none)).heap.size = W.heap.size := by simp
        refine ⟨.tuple #[v, .int .i64 0], by simp [results, Tryz.f32, go_sem], v, ?_, Lib.hid ?_, hS.below.trans (belowK_b (w := w) (Nat.le_refl _) _ D _ _ (by omega) hK rfl rfl)⟩
        · rw [if_neg Hlen.out, H0.out]
        · rw [if_neg Hlen.out, if_pos H0.out]
          have := HO.out.keep (W' := W.putObj D (.deferred none)) (by omega) (fun b cur t _ ho _ => hput b (fun e => by rw [e, hK] at ho; cases ho))
          obtain ⟨cms, h1, h2, h3⟩ := this
          exact ⟨cms, h1, ownsRow_base h2 (by omega), fun c hc => ⟨by have := (h3 c hc).1; omega, (h3 c hc).2⟩⟩
    · have H0 := Lib.hid h0
      have hne : (r == 0) = false := by simpa using h0
      have hne2 : (r != 0) = true := by simpa using h0
      clear h0
      gi_wp2
      refine ⟨.tuple #[.slice none 0 0, .int .i64 r], by simp [results, Tryz.f32, go_sem], .slice none 0 0, ?_, Lib.hid ?_, hB1⟩
      · rw [if_neg Hlen.out, Hr.out]
      · rw [if_neg Hlen.out, if_neg (by rw [Hr.out]; exact H0.out)]; exact OwnCells.nil _ _
end Np
end Go.Proofs.YtohlhihhadbphaaGreatDoor
