/- Names: Aa. -/
import Derived.Test.YtohlhihhadbphaaGreatDoorGg
import Derived.Maps.AppendAt
import Derived.Deep.RegionLaw
set_option linter.unusedSimpArgs false
set_option linter.unusedVariables false
/- oddNames: the odd names of each space. -/
namespace Go.Proofs.YtohlhihhadbphaaGreatDoor
open Go.RowKit Go.Shelf Go.Lib Go.Maps
attribute [local go_sem] Oper.semAt_some
namespace Np
def nameT (n : Name) : CT := .mk 1 n ⟨#[]⟩ none 0 [] none 0 []
def nameCells (n : Name) : List Value := [.int .i64 1, .string n.sp, .string n.lc, .string ⟨#[]⟩, .slice none 0 0, .slice none 0 0]
theorem nameT_cells (n : Name) : (nameT n).cells = nameCells n := rfl
/-- The odd ones of some names in a space. -/
def odds (L : List Name) (p : Name → Bool) (s : ByteArray) : List Name := L.filter fun n => decide (n.sp = s) && p n
def pOdd (mi : Name → Option Bool) (mf : ByteArray → Option Bool) (n : Name) : Bool := (mi n).getD false != (mf n.sp).getD false
/-- The rows of the groups. -/
structure Grp (W : World) (base : Nat) (V : ByteArray → Value) (m : ByteArray → List Name) : Prop where
  row : ∀ s, W.ownsRow base 26 6 (V s) (m s).length ((m s).flatMap nameCells)
  apart : ∀ s s', s ≠ s' → (V s).ownBlock = none ∨ (V s).ownBlock ≠ (V s').ownBlock
/-- All that lay below block N stands, but block b. -/
structure But (b N : Nat) (W W' : World) : Prop where
  os : W'.os = W.os
  tape : W'.tape = W.tape
  output : W'.output = W.output
  size : W.heap.size ≤ W'.heap.size
  block : ∀ k, k < N → k ≠ b → W'.heap[k]? = W.heap[k]?
theorem But.refl (b N : Nat) (W : World) : But b N W W := ⟨rfl, rfl, rfl, Nat.le_refl _, fun _ _ _ => rfl⟩
theorem But.grown {b N : Nat} {A W W' : World} {row : Option Nat} (h : But b N A W) (hN : N ≤ W.heap.size) (hg : W.grownBy W' row) (hr : ∀ r, row = some r → r = b ∨ N ≤ r) : But b N A W' :=
  ⟨hg.os.trans h.os, hg.tape.trans h.tape, hg.output.trans h.output, Nat.le_trans h.size hg.size, fun k hk hkb => (hg.block k (by omega) (fun e => by rcases hr k e.symm with h | h <;> omega)).trans (h.block k hk hkb)⟩
theorem But.below {b N n : Nat} {w W W' : World} (h : But b N W W') (hn : n ≤ N) (hb : n ≤ b) (hW : Below n w W) : Below n w W' :=
  hW.trans ⟨h.os, h.tape, h.output, h.size, fun k hk => h.block k (by omega) (by omega)⟩
theorem RowN.but {b N B0 : Nat} {W W' : World} {a : Option Addr} {l : List Name} (h : RowN W B0 a l) (hk : But b N W W') (hN : W.heap.size ≤ N) (hb : ∃ es clock, W.heap[b]? = some (.map es clock)) : RowN W' B0 a l :=
  ⟨h.1, fun hl => by
    obtain ⟨g, cur, h1, h2, h3, h4⟩ := h.2 hl
    have hlt := (Array.getElem?_eq_some_iff.1 h3).1
    exact ⟨g, cur, h1, h2, (hk.block g (by omega) (fun e => by obtain ⟨es, c, hb⟩ := hb; rw [e, hb] at h3; cases h3)).trans h3, h4⟩⟩
theorem ownsRow_lt {W : World} {base size n g : Nat} {e : TypeId} {v : Value} {xs : List Value} (h : W.ownsRow base e size v n xs) (hg : v.ownBlock = some g) : base ≤ g ∧ g < W.heap.size ∧ ∃ cur, W.heap[g]? = some (.cells cur e (0, 0)) := by
  rcases h.2 with ⟨rfl, _⟩ | ⟨g', cap, cur, rfl, h1, h2, _⟩
  · cases hg
  · injection hg with hg
    subst hg
    exact ⟨h1, (Array.getElem?_eq_some_iff.1 h2).1, cur, h2⟩
theorem ownsRow_kept {W W' : World} {base size n : Nat} {e : TypeId} {v : Value} {xs : List Value} {row : Option Nat} (h : W.ownsRow base e size v n xs) (hg : W.grownBy W' row) (hne : v.ownBlock = none ∨ v.ownBlock ≠ row) : W'.ownsRow base e size v n xs := World.ownsRow.kept h hg hne

theorem cell_new (W : World) (l : List Value) (t : TypeId) : ∀ j u, l[j]? = some u → (W.alloc (.cells l.toArray t)).cell? ((⟨W.heap.size, 0, none⟩ : Addr).add j) = some u := by
  intro j u h
  have := (Blk.new W l.toArray t).cell (0 + j)
  have e : (⟨W.heap.size, 0, none⟩ : Addr).add j = ⟨W.heap.size, 0 + j, none⟩ := by unfold Addr.add; split <;> simp_all
  rw [e, this, Nat.zero_add]
  simpa using h
theorem Grp.step {W4 W6 W7 W8 : World} {base b : Nat} {V : ByteArray → Value} {m m' : ByteArray → List Name} {x : Name} {v' : Value} (hG : Grp W4 base V m) (hg5 : W4.grownBy W6 none) (hg7 : W6.grownBy W7 (V x.sp).ownBlock)
    (hown : W7.ownsRow base 26 6 v' ((m x.sp).length + 1) ((m x.sp).flatMap nameCells ++ nameCells x)) (hat : v'.ownBlock = (V x.sp).ownBlock ∨ v'.ownBlock = some W6.heap.size) (hg8 : W7.grownBy W8 (some b)) (hb : b < base)
    (hm1 : m' x.sp = m x.sp ++ [x]) (hm2 : ∀ s, s ≠ x.sp → m' s = m s) : Grp W8 base (fun y => if y = x.sp then v' else V y) m' where
  row s := by
    by_cases e : s = x.sp
    · subst e
      simp only [if_true]
      rw [hm1, List.length_append, List.length_singleton, List.flatMap_append]
      have e2 : [x].flatMap nameCells = nameCells x := by simp
      rw [e2]
      refine ownsRow_kept hown hg8 ?_
      cases hv : v'.ownBlock with
      | none => exact .inl rfl
      | some g => exact .inr (fun e => by injection e with e; have := (ownsRow_lt hown hv).1; omega)
    · simp only [if_neg e]
      rw [hm2 s e]
      have h1 := ownsRow_kept (hG.row s) hg5 (by cases (V s).ownBlock <;> simp)
      have h2 := ownsRow_kept h1 hg7 (hG.apart s x.sp e)
      refine ownsRow_kept h2 hg8 ?_
      cases hv : (V s).ownBlock with
      | none => exact .inl rfl
      | some g => exact .inr (fun e => by injection e with e; have := (ownsRow_lt (hG.row s) hv).1; omega)
  apart s s' hne := by
    have hs := hg5.size
    by_cases e : s = x.sp
    · subst e
      have e' : s' ≠ x.sp := fun h => hne h.symm
      simp only [if_true, if_neg e']
      rcases hat with h | h
      · rw [h]; exact hG.apart _ _ hne
      · right
        intro e
        rw [h] at e
        have := (ownsRow_lt (hG.row s') e.symm).2.1
        omega
    · simp only [if_neg e]
      by_cases e' : s' = x.sp
      · subst e'
        simp only [if_true]
        rcases hat with h | h
        · rw [h]; exact hG.apart _ _ hne
        · cases hv : (V s).ownBlock with
          | none => exact .inl rfl
          | some g =>
            right
            intro e
            rw [h] at e
            injection e with e
            have := (ownsRow_lt (hG.row s) hv).2.1
            omega
      · simp only [if_neg e']
        exact hG.apart _ _ hne
theorem step_append_run {P : Program} {ops : Array Oper} {o : Oper} {a : Act} {w : World} {K : Act → World → Prop} {Q : Exit → Act → World → Prop} {E : Prop}
    (hg : o.guard = none) (s x : Operand) (t : TypeId) (hop : o.op = Op.call { callee := Callee.builtin Builtin.append, args := #[s, x], argTypes := #[t, t] })
    {vs vx v' : Value} {w' : World} (hs : a.eval s = vs) (hx : a.eval x = vx) (hrun : (Builtin.append_ #[t, t] o.type #[vs, vx]).run P w = .ok v' w')
    (hK : K (a.put o.dst v') w') :
    if Region.wanted o (yielded ops a.tmps) = true then Oper.wp P o a w K Q else E := by
  have hw : Region.wanted o (yielded ops a.tmps) = true := by simp [Region.wanted, hg]
  rw [if_pos hw]
  unfold Oper.wp
  simp [execOp, hop, resolve, invoke, builtin, hs, hx, hrun, Result.andThen]
  exact hK
theorem infoC : (Tryz.prog.info? 26).map (fun i => (i.zero, i.size, i.bytes)) = some (some (.agg #[.int .i64 0, .string ⟨#[]⟩, .string ⟨#[]⟩, .string ⟨#[]⟩, .slice none 0 0, .slice none 0 0]), 6, 104) := by kernel_rfl
set_option maxRecDepth 100000 in
set_option maxHeartbeats 1000000 in
theorem oddNames_any (bi bf ni nf : Nat) (wide : Bool) (mi : Name → Option Bool) (mf : ByteArray → Option Bool) (nms : List Name) (hni : ni ≤ 1000000) (hl : ∀ x ∈ nms, x.fit) (hml : ∀ x : Name, x.fit → ((mi x).isSome = true ↔ x ∈ nms)) (hlen : nms.length ≤ 1000000) (w : World) (h1 : NMap w bi ni mi) (h2 : SMap w bf nf mf) :
    Calls Tryz.prog 112 #[.agg #[.map (some bi), .map (some bf), .bool wide]] w fun e w' => ∃ b V, e = .returned (.map (some b)) ∧
      Hid (VMap Tryz.prog 9 litS okS w' b 1000000 V (.slice none 0 0) ∧ Grp w' w.heap.size V (odds (asc cmpN nms) (pOdd mi mf)) ∧ w.heap.size ≤ b) ∧ Below w.heap.size w w' := by
  have hmm := @run_makeMap Tryz.prog
  obtain ⟨LN, hLN⟩ : ∃ LN, asc cmpN nms = LN := ⟨_, rfl⟩
  have hLl : LN.length ≤ 1000000 := by rw [← hLN]; exact Nat.le_trans (asc_length _ _) hlen
  have hLf : ∀ x ∈ LN, x.fit := fun x hx => hl x ((mem_asc linN).1 (by rw [hLN]; exact hx))
  obtain ⟨W1, hW1⟩ : ∃ W1, (w.alloc (.cells #[.map (some bi), .map (some bf), .bool wide] 93)).alloc (.map #[] 0) = W1 := ⟨_, rfl⟩
  have hb1 : Below w.heap.size w W1 := by rw [← hW1]; exact ((Below.refl _ _).alloc (Nat.le_refl _) _).alloc (by simp) _
  have hs1 : W1.heap.size = w.heap.size + 2 := by rw [← hW1]; simp
  have hbx : Blk W1 w.heap.size #[.map (some bi), .map (some bf), .bool wide] 93 := by rw [← hW1]; exact (Blk.new _ _ _).alloc _
  have hvm : VMap Tryz.prog 9 litS okS W1 (w.heap.size + 1) 0 (fun _ => .slice none 0 0) (.slice none 0 0) := by
    rw [← hW1]
    have := VMap.made (P := Tryz.prog) (k := 9) (lit := litS) (ok := okS) (z := .slice none 0 0) (w.alloc (.cells #[.map (some bi), .map (some bf), .bool wide] 93))
    rw [World.size_alloc] at this
    exact this
  have hk1 := keysN_any (some bi) W1
  have q0 := hbx.cell 0
  simp only [List.getElem?_toArray, List.getElem?_cons_zero, List.getElem?_cons_succ] at q0
  rw [hLN]
  go_enter Tryz.func112, Tryz.ntmps112
  go_wp2_with (go_at_call 90; refine hk1.mono ?_)
  clear hk1
  rintro e W2 ⟨rfl, hW2⟩
  have hb2 : Below W1.heap.size W1 W2 := by rw [hW2]; exact (Below.refl _ _).alloc (Nat.le_refl _) _
  have hx2 : W2.cell? ⟨W1.heap.size, 0, none⟩ = some (.map (some bi)) := by rw [hW2]; exact (Blk.new W1 #[.map (some bi)] 71).cell 0
  have hs2 : W1.heap.size < W2.heap.size := by rw [hW2]; simp
  have hB2 : Below w.heap.size w W2 := hb1.trans (hb2.mono hb1.size)
  have hso := sortedN_gen W1.heap.size bi ni mi nms hl hml hni W2 hs2 hx2 (BMap.kept h1 (below_grown hB2) (by simp))
  rw [hLN] at hso
  have Hs1 := Lib.hid hs1
  clear hW1 hW2 hs1
  go_wp2_with (go_at_call 89; refine hso.mono ?_)
  clear hso
  rintro e W3 ⟨v, rfl, hrow, hb3⟩
  obtain ⟨a, cap, rfl, hR⟩ := rowN_of (Nat.zero_le _) hrow
  have hB3 : Below w.heap.size w W3 := hB2.trans (hb3.mono hB2.size)
  have hb13 : Below W1.heap.size W1 W3 := hb2.trans (hb3.mono (by omega))
  have hsz3 := hb3.size
  have hs1 := Hs1.out
  have hbx3 := hbx.kept (below_grown hb13) (by simp)
  have hv3 := hvm.kept (below_grown hb13) (by simp)
  have hi3 : NMap W3 bi ni mi := BMap.kept h1 (below_grown hB3) (by simp)
  have hf3 : SMap W3 bf nf mf := BMap.kept h2 (below_grown hB3) (by simp)
  have hbil := BMap.lt h1
  have hbfl := BMap.lt h2
  have hmap3 := hv3.is_map
  have hg0 : Grp W3 W3.heap.size (fun _ => .slice none 0 0) (odds (LN.take 0) (pOdd mi mf)) := ⟨fun s => by simp [odds]; exact World.ownsRow_nil _ _ _ _, fun _ _ _ => .inl rfl⟩
  have hs3 : w.heap.size + 2 ≤ W3.heap.size := by omega
  clear hrow q0 hbx hvm hx2 hs2 hs1 hsz3
  go_wp2
  go_loopw [12] (fun i wr => ∃ j : Nat, j ≤ LN.length ∧ i = .int .i64 j ∧ Hid (∃ V, VMap Tryz.prog 9 litS okS wr (w.heap.size + 1) j V (.slice none 0 0) ∧ Grp wr W3.heap.size V (odds (LN.take j) (pOdd mi mf))) ∧ But (w.heap.size + 1) W3.heap.size W3 wr) (fun i _ => LN.length - (intOf i).toNat)
  case atStart => exact ⟨0, by omega, rfl, Lib.hid ⟨_, hv3, hg0⟩, But.refl _ _ _⟩
  case round =>
    obtain ⟨j, hj, rfl, HV, hbut⟩ := hrel
    have hsw := hbut.size
    have hbxw : Blk wr w.heap.size #[.map (some bi), .map (some bf), .bool wide] 93 := (hbut.block _ (by omega) (by omega)).trans hbx3
    have hiw : NMap wr bi ni mi := BMap.same hi3 (hbut.block _ (by omega) (by omega))
    have hfw : SMap wr bf nf mf := BMap.same hf3 (hbut.block _ (by omega) (by omega))
    have p0 := hbxw.cell 0
    have p1 := hbxw.cell 1
    have p2 := hbxw.cell 2
    simp only [List.getElem?_toArray, List.getElem?_cons_zero, List.getElem?_cons_succ] at p0 p1 p2
    by_cases hlt : j < LN.length
    · obtain ⟨g, rfl, u0, u1⟩ := (hR.but hbut (Nat.le_refl _) hmap3).at hlt
      obtain ⟨x, hx⟩ : ∃ x, LN[j] = x := ⟨_, rfl⟩
      have hxf : x.fit := by rw [← hx]; exact hLf _ (List.getElem_mem hlt)
      have Htk : Hid (LN.take (j + 1) = LN.take j ++ [x]) := Lib.hid (by rw [List.take_succ_eq_append_getElem hlt, hx])
      rw [hx] at u0 u1
      obtain ⟨W4, hW4⟩ : ∃ W4, wr.alloc (.cells #[.string x.sp, .string x.lc] 23) = W4 := ⟨_, rfl⟩
      have hg4 : wr.grownBy W4 none := by rw [← hW4]; exact World.grownBy_alloc _ _ _
      have hiw4 : NMap W4.drew bi ni mi := BMap.same (BMap.kept hiw hg4 (by simp)) rfl
      have hfw4 : SMap W4.drew bf nf mf := BMap.same (BMap.kept hfw hg4 (by simp)) rfl
      have hbn : Blk W4 wr.heap.size #[.string x.sp, .string x.lc] 23 := by rw [← hW4]; exact Blk.new _ _ _
      have hbs := hbxw.kept hg4 (by simp)
      have r1 := BMap.look keyEncN Tryz.underlying71 Tryz.underlying4 (Tryz.zeroValue4 _) hiw4 hxf
      have r2 := BMap.look keyEncS Tryz.underlying74 Tryz.underlying4 (Tryz.zeroValue4 _) hfw4 (x := x.sp) hxf.1
      unfold Name.val at r1
      obtain ⟨v1, hv1⟩ : ∃ v, (mi x).getD false = v := ⟨_, rfl⟩
      obtain ⟨v2, hv2⟩ : ∃ v, (mf x.sp).getD false = v := ⟨_, rfl⟩
      rw [hv1] at r1
      rw [hv2] at r2
      have Hp : Hid (pOdd mi mf x = !(v1 == v2)) := Lib.hid (by unfold pOdd; rw [hv1, hv2]; rfl)
      have n0 := hbn.cell 0
      have n1 := hbn.cell 1
      have s0 := hbs.cell 0
      have s1 := hbs.cell 1
      simp only [List.getElem?_toArray, List.getElem?_cons_zero, List.getElem?_cons_succ] at n0 n1 s0 s1
      clear hx hv1 hv2 p0 p1 p2
      go_wp2
      clear hW4 u0 u1
      go_region
      obtain ⟨vo, hvo⟩ : ∃ vo, (!(v1 == v2)) = vo := ⟨_, rfl⟩
      rw [hvo] at Hp ⊢
      clear hvo
      have hbut4 : But (w.heap.size + 1) W3.heap.size W3 W4.drew := by
        have := hbut.grown hsw hg4 (fun r e => by cases e)
        exact ⟨this.os, this.tape, this.output, this.size, this.block⟩
      have hs4 := hg4.size
      obtain ⟨V, hV, hGr⟩ := HV.out
      have hV4 : VMap Tryz.prog 9 litS okS W4.drew (w.heap.size + 1) j V (.slice none 0 0) := (hV.kept hg4 (by simp)).same rfl
      have hGr4 : Grp W4.drew W3.heap.size V (odds (LN.take j) (pOdd mi mf)) := ⟨fun s => by
        have h := ownsRow_kept (hGr.row s) hg4 (by cases (V s).ownBlock <;> simp)
        exact h, hGr.apart⟩
      clear hV hGr
      cases vo
      · have Hod : Hid (∀ s, odds (LN.take (j + 1)) (pOdd mi mf) s = odds (LN.take j) (pOdd mi mf) s) := Lib.hid (fun s => by rw [Htk.out]; simp [odds, List.filter_append, Hp.out])
        go_wp2
        go_roundw
        case rel =>
          have hr : ∃ j' : Nat, j' ≤ LN.length ∧ Value.int .i64 ((j : Int) + 1) = .int .i64 j' ∧ Hid (∃ V, VMap Tryz.prog 9 litS okS W4.drew (w.heap.size + 1) j' V (.slice none 0 0) ∧ Grp W4.drew W3.heap.size V (odds (LN.take j') (pOdd mi mf))) ∧ But (w.heap.size + 1) W3.heap.size W3 W4.drew :=
            ⟨j + 1, by omega, by go_num, Lib.hid ⟨V, hV4.mono (by omega), fun s => by rw [Hod.out s]; exact hGr4.row s, hGr4.apart⟩, hbut4⟩
          first
            | exact hr
            | ((repeat apply Exists.intro); exact ⟨hr, rfl⟩)
        case measure =>
          have e3 : ((j : Int) + 1).toNat = j + 1 := by omega
          simp only [intOf, e3, Int.toNat_natCast]
          omega
      · obtain ⟨i0, hi, hz0, hz1, hz2⟩ := info_parts infoC
        obtain ⟨vs, hvs⟩ : ∃ vs, V x.sp = vs := ⟨_, rfl⟩
        obtain ⟨W6, hW6⟩ : ∃ W6, (W4.alloc (.cells #[.int .i64 1, .string x.sp, .string x.lc, .string ⟨#[]⟩, .slice none 0 0, .slice none 0 0] 26)).drew.drew = W6 := ⟨_, rfl⟩
        have hg5 : W4.drew.grownBy W6 none := by
          have h := World.grownBy_alloc W4 (.cells #[.int .i64 1, .string x.sp, .string x.lc, .string ⟨#[]⟩, .slice none 0 0, .slice none 0 0] 26) none
          rw [← hW6]
          exact ⟨h.os, h.tape, h.output, h.size, h.block⟩
        have hB6 : Blk W6 W4.heap.size (nameCells x).toArray 26 := by rw [← hW6]; exact Blk.new W4 _ _
        have hbn6 : Blk W6 wr.heap.size #[.string x.sp, .string x.lc] 23 := Blk.kept (W := W4.drew) hbn hg5 (by simp)
        have hrow5 := ownsRow_kept (hGr4.row x.sp) hg5 (by cases (V x.sp).ownBlock <;> simp)
        have l1 := VMap.look keyEncS Tryz.underlying123 (Tryz.zeroValue24 _) (hV4.same (W' := W4.drew.drew) rfl) (x := x.sp) hxf.1
        have l2 := VMap.look keyEncS Tryz.underlying123 (Tryz.zeroValue24 _) (hV4.kept hg5 (by simp)) (x := x.sp) hxf.1
        rw [hvs] at hrow5 l1 l2
        have hle : (odds (LN.take j) (pOdd mi mf) x.sp).length ≤ 1000000 := Nat.le_trans (List.length_filter_le _ _) (by rw [List.length_take]; omega)
        have hnews : ∀ t u, (nameCells x)[t]? = some u → W6.cell? ((⟨W4.heap.size, 0, none⟩ : Addr).add t) = some u := fun t u ht => by
          have e : (⟨W4.heap.size, 0, none⟩ : Addr).add t = ⟨W4.heap.size, t, none⟩ := by unfold Addr.add; split <;> simp_all
          rw [e, hB6.cell]; simpa using ht
        have hone : ∀ u ∈ nameCells x, u.oneCell' = true := by
          intro u hu
          simp [nameCells] at hu
          rcases hu with rfl | rfl | rfl | rfl | rfl | rfl <;> rfl
        have hs6 : W4.heap.size < W6.heap.size := hB6.lt
        have hs34 : W3.heap.size ≤ W4.heap.size := hbut4.size
        obtain ⟨v', W7, hap, hown', hg7, _, hat⟩ := run_append_own_at W6 W3.heap.size 24 24 26 i0 (.agg #[.int .i64 0, .string ⟨#[]⟩, .string ⟨#[]⟩, .string ⟨#[]⟩, .slice none 0 0, .slice none 0 0]) 6 104 Tryz.underlying24 hi hz0 hz1 hz2 rfl (by decide) vs _ _ hrow5 ⟨W4.heap.size, 0, none⟩ 1 1 (nameCells x) rfl hnews hone (by unfold maxLen; omega) (by omega) (by omega)
        have hvb : ∀ r, vs.ownBlock = some r → W3.heap.size ≤ r ∧ r < W6.heap.size ∧ ∃ cur, W6.heap[r]? = some (.cells cur 26 (0, 0)) := fun r hr => ownsRow_lt hrow5 hr
        have hV6 := hV4.kept hg5 (by simp)
        have hnb : some (w.heap.size + 1) ≠ vs.ownBlock := fun e => by have := (hvb _ e.symm).1; omega
        have hV7 := hV6.kept hg7 hnb
        have hbn7 : Blk W7 wr.heap.size #[.string x.sp, .string x.lc] 23 := hbn6.kept hg7 (fun e => by
          obtain ⟨_, _, cur, h⟩ := hvb _ e.symm
          rw [show W6.heap[wr.heap.size]? = _ from hbn6] at h; cases h)
        obtain ⟨W8, hup, hV8, hg8⟩ := hV7.update keyEncS Tryz.underlying123 (by unfold maxLen; omega) (x := x.sp) hxf.1 v'
        have a0 := hbn6.cell 0
        have a1 := hbn6.cell 1
        have b0 := hbn7.cell 0
        have b1 := hbn7.cell 1
        simp only [List.getElem?_toArray, List.getElem?_cons_zero, List.getElem?_cons_succ] at a0 a1 b0 b1
        have Hfin : Hid (∃ V, VMap Tryz.prog 9 litS okS W8 (w.heap.size + 1) (j + 1) V (.slice none 0 0) ∧ Grp W8 W3.heap.size V (odds (LN.take (j + 1)) (pOdd mi mf))) := Lib.hid ⟨_, hV8, Grp.step hGr4 hg5 (by rw [hvs]; exact hg7) hown' (by rw [hvs]; exact hat) hg8 (by omega) (by rw [Htk.out]; simp [odds, List.filter_append, Hp.out]) (fun s hs => by
          have e : decide (x.sp = s) = false := decide_eq_false (fun e => hs e.symm)
          rw [Htk.out]; simp [odds, List.filter_append, e])⟩
        have hbut8 : But (w.heap.size + 1) W3.heap.size W3 W8 :=
          ((hbut4.grown (by simpa using hs34) hg5 (fun r e => by cases e)).grown (by omega) hg7 (fun r e => .inr (hvb r e).1)).grown (by have := hg7.size; omega) hg8 (fun r e => .inl (by injection e with e; exact e.symm))
        clear hV4 hGr4 hV6 hV7 hV8 hrow5 hown'
        go_wp2
        go_region_law (refine step_append_run rfl (.tmp 32) (.tmp 35) 24 rfl (by simp [Act.eval, Act.put]) (by simp [Act.eval, Act.put]) hap ?_)
        all_goals
          go_wp2
          go_roundw
          case rel =>
            have hr : ∃ j' : Nat, j' ≤ LN.length ∧ Value.int .i64 ((j : Int) + 1) = .int .i64 j' ∧ Hid (∃ V, VMap Tryz.prog 9 litS okS W8 (w.heap.size + 1) j' V (.slice none 0 0) ∧ Grp W8 W3.heap.size V (odds (LN.take j') (pOdd mi mf))) ∧ But (w.heap.size + 1) W3.heap.size W3 W8 :=
              ⟨j + 1, by omega, by go_num, Hfin, hbut8⟩
            first
              | exact hr
              | ((repeat apply Exists.intro); exact ⟨hr, rfl⟩)
          case measure =>
            have e3 : ((j : Int) + 1).toNat = j + 1 := by omega
            simp only [intOf, e3, Int.toNat_natCast]
            omega
    · obtain rfl : j = LN.length := by omega
      rw [List.take_length] at HV
      obtain ⟨V, hV, hGr⟩ := HV.out
      have Hres : Hid (VMap Tryz.prog 9 litS okS wr (w.heap.size + 1) 1000000 V (.slice none 0 0) ∧ Grp wr w.heap.size V (odds LN (pOdd mi mf)) ∧ w.heap.size ≤ w.heap.size + 1) := Lib.hid ⟨hV.mono (by omega), ⟨fun s => by
        rcases (hGr.row s).2 with ⟨h1, h2⟩ | ⟨g, cap, cur, h1, h2, h3⟩
        · exact ⟨(hGr.row s).1, .inl ⟨h1, h2⟩⟩
        · exact ⟨(hGr.row s).1, .inr ⟨g, cap, cur, h1, by omega, h3⟩⟩, hGr.apart⟩, by omega⟩
      clear hV hGr
      go_wp2
      go_ret
      exact ⟨_, V, rfl, Hres, hbut.below (by omega) (by omega) hB3⟩
end Np
end Go.Proofs.YtohlhihhadbphaaGreatDoor
