/- Names: Ab Ac Ad Ae Af. -/
import Derived.Test.YtohlhihhadbphaaGreatDoorGh
import Derived.Laws.AppendOwnNone
import Derived.Test.YtohlhihhadbphaaGreatDoorGg
import Derived.StillTailTactics
set_option linter.unusedSimpArgs false
set_option linter.unusedVariables false
/- together. -/
namespace Go.Proofs.YtohlhihhadbphaaGreatDoor
open Go.RowKit Go.Shelf Go.Lib Go.Maps
namespace Np
set_option maxHeartbeats 1000000 in
theorem together_few (a : Option Addr) (k c : Nat) (hk : k ≤ 1) (w : World) :
    Calls Tryz.prog 98 #[.slice a k c] w fun e w' => e = .returned (.slice a k c) ∧ w' = w := by
  have hk' : (k : Int) ≤ 1 := by omega
  go_enter Tryz.func98, Tryz.ntmps98
  go_wp2
  go_ret
  exact ⟨rfl, rfl⟩
set_option maxHeartbeats 1000000 in
theorem together_many (a : Option Addr) (k c : Nat) (hk : 1 < k) (w : World) :
    Calls Tryz.prog 98 #[.slice a k c] w fun e w' => e = .returned (.slice (some ⟨w.heap.size, 0, none⟩) 1 1) ∧ w' = w.alloc (.cells #[.int .i64 4, .string ⟨#[]⟩, .string ⟨#[]⟩, .string ⟨#[]⟩, .slice none 0 0, .slice a k c] 26) := by
  have hk' : (1 : Int) < (k : Int) := by omega
  go_enter Tryz.func98, Tryz.ntmps98
  go_wp2
  go_ret
  exact ⟨rfl, rfl⟩
theorem nameT_er (n : Name) : (nameT n).er = nameC n := by simp [nameT, nameC, CT.er, CT.erL]
theorem nameT_on (A : Nat → Prop) (W : World) (n : Name) (h : n.fit) : (nameT n).On A W := by
  unfold nameT
  rw [CT.On, CT.onL_iff]
  refine ⟨h, by unfold maxLen; simp [ByteArray.size], ⟨by simp, by simp⟩, ⟨by simp, by simp⟩, by simp, by simp [CT.OnL]⟩
theorem map_nameT_cells (l : List Name) : (l.map nameT).flatMap CT.cells = l.flatMap nameCells := by
  rw [List.flatMap_map]; rfl
/-- A row of classes of our own, read where it lies. -/
theorem rowOn_of_owns {A : Nat → Prop} {W : World} {base cap : Nat} {a : Option Addr} {l : List CT} (h : W.ownsRow base 26 6 (.slice a l.length cap) l.length (l.flatMap CT.cells)) (hA : ∀ g, (Value.slice a l.length cap).ownBlock = some g → A g) (hl : l.length ≤ maxLen) : RowOn A W a l := by
  refine ⟨hl, fun hne => ?_⟩
  rcases h.2 with ⟨h1, h2⟩ | ⟨g, cap', cur, h1, h2, h3, h4, h5, h6, h7⟩
  · exact absurd (List.eq_nil_of_length_eq_zero h2) hne
  · injection h1 with h1 _ _
    subst h1
    refine ⟨g, 0, rfl, hA g rfl, fun j hj i v hv => ?_⟩
    have hi : i < 6 := by
      have := (List.getElem?_eq_some_iff.1 hv).1
      simpa [CT.cells] using this
    have e := flat6 l j hj i v hv
    rw [← h7, List.getElem?_take_of_lt (by omega), Array.getElem?_toList] at e
    simp [World.cell?, h3, e]
/-- What 'together' gives of a row of names, and the class of it. -/
def togT (a : Option Addr) (cap : Nat) (l : List CT) : List CT := if l.length ≤ 1 then l else [.mk 4 ⟨⟨#[]⟩, ⟨#[]⟩⟩ ⟨#[]⟩ none 0 [] a cap l]
theorem togT_er (a : Option Addr) (cap : Nat) (l : List CT) : (togT a cap l).map CT.er = Np.together (l.map CT.er) := by
  unfold togT Np.together
  rw [List.length_map]
  split
  · rfl
  · simp [CT.er, CT.erL_map]
end Np
end Go.Proofs.YtohlhihhadbphaaGreatDoor

/- odd: the odd classes. -/
namespace Go.Proofs.YtohlhihhadbphaaGreatDoor
open Go.RowKit Go.Shelf Go.Lib Go.Maps
attribute [local go_sem] Oper.semAt_some
namespace Np
/-- A list of classes in a row of the call's own; what lies in them lies elsewhere. -/
structure OwnC (W : World) (lo base : Nat) (v : Value) (cs : List Cls) : Prop where
  ex : ∃ cts : List CT, cts.map CT.er = cs ∧ W.ownsRow base 26 6 v cts.length (cts.flatMap CT.cells) ∧ ∀ u ∈ cts, u.On (fun b => lo ≤ b ∧ b < W.heap.size ∧ some b ≠ v.ownBlock) W
theorem OwnC.nil (W : World) (lo base : Nat) : OwnC W lo base (.slice none 0 0) [] := ⟨[], rfl, World.ownsRow_nil _ _ _ _, by simp⟩
/-- More classes behind: a step of append. -/
theorem OwnC.step {W W' : World} {lo base : Nat} (hlo : lo ≤ W.heap.size) {v v' : Value} {cs ds : List Cls} {cts dts : List CT} (h1 : cts.map CT.er = cs) (h2 : dts.map CT.er = ds) (hon : ∀ u ∈ cts, u.On (fun b => lo ≤ b ∧ b < W.heap.size ∧ some b ≠ v.ownBlock) W) (hon2 : ∀ u ∈ dts, u.On (fun b => lo ≤ b ∧ b < W.heap.size ∧ some b ≠ v.ownBlock) W)
    (hrow : W'.ownsRow base 26 6 v' (cts.length + dts.length) (cts.flatMap CT.cells ++ dts.flatMap CT.cells)) (hg : W.grownBy W' v.ownBlock) (hat : v'.ownBlock = v.ownBlock ∨ v'.ownBlock = some W.heap.size) : OwnC W' lo base v' (cs ++ ds) := by
  refine ⟨cts ++ dts, by rw [List.map_append, h1, h2], by rw [List.length_append, List.flatMap_append]; exact hrow, ?_⟩
  have hk : ∀ b, lo ≤ b ∧ b < W.heap.size ∧ some b ≠ v.ownBlock → lo ≤ b ∧ b < W'.heap.size ∧ some b ≠ v'.ownBlock := fun b ⟨hl, hb, hne⟩ => ⟨hl, Nat.lt_of_lt_of_le hb hg.size, by
    rcases hat with h | h
    · rw [h]; exact hne
    · rw [h]; intro e; injection e with e; omega⟩
  intro u hu
  rcases List.mem_append.1 hu with hu | hu
  · exact (hon u hu).keep hk (fun b ⟨_, hb, hne⟩ => hg.block b hb hne)
  · exact (hon2 u hu).keep hk (fun b ⟨_, hb, hne⟩ => hg.block b hb hne)
theorem On.later {lo : Nat} {W W' : World} {v : Value} {u : CT} (h : u.On (fun b => lo ≤ b ∧ b < W.heap.size ∧ some b ≠ v.ownBlock) W) (hg : W.grownBy W' none) : u.On (fun b => lo ≤ b ∧ b < W'.heap.size ∧ some b ≠ v.ownBlock) W' :=
  h.keep (fun b ⟨hl, hb, hne⟩ => ⟨hl, Nat.lt_of_lt_of_le hb hg.size, hne⟩) (fun b ⟨_, hb, _⟩ => hg.block b hb (by simp))
def oddsC (mi : Name → Option Bool) (mf : ByteArray → Option Bool) (LN : List Name) (wide : Bool) (s : ByteArray) : List Cls := oddC LN (fun n => (mi n).getD false) (fun s => (mf s).getD false) wide s
theorem oddN_odds (mi : Name → Option Bool) (mf : ByteArray → Option Bool) (LN : List Name) (s : ByteArray) : ((odds LN (pOdd mi mf) s).map nameT).map CT.er = oddN LN (fun n => (mi n).getD false) (fun s => (mf s).getD false) s := by
  unfold oddN odds pOdd
  rw [List.map_map]
  refine List.map_congr_left (fun n _ => nameT_er n)

theorem tog_any (lo : Nat) (vl : Value) (W : World) (hlo : lo ≤ W.heap.size) (a : Option Addr) (c : Nat) (l : List CT) (hrow : RowOn (fun b => lo ≤ b ∧ b < W.heap.size ∧ some b ≠ vl.ownBlock) W a l) (hon : ∀ u ∈ l, u.On (fun b => lo ≤ b ∧ b < W.heap.size ∧ some b ≠ vl.ownBlock) W) (hvl : ∀ g, vl.ownBlock = some g → g < W.heap.size) :
    ∃ (d : Option Addr) (ct : Nat) (W' : World), Calls Tryz.prog 98 #[.slice a l.length c] W (fun e w' => e = .returned (.slice d (togT a c l).length ct) ∧ w' = W') ∧ W.grownBy W' none ∧
      RowOn (fun b => lo ≤ b ∧ b < W'.heap.size ∧ some b ≠ vl.ownBlock) W' d (togT a c l) ∧ ∀ u ∈ togT a c l, u.On (fun b => lo ≤ b ∧ b < W'.heap.size ∧ some b ≠ vl.ownBlock) W' := by
  by_cases hk : l.length ≤ 1
  · have e : togT a c l = l := by unfold togT; rw [if_pos hk]
    rw [e]
    exact ⟨a, c, W, together_few a _ c hk W, ⟨rfl, rfl, rfl, Nat.le_refl _, fun _ _ _ => rfl⟩, hrow, hon⟩
  · have e : togT a c l = [.mk 4 ⟨⟨#[]⟩, ⟨#[]⟩⟩ ⟨#[]⟩ none 0 [] a c l] := by unfold togT; rw [if_neg hk]
    rw [e]
    have hg := World.grownBy_alloc W (.cells #[.int .i64 4, .string ⟨#[]⟩, .string ⟨#[]⟩, .string ⟨#[]⟩, .slice none 0 0, .slice a l.length c] 26) none
    have hA : ∀ b, lo ≤ b ∧ b < W.heap.size ∧ some b ≠ vl.ownBlock → lo ≤ b ∧ b < (W.alloc (.cells #[.int .i64 4, .string ⟨#[]⟩, .string ⟨#[]⟩, .string ⟨#[]⟩, .slice none 0 0, .slice a l.length c] 26)).heap.size ∧ some b ≠ vl.ownBlock := fun b h => ⟨h.1, Nat.lt_of_lt_of_le h.2.1 hg.size, h.2.2⟩
    refine ⟨_, 1, _, together_many a _ c (by omega) W, hg, ⟨by unfold maxLen; simp, fun _ => ⟨W.heap.size, 0, rfl, ⟨hlo, by simp, fun e => by have := hvl _ e.symm; omega⟩, ?_⟩⟩, ?_⟩
    · intro j hj i v hv
      have hB := Blk.new W #[.int .i64 4, .string ⟨#[]⟩, .string ⟨#[]⟩, .string ⟨#[]⟩, .slice none 0 0, .slice a l.length c] 26
      obtain rfl : j = 0 := by simpa using hj
      have := hB.cell (0 + 0 * 6 + i)
      rw [this]
      have hv' : ([.int .i64 4, .string ⟨#[]⟩, .string ⟨#[]⟩, .string ⟨#[]⟩, .slice none 0 0, .slice a l.length c] : List Value)[i]? = some v := hv
      simpa using hv'
    · intro u hu
      rw [List.mem_singleton] at hu
      subst hu
      rw [CT.On, CT.onL_iff, CT.onL_iff]
      refine ⟨⟨by unfold maxLen; simp [ByteArray.size], by unfold maxLen; simp [ByteArray.size]⟩, by unfold maxLen; simp [ByteArray.size], ⟨by simp, by simp⟩, hrow.keep hA (fun b hb => hg.block b hb.2.1 (by simp)), by simp, fun t ht => (hon t ht).keep hA (fun b hb => hg.block b hb.2.1 (by simp))⟩
theorem cell_lt {W : World} {g i : Nat} {v : Value} (h : W.cell? ⟨g, i, none⟩ = some v) : g < W.heap.size := by
  rcases Nat.lt_or_ge g W.heap.size with h1 | h1
  · exact h1
  · simp [World.cell?, Array.getElem?_eq_none h1] at h
theorem slice_of_owns {W : World} {base size n : Nat} {e : TypeId} {v : Value} {xs : List Value} (h : W.ownsRow base e size v n xs) : ∃ a c, v = .slice a n c := by
  rcases h.2 with ⟨rfl, rfl⟩ | ⟨g, cap, cur, rfl, _⟩
  · exact ⟨_, _, rfl⟩
  · exact ⟨_, _, rfl⟩
theorem oddsC_len (mi : Name → Option Bool) (mf : ByteArray → Option Bool) (LN : List Name) (wide : Bool) (s : ByteArray) : (oddsC mi mf LN wide s).length ≤ LN.length + 1 := by
  unfold oddsC oddC
  have : (oddN LN (fun n => (mi n).getD false) (fun s => (mf s).getD false) s).length ≤ LN.length := by unfold oddN; rw [List.length_map]; exact List.length_filter_le _ _
  split
  · simp
  · omega
theorem oddsC_all (mi : Name → Option Bool) (mf : ByteArray → Option Bool) (LN : List Name) (wide : Bool) (l : List ByteArray) : (l.flatMap (oddsC mi mf LN wide)).length ≤ l.length * (LN.length + 1) := by
  induction l with
  | nil => simp
  | cons a r ih =>
    have := oddsC_len mi mf LN wide a
    rw [List.flatMap_cons, List.length_append, List.length_cons, Nat.add_mul, Nat.one_mul]
    omega
theorem wpList_append_run {P : Program} {w : World} {ops : Array Oper} {rest : List Oper} {o : Oper} {a : Act} {Q : Exit → Act → World → Prop} (hgd : o.guard = none) (s x : Operand) (t : TypeId)
    (ho : o.op = .call { callee := .builtin .append, args := #[s, x], argTypes := #[t, t] }) {vs vx v' : Value} {w' : World} (hs : a.eval s = vs) (hx : a.eval x = vx) (hrun : (Builtin.append_ #[t, t] o.type #[vs, vx]).run P w = .ok v' w')
    (h : wpList P ops Q rest (a.put o.dst v') w') : wpList P ops Q (o :: rest) a w := by
  refine wpList_plain hgd fun K hK => ?_
  unfold Oper.wp
  simp [execOp, ho, resolve, invoke, builtin, hs, hx, hrun, Result.andThen]
  exact hK _ _ h
set_option maxRecDepth 100000 in
set_option maxHeartbeats 1000000 in
theorem odd_any (bi bf ni nf : Nat) (wide : Bool) (mi : Name → Option Bool) (mf : ByteArray → Option Bool) (nms : List Name) (sps : List ByteArray) (hni : ni ≤ 1000000) (hnf : nf ≤ 1000000) (hl : ∀ x ∈ nms, x.fit) (hml : ∀ x : Name, x.fit → ((mi x).isSome = true ↔ x ∈ nms)) (hlen : nms.length ≤ 1000000)
    (hok : ∀ s ∈ sps, okS s) (hms : ∀ s, okS s → ((mf s).isSome = true ↔ s ∈ sps)) (hlen2 : sps.length ≤ 1000000) (w : World) (h1 : NMap w bi ni mi) (h2 : SMap w bf nf mf) :
    Calls Tryz.prog 99 #[.agg #[.map (some bi), .map (some bf), .bool wide]] w fun e w' => ∃ v, e = .returned v ∧ Hid (OwnC w' w.heap.size w.heap.size v ((asc cmpS sps).flatMap (oddsC mi mf (asc cmpN nms) wide))) ∧ Below w.heap.size w w' := by
  obtain ⟨LN, hLN⟩ : ∃ LN, asc cmpN nms = LN := ⟨_, rfl⟩
  obtain ⟨LS, hLS⟩ : ∃ LS, asc cmpS sps = LS := ⟨_, rfl⟩
  have hLl : LN.length ≤ 1000000 := by rw [← hLN]; exact Nat.le_trans (asc_length _ _) hlen
  have hSl : LS.length ≤ 1000000 := by rw [← hLS]; exact Nat.le_trans (asc_length _ _) hlen2
  have hLf : ∀ x ∈ LN, x.fit := fun x hx => hl x ((mem_asc linN).1 (by rw [hLN]; exact hx))
  have hSf : ∀ x ∈ LS, okS x := fun x hx => hok x ((mem_asc linS).1 (by rw [hLS]; exact hx))
  obtain ⟨W1, hW1⟩ : ∃ W1, w.alloc (.cells #[.map (some bi), .map (some bf), .bool wide] 93) = W1 := ⟨_, rfl⟩
  have hb1 : Below w.heap.size w W1 := by rw [← hW1]; exact (Below.refl _ _).alloc (Nat.le_refl _) _
  have hbx : Blk W1 w.heap.size #[.map (some bi), .map (some bf), .bool wide] 93 := by rw [← hW1]; exact Blk.new _ _ _
  have hs1 : w.heap.size < W1.heap.size := hbx.lt
  have hON := oddNames_any bi bf ni nf wide mi mf nms hni hl hml hlen W1 (BMap.kept h1 (below_grown hb1) (by simp)) (BMap.kept h2 (below_grown hb1) (by simp))
  rw [hLN] at hON ⊢
  rw [hLS]
  have p0 := hbx.cell 0
  have p1 := hbx.cell 1
  have p2 := hbx.cell 2
  simp only [List.getElem?_toArray, List.getElem?_cons_zero, List.getElem?_cons_succ] at p0 p1 p2
  have hbil := BMap.lt h1
  have hbfl := BMap.lt h2
  go_enter Tryz.func99, Tryz.ntmps99
  go_wp2_with (go_at_call 112; refine hON.mono ?_)
  clear hON hW1 p0 p1 p2
  rintro e W2 ⟨b, V, rfl, HV, hb2⟩
  have hB2 : Below w.heap.size w W2 := hb1.trans (hb2.mono hb1.size)
  have hbx2 := hbx.kept (below_grown hb2) (by simp)
  have hi2 : NMap W2 bi ni mi := BMap.kept h1 (below_grown hB2) (by simp)
  have hf2 : SMap W2 bf nf mf := BMap.kept h2 (below_grown hB2) (by simp)
  have p1 := hbx2.cell 1
  simp only [List.getElem?_toArray, List.getElem?_cons_zero, List.getElem?_cons_succ] at p1
  have hks := callsIn_wide.1 (keysS_any (some bf) W2)
  have hso := callsIn_wide.1 (sortedS_gen bf nf mf sps hok hms hnf W2 hf2)
  rw [hLS] at hso
  go_wp2_with (go_at_call 92; refine hks.mono ?_)
  clear hks
  rintro e W3 ⟨rfl, rfl⟩
  go_wp2_with (go_at_call 91; refine hso.mono ?_)
  clear hso
  rintro e W4 ⟨v, rfl, hrow, hb4⟩
  have hb3 : Below W2.heap.size W2 W4 := ((Below.refl _ W2).alloc (Nat.le_refl _) (.cells #[.map (some bf)] 74)).trans (hb4.mono (by simp))
  have hB4 : Below w.heap.size w W4 := hB2.trans (hb3.mono hB2.size)
  obtain ⟨a, cap, rfl, hR⟩ := rowS_of (Nat.zero_le _) hrow
  obtain ⟨hV, hGr, hwb⟩ := HV.out
  have hbl := hV.lt
  have hV4 := hV.kept (below_grown hb3) (by simp)
  have hG4 : Grp W4 W1.heap.size V (odds LN (pOdd mi mf)) := ⟨fun s => ownsRow_kept (hGr.row s) (below_grown hb3) (by cases (V s).ownBlock <;> simp), hGr.apart⟩
  have hbx4 := hbx2.kept (below_grown hb3) (by simp)
  have hf4 : SMap W4 bf nf mf := BMap.kept hf2 (below_grown hb3) (by simp)
  have hbfl4 := BMap.lt hf4
  have hbl4 := hV4.lt
  have hwl4 := hbx4.lt
  have hwl := hB4.size
  clear hrow hb4 HV hV hGr p1 hi2
  go_wp2
  go_loopw [4, 14] (fun l i wr => ∃ j : Nat, j ≤ LS.length ∧ i = .int .i64 j ∧ Hid (OwnC wr w.heap.size W4.heap.size l ((LS.take j).flatMap (oddsC mi mf LN wide))) ∧ Below W4.heap.size W4 wr) (fun _ i _ => LS.length - (intOf i).toNat)
  case atStart => exact ⟨0, by omega, rfl, Lib.hid (OwnC.nil _ _ _), Below.refl _ _⟩
  case round =>
    obtain ⟨j, hj, rfl, HO, hbw⟩ := hrel
    have hsw := hbw.size
    have hbxw : Blk wr w.heap.size #[.map (some bi), .map (some bf), .bool wide] 93 := (hbw.block _ hwl4).trans hbx4
    have hfw : SMap wr bf nf mf := BMap.same hf4 (hbw.block _ hbfl4)
    have hVw := hV4.same (hbw.block _ hbl4)
    have p1 := hbxw.cell 1
    have p2 := hbxw.cell 2
    simp only [List.getElem?_toArray, List.getElem?_cons_zero, List.getElem?_cons_succ] at p1 p2
    by_cases hlt : j < LS.length
    · obtain ⟨g, rfl, u0⟩ := hR.at hlt
      have u1 := (hbw.cell (p := ⟨g, j, none⟩) (cell_lt u0)).trans u0
      obtain ⟨x, hx⟩ : ∃ x, LS[j] = x := ⟨_, rfl⟩
      have hxf : okS x := by rw [← hx]; exact hSf _ (List.getElem_mem hlt)
      have Htk : Hid ((LS.take (j + 1)).flatMap (oddsC mi mf LN wide) = (LS.take j).flatMap (oddsC mi mf LN wide) ++ oddsC mi mf LN wide x) := Lib.hid (by rw [List.take_succ_eq_append_getElem hlt, hx, List.flatMap_append]; simp)
      rw [hx] at u1
      have r2 := BMap.look keyEncS Tryz.underlying74 Tryz.underlying4 (Tryz.zeroValue4 _) hfw (x := x) hxf
      have l1 := VMap.look keyEncS Tryz.underlying123 (Tryz.zeroValue24 _) hVw (x := x) hxf
      obtain ⟨vf, hvf⟩ : ∃ v, (mf x).getD false = v := ⟨_, rfl⟩
      rw [hvf] at r2
      obtain ⟨vo, hvo⟩ : ∃ vo, (!(vf == wide)) = vo := ⟨_, rfl⟩
      obtain ⟨cts, hcts, hrowl, honl⟩ := HO.out.ex
      have hGw := ownsRow_kept (hG4.row x) (below_grown hbw) (by cases (V x).ownBlock <;> simp)
      obtain ⟨av, cv, hva⟩ := slice_of_owns hGw
      rw [hva] at l1 hGw
      have hlc : cts.length ≤ 1000000 * 1000001 := by
        have e1 := congrArg List.length hcts
        rw [List.length_map] at e1
        have e2 := oddsC_all mi mf LN wide (LS.take j)
        have e3 : (LS.take j).length * (LN.length + 1) ≤ 1000000 * 1000001 := Nat.mul_le_mul (by rw [List.length_take]; omega) (by omega)
        omega
      have hpl : (odds LN (pOdd mi mf) x).length ≤ 1000000 := Nat.le_trans (List.length_filter_le _ _) hLl
      have Hco : Hid (oddsC mi mf LN wide x = if vo = true then [.mk 2 ⟨⟨#[]⟩, ⟨#[]⟩⟩ x (Np.together (((odds LN (pOdd mi mf) x).map nameT).map CT.er)) []] else ((odds LN (pOdd mi mf) x).map nameT).map CT.er) := Lib.hid (by
        rw [oddN_odds]
        show (if ((mf x).getD false != wide) = true then _ else _) = _
        rw [hvf, show (vf != wide) = vo from hvo])
      obtain ⟨i0, hi, hz0, hz1, hz2⟩ := info_parts infoC
      clear hx hvf HO
      have hlr : ∀ r, u4.ownBlock = some r → W4.heap.size ≤ r ∧ r < wr.heap.size := fun r hr => ⟨(ownsRow_lt hrowl hr).1, (ownsRow_lt hrowl hr).2.1⟩
      have hbne : ∀ r, r < W4.heap.size → some r ≠ u4.ownBlock := fun r hr e => by have := (hlr r e.symm).1; omega
      have hav : ∀ r, (Value.slice av (odds LN (pOdd mi mf) x).length cv).ownBlock = some r → r < W4.heap.size := fun r hr => by
        have := (ownsRow_lt (hG4.row x) (by rw [hva]; exact hr)).2.1; omega
      cases vo
      · have happ : ∃ v' W7, (Builtin.append_ #[24, 24] 24 #[u4, .slice av (odds LN (pOdd mi mf) x).length cv]).run Tryz.prog wr = .ok v' W7 ∧ W7.ownsRow W4.heap.size 26 6 v' (cts.length + (odds LN (pOdd mi mf) x).length) (cts.flatMap CT.cells ++ (odds LN (pOdd mi mf) x).flatMap nameCells) ∧ wr.grownBy W7 u4.ownBlock ∧ (v'.ownBlock = u4.ownBlock ∨ v'.ownBlock = some wr.heap.size) := by
          rcases hGw.2 with ⟨e1, e2⟩ | ⟨g, cap', cur, e1, e2, e3, e4, e5, e6, e7⟩
          · have e0 := List.eq_nil_of_length_eq_zero e2
            rw [e1, e0]
            refine ⟨u4, wr, run_append_owned_none wr W4.heap.size _ _ 26 i0 6 Tryz.underlying24 hi u4 _ _ hrowl, ?_, ⟨rfl, rfl, rfl, Nat.le_refl _, fun _ _ _ => rfl⟩, .inl rfl⟩
            simpa using hrowl
          · injection e1 with e1 _ e8
            subst e1
            obtain ⟨v', W7, h1, h2, h3, _, h4⟩ := run_append_own_at wr W4.heap.size 24 24 26 i0 (.agg #[.int .i64 0, .string ⟨#[]⟩, .string ⟨#[]⟩, .string ⟨#[]⟩, .slice none 0 0, .slice none 0 0]) 6 104 Tryz.underlying24 hi hz0 hz1 hz2 rfl (by decide) u4 _ _ hrowl ⟨g, 0, none⟩ (odds LN (pOdd mi mf) x).length cv ((odds LN (pOdd mi mf) x).flatMap nameCells) hGw.1 (fun t u ht => by
                have e : (⟨g, 0, none⟩ : Addr).add t = ⟨g, t, none⟩ := by unfold Addr.add; split <;> simp_all
                have htl : t < (odds LN (pOdd mi mf) x).length * 6 := by rw [← hGw.1]; exact (List.getElem?_eq_some_iff.1 ht).1
                rw [← e7, List.getElem?_take_of_lt htl, Array.getElem?_toList] at ht
                rw [e]
                simp [World.cell?, e3, ht]) (fun u hu => by
                obtain ⟨y, _, hy⟩ := List.mem_flatMap.1 hu
                simp [nameCells] at hy
                rcases hy with rfl | rfl | rfl | rfl | rfl | rfl <;> rfl) (by unfold maxLen; omega) (by omega) hsw
            exact ⟨v', W7, h1, h2, h3, h4⟩
        obtain ⟨v', W7, hap, h2, h3, h4⟩ := happ
        have Hfin : Hid (OwnC W7 w.heap.size W4.heap.size v' ((LS.take (j + 1)).flatMap (oddsC mi mf LN wide))) := Lib.hid (by
          rw [Htk.out, Hco.out, if_neg (by simp)]
          refine OwnC.step (dts := (odds LN (pOdd mi mf) x).map nameT) (by omega) hcts rfl honl (fun u hu => ?_) (by rw [List.length_map, map_nameT_cells]; exact h2) h3 h4
          obtain ⟨y, hy, rfl⟩ := List.mem_map.1 hu
          exact nameT_on _ _ _ (hLf y (List.mem_filter.1 hy).1))
        have hb7 : Below W4.heap.size W4 W7 := hbw.grown h3 hsw (fun k hk => (hlr k hk).1)
        clear h2 hrowl honl hGw
        go_wp2_with (at_builtin; refine wpList_append_run rfl _ _ 24 rfl rfl rfl hap ?_)
        go_wp2
        go_roundw
        case rel =>
          have hr : ∃ j' : Nat, j' ≤ LS.length ∧ Value.int .i64 ((j : Int) + 1) = .int .i64 j' ∧ Hid (OwnC W7 w.heap.size W4.heap.size v' ((LS.take j').flatMap (oddsC mi mf LN wide))) ∧ Below W4.heap.size W4 W7 := ⟨j + 1, by omega, by go_num, Hfin, hb7⟩
          first
            | exact hr
            | ((repeat apply Exists.intro); exact ⟨hr, rfl⟩)
        case measure =>
          have e3 : ((j : Int) + 1).toNat = j + 1 := by omega
          simp only [intOf, e3, Int.toNat_natCast]
          omega
      · obtain ⟨nt, hnt⟩ : ∃ nt, (odds LN (pOdd mi mf) x).map nameT = nt := ⟨_, rfl⟩
        have hntl : nt.length = (odds LN (pOdd mi mf) x).length := by rw [← hnt, List.length_map]
        have hrn : RowOn (fun b => w.heap.size ≤ b ∧ b < wr.heap.size ∧ some b ≠ u4.ownBlock) wr av nt := by
          refine rowOn_of_owns (base := W1.heap.size) (cap := cv) ?_ (fun r hr => ?_) (by unfold maxLen; omega)
          · rw [hntl, ← hnt, map_nameT_cells]; exact hGw
          · have := hav r (by rw [← hntl]; exact hr)
            exact ⟨by have := (ownsRow_lt (hG4.row x) (by rw [hva, ← hntl]; exact hr)).1; omega, by omega, hbne r this⟩
        obtain ⟨d, ct, W5, hT, hg5, hrT, hoT⟩ := tog_any w.heap.size u4 wr (by omega) av cv nt hrn (fun u hu => by
          rw [← hnt] at hu
          obtain ⟨y, hy, rfl⟩ := List.mem_map.1 hu
          exact nameT_on _ _ _ (hLf y (List.mem_filter.1 hy).1)) (fun r hr => (hlr r hr).2)
        rw [hntl] at hT
        have her := togT_er av cv nt
        obtain ⟨tt, htt⟩ : ∃ tt, togT av cv nt = tt := ⟨_, rfl⟩
        rw [htt] at hT hrT hoT her
        obtain ⟨k, hk⟩ : ∃ k, tt.length = k := ⟨_, rfl⟩
        obtain ⟨t2, ht2⟩ : ∃ t2, CT.mk 2 ⟨⟨#[]⟩, ⟨#[]⟩⟩ x d ct tt none 0 [] = t2 := ⟨_, rfl⟩
        have hcl : t2.cells = [.int .i64 2, .string ⟨#[]⟩, .string ⟨#[]⟩, .string x, .slice d k ct, .slice none 0 0] := by rw [← ht2, ← hk]; rfl
        obtain ⟨W6, hW6⟩ : ∃ W6, W5.alloc (.cells #[.int .i64 2, .string ⟨#[]⟩, .string ⟨#[]⟩, .string x, .slice d k ct, .slice none 0 0] 26) = W6 := ⟨_, rfl⟩
        have hg56 : W5.grownBy W6 none := by rw [← hW6]; exact World.grownBy_alloc _ _ _
        have hg6 : wr.grownBy W6 none := hg5.trans hg56
        have hB6 : Blk W6 W5.heap.size t2.cells.toArray 26 := by rw [hcl, ← hW6]; exact Blk.new _ _ _
        have hrow6 := ownsRow_kept hrowl hg6 (by cases u4.ownBlock <;> simp)
        have hs6 := hg6.size
        obtain ⟨v', W7, hap, h2, h3, _, h4⟩ := run_append_own_at W6 W4.heap.size 24 24 26 i0 (.agg #[.int .i64 0, .string ⟨#[]⟩, .string ⟨#[]⟩, .string ⟨#[]⟩, .slice none 0 0, .slice none 0 0]) 6 104 Tryz.underlying24 hi hz0 hz1 hz2 rfl (by decide) u4 _ _ hrow6 ⟨W5.heap.size, 0, none⟩ 1 1 t2.cells (by rw [hcl]; rfl) (fun t u ht => by
            have e : (⟨W5.heap.size, 0, none⟩ : Addr).add t = ⟨W5.heap.size, t, none⟩ := by unfold Addr.add; split <;> simp_all
            rw [e, hB6.cell]; simpa using ht) (fun u hu => by
            rw [hcl] at hu
            simp at hu
            rcases hu with rfl | rfl | rfl | rfl | rfl | rfl <;> rfl) (by unfold maxLen; omega) (by omega) (by omega)
        have hk5 : ∀ b, w.heap.size ≤ b ∧ b < W5.heap.size ∧ some b ≠ u4.ownBlock → w.heap.size ≤ b ∧ b < W6.heap.size ∧ some b ≠ u4.ownBlock := fun b h => ⟨h.1, Nat.lt_of_lt_of_le h.2.1 hg56.size, h.2.2⟩
        have Hfin : Hid (OwnC W7 w.heap.size W4.heap.size v' ((LS.take (j + 1)).flatMap (oddsC mi mf LN wide))) := Lib.hid (by
          rw [Htk.out, Hco.out, if_pos rfl, hnt]
          refine OwnC.step (dts := [t2]) (by omega) hcts ?_ (fun u hu => On.later (honl u hu) hg6) (fun u hu => ?_) (by simpa using h2) h3 h4
          · rw [← ht2, ← her]; simp [CT.er, CT.erL_map, CT.erL]
          · rw [List.mem_singleton] at hu
            rw [hu, ← ht2, CT.On, CT.onL_iff, CT.onL_iff]
            exact ⟨⟨by unfold maxLen; simp [ByteArray.size], by unfold maxLen; simp [ByteArray.size]⟩, hxf, hrT.keep hk5 (fun b hb => hg56.block b hb.2.1 (by simp)), ⟨by simp, by simp⟩, fun t ht => (hoT t ht).keep hk5 (fun b hb => hg56.block b hb.2.1 (by simp)), by simp⟩)
        have hb7 : Below W4.heap.size W4 W7 := (hbw.grown hg6 hsw (fun k hk => by cases hk)).grown h3 (by omega) (fun k hk => (hlr k hk).1)
        rw [hk] at hT
        clear h2 hrowl honl hGw hrow6 her hnt hntl htt ht2 hcl hB6 hrT hoT hrn
        go_wp2_with (first | (go_at_call 98; refine hT.mono ?_; rintro e w5 ⟨rfl, rfl⟩) | (at_builtin; refine wpList_append_run rfl _ _ 24 rfl rfl rfl hap ?_))
        go_wp2
        go_roundw
        case rel =>
          have hr : ∃ j' : Nat, j' ≤ LS.length ∧ Value.int .i64 ((j : Int) + 1) = .int .i64 j' ∧ Hid (OwnC W7 w.heap.size W4.heap.size v' ((LS.take j').flatMap (oddsC mi mf LN wide))) ∧ Below W4.heap.size W4 W7 := ⟨j + 1, by omega, by go_num, Hfin, hb7⟩
          first
            | exact hr
            | ((repeat apply Exists.intro); exact ⟨hr, rfl⟩)
        case measure =>
          have e3 : ((j : Int) + 1).toNat = j + 1 := by omega
          simp only [intOf, e3, Int.toNat_natCast]
          omega
    · obtain rfl : j = LS.length := by omega
      rw [List.take_length] at HO
      go_wp2
      go_ret
      refine ⟨_, rfl, Lib.hid ?_, hB4.trans (hbw.mono hwl)⟩
      obtain ⟨cts, e1, e2, e3⟩ := HO.out.ex
      refine ⟨cts, e1, ?_, e3⟩
      rcases e2.2 with ⟨g1, g2⟩ | ⟨g, cap', cur, g1, g2, g3⟩
      · exact ⟨e2.1, .inl ⟨g1, g2⟩⟩
      · exact ⟨e2.1, .inr ⟨g, cap', cur, g1, by omega, g3⟩⟩
end Np
end Go.Proofs.YtohlhihhadbphaaGreatDoor

/- class: the normal class of a shape. -/
namespace Go.Proofs.YtohlhihhadbphaaGreatDoor
open Go.RowKit Go.Shelf Go.Lib Go.Maps
attribute [local go_sem] Oper.semAt_some
namespace Np
theorem togT_of (a : Option Addr) (c : Nat) (l : List CT) : togT a c l = [] ∧ l = [] ∨ ∃ u, togT a c l = [u] := by
  unfold togT
  split
  · rename_i h
    match l, h with
    | [], _ => exact .inl ⟨rfl, rfl⟩
    | [u], _ => exact .inr ⟨u, rfl⟩
  · exact .inr ⟨_, rfl⟩
theorem Blk.set6 {W : World} {B : Nat} {x0 x1 x2 x3 x4 x5 : Value} {t : TypeId} (h : Blk W B #[x0, x1, x2, x3, x4, x5] t) (a b c d e f : Value) :
    Blk ((((((W.setCell ⟨B, 0, none⟩ a).setCell ⟨B, 1, none⟩ b).setCell ⟨B, 2, none⟩ c).setCell ⟨B, 3, none⟩ d).setCell ⟨B, 4, none⟩ e).setCell ⟨B, 5, none⟩ f) B #[a, b, c, d, e, f] t := by
  have := (((((h.set 0 (by simp) a).set 1 (by simp) b).set 2 (by simp) c).set 3 (by simp) d).set 4 (by simp) e).set 5 (by simp) f
  simpa using this
theorem sixBelow {n : Nat} {w W : World} {B : Nat} (h : Below n w W) (hB : n ≤ B) (a b c d e f : Value) :
    Below n w ((((((W.setCell ⟨B, 0, none⟩ a).setCell ⟨B, 1, none⟩ b).setCell ⟨B, 2, none⟩ c).setCell ⟨B, 3, none⟩ d).setCell ⟨B, 4, none⟩ e).setCell ⟨B, 5, none⟩ f) :=
  (((((h.setCell (p := ⟨B, 0, none⟩) hB a).setCell (p := ⟨B, 1, none⟩) hB b).setCell (p := ⟨B, 2, none⟩) hB c).setCell (p := ⟨B, 3, none⟩) hB d).setCell (p := ⟨B, 4, none⟩) hB e).setCell (p := ⟨B, 5, none⟩) hB f
theorem six_other {W : World} {B k : Nat} (hk : k ≠ B) (a b c d e f : Value) :
    ((((((W.setCell ⟨B, 0, none⟩ a).setCell ⟨B, 1, none⟩ b).setCell ⟨B, 2, none⟩ c).setCell ⟨B, 3, none⟩ d).setCell ⟨B, 4, none⟩ e).setCell ⟨B, 5, none⟩ f).heap[k]? = W.heap[k]? := by
  simp only [sameMap_setCell hk]
set_option maxRecDepth 100000 in
set_option maxHeartbeats 1000000 in
theorem class_any (bi bf ni nf : Nat) (wide : Bool) (mi : Name → Option Bool) (mf : ByteArray → Option Bool) (nms : List Name) (sps : List ByteArray) (hni : ni ≤ 1000000) (hnf : nf ≤ 1000000) (hl : ∀ x ∈ nms, x.fit) (hml : ∀ x : Name, x.fit → ((mi x).isSome = true ↔ x ∈ nms)) (hlen : nms.length ≤ 1000000)
    (hok : ∀ s ∈ sps, okS s) (hms : ∀ s, okS s → ((mf s).isSome = true ↔ s ∈ sps)) (hlen2 : sps.length ≤ 1000000) (w : World) (h1 : NMap w bi ni mi) (h2 : SMap w bf nf mf) :
    Calls Tryz.prog 82 #[.agg #[.map (some bi), .map (some bf), .bool wide]] w fun e w' => ∃ t : CT, e = .returned t.val ∧ Hid (t.On (fun b => w.heap.size ≤ b ∧ b < w'.heap.size) w' ∧ t.er = classG ((asc cmpS sps).flatMap (oddsC mi mf (asc cmpN nms) wide)) wide) ∧ Below w.heap.size w w' := by
  obtain ⟨O, hO⟩ : ∃ O, (asc cmpS sps).flatMap (oddsC mi mf (asc cmpN nms) wide) = O := ⟨_, rfl⟩
  obtain ⟨W1, hW1⟩ : ∃ W1, (w.alloc (.cells #[.map (some bi), .map (some bf), .bool wide] 93)).alloc (.cells #[.int .i64 0, .string ⟨#[]⟩, .string ⟨#[]⟩, .string ⟨#[]⟩, .slice none 0 0, .slice none 0 0] 26) = W1 := ⟨_, rfl⟩
  have hb1 : Below w.heap.size w W1 := by rw [← hW1]; exact ((Below.refl _ _).alloc (Nat.le_refl _) _).alloc (by simp) _
  have hbx : Blk W1 w.heap.size #[.map (some bi), .map (some bf), .bool wide] 93 := by rw [← hW1]; exact (Blk.new _ _ _).alloc _
  have hbr : Blk W1 (w.heap.size + 1) #[.int .i64 0, .string ⟨#[]⟩, .string ⟨#[]⟩, .string ⟨#[]⟩, .slice none 0 0, .slice none 0 0] 26 := by
    rw [← hW1]
    have := Blk.new (w.alloc (.cells #[.map (some bi), .map (some bf), .bool wide] 93)) #[.int .i64 0, .string ⟨#[]⟩, .string ⟨#[]⟩, .string ⟨#[]⟩, .slice none 0 0, .slice none 0 0] 26
    rw [World.size_alloc] at this; exact this
  have hs1 : w.heap.size + 1 < W1.heap.size := hbr.lt
  have hON := odd_any bi bf ni nf wide mi mf nms sps hni hnf hl hml hlen hok hms hlen2 W1 (BMap.kept h1 (below_grown hb1) (by simp)) (BMap.kept h2 (below_grown hb1) (by simp))
  rw [hO] at hON ⊢
  have p0 := hbx.cell 0
  have p1 := hbx.cell 1
  have p2 := hbx.cell 2
  simp only [List.getElem?_toArray, List.getElem?_cons_zero, List.getElem?_cons_succ] at p0 p1 p2
  go_enter Tryz.func82, Tryz.ntmps82
  go_wp2_with (go_at_call 99; refine hON.mono ?_)
  clear hON hW1 p0 p1 p2
  rintro e W2 ⟨v, rfl, HO, hb2⟩
  obtain ⟨cts, hcts, hrow, hon⟩ := HO.out.ex
  obtain ⟨a, c, rfl⟩ := slice_of_owns hrow
  have hB2 : Below w.heap.size w W2 := hb1.trans (hb2.mono hb1.size)
  have hs2 := hb2.size
  have hcl : cts.length ≤ maxLen := by
    have e1 := congrArg List.length hcts
    rw [List.length_map, ← hO] at e1
    have e2 := oddsC_all mi mf (asc cmpN nms) wide (asc cmpS sps)
    have e3 := Nat.mul_le_mul (Nat.le_trans (asc_length cmpS sps) hlen2) (Nat.add_le_add_right (Nat.le_trans (asc_length cmpN nms) hlen) 1)
    unfold maxLen; omega
  obtain ⟨d, ct, W3, hT, hg3, hrT, hoT⟩ := tog_any W1.heap.size (.slice none 0 0) W2 hs2 a c cts (rowOn_of_owns hrow (fun r hr => ⟨(ownsRow_lt hrow hr).1, (ownsRow_lt hrow hr).2.1, by simp [Value.ownBlock]⟩) hcl) (fun u hu => (hon u hu).keep (fun b h => ⟨h.1, h.2.1, by simp [Value.ownBlock]⟩) (fun _ _ => rfl)) (fun r hr => by cases hr)
  have her := togT_er a c cts
  rw [hcts] at her
  obtain ⟨tt, htt⟩ : ∃ tt, togT a c cts = tt := ⟨_, rfl⟩
  have hcase := togT_of a c cts
  rw [htt] at hT hrT hoT her hcase
  have hbx3 := (hbx.kept (below_grown hb2) (by simp)).kept hg3 (by simp)
  have hbr3 := (hbr.kept (below_grown hb2) (by simp)).kept hg3 (by simp)
  have p2 := hbx3.cell 2
  have c0 := hbr3.cell 0
  have c1 := hbr3.cell 1
  have c2 := hbr3.cell 2
  have c3 := hbr3.cell 3
  have c4 := hbr3.cell 4
  have c5 := hbr3.cell 5
  simp only [List.getElem?_toArray, List.getElem?_cons_zero, List.getElem?_cons_succ] at p2 c0 c1 c2 c3 c4 c5
  have f0 := hbr3.frozen 0
  have f1 := hbr3.frozen 1
  have f2 := hbr3.frozen 2
  have f3 := hbr3.frozen 3
  have f4 := hbr3.frozen 4
  have f5 := hbr3.frozen 5
  have hB3 : Below w.heap.size w W3 := hB2.grown hg3 hB2.size (fun k hk => by cases hk)
  have hs3 := hg3.size
  cases wide
  · rcases hcase with ⟨e0, e00⟩ | ⟨u, eu⟩
    · subst e0
      have hO0 : classG O false = anyC [anyC []] := by
        have e : Np.together O = [] := by simpa using her.symm
        unfold classG; rw [e]; rfl
      obtain ⟨W4, hW4⟩ : ∃ W4, W3.alloc (.cells #[.int .i64 3, .string ⟨#[]⟩, .string ⟨#[]⟩, .string ⟨#[]⟩, .slice none 0 0, .slice none 0 0] 26) = W4 := ⟨_, rfl⟩
      have hg4 : W3.grownBy W4 none := by rw [← hW4]; exact World.grownBy_alloc _ _ _
      have hB4b : Blk W4 W3.heap.size #[.int .i64 3, .string ⟨#[]⟩, .string ⟨#[]⟩, .string ⟨#[]⟩, .slice none 0 0, .slice none 0 0] 26 := by rw [← hW4]; exact Blk.new _ _ _
      have hbr4 := hbr3.kept hg4 (by simp)
      have hlt4 := hB4b.lt
      have g0 := hbr4.cell 0
      have g1 := hbr4.cell 1
      have g2 := hbr4.cell 2
      have g3 := hbr4.cell 3
      have g4 := hbr4.cell 4
      have g5 := hbr4.cell 5
      have k0 := hbr4.frozen 0
      have k1 := hbr4.frozen 1
      have k2 := hbr4.frozen 2
      have k3 := hbr4.frozen 3
      have k4 := hbr4.frozen 4
      have k5 := hbr4.frozen 5
      have q := hbr4.set6 (.int .i64 3) (.string ⟨#[]⟩) (.string ⟨#[]⟩) (.string ⟨#[]⟩) (.slice (some ⟨W3.heap.size, 0, none⟩) 1 1) (.slice none 0 0)
      have q0 := q.cell 0
      have q1 := q.cell 1
      have q2 := q.cell 2
      have q3 := q.cell 3
      have q4 := q.cell 4
      have q5 := q.cell 5
      simp only [List.getElem?_toArray, List.getElem?_cons_zero, List.getElem?_cons_succ] at q0 q1 q2 q3 q4 q5 g0 g1 g2 g3 g4 g5
      obtain ⟨un, hun⟩ : ∃ un, CT.mk 3 ⟨⟨#[]⟩, ⟨#[]⟩⟩ ⟨#[]⟩ none 0 [] none 0 [] = un := ⟨_, rfl⟩
      have Hres : Hid ((CT.mk 3 ⟨⟨#[]⟩, ⟨#[]⟩⟩ ⟨#[]⟩ (some ⟨W3.heap.size, 0, none⟩) 1 [un] none 0 []).On (fun b => W3.heap.size ≤ b ∧ b < W4.heap.size) W4 ∧ (CT.mk 3 ⟨⟨#[]⟩, ⟨#[]⟩⟩ ⟨#[]⟩ (some ⟨W3.heap.size, 0, none⟩) 1 [un] none 0 []).er = classG O false) := Lib.hid ⟨by
          rw [CT.On, CT.onL_iff, CT.onL_iff]
          refine ⟨⟨by unfold maxLen; simp [ByteArray.size], by unfold maxLen; simp [ByteArray.size]⟩, by unfold maxLen; simp [ByteArray.size], ⟨by unfold maxLen; simp, fun _ => ⟨W3.heap.size, 0, rfl, ⟨Nat.le_refl _, hlt4⟩, ?_⟩⟩, ⟨by simp, by simp⟩, ?_, by simp⟩
          · intro j hj i v hv
            obtain rfl : j = 0 := by simpa using hj
            have := hB4b.cell (0 + 0 * 6 + i)
            rw [this]
            have hv' : ([.int .i64 3, .string ⟨#[]⟩, .string ⟨#[]⟩, .string ⟨#[]⟩, .slice none 0 0, .slice none 0 0] : List Value)[i]? = some v := by rw [← hun] at hv; exact hv
            simpa using hv'
          · intro t ht
            rw [List.mem_singleton] at ht
            rw [ht, ← hun, CT.On, CT.onL_iff]
            exact ⟨⟨by unfold maxLen; simp [ByteArray.size], by unfold maxLen; simp [ByteArray.size]⟩, by unfold maxLen; simp [ByteArray.size], ⟨by simp, by simp⟩, ⟨by simp, by simp⟩, by simp, by simp⟩, by
          rw [hO0, ← hun]; simp [CT.er, anyC, CT.erL]⟩
      have hB4 : Below w.heap.size w W4 := hB3.grown hg4 (by omega) (fun k hk => by cases hk)
      have hs4 := hg4.size
      rw [List.length_nil] at hT
      clear hrT hoT her htt hO0 e00 hun hcts hrow hon hcl c0 c1 c2 c3 c4 c5 f0 f1 f2 f3 f4 f5
      go_wp2_with (go_at_call 98; refine hT.mono ?_; rintro e w3 ⟨rfl, rfl⟩)
      refine bodyPost_ret (v := .agg #[.int .i64 3, .string ⟨#[]⟩, .string ⟨#[]⟩, .string ⟨#[]⟩, .slice (some ⟨w3.heap.size, 0, none⟩) 1 1, .slice none 0 0]) (by simp [results, Tryz.f82, go_sem, q0, q1, q2, q3, q4, q5]) rfl ⟨CT.mk 3 ⟨⟨#[]⟩, ⟨#[]⟩⟩ ⟨#[]⟩ (some ⟨w3.heap.size, 0, none⟩) 1 [un] none 0 [], rfl, Lib.hid ⟨?_, Hres.out.2⟩, sixBelow hB4 (by omega) _ _ _ _ _ _⟩
      exact Hres.out.1.keep (fun b hb => ⟨by have := hb.1; omega, by simp; exact hb.2⟩) (fun b hb => six_other (by have := hb.1; omega) _ _ _ _ _ _)
    · subst eu
      have hO1 : u.er = classG O false := by
        have e : Np.together O = [u.er] := by simpa using her.symm
        unfold classG; rw [e]; rfl
      obtain ⟨b, o, rfl, hb, hcells⟩ := hrT.2 (by simp)
      have hcu : ∀ i v, u.cells[i]? = some v → W3.cell? ⟨b, o + i, none⟩ = some v := fun i v hv => by
        have := hcells 0 (by simp) i v hv
        simpa using this
      have u0 := hcu 0 _ rfl
      have u1 := hcu 1 _ rfl
      have u2 := hcu 2 _ rfl
      have u3 := hcu 3 _ rfl
      have u4 := hcu 4 _ rfl
      have u5 := hcu 5 _ rfl
      rw [Nat.add_zero] at u0
      rw [CT.exv_eq] at u4
      rw [CT.arv_eq] at u5
      have q := hbr3.set6 (.int .i64 u.kind) (.string u.name.sp) (.string u.name.lc) (.string u.space) (.slice u.ea u.ex.length u.ec) (.slice u.aa u.ar.length u.ac)
      have q0 := q.cell 0
      have q1 := q.cell 1
      have q2 := q.cell 2
      have q3 := q.cell 3
      have q4 := q.cell 4
      have q5 := q.cell 5
      simp only [List.getElem?_toArray, List.getElem?_cons_zero, List.getElem?_cons_succ] at q0 q1 q2 q3 q4 q5
      have Hres : Hid (u.On (fun b => W1.heap.size ≤ b ∧ b < W3.heap.size) W3 ∧ u.er = classG O false) := Lib.hid ⟨(hoT u (by simp)).keep (fun b hb => ⟨hb.1, hb.2.1⟩) (fun _ _ => rfl), hO1⟩
      rw [List.length_singleton] at hT
      clear hrT hoT her htt hO1 hcells hcu hcts hrow hon hcl
      go_wp2_with (go_at_call 98; refine hT.mono ?_; rintro e w3 ⟨rfl, rfl⟩)
      refine bodyPost_ret (v := .agg #[.int .i64 u.kind, .string u.name.sp, .string u.name.lc, .string u.space, .slice u.ea u.ex.length u.ec, .slice u.aa u.ar.length u.ac]) (by simp [results, Tryz.f82, go_sem, q0, q1, q2, q3, q4, q5]) rfl ⟨u, by rw [CT.val_eq], Lib.hid ⟨?_, Hres.out.2⟩, sixBelow hB3 (by omega) _ _ _ _ _ _⟩
      exact Hres.out.1.keep (fun b hb => ⟨by have := hb.1; omega, by simp; exact hb.2⟩) (fun b hb => six_other (by have := hb.1; omega) _ _ _ _ _ _)
  · obtain ⟨k, hk⟩ : ∃ k, tt.length = k := ⟨_, rfl⟩
    rw [hk] at hT
    have q := hbr3.set6 (.int .i64 3) (.string ⟨#[]⟩) (.string ⟨#[]⟩) (.string ⟨#[]⟩) (.slice d k ct) (.slice none 0 0)
    have q0 := q.cell 0
    have q1 := q.cell 1
    have q2 := q.cell 2
    have q3 := q.cell 3
    have q4 := q.cell 4
    have q5 := q.cell 5
    simp only [List.getElem?_toArray, List.getElem?_cons_zero, List.getElem?_cons_succ] at q0 q1 q2 q3 q4 q5
    have Hres : Hid ((CT.mk 3 ⟨⟨#[]⟩, ⟨#[]⟩⟩ ⟨#[]⟩ d ct tt none 0 []).On (fun b => W1.heap.size ≤ b ∧ b < W3.heap.size) W3 ∧ (CT.mk 3 ⟨⟨#[]⟩, ⟨#[]⟩⟩ ⟨#[]⟩ d ct tt none 0 []).er = classG O true) := Lib.hid ⟨by
        rw [CT.On, CT.onL_iff, CT.onL_iff]
        exact ⟨⟨by unfold maxLen; simp [ByteArray.size], by unfold maxLen; simp [ByteArray.size]⟩, by unfold maxLen; simp [ByteArray.size], hrT.keep (fun b hb => ⟨hb.1, hb.2.1⟩) (fun _ _ => rfl), ⟨by simp, by simp⟩, fun t ht => (hoT t ht).keep (fun b hb => ⟨hb.1, hb.2.1⟩) (fun _ _ => rfl), by simp⟩, by
        rw [CT.er, CT.erL_map, her]; simp [classG, anyC, CT.erL]⟩
    clear hrT hoT her hcase htt
    go_wp2_with (go_at_call 98; refine hT.mono ?_; rintro e w3 ⟨rfl, rfl⟩)
    refine bodyPost_ret (v := .agg #[.int .i64 3, .string ⟨#[]⟩, .string ⟨#[]⟩, .string ⟨#[]⟩, .slice d k ct, .slice none 0 0]) (by simp [results, Tryz.f82, go_sem, q0, q1, q2, q3, q4, q5]) rfl ⟨CT.mk 3 ⟨⟨#[]⟩, ⟨#[]⟩⟩ ⟨#[]⟩ d ct tt none 0 [], by rw [← hk]; rfl, Lib.hid ⟨?_, Hres.out.2⟩, sixBelow hB3 (by omega) _ _ _ _ _ _⟩
    exact Hres.out.1.keep (fun b hb => ⟨by have := hb.1; omega, by simp; exact hb.2⟩) (fun b hb => six_other (by have := hb.1; omega) _ _ _ _ _ _)
end Np
end Go.Proofs.YtohlhihhadbphaaGreatDoor

/- A region that draws its order, in a round of a range over a function: still operations first, then a tail in one order. -/
namespace Go.Proofs.YtohlhihhadbphaaGreatDoor
open Go.RowKit Go.Shelf Go.Lib Go.Maps
namespace Np
theorem uponIn_of_upon {l n : Nat} {P : Program} {o : Oper} {a : Act} {K : Act → World → Prop} {Q : Exit → Act → World → Prop} (r : Result Next) (h : o.upon P a K Q r) : o.uponIn (Fence.wide.inRound l) n P a K Q r := by
  match r, h with
  | .ok (.value v) w, h => exact h
  | .ok .skip w, h => exact h
  | .ok (.defer d) w, h => exact h
  | .ok (.enter f args) w, h => exact ⟨fun h => (by cases h), CallsIn.inRound l ((callsIn_wide).2 h)⟩
  | .ok (.row row args) w, h => exact ⟨fun h => (by cases h), fun c cs _ => by
      obtain ⟨v, w', r, s⟩ := h c cs
      exact ⟨v, w', r, stepsIn_wide.2 s⟩⟩
  | .halt (.panic v) w, h => exact h
theorem wpAnyIn_of_wpAny {l n : Nat} {P : Program} {md : Region.Mode} {ops : Array Oper} {Q : Exit → Act → World → Prop} (hd : ∀ (i : Nat) (o : Oper), ops[i]? = some o → ∀ c, o.op ≠ Op.defer c) (hL : ¬ LetsOut Q) :
    ∀ (fuel : Nat) (listed : Array Bool) (a : Act) (w : World), wpAny P md ops Q fuel listed a w → wpAnyIn (Fence.wide.inRound l) n P md ops Q fuel listed a w
  | 0, _, _, _, h => h
  | fuel + 1, listed, a, w, h => ⟨h.1, fun i hi => by
    have h2 := h.2 i hi
    unfold wpOp at h2
    unfold wpOpIn
    split
    · rename_i e; simp only [e] at h2; exact wpAnyIn_of_wpAny hd hL fuel _ _ _ h2
    · rename_i o e
      simp only [e] at h2
      split
      · rename_i hw
        rw [if_pos hw] at h2
        rcases h2 with h2 | h2
        · refine Oper.wpIn_mono (fun a w => wpAnyIn_of_wpAny hd hL fuel _ a w) ⟨fun _ _ => trivial, ?_⟩
          rw [Oper.semAt_eq _ _ _ (hd i o e)]
          exact uponIn_of_upon _ h2
        · exact absurd h2.2 hL
      · rename_i hw
        rw [if_neg hw] at h2
        exact ⟨fun _ _ => trivial, wpAnyIn_of_wpAny hd hL fuel _ _ _ h2⟩⟩
/-- From a fence without a round to one with a round. -/
theorem wpAnyIn_round {l n : Nat} {P : Program} {md : Region.Mode} {ops : Array Oper} {Q : Exit → Act → World → Prop} (hd : ∀ (i : Nat) (o : Oper), ops[i]? = some o → ∀ c, o.op ≠ Op.defer c) :
    ∀ (fuel : Nat) (listed : Array Bool) (a : Act) (w : World), wpAnyIn Fence.wide n P md ops Q fuel listed a w → wpAnyIn (Fence.wide.inRound l) n P md ops Q fuel listed a w
  | 0, _, _, _, h => h
  | fuel + 1, listed, a, w, h => ⟨h.1, fun i hi => by
    have h2 := h.2 i hi
    unfold wpOpIn at h2 ⊢
    split
    · rename_i e; simp only [e] at h2; exact wpAnyIn_round hd fuel _ _ _ h2
    · rename_i o e
      simp only [e] at h2
      split
      · rename_i hw
        rw [if_pos hw] at h2
        refine Oper.wpIn_mono (fun a w => wpAnyIn_round hd fuel _ a w) ⟨fun _ _ => trivial, ?_⟩
        have h3 := h2.2
        rw [Oper.semAt_eq _ _ _ (hd i o e)] at h3 ⊢
        exact h3
      · rename_i hw
        rw [if_neg hw] at h2
        exact ⟨fun _ _ => trivial, wpAnyIn_round hd fuel _ _ _ h2.2⟩⟩
/-- No operation defers. -/
def noDefer (l : List Oper) : Bool := l.all fun o => match o.op with | .defer _ => false | _ => true
theorem noDefer_spec {l : List Oper} (h : noDefer l = true) (i : Nat) (o : Oper) (ho : l.toArray[i]? = some o) : ∀ c, o.op ≠ Op.defer c := by
  intro c e
  unfold noDefer at h
  rw [List.all_eq_true] at h
  have := h o (by simpa using List.mem_of_getElem? (by simpa using ho : l[i]? = some o))
  rw [e] at this
  cases this
/-- Still operations first, in whatever order, then the rest in the text's order: in a round. -/
theorem region_round_still {id l n : Nat} {P : Program} {Q : Exit → Act → World → Prop} {a : Act} {w : World} {os : List Oper} (k : Nat) (hm : P.follows .mixedOrders = true) (hB : Region.lexTailB .any os.toArray k = true) (hd : noDefer os = true) (hL : ¬ LetsOut Q)
    (h : wpStill P os.toArray w.drew (fun a' => wpList P os.toArray Q (os.drop k) a' w.drew) (os.take k) a) : (Code.region id os.toArray true).wpIn (Fence.wide.inRound l) n P Q a w := by
  refine wpIn_region_any hm (wpAnyIn_of_wpAny (noDefer_spec hd) hL _ _ _ _ ?_)
  simp only [Region.lexTailB, Bool.and_eq_true, decide_eq_true_eq] at hB
  obtain ⟨⟨⟨⟨hsel, hn⟩, hs⟩, hc⟩, hlex⟩ := hB
  have hn' : k < os.length := by simpa using hn
  have htl : (os.take k).length = k := by simp; omega
  have hdl : (os.drop k).length = os.toArray.size - k := by simp
  have inv0 : HeadInv .any os.toArray k (Array.replicate os.toArray.size false) :=
    ⟨by simp, fun j oj _ hl => (by rw [getD_replicate_false] at hl; cases hl), fun t _ ht => getD_in (by simpa using ht) (getD_replicate_false _ _)⟩
  have H := wpAnyL_lex (md := .any) (g := os.toArray.size - k) hsel hs hc hn (os.take k) 0 _ a (fun j hj => by
    have hj' : j < k := by rw [htl] at hj; exact hj
    simp [hj']) (by simpa using htl) inv0 (by rw [htl]; exact hlex) h
  have := wpAny_of_head (Q' := Q) (g := os.toArray.size - k) (fun listed a' hl => by
    have := wpAny_of_seq (md := .any) (Q' := Q) (os.drop k) k listed a' w.drew (fun j => by simp [List.getElem?_drop]) (by rw [hdl]; exact hl.1) hl.2
    rwa [hdl] at this) _ _ _ H
  rw [htl, show k + (os.toArray.size - k) = os.toArray.size by omega] at this
  exact this
end Np
end Go.Proofs.YtohlhihhadbphaaGreatDoor

/- shapeOf: what it knows behind some candidates. -/
namespace Go.Proofs.YtohlhihhadbphaaGreatDoor
open Go.RowKit Go.Shelf Go.Lib Go.Maps
attribute [local go_sem] Oper.semAt_some
namespace Np
def miP (nms : List Name) (inn : Name → Bool) (pre : List Name) (x : Name) : Option Bool := if x ∈ nms ∧ x ∈ pre then some (inn x) else none
def mfP (nms : List Name) (sps : List ByteArray) (inn : Name → Bool) (pre : List Name) (s : ByteArray) : Option Bool := if hasS sps s = true ∧ fresh nms [] s ∈ pre then some (inn (fresh nms [] s)) else none
def wdP (nms : List Name) (sps : List ByteArray) (inn : Name → Bool) (pre : List Name) : Bool := decide (fresh nms [] (newS sps) ∈ pre) && inn (fresh nms [] (newS sps))
theorem cand_not {nms : List Name} {sps : List ByteArray} {y : Name} (hy : y ∈ candL nms [] sps) (hn : y ∉ nms) : y = fresh nms [] y.sp ∧ (hasS sps y.sp = false → y = fresh nms [] (newS sps)) := by
  simp only [candL, List.mem_append, List.mem_map, List.mem_singleton] at hy
  rcases hy with (hy | ⟨s, hs, rfl⟩) | rfl
  · exact absurd ((mem_asc linN).1 hy) hn
  · refine ⟨rfl, fun h => ?_⟩
    have : s ∈ sps := (mem_asc linS).1 hs
    exact absurd this (hasS_false.1 h)
  · exact ⟨rfl, fun _ => rfl⟩
theorem sh_in {nms : List Name} {sps : List ByteArray} {inn : Name → Bool} {pre : List Name} {y : Name} (hn : y ∈ nms) :
    (fun t => if t = y then some (inn y) else miP nms inn pre t) = miP nms inn (pre ++ [y]) ∧ mfP nms sps inn (pre ++ [y]) = mfP nms sps inn pre ∧ wdP nms sps inn (pre ++ [y]) = wdP nms sps inn pre := by
  have hf : ∀ s, fresh nms [] s ≠ y := fun s e => (fresh_spec nms [] s).1 (e ▸ hn)
  refine ⟨?_, ?_, ?_⟩
  · funext t
    by_cases e : t = y
    · subst e; simp [miP, hn]
    · simp [miP, e]
  · funext s; simp [mfP, hf]
  · simp [wdP, hf]
theorem sh_sp {nms : List Name} {sps : List ByteArray} {inn : Name → Bool} {pre : List Name} {y : Name} (hy : y = fresh nms [] y.sp) (hn : y ∉ nms) (hs : hasS sps y.sp = true) :
    (fun t => if t = y.sp then some (inn y) else mfP nms sps inn pre t) = mfP nms sps inn (pre ++ [y]) ∧ miP nms inn (pre ++ [y]) = miP nms inn pre ∧ wdP nms sps inn (pre ++ [y]) = wdP nms sps inn pre := by
  have hw : fresh nms [] (newS sps) ≠ y := fun e => by
    have : (fresh nms [] (newS sps)).sp = y.sp := by rw [e]
    have h2 : newS sps = y.sp := this
    exact newS_spec sps (by rw [h2]; exact hasS_iff.1 hs)
  refine ⟨?_, ?_, ?_⟩
  · funext t
    by_cases e : t = y.sp
    · subst e; simp [mfP, hs, ← hy]
    · have : fresh nms [] t ≠ y := fun e' => e (by have := congrArg Name.sp e'; exact this)
      simp [mfP, e, this]
  · funext t
    by_cases e : t = y
    · subst e; simp [miP, hn]
    · simp [miP, e]
  · simp [wdP, hw]
theorem sh_wide {nms : List Name} {sps : List ByteArray} {inn : Name → Bool} {pre : List Name} {y : Name} (hy : y = fresh nms [] (newS sps)) (hn : y ∉ nms) (hs : hasS sps y.sp = false) :
    mfP nms sps inn (pre ++ [y]) = mfP nms sps inn pre ∧ miP nms inn (pre ++ [y]) = miP nms inn pre ∧ wdP nms sps inn (pre ++ [y]) = inn y := by
  refine ⟨?_, ?_, ?_⟩
  · funext t
    by_cases e : hasS sps t = true
    · have : fresh nms [] t ≠ y := fun e' => by
        have h2 : t = y.sp := congrArg Name.sp e'
        rw [h2, hs] at e; cases e
      simp [mfP, this]
    · simp [mfP, e]
  · funext t
    by_cases e : t = y
    · subst e; simp [miP, hn]
    · simp [miP, e]
  · rw [wdP, ← hy]; simp
/-- Behind all candidates. -/
theorem sh_done {nms : List Name} {sps : List ByteArray} {inn : Name → Bool} {C : List Name} (hC : C = candL nms [] sps) : (∀ x : Name, (miP nms inn C x).isSome = true ↔ x ∈ nms) ∧ (∀ x ∈ nms, (miP nms inn C x).getD false = inn x) ∧ (∀ s, (mfP nms sps inn C s).isSome = true ↔ s ∈ sps) ∧ (∀ s ∈ sps, (mfP nms sps inn C s).getD false = inn (fresh nms [] s)) ∧ wdP nms sps inn C = inn (fresh nms [] (newS sps)) := by
  have h1 : ∀ x ∈ nms, x ∈ C := fun x hx => by rw [hC]; simp [candL, (mem_asc linN).2 hx]
  have h2 : ∀ s, hasS sps s = true → fresh nms [] s ∈ C := fun s hs => by
    rw [hC]; simp only [candL, List.mem_append, List.mem_map]
    exact .inl (.inr ⟨s, (mem_asc linS).2 (hasS_iff.1 hs), rfl⟩)
  have h3 : fresh nms [] (newS sps) ∈ C := by rw [hC]; simp [candL]
  refine ⟨fun x => ?_, fun x hx => ?_, fun s => ?_, fun s hs => ?_, ?_⟩
  · unfold miP
    by_cases e : x ∈ nms
    · simp [e, h1 x e]
    · simp [e]
  · simp [miP, hx, h1 x hx]
  · unfold mfP
    by_cases e : hasS sps s = true
    · simp [e, h2 s e, hasS_iff.1 e]
    · have : s ∉ sps := fun h => e (hasS_iff.2 h)
      simp [e, this]
  · have e := hasS_iff.2 hs
    simp [mfP, e, h2 s e]
  · simp [wdP, h3]
structure ShSt (w : World) (g : Nat) (lb : Array Value) (b1 b2 : Nat) (nms : List Name) (sps : List ByteArray) (inn : Name → Bool) (pre : List Name) (W : World) : Prop where
  below : Below w.heap.size w W
  box : Blk W w.heap.size #[.map (some b1), .map (some b2)] 76
  fn : Blk W (w.heap.size + 1) #[.func (.func g) #[] lb] 49
  res : Blk W (w.heap.size + 2) #[.map none, .map none, .bool false] 93
  sh : Blk W (w.heap.size + 5) #[.map (some (w.heap.size + 3)), .map (some (w.heap.size + 4)), .bool (wdP nms sps inn pre)] 93
  mi : NMap W (w.heap.size + 3) pre.length (miP nms inn pre)
  mf : SMap W (w.heap.size + 4) pre.length (mfP nms sps inn pre)
  m1 : NMap W b1 1000000 (mN nms)
  m2 : SMap W b2 1000000 (mS sps)
theorem ShSt.kept {w : World} {g : Nat} {lb : Array Value} {b1 b2 : Nat} {nms : List Name} {sps : List ByteArray} {inn : Name → Bool} {pre : List Name} {W W' : World} {row : Option Nat} {B : Nat} (hb1 : b1 < w.heap.size) (hb2 : b2 < w.heap.size) (h : ShSt w g lb b1 b2 nms sps inn pre W) (hg : W.grownBy W' row) (hr : ∀ r, row = some r → B ≤ r) (hB : w.heap.size + 6 ≤ B) : ShSt w g lb b1 b2 nms sps inn pre W' where
  below := ⟨hg.os.trans h.below.os, hg.tape.trans h.below.tape, hg.output.trans h.below.output, Nat.le_trans h.below.size hg.size, fun k hk => (hg.block k (Nat.lt_of_lt_of_le hk h.below.size) (fun e => by have := hr k e.symm; omega)).trans (h.below.block k hk)⟩
  box := h.box.kept hg (fun e => by have := hr _ e.symm; omega)
  fn := h.fn.kept hg (fun e => by have := hr _ e.symm; omega)
  res := h.res.kept hg (fun e => by have := hr _ e.symm; omega)
  sh := h.sh.kept hg (fun e => by have := hr _ e.symm; omega)
  mi := BMap.kept h.mi hg (fun e => by have := hr _ e.symm; omega)
  mf := BMap.kept h.mf hg (fun e => by have := hr _ e.symm; omega)
  m1 := BMap.kept h.m1 hg (fun e => by have := hr _ e.symm; omega)
  m2 := BMap.kept h.m2 hg (fun e => by have := hr _ e.symm; omega)
end Np
end Go.Proofs.YtohlhihhadbphaaGreatDoor
