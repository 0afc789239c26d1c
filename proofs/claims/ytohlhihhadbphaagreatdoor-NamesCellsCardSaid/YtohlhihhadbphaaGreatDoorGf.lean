/- Names: T U V. -/
import Derived.Test.YtohlhihhadbphaaGreatDoorGe
set_option linter.unusedSimpArgs false
set_option linter.unusedVariables false
/- The candidates: the iterator as a contract: the walk. -/
namespace Go.Proofs.YtohlhihhadbphaaGreatDoor
open Go.RowKit Go.Shelf Go.Lib
attribute [local go_sem] Oper.semAt_some
namespace Np
theorem newS_ok {sps : List ByteArray} (h : sps.length ≤ 1000000) : okS (newS sps) := by
  obtain ⟨j, hj, hf⟩ := newS_free sps
  obtain ⟨_, _, c, _⟩ := ff_spec (takenS sps) sps.length 0 j (Nat.zero_le _) (by omega) hf
  exact big21 (word_size uS _ (by decide) (by omega))
def encCd (x : Name) : Array Value := #[x.val]
set_option maxRecDepth 100000 in
set_option maxHeartbeats 8000000 in
theorem cand_in (n l Bm Ba b1 b2 B0 B : Nat) (mo : Option Nat) (nms av : List Name) (sps : List ByteArray) (hN : nms.length + av.length ≤ 1000000) (hS : sps.length ≤ 1000000) (hfit : ∀ x ∈ nms, x.fit) (hok : ∀ x ∈ sps, okS x)
    (L : List Name) (hL : L = asc cmpN nms ++ (asc cmpS sps).map (fun s => fresh nms av s) ++ [fresh nms av (newS sps)]) (hlen : (asc cmpN nms).length ≤ 1000000 ∧ (asc cmpS sps).length ≤ 1000000) (J Jx : List Name → World → Prop) (hJa : AbidesFrom B J)
    (hY : ∀ pre x W, x ∈ L → J pre W → pre.length < L.length → YieldAt Fence.wide (n - 1) Tryz.prog l (encCd x) W fun e W' =>
      (e = .returned (.bool true) ∧ J (pre ++ [x]) W' ∧ KpC (csK Bm Ba b1 b2 mo) B0 W W') ∨ (e = .returned (.bool false) ∧ Jx (pre ++ [x]) W'))
    (W : World) (hB0 : B0 ≤ W.heap.size) (hC : Cs Bm Ba b1 b2 mo nms sps av W) (hB : B ≤ W.heap.size) (h0 : J [] W) :
    CallsIn Fence.wide n Tryz.prog 88 #[.func (.yield l) #[] #[], .pointer (some ⟨Bm, 0, none⟩), .pointer (some ⟨Ba, 0, none⟩)] W fun e W' => (∃ v, e = .returned v) ∧
      ((∃ ys, ys = L ∧ J ys W') ∨ (∃ pre, pre <+: L ∧ Jx pre W')) := by
  have hdd : ∀ k : Nat, (Fence.wide.depth.isSome = true → 1 ≤ k) := fun k h => by cases h
  obtain ⟨LN, hLN⟩ : ∃ LN, asc cmpN nms = LN := ⟨_, rfl⟩
  obtain ⟨LS, hLS⟩ : ∃ LS, asc cmpS sps = LS := ⟨_, rfl⟩
  have HSm : Hid (∀ j (h : j < LS.length), okS LS[j]) := Lib.hid (fun j h => hok _ ((mem_asc linS).1 (by rw [hLS]; exact List.getElem_mem h)))
  rw [hLN, hLS] at hL hlen
  have q1 := hC.bm.cell 0
  have q2 := hC.bm.cell 1
  simp only [List.getElem?_toArray, List.getElem?_cons_zero, List.getElem?_cons_succ] at q1 q2
  have hk1 := keysN_any (some b1) W
  refine callsIn_of_wp Tryz.func88 rfl trivial ?_ rfl
  simp only [Tryz.ntmps88, List.size_toArray, List.length_cons, List.length_nil, Nat.reduceAdd, Nat.reduceSub, Array.replicate_succ, Array.replicate_zero, List.push_toArray, List.append_toArray, List.nil_append, List.cons_append]
  gi_wp2
  refine ⟨trivial, hdd _, (callsIn_wide.2 hk1).mono ?_⟩
  clear hk1
  rintro e W1 ⟨rfl, hW1⟩
  have hb1 : Below W.heap.size W W1 := by rw [hW1]; exact (Below.refl _ _).alloc (Nat.le_refl _) _
  have hx1 : W1.cell? ⟨W.heap.size, 0, none⟩ = some (.map (some b1)) := by rw [hW1]; exact (Blk.new W #[.map (some b1)] 71).cell 0
  have hs1 : W.heap.size < W1.heap.size := by rw [hW1]; simp
  clear hW1
  have hC1 := hC.later hb1
  have hso := sortedN_any W.heap.size b1 1000000 nms hfit (Nat.le_refl _) W1 hs1 hx1 hC1.m1
  rw [hLN] at hso
  gi_wp2
  refine ⟨trivial, hdd _, (callsIn_wide.2 hso).mono ?_⟩
  clear hso
  rintro e W2 ⟨v, rfl, hrow, hb2⟩
  obtain ⟨a, cap, rfl, hR⟩ := rowN_of (Nat.le_trans hB0 hb1.size) hrow
  have hC2 := hC1.later hb2
  have hJ2 : J (L.take 0) W2 := abides_below hJa (abides_below hJa h0 hb1) hb2 |> fun h => by simpa using h
  have hsz2 : W.heap.size ≤ W2.heap.size := Nat.le_trans hb1.size hb2.size
  have HL1 : Hid (∀ j (h : j < LN.length), LN[j] ∈ L ∧ L.take (j + 1) = L.take j ++ [LN[j]] ∧ j < L.length) := Lib.hid (fun j h => by
    have hl : j < L.length := by rw [hL]; simp; omega
    have e : L[j] = LN[j] := by simp only [hL, List.append_assoc]; rw [List.getElem_append_left h]
    exact ⟨by rw [← e]; exact List.getElem_mem hl, by rw [List.take_succ_eq_append_getElem hl, e], hl⟩)
  have HL := Lib.hid hL
  have hn1 := hlen.1
  clear hrow hC1 hL hb1 hx1 hs1 h0 q1 q2
  gi_wp2
  gi_loopw [13] (fun i wr => ∃ j : Nat, j ≤ LN.length ∧ i = .int .i64 j ∧ J (L.take j) wr ∧ KpC (csK Bm Ba b1 b2 mo) B0 W2 wr) (fun i _ => LN.length - (intOf i).toNat)
  case atStart => exact ⟨0, by omega, rfl, hJ2, KpC.refl _ _ _⟩
  case round =>
    obtain ⟨j, hj, rfl, hJj, hkj⟩ := hrel
    by_cases hlt : j < LN.length
    · obtain ⟨g, rfl, u0, u1⟩ := (hR.keep hkj).at hlt
      obtain ⟨x, hx⟩ : ∃ x, LN[j] = x := ⟨_, rfl⟩
      obtain ⟨hmem, htk, hjl⟩ := HL1.out j hlt
      rw [hx] at u0 u1 hmem htk
      have hCj := hC2.keep hkj
      have hbj : Below wr.heap.size wr (wr.alloc (.cells #[.string x.sp, .string x.lc] 23)) := (Below.refl _ _).alloc (Nat.le_refl _) _
      have hkk : KpC (csK Bm Ba b1 b2 mo) B0 wr _ := hCj.kp hbj
      have htl : (L.take j).length = j := by rw [List.length_take]; omega
      obtain ⟨fn, tmps, assign, body, hy, hRy⟩ := hY (L.take j) x _ hmem (abides_below hJa hJj hbj) (by omega)
      simp only [encCd, Name.val] at hy
      have Htk := Lib.hid htk
      clear htk hbj hx
      gi_wp2_with ((try refine ⟨hdd _, ?_⟩); refine hRy.mono ?_)
      clear hRy
      rintro e w3 (⟨rfl, hJ3, hk3⟩ | ⟨rfl, hx3⟩)
      · gi_wp2
        go_roundw
        case rel =>
          have hr : ∃ j' : Nat, j' ≤ LN.length ∧ Value.int .i64 ((j : Int) + 1) = .int .i64 j' ∧ J (L.take j') w3 ∧ KpC (csK Bm Ba b1 b2 mo) B0 W2 w3 := ⟨j + 1, by omega, by go_num, by rw [Htk.out]; exact hJ3, hkj.trans (hkk.trans hk3)⟩
          first
            | exact hr
            | ((repeat apply Exists.intro); exact ⟨hr, rfl⟩)
        case measure =>
          have e3 : ((j : Int) + 1).toNat = j + 1 := by omega
          simp only [intOf, e3, Int.toNat_natCast]
          omega
      · gi_wp2
        refine bodyPost_ret (results_none rfl _ _ _) rfl ?_
        exact ⟨⟨_, rfl⟩, .inr ⟨_, by rw [← Htk.out]; exact List.take_prefix _ _, hx3⟩⟩
    · obtain rfl : j = LN.length := by omega
      have hCj := hC2.keep hkj
      obtain ⟨w4, hw4⟩ : ∃ w4, wr = w4 := ⟨_, rfl⟩
      rw [hw4] at hJj hkj hCj
      have q2 := hCj.bm.cell 1
      simp only [List.getElem?_toArray, List.getElem?_cons_zero, List.getElem?_cons_succ] at q2
      have hb4 : Below w4.heap.size w4 (w4.alloc (.cells #[.map (some b2)] 74)) := (Below.refl _ _).alloc (Nat.le_refl _) _
      have hks := (callsIn_wide (n := n - 1)).2 (callsIn_wide.1 (keysS_any (some b2) w4))
      have hso := (callsIn_wide (n := n - 1)).2 (callsIn_wide.1 (sortedS_any b2 1000000 sps hok (Nat.le_refl _) w4 hCj.m2))
      rw [hLS] at hso
      have hB04 : B0 ≤ w4.heap.size := Nat.le_trans (Nat.le_trans hB0 hsz2) hkj.size
      subst hw4
      gi_wp2
      refine ⟨trivial, hdd _, hks.mono ?_⟩
      clear hks
      rintro e w5 ⟨rfl, rfl⟩
      gi_wp2
      refine ⟨trivial, hdd _, hso.mono ?_⟩
      clear hso
      rintro e w6 ⟨v, rfl, hrow, hb6⟩
      obtain ⟨a2, cap2, rfl, hRS⟩ := rowS_of (B0 := B0) (by omega) hrow
      have hC6 := (hCj.later hb4).later hb6
      have hk6 : KpC (csK Bm Ba b1 b2 mo) B0 W2 w6 := (hkj.trans (hCj.kp hb4)).trans ((hCj.later hb4).kp hb6)
      have hJ6 : J (L.take (LN.length + 0)) w6 := abides_below hJa (abides_below hJa hJj hb4) hb6
      have HL2 : Hid (∀ j (h : j < LS.length), fresh nms av LS[j] ∈ L ∧ L.take (LN.length + (j + 1)) = L.take (LN.length + j) ++ [fresh nms av LS[j]] ∧ LN.length + j < L.length) := Lib.hid (fun j h => by
        have hl : LN.length + j < L.length := by rw [HL.out]; simp; omega
        have e : L[LN.length + j] = fresh nms av LS[j] := by
          simp only [HL.out, List.append_assoc]
          rw [List.getElem_append_right (by omega), List.getElem_append_left (by simp; omega)]
          simp
        exact ⟨by rw [← e]; exact List.getElem_mem hl, by rw [← Nat.add_assoc, List.take_succ_eq_append_getElem hl, e], hl⟩)
      have hn2 := hlen.2
      clear hrow hb4 hb6 hJj q2
      gi_wp2
      gi_loopw [27] (fun i wr' => ∃ j : Nat, j ≤ LS.length ∧ i = .int .i64 j ∧ J (L.take (LN.length + j)) wr' ∧ KpC (csK Bm Ba b1 b2 mo) B0 w6 wr') (fun i _ => LS.length - (intOf i).toNat)
      case atStart => exact ⟨0, by omega, rfl, hJ6, KpC.refl _ _ _⟩
      case round =>
        obtain ⟨j, hj, rfl, hJj, hkj2⟩ := hrel
        have hCq := hC6.keep hkj2
        have m0 := hCq.bm.cell 0
        have m1 := hCq.bm.cell 1
        have m2 := hCq.ba.cell 0
        simp only [List.getElem?_toArray, List.getElem?_cons_zero, List.getElem?_cons_succ] at m0 m1 m2
        by_cases hlt : j < LS.length
        · obtain ⟨g, rfl, u0⟩ := (hRS.keep hkj2).at hlt
          have hsm := HSm.out j hlt
          obtain ⟨x, hx⟩ : ∃ x, LS[j] = x := ⟨_, rfl⟩
          obtain ⟨hmem, htk, hjl⟩ := HL2.out j hlt
          rw [hx] at u0 hmem htk hsm
          have hfr := (callsIn_wide (n := n - 1)).2 (fresh_any x b1 b2 _ mo nms av hsm hN _ hCq.g hCq.m1 hCq.av)
          have htl : (L.take (LN.length + j)).length = LN.length + j := by rw [List.length_take]; omega
          have Htk := Lib.hid htk
          clear htk hx hsm
          gi_wp2
          refine ⟨trivial, hdd _, hfr.mono ?_⟩
          clear hfr
          rintro e w7 ⟨rfl, hb7⟩
          obtain ⟨fn, tmps, assign, body, hy, hRy⟩ := hY (L.take (LN.length + j)) (fresh nms av x) w7 hmem (abides_below hJa hJj hb7) (by omega)
          have hk7 : KpC (csK Bm Ba b1 b2 mo) B0 w6 w7 := hkj2.trans (hCq.kp hb7)
          simp only [encCd] at hy
          gi_wp2_with ((try refine ⟨hdd _, ?_⟩); refine hRy.mono ?_)
          clear hRy
          rintro e w3 (⟨rfl, hJ3, hk3⟩ | ⟨rfl, hx3⟩)
          · gi_wp2
            go_roundw
            case rel =>
              have hr : ∃ j' : Nat, j' ≤ LS.length ∧ Value.int .i64 ((j : Int) + 1) = .int .i64 j' ∧ J (L.take (LN.length + j')) w3 ∧ KpC (csK Bm Ba b1 b2 mo) B0 w6 w3 := ⟨j + 1, by omega, by go_num, by rw [Htk.out]; exact hJ3, hk7.trans hk3⟩
              first
                | exact hr
                | ((repeat apply Exists.intro); exact ⟨hr, rfl⟩)
            case measure =>
              have e3 : ((j : Int) + 1).toNat = j + 1 := by omega
              simp only [intOf, e3, Int.toNat_natCast]
              omega
          · gi_wp2
            refine bodyPost_ret (results_none rfl _ _ _) rfl ?_
            exact ⟨⟨_, rfl⟩, .inr ⟨_, by rw [← Htk.out]; exact List.take_prefix _ _, hx3⟩⟩
        · obtain rfl : j = LS.length := by omega
          have hbd : Below wr.heap.size wr wr.drew := ⟨rfl, rfl, rfl, Nat.le_refl _, fun _ _ => rfl⟩
          have hCd := hCq.later hbd
          have hJd := abides_below hJa hJj hbd
          have hns := (callsIn_wide (n := n - 1)).2 (newSpace_any b1 b2 1000000 sps hS _ hCd.g hCd.m2)
          have hok' := newS_ok hS
          have hll : LN.length + LS.length < L.length ∧ fresh nms av (newS sps) ∈ L ∧ L.take (LN.length + LS.length) ++ [fresh nms av (newS sps)] = L := by
            have e : L = (LN ++ LS.map (fun s => fresh nms av s)) ++ [fresh nms av (newS sps)] := HL.out
            refine ⟨by rw [e]; simp, by rw [e]; simp, ?_⟩
            rw [e, List.take_append_of_le_length (by simp), List.take_of_length_le (by simp)]
          have htl : (L.take (LN.length + LS.length)).length = LN.length + LS.length := by rw [List.length_take]; omega
          have Hll := Lib.hid hll.2.2
          have hl1 := hll.1
          have hl2 := hll.2.1
          clear hll hbd
          gi_wp2
          gi_region_with (first
            | (refine ⟨trivial, hdd _, hns.mono ?_⟩
               rintro e wa ⟨rfl, hba⟩
               have hCa := hCd.later hba
               have hJ1 := abides_below hJa hJd hba
               have c0 := hCa.bm.cell 0
               have c1 := hCa.bm.cell 1
               have c2 := hCa.ba.cell 0
               simp only [List.getElem?_toArray, List.getElem?_cons_zero, List.getElem?_cons_succ] at c0 c1 c2
               have hfr := (callsIn_wide (n := n - 1)).2 (fresh_any (newS sps) b1 b2 _ mo nms av hok' hN _ hCa.g hCa.m1 hCa.av))
            | (refine ⟨trivial, hdd _, hfr.mono ?_⟩
               rintro e wb ⟨rfl, hbb⟩
               obtain ⟨fn, tmps, assign, body, hy, hRy⟩ := hY (L.take (LN.length + LS.length)) (fresh nms av (newS sps)) wb hl2 (abides_below hJa hJ1 hbb) (by omega)
               simp only [encCd] at hy)
            | ((try refine ⟨hdd _, ?_⟩)
               refine hRy.mono ?_
               intro e wc hpost
               obtain ⟨v, rfl, hres⟩ : ∃ v, e = .returned v ∧ (J L wc ∨ Jx L wc) := by
                 rcases hpost with ⟨he, hJ9, _⟩ | ⟨he, hJ9⟩
                 · exact ⟨_, he, .inl (by rw [Hll.out] at hJ9; exact hJ9)⟩
                 · exact ⟨_, he, .inr (by rw [Hll.out] at hJ9; exact hJ9)⟩))
          all_goals
            gi_wp2
            go_end0
            exact ⟨⟨_, rfl⟩, hres.elim (fun h => .inl ⟨_, rfl, h⟩) (fun h => .inr ⟨_, List.prefix_rfl, h⟩)⟩
end Np
end Go.Proofs.YtohlhihhadbphaaGreatDoor

/- never: is no candidate wanted? -/
namespace Go.Proofs.YtohlhihhadbphaaGreatDoor
open Go.RowKit Go.Shelf Go.Lib
attribute [local go_sem] Oper.semAt_some
namespace Np
theorem put_length {α : Type} (cf : α → α → Int) (x : α) : ∀ l : List α, (put cf x l).length ≤ l.length + 1
  | [] => by simp [put]
  | a :: r => by
    have := put_length cf x r
    unfold put
    split
    · simp only [List.length_cons]; omega
    · split <;> simp only [List.length_cons] <;> omega
theorem asc_length {α : Type} (cf : α → α → Int) (l : List α) : (asc cf l).length ≤ l.length := by
  have : ∀ (l m : List α), (l.foldl (fun m x => put cf x m) m).length ≤ l.length + m.length := by
    intro l
    induction l with
    | nil => intro m; simp
    | cons a r ih => intro m; have h1 := ih (put cf a m); have h2 := put_length cf a m; simp only [List.foldl_cons, List.length_cons]; omega
  simpa [asc] using this l []
/-- The candidates of what is mentioned. -/
def candL (nms av : List Name) (sps : List ByteArray) : List Name := asc cmpN nms ++ (asc cmpS sps).map (fun s => fresh nms av s) ++ [fresh nms av (newS sps)]
theorem fresh_fit {nms av : List Name} {s : ByteArray} (hN : nms.length + av.length ≤ 1000000) (hs : okS s) : (fresh nms av s).fit := by
  obtain ⟨j, hj, hf⟩ := fresh_free nms av s
  obtain ⟨_, _, c, _⟩ := ff_spec (takenN nms av s) (nms.length + av.length) 0 j (Nat.zero_le _) (by omega) hf
  exact ⟨hs, big21 (word_size xS _ (by decide) (by omega))⟩
theorem candL_fit {nms av : List Name} {sps : List ByteArray} (hN : nms.length + av.length ≤ 1000000) (hS : sps.length ≤ 1000000) (h1 : ∀ x ∈ nms, x.fit) (h2 : ∀ s ∈ sps, okS s) : ∀ x ∈ candL nms av sps, x.fit := by
  intro x hx
  simp only [candL, List.mem_append, List.mem_map, List.mem_singleton] at hx
  rcases hx with (hx | ⟨s, hs, rfl⟩) | rfl
  · exact h1 x ((mem_asc linN).1 hx)
  · exact fresh_fit hN (h2 s ((mem_asc linS).1 hs))
  · exact fresh_fit hN (newS_ok hS)
theorem nmsOf_len (P : List (CT × Nat)) : (nmsOf P).length ≤ P.length := List.length_filterMap_le _ _
theorem spsOf_len (P : List (CT × Nat)) : (spsOf P).length ≤ P.length := List.length_filterMap_le _ _
theorem partsL_mem {l : List CT} {d : Nat} {x : CT × Nat} (h : x ∈ CT.partsL l d) : ∃ u ∈ l, x ∈ u.parts d := by
  induction l with
  | nil => simp [CT.partsL] at h
  | cons a r ih =>
    rw [CT.partsL, List.mem_append] at h
    rcases h with h | h
    · exact ⟨a, by simp, h⟩
    · obtain ⟨u, hu, hx⟩ := ih h
      exact ⟨u, by simp [hu], hx⟩
theorem LIn.part {W : World} {n : Nat} {a : Option Addr} {l : List CT} (h : LIn W n a l) {x : CT × Nat} (hx : x ∈ CT.partsL l 1) : x.1.In W n := by
  obtain ⟨u, hu, hx⟩ := partsL_mem hx
  exact (h.ins u hu).parts 1 x hx
theorem nmOf_er (t : CT) : nmOf t.er = if t.kind = 1 then some t.name else none := by cases t; rfl
theorem spOf_er (t : CT) : spOf t.er = if t.kind = 1 then some t.name.sp else if t.kind = 2 then some t.space else none := by cases t; rfl
theorem nmsOf_fit {W : World} {n : Nat} {a : Option Addr} {l : List CT} (h : LIn W n a l) : ∀ x ∈ nmsOf (CT.partsL l 1), x.fit := by
  intro x hx
  obtain ⟨y, hy, he⟩ := List.mem_filterMap.1 hx
  have := CT.in_iff.1 (h.part hy)
  rw [nmOf_er] at he
  split at he
  · injection he with he; rw [← he]; exact this.1
  · cases he
theorem spsOf_ok {W : World} {n : Nat} {a : Option Addr} {l : List CT} (h : LIn W n a l) : ∀ x ∈ spsOf (CT.partsL l 1), okS x := by
  intro x hx
  obtain ⟨y, hy, he⟩ := List.mem_filterMap.1 hx
  have := CT.in_iff.1 (h.part hy)
  rw [spOf_er] at he
  split at he
  · injection he with he; rw [← he]; exact this.1.1
  · split at he
    · injection he with he; rw [← he]; exact this.2.1
    · cases he
/-- The candidates, each known to be one. -/
abbrev CN (L : List Name) := { x : Name // x ∈ L }
abbrev cvals {L : List Name} (l : List (CN L)) : List Name := l.map Subtype.val
def encCN {L : List Name} (x : CN L) : Array Value := encCd x.1
theorem cand_stops (n Bm Ba b1 b2 B0 : Nat) (mo : Option Nat) (nms av : List Name) (sps : List ByteArray) (hN : nms.length + av.length ≤ 1000000) (hS : sps.length ≤ 1000000) (hfit : ∀ x ∈ nms, x.fit) (hok : ∀ x ∈ sps, okS x)
    (L : List Name) (hL : L = candL nms av sps) (w : World) (hB0 : B0 ≤ w.heap.size) (hC : Cs Bm Ba b1 b2 mo nms sps av w) :
    SeqStopsK Fence.wide n Tryz.prog 88 #[.pointer (some ⟨Bm, 0, none⟩), .pointer (some ⟨Ba, 0, none⟩)] (encCN (L := L)) (KpC (csK Bm Ba b1 b2 mo) B0)
      (fun ys => cvals ys = L) (fun pre => cvals pre <+: L) L.length w := fun l J Jx W hW hJ _ hY h0 => by
  have hC' : Cs Bm Ba b1 b2 mo nms sps av W := hC.later hW
  have hlen : (asc cmpN nms).length ≤ 1000000 ∧ (asc cmpS sps).length ≤ 1000000 := ⟨Nat.le_trans (asc_length _ _) (by omega), Nat.le_trans (asc_length _ _) hS⟩
  refine (cand_in n l Bm Ba b1 b2 B0 W.heap.size mo nms av sps hN hS hfit hok L hL hlen (fun pre W => ∃ p : List (CN L), cvals p = pre ∧ J p W) (fun pre W => ∃ p : List (CN L), cvals p = pre ∧ Jx p W) ?_ ?_ W (Nat.le_trans hB0 hW.size) hC' (Nat.le_refl _) ⟨[], rfl, h0⟩).mono ?_
  · rintro pre A B row ⟨p, hp, hs⟩ hg hr
    exact ⟨p, hp, hJ p A B row hs hg hr⟩
  · rintro pre x A hx ⟨p, rfl, hp⟩ hl
    obtain ⟨fn, tmps, assign, body, hy, hR⟩ := hY p ⟨x, hx⟩ A hp (by rw [List.length_map] at hl; exact hl)
    refine ⟨fn, tmps, assign, body, hy, hR.mono ?_⟩
    rintro e B (⟨he, h1, h2⟩ | ⟨he, h1⟩)
    · exact .inl ⟨he, ⟨_, by simp [cvals], h1⟩, h2⟩
    · exact .inr ⟨he, ⟨_, by simp [cvals], h1⟩⟩
  · rintro e B ⟨he, ⟨ys, rfl, p, hp, h1⟩ | ⟨pre, hpre, p, rfl, h1⟩⟩
    · exact ⟨he, .inl ⟨p, hp, h1⟩⟩
    · exact ⟨he, .inr ⟨p, hpre, h1⟩⟩
set_option maxHeartbeats 1000000 in
/-- m.candidates(avoided): the function value captures both. -/
theorem candidates_any (b1 b2 : Nat) (mo : Option Nat) (w : World) :
    Calls Tryz.prog 66 #[.agg #[.map (some b1), .map (some b2)], .map mo] w fun e w' => e = .returned (.func (.func 88) #[] #[.pointer (some ⟨w.heap.size, 0, none⟩), .pointer (some ⟨w.heap.size + 1, 0, none⟩)]) ∧
      w' = (w.alloc (.cells #[.map (some b1), .map (some b2)] 76)).alloc (.cells #[.map mo] 71) := by
  go_enter Tryz.func66, Tryz.ntmps66
  go_wp2
  go_ret
  exact ⟨rfl, rfl⟩
end Np
end Go.Proofs.YtohlhihhadbphaaGreatDoor

/- never: is no candidate wanted? -/
namespace Go.Proofs.YtohlhihhadbphaaGreatDoor
open Go.RowKit Go.Shelf Go.Lib
attribute [local go_sem] Oper.semAt_some
namespace Np
/-- A function value that says which names are wanted. -/
structure Wants (g : Nat) (lb : Array Value) (inn : Name → Bool) (w : World) : Prop where
  enters : ∀ args w, (callFunc g args).run Tryz.prog w = .ok (.enter g args) w
  says : ∀ (x : Name) W, x.fit → Below w.heap.size w W → Calls Tryz.prog g (#[x.val] ++ lb) W fun e W' => e = .returned (.bool (inn x)) ∧ Below W.heap.size W W'
theorem Wants.later {g : Nat} {lb : Array Value} {inn : Name → Bool} {w w' : World} (h : Wants g lb inn w) (hb : Below w.heap.size w w') : Wants g lb inn w' :=
  ⟨h.enters, fun x W hx hW => h.says x W hx (hb.trans (hW.mono hb.size))⟩
def nevB (inn : Name → Bool) (l : List Name) : Bool := l.all fun x => !inn x
/-- The candidates of some classes. -/
def candsOf (lst : List CT) (av : List Name) : List Name := candL (nmsOf (CT.partsL lst 1)) av (spsOf (CT.partsL lst 1))

theorem kpC_b {Bm Ba b1 b2 B0 B1 : Nat} {mo : Option Nat} {nms av : List Name} {sps : List ByteArray} {w : World} (h : Cs Bm Ba b1 b2 mo nms sps av w) (hB : w.heap.size ≤ B1) (W : World) (l : Nat) (o o' : Obj) (hl : B1 ≤ l) (ho : W.heap[l]? = some o) (hc : o.isCells = false) (hk : o.isWalk = false) : KpC (csK Bm Ba b1 b2 mo) B0 W (W.putObj l o') :=
  ⟨belowK_b (w := w) h.g.2 W l o o' (by omega) ho hc hk, fun k hk => World.putObj_heap_other (by have := h.lt k hk; omega), fun b c t fz hb hb' _ => (World.putObj_heap_other (fun e => by rw [e, ho] at hb'; cases hb'; cases hc)).trans hb'⟩
theorem mentioned_h (a : Option Addr) (c : Nat) (lst : List CT) (w : World) (hL : LIn w w.heap.size a lst) (hd : ∀ u ∈ lst, u.depth ≤ 1000) (hbig : (CT.partsL lst 1).length ≤ 1000000) :
    Calls Tryz.prog 65 #[.slice a lst.length c] w fun e w' => e = .returned (.agg #[.map (some (w.heap.size + 1)), .map (some (w.heap.size + 2))]) ∧ Hid (Below w.heap.size w w' ∧
      NMap w' (w.heap.size + 1) 1000000 (mN (nmsOf (CT.partsL lst 1))) ∧ SMap w' (w.heap.size + 2) 1000000 (mS (spsOf (CT.partsL lst 1)))) :=
  (mentioned_any a c lst w hL hd hbig).mono fun _ _ h => ⟨h.1, Lib.hid h.2⟩
set_option maxRecDepth 100000 in
set_option maxHeartbeats 4000000 in
theorem never_any (a : Option Addr) (c : Nat) (lst : List CT) (g : Nat) (lb : Array Value) (inn : Name → Bool) (w : World) (hG : G w) (hL : LIn w w.heap.size a lst) (hd : ∀ u ∈ lst, u.depth ≤ 1000) (hbig : chkL lst = 0 → (CT.partsL lst 1).length ≤ 1000000) (hW : Wants g lb inn w) :
    Calls Tryz.prog 59 #[.slice a lst.length c, .func (.func g) #[] lb] w fun e w' => e = .returned (.tuple #[.bool (decide (chkL lst = 0) && nevB inn (candsOf lst [])), .int .i64 (chkL lst)]) ∧ Below w.heap.size w w' := by
  have hdd : ∀ k : Nat, (Fence.wide.depth.isSome = true → 1 ≤ k) := fun k h => by cases h
  refine (callsIn_wide (n := 9)).1 ?_
  refine callsIn_of_wp_marks Tryz.func59 rfl trivial ?_ rfl
  simp only [Tryz.ntmps59, List.size_toArray, List.length_cons, List.length_nil, Nat.reduceAdd, Nat.reduceSub, Array.replicate_succ, Array.replicate_zero, List.push_toArray, List.append_toArray, List.nil_append, List.cons_append]
  obtain ⟨W0, hW0⟩ : ∃ W0, ((w.alloc (.cells #[.func (.func g) #[] lb] 49)).alloc (.cells #[.bool false] 4)).alloc (.cells #[.int .i64 0] 29) = W0 := ⟨_, rfl⟩
  have hb0 : Below w.heap.size w W0 := by rw [← hW0]; exact (((Below.refl _ w).alloc (Nat.le_refl _) _).alloc (by simp) _).alloc (by simp; omega) _
  have hsz0 : W0.heap.size = w.heap.size + 3 := by rw [← hW0]; simp
  have d0 : Boxed W0 w.heap.size 49 (.func (.func g) #[] lb) := by rw [← hW0]; exact ((Boxed.new _ _ _).alloc _).alloc _
  have b1 := Boxed.new (w.alloc (.cells #[.func (.func g) #[] lb] 49)) 4 (.bool false)
  have b2 := Boxed.new ((w.alloc (.cells #[.func (.func g) #[] lb] 49)).alloc (.cells #[.bool false] 4)) 29 (.int .i64 0)
  simp only [World.size_alloc, Nat.add_assoc, Nat.reduceAdd] at b1 b2
  have d1 : Boxed W0 (w.heap.size + 1) 4 (.bool false) := by rw [← hW0]; exact b1.alloc _
  have d2 : Boxed W0 (w.heap.size + 2) 29 (.int .i64 0) := by rw [← hW0]; exact b2
  clear b1 b2
  have hck := checkAll_any a c lst W0 (hL.below hb0 (Nat.le_refl _) |>.mono (by omega)) hd
  obtain ⟨r, hr⟩ : ∃ r, chkL lst = r := ⟨_, rfl⟩
  rw [hr] at hck hbig ⊢
  have Hr := Lib.hid hr
  clear hr
  gi_wp2
  refine ⟨trivial, (callsIn_wide.2 hck).mono ?_⟩
  clear hck
  rintro e W1 ⟨rfl, hb1⟩
  simp only [Nat.add_assoc, Nat.reduceAdd]
  have hB1 : Below w.heap.size w W1 := hb0.trans (hb1.mono hb0.size)
  have hs1 := hb1.size
  have d0 : Boxed W1 w.heap.size 49 (.func (.func g) #[] lb) := d0.kept (below_grown hb1) (by simp)
  have d1 : Boxed W1 (w.heap.size + 1) 4 (.bool false) := d1.kept (below_grown hb1) (by simp)
  have d2 : Boxed W1 (w.heap.size + 2) 29 (.int .i64 0) := d2.kept (below_grown hb1) (by simp)
  clear hW0
  by_cases h0 : r = 0
  · have Hb : Hid ((CT.partsL lst 1).length ≤ 1000000) := Lib.hid (hbig h0)
    have H0 := Lib.hid h0
    have hmt := mentioned_h a c lst W1 (hL.below hB1 (Nat.le_refl _) |>.mono (by omega)) hd Hb.out
    clear hbig
    subst h0
    gi_wp2
    refine ⟨trivial, (callsIn_wide.2 hmt).mono ?_⟩
    clear hmt
    rintro e W2 ⟨rfl, HM⟩
    obtain ⟨hb2, hm1, hm2⟩ := HM.out
    clear HM
    have hca := candidates_any (W1.heap.size + 1) (W1.heap.size + 2) none W2
    gi_wp2
    refine ⟨trivial, (callsIn_wide.2 hca).mono ?_⟩
    clear hca
    rintro e W3 ⟨rfl, hW3⟩
    have hb3 : Below W2.heap.size W2 W3 := by rw [hW3]; exact ((Below.refl _ _).alloc (Nat.le_refl _) _).alloc (by simp) _
    have hs2 := hb2.size
    have hs3 : W3.heap.size = W2.heap.size + 2 := by rw [hW3]; simp
    have hB3 : Below w.heap.size w W3 := (hB1.trans (hb2.mono (by omega))).trans (hb3.mono (by omega))
    have hCs : Cs W2.heap.size (W2.heap.size + 1) (W1.heap.size + 1) (W1.heap.size + 2) none (nmsOf (CT.partsL lst 1)) (spsOf (CT.partsL lst 1)) [] W3 := by
      refine ⟨hG.later hB3, ?_, ?_, BMap.kept hm1 (below_grown hb3) (by simp), BMap.kept hm2 (below_grown hb3) (by simp), rfl⟩
      · rw [hW3]; exact (Blk.new _ _ _).alloc _
      · rw [hW3]
        have := Blk.new (W2.alloc (.cells #[.map (some (W1.heap.size + 1)), .map (some (W1.heap.size + 2))] 76)) #[.map none] 71
        rw [World.size_alloc] at this; exact this
    have d0 := (d0.kept (below_grown hb2) (by simp)).kept (below_grown hb3) (by simp)
    have d1 := (d1.kept (below_grown hb2) (by simp)).kept (below_grown hb3) (by simp)
    have d2 := (d2.kept (below_grown hb2) (by simp)).kept (below_grown hb3) (by simp)
    have hn1 := Nat.le_trans (nmsOf_len (CT.partsL lst 1)) Hb.out
    have hn2 := Nat.le_trans (spsOf_len (CT.partsL lst 1)) Hb.out
    have hL1 := hL.below hB1 (Nat.le_refl _)
    clear hW3 hm1 hm2
    gi_wp2
    obtain ⟨C, hC⟩ : ∃ C, C = candsOf lst [] := ⟨_, rfl⟩
    have hCf : ∀ x ∈ C, x.fit := by rw [hC]; exact candL_fit (by simpa using hn1) hn2 (nmsOf_fit hL) (spsOf_ok hL)
    have hst := cand_stops 8 W2.heap.size (W2.heap.size + 1) (W1.heap.size + 1) (W1.heap.size + 2) W3.heap.size none _ [] _ (by simpa using hn1) hn2 (nmsOf_fit hL) (spsOf_ok hL) C hC W3 (Nat.le_refl _) hCs
    refine wpIn_rangeFunc_ownH rfl (by omega) (gf := 88) (lb := #[.pointer (some ⟨W2.heap.size, 0, none⟩), .pointer (some ⟨W2.heap.size + 1, 0, none⟩)]) rfl trivial (enters_of Tryz.func88 (by kernel_rfl) rfl)
      hst (fun h k => h.trans k) (kpC_b hCs (Nat.le_refl _)) (Below.refl _ _) (fun _ => rfl)
      (fun (pre : List (CN C)) W => (Boxed W w.heap.size 49 (.func (.func g) #[] lb) ∧ Boxed W (w.heap.size + 1) 4 (.bool false) ∧ Boxed W (w.heap.size + 2) 29 (.int .i64 0) ∧ ∀ x ∈ pre, inn x.1 = false) ∧ Gz w W3.heap.size W)
      (fun c (pre : List (CN C)) W => (Boxed W (w.heap.size + 1) 4 (.bool false) ∧ Boxed W (w.heap.size + 2) 29 (.int .i64 0) ∧ c = .ret ∧ ∃ x ∈ C, inn x = true) ∧ Gz w W3.heap.size W)
      (OwnFrom.and (Own.from (fun pre A B row hs hg hr => ⟨boxed_own _ _ (fun _ : Unit => Value.func (.func g) #[] lb) () A B row hs.1 hg hr, boxed_own _ _ (fun _ : Unit => Value.bool false) () A B row hs.2.1 hg hr, boxed_own _ _ (fun _ : Unit => Value.int .i64 0) () A B row hs.2.2.1 hg hr, hs.2.2.2⟩) _) (Gz.own (by omega)))
      (fun c => OwnFrom.and (Own.from (fun pre A B row hs hg hr => ⟨boxed_own _ _ (fun _ : Unit => Value.bool false) () A B row hs.1 hg hr, boxed_own _ _ (fun _ : Unit => Value.int .i64 0) () A B row hs.2.1 hg hr, hs.2.2⟩) _) (Gz.own (by omega)))
      ⟨⟨d0, d1, d2, by simp⟩, hB3, Nat.le_refl _⟩
      (fun x a' W => ∃ Bx, W3.heap.size ≤ Bx ∧ Blk W Bx #[.string x.1.sp, .string x.1.lc] 23 ∧ a' = { tmps := #[.slice a lst.length c, .func (.func g) #[] lb, undef, .pointer (some ⟨w.heap.size, 0, none⟩), .pointer (some ⟨w.heap.size + 1, 0, none⟩), .pointer (some ⟨w.heap.size + 2, 0, none⟩), .int .i64 0, .pointer (some ⟨Bx, 0, none⟩), .slice a lst.length c, .int .i64 0, .int .i64 0, .bool false, undef, .slice a lst.length c, .agg #[.map (some (W1.heap.size + 1)), .map (some (W1.heap.size + 2))], .func (.func 88) #[] #[.pointer (some ⟨W2.heap.size, 0, none⟩), .pointer (some ⟨W2.heap.size + 1, 0, none⟩)], .agg #[.string x.1.sp, .string x.1.lc], undef, undef, undef], defers := [] })
      (fun x a' => Own.from (fun _ A B row hs hg hr => by obtain ⟨Bx, h1, h2, h3⟩ := hs; exact ⟨Bx, h1, blk_own _ _ (fun _ : Unit => #[.string x.1.sp, .string x.1.lc]) () A B row h2 hg hr, h3⟩) _) ?assign ?body ?done ?stop
    case assign =>
      rintro l pre x W K ⟨⟨h1, h2, h3, h4⟩, hB, hN⟩ hK
      simp only [encCN, encCd, Name.val]
      gi_wp2
      have hbx : Below W.heap.size W (W.alloc (.cells #[.string x.1.sp, .string x.1.lc] 23)) := (Below.refl _ _).alloc (Nat.le_refl _) _
      exact hK _ _ ((KeepsOthers.alloc _ _).from _) (KpC.of_below (Nat.le_trans hCs.g.2 hN) (fun k hk => Nat.lt_of_lt_of_le (hCs.lt k hk) hN) hbx) ⟨⟨h1.alloc _, h2.alloc _, h3.alloc _, h4⟩, hB.alloc hB.size _, by simp; omega⟩ ⟨W.heap.size, hN, Blk.new _ _ _, rfl⟩
    case body =>
      rintro l pre x a' W hl ⟨r', hr'⟩ ⟨⟨h1, h2, h3, h4⟩, hB, hN⟩ ⟨Bx, hBx, bx, rfl⟩ hlt
      have c1 := h1.cell
      have n0 := bx.cell 0
      have n1 := bx.cell 1
      simp only [List.getElem?_toArray, List.getElem?_cons_zero, List.getElem?_cons_succ] at n0 n1
      have hws := hB.size
      have hwc := hW.says x.1 W (hCf x.1 x.2) hB
      obtain ⟨v, hv⟩ : ∃ v, inn x.1 = v := ⟨_, rfl⟩
      rw [hv] at hwc
      unfold Name.val at hwc
      have Hv := Lib.hid hv
      have eg := hW.enters
      clear hv
      gi_wp2
      refine ⟨trivial, (CallsIn.inRound l (callsIn_wide.2 hwc)).mono ?_⟩
      clear hwc
      rintro e w4 ⟨rfl, hb4⟩
      have k1 := h1.kept (below_grown hb4) (by simp)
      have k2 := h2.kept (below_grown hb4) (by simp)
      have k3 := h3.kept (below_grown hb4) (by simp)
      have kc2 := k2.cell
      have kf2 := k2.frozen
      have kc3 := k3.cell
      have kf3 := k3.frozen
      have hko : KeepsOthers W w4 := keepsOthers_below hb4
      have hs4 := hb4.size
      clear c1 n0 n1
      cases v
      · gi_wp2
        refine ⟨hko.from _, KpC.of_below (Nat.le_trans hCs.g.2 hN) (fun k hk => Nat.lt_of_lt_of_le (hCs.lt k hk) hN) hb4, ⟨k1, k2, k3, ?_⟩, hB.trans (hb4.mono hB.size), by omega⟩
        intro y hy
        rcases List.mem_append.1 hy with hy | hy
        · exact h4 y hy
        · rw [List.mem_singleton.1 hy]; exact Hv.out
      · gi_wp2
        exact ⟨((hko.trans (KeepsOthers.setCell _ _ _)).trans (KeepsOthers.setCell _ _ _)).from _, ⟨(k2.set (.bool false)).other (B' := w.heap.size + 2) (by omega) (.int .i64 0), (k3.other (B' := w.heap.size + 1) (by omega) (.bool false)).set (.int .i64 0), rfl, x.1, x.2, Hv.out⟩, ((hB.trans (hb4.mono hB.size)).setCell (p := ⟨w.heap.size + 1, 0, none⟩) (by simp) _).setCell (p := ⟨w.heap.size + 2, 0, none⟩) (by simp) _, by simp; omega⟩
    case done =>
      rintro D ys W hD hys ⟨⟨h1, h2, h3, h4⟩, hB, hN⟩ hK
      have Hn : Hid (nevB inn C = true) := Lib.hid (by
        unfold nevB
        rw [List.all_eq_true]
        intro x hx
        rw [← hys] at hx
        obtain ⟨y, hy, rfl⟩ := List.mem_map.1 hx
        rw [h4 y hy]; rfl)
      clear hys
      have kc2 := h2.cell
      have kf2 := h2.frozen
      have kc3 := h3.cell
      have kf3 := h3.frozen
      gi_wp2
      have m1 := (h2.set (.bool true)).other (B' := w.heap.size + 2) (by omega) (.int .i64 0)
      have m2 := (h3.other (B' := w.heap.size + 1) (by omega) (.bool true)).set (.int .i64 0)
      have hK' := ((KeepsOthers.setCell W ⟨w.heap.size + 1, 0, none⟩ (.bool true)).trans (KeepsOthers.setCell _ ⟨w.heap.size + 2, 0, none⟩ (.int .i64 0))).same D _ hK rfl
      have hB' := (hB.setCell (p := ⟨w.heap.size + 1, 0, none⟩) (by simp) (.bool true)).setCell (p := ⟨w.heap.size + 2, 0, none⟩) (by simp) (.int .i64 0)
      refine ⟨by simp, .inl ⟨_, _, rfl, run_takeDeferred hK', ?_⟩⟩
      have q1 := (boxed_putObj (o' := .deferred none) m1 hK' rfl).cell
      have q2 := (boxed_putObj (o' := .deferred none) m2 hK' rfl).cell
      refine ⟨.tuple #[.bool true, .int .i64 0], ?_, by rw [← hC, Hn.out], hB'.trans (belowK_b (w := w) (Nat.le_refl _) _ D _ _ (by omega) hK' rfl rfl)⟩
      simp [results, Tryz.f59, go_sem, q1, q2]
    case stop =>
      rintro D c pre W hD hpre ⟨⟨h1, h2, rfl, x, hx, hxi⟩, hB, hN⟩ hK
      have Hn : Hid (nevB inn C = false) := Lib.hid (by
        unfold nevB
        rw [List.all_eq_false]
        exact ⟨x, hx, by rw [hxi]; simp⟩)
      clear hpre hxi
      gi_wp2
      have q1 := (boxed_putObj (o' := .deferred none) h1 hK rfl).cell
      have q2 := (boxed_putObj (o' := .deferred none) h2 hK rfl).cell
      refine ⟨by simp, .inl ⟨_, _, rfl, run_takeDeferred hK, ?_⟩⟩
      refine ⟨.tuple #[.bool false, .int .i64 0], ?_, by rw [← hC, Hn.out], hB.trans (belowK_b (w := w) (Nat.le_refl _) _ D _ _ (by omega) hK rfl rfl)⟩
      simp [results, Tryz.f59, go_sem, q1, q2]
  · have hne : (r == 0) = false := by simpa using h0
    have c1 := d1.cell
    have c2 := d2.cell
    have f1 := d1.frozen
    have f2 := d2.frozen
    have H0 := Lib.hid h0
    clear hbig
    gi_wp2
    have q1 := ((d1.set (.bool false)).other (B' := w.heap.size + 2) (by omega) (.int .i64 r)).cell
    have q2 := ((d2.other (B' := w.heap.size + 1) (by omega) (.bool false)).set (.int .i64 r)).cell
    refine ⟨.tuple #[.bool false, .int .i64 r], by simp [results, Tryz.f59, go_sem, q1, q2], by rw [show decide (r = 0) = false from decide_eq_false H0.out]; rfl, (hB1.setCell (p := ⟨w.heap.size + 1, 0, none⟩) (by simp) _).setCell (p := ⟨w.heap.size + 2, 0, none⟩) (by simp) _⟩
end Np
end Go.Proofs.YtohlhihhadbphaaGreatDoor
