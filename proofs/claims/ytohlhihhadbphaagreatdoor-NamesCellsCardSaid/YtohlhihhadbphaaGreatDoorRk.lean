/- The reference of names: Candidates. -/
import Derived.Test.YtohlhihhadbphaaGreatDoorRj
set_option linter.unusedSimpArgs false
set_option linter.unusedVariables false
namespace Go.Proofs.YtohlhihhadbphaaGreatDoor
open Go.RowKit Go.Shelf Go.Lib Go.Maps
namespace Np
structure CndSt (W1 : World) (l : List Name) (v : Value) (W : World) : Prop where
  own : W.ownsRow W1.heap.size 23 2 v l.length (l.flatMap encN)
  bel : Below W1.heap.size W1 W
set_option maxRecDepth 100000 in
set_option maxHeartbeats 2000000 in
theorem rCandidates_any (a : Option Addr) (c : Nat) (lst : List CT) (A : Nat → Prop) (aa : Option Addr) (ca : Nat) (av : List Name) (w : World) (hL : LIn w w.heap.size a lst) (hd : nodL lst ≤ 100000) (hV : RwN A w aa av) (hA : ∀ b, A b → b < w.heap.size) (hal : av.length ≤ 1000) :
    Calls Tryz.prog 67 #[.slice a lst.length c, .slice aa av.length ca] w (RetRow 2 encN (fun _ => False) w (candsOf lst av)) := by
  have hMe := rMentioned_any a c lst w hL (by omega)
  have hl1 : (nmsOf (CT.partsL lst 1)).length ≤ 100000 := Nat.le_trans (nmsOf_len _) (by rw [partsL_len]; exact hd)
  have hl2 : (spsOf (CT.partsL lst 1)).length ≤ 100000 := Nat.le_trans (spsOf_len _) (by rw [partsL_len]; exact hd)
  have e1 := asc_length cmpN (nmsOf (CT.partsL lst 1))
  have e2 := asc_length cmpS (spsOf (CT.partsL lst 1))
  obtain ⟨nA, hnA⟩ : ∃ x, asc cmpN (nmsOf (CT.partsL lst 1)) = x := ⟨_, rfl⟩
  obtain ⟨sA, hsA⟩ : ∃ x, asc cmpS (spsOf (CT.partsL lst 1)) = x := ⟨_, rfl⟩
  rw [hnA] at e1 hMe
  rw [hsA] at e2 hMe
  have Hc : Hid (candsOf lst av = nA ++ sA.map (fun s => fresh nA av s) ++ [fresh nA av (newS sA)]) := Lib.hid (by
    unfold candsOf candL
    rw [← hnA, ← hsA, newS_asc]
    congr 1
    · congr 1
      exact List.map_congr_left (fun s _ => (fresh_asc _ _ _).symm)
    · rw [fresh_asc])
  obtain ⟨i0, hi0, hz0, hz1, hz2⟩ := info_parts infoN
  have hln : nA.length ≤ 100000 := by omega
  have hls : sA.length ≤ 100000 := by omega
  clear hnA hsA hl1 hl2 e1 e2
  go_enter Tryz.func67, Tryz.ntmps67
  go_wp2_with (go_at_call 83; refine hMe.mono ?_)
  rintro e W1 ⟨Bm, rfl, hM, hBm, hb1⟩
  clear hMe
  have hb1s := hb1.size
  have hV1 := hV.later hA hb1
  obtain ⟨a0, k0, a1, k1, BM, ⟨h0, h1⟩, ⟨h2, h3⟩, hRN, hRS⟩ := hM.ex
  have p0 := BM.cell 0
  simp only [List.getElem?_toArray, List.getElem?_cons_zero, List.getElem?_cons_succ] at p0
  have hMl := hM.lt
  have Hh0 := Lib.hid h1
  have Hh3 := Lib.hid h3
  clear h1 h3
  go_wp2_with (at_builtin; refine wpList_app encN_len encN_one rfl (.tmp 10) (.tmp 14) 39 rfl W1.heap.size 23 i0 (.agg #[.string ⟨#[]⟩, .string ⟨#[]⟩]) 32 Tryz.underlying39 hi0 hz0 hz1 hz2 rfl (by decide) (by decide) (.slice (some ⟨W1.heap.size, 0, none⟩) 0 0) rfl rfl [] nA rfl (owns_empty _ _ _ (Nat.le_refl _)) (hRN.keep (fun _ h => h) (fun b hb' => ((Below.refl W1.heap.size W1).alloc (by simp) _).block b hb'.2)) (by simp; omega) (by simp) ?_; intro v2 w2 hown2 hg2 hat2)
  have HC : CndSt W1 (nA ++ (sA.take 0).map (fun s => fresh nA av s)) v2 w2 := ⟨by simpa using hown2, ((Below.refl W1.heap.size W1).alloc (by simp) _).grown hg2 (by simp) (fun _ hg => empty_lt hg)⟩
  have HHC := Lib.hid HC
  clear hown2 hg2 hat2 HC p0
  go_loopw [6, 7] (fun v i wr => ∃ k : Nat, k ≤ sA.length ∧ i = .int .i64 k ∧ Hid (CndSt W1 (nA ++ (sA.take k).map (fun s => fresh nA av s)) v wr)) (fun _ i _ => sA.length - (intOf i).toNat)
  case atStart => exact ⟨0, by omega, rfl, HHC⟩
  case round =>
    obtain ⟨k, hk, rfl, HI⟩ := hrel
    have hb := HI.out.bel
    have hbs := hb.size
    have p1 := (hb.cell (p := ⟨Bm, 1, none⟩) hMl).trans (BM.cell 1)
    simp only [List.getElem?_toArray, List.getElem?_cons_zero, List.getElem?_cons_succ] at p1
    have hMr := hM.later hb
    have hVr := hV1.later (fun b h => by have := hA b h; omega) hb
    have hAr : ∀ b, A b → b < wr.heap.size := fun b h => by have := hA b h; omega
    by_cases hlt : k < sA.length
    · have d1 : decide ((k : Int) < (sA.length : Int)) = true := decide_eq_true (by omega)
      have d2 : decide (k < sA.length) = true := decide_eq_true hlt
      obtain ⟨b, o, hao, hbA, u0⟩ := rwS_at (hRS.keep (fun _ h => h) (fun b hb' => hb.block b hb'.2)) hlt
      obtain ⟨x, hx⟩ : ∃ x, sA[k] = x := ⟨_, rfl⟩
      rw [hx] at u0
      have hF := rFresh_any Bm nA sA x A aa ca av wr hMr hVr hAr (by omega)
      obtain ⟨fn, hfn⟩ : ∃ y, fresh nA av x = y := ⟨_, rfl⟩
      rw [hfn] at hF
      unfold Name.val at hF
      have Hu : Hid (nA ++ (sA.take (k + 1)).map (fun s => fresh nA av s) = (nA ++ (sA.take k).map (fun s => fresh nA av s)) ++ [fn]) := Lib.hid (by
        rw [List.take_succ_eq_append_getElem hlt, hx, List.map_append, List.map_singleton, hfn, List.append_assoc])
      rw [hao] at p1
      have Hao := Lib.hid hao
      clear hx hfn hao
      obtain ⟨L, hLe⟩ : ∃ L, nA ++ (sA.take k).map (fun s => fresh nA av s) = L := ⟨_, rfl⟩
      have hLl : L.length ≤ 200000 := by rw [← hLe]; simp; omega
      rw [hLe] at HI Hu
      clear hLe
      go_wp2_with (go_at_call 85; refine hF.mono ?_)
      rintro e w3 ⟨rfl, hb3⟩
      have hown3 := ownsRow_kept HI.out.own (below_grown hb3) (by rename_i v' _ _ _; cases Value.ownBlock _ <;> simp)
      have hb4 : Below W1.heap.size W1 w3 := hb.trans (hb3.mono hbs)
      have hb4s := hb4.size
      go_wp2_with (at_builtin; refine wpList_app encN_len encN_one rfl (.tmp 25) (.tmp 36) 39 rfl W1.heap.size 23 i0 (.agg #[.string ⟨#[]⟩, .string ⟨#[]⟩]) 32 Tryz.underlying39 hi0 hz0 hz1 hz2 rfl (by decide) (by decide) _ rfl rfl L [fn] rfl (hown3.alloc _) (Rw.one fn w3 _) (by simp; omega) (by simp; omega) ?_; intro v5 w5 hown5 hg5 hat5)
      have H2 : Hid (CndSt W1 (nA ++ (sA.take (k + 1)).map (fun s => fresh nA av s)) v5 w5) := Lib.hid (by
        rw [Hu.out]
        exact ⟨hown5, (hb4.alloc hb4s _).grown hg5 (by simp; omega) (own_lt hown3)⟩)
      clear hown5 hg5 hat5 hown3
      go_wp2
      go_roundw
      case rel =>
        first
          | exact ⟨k + 1, by omega, by go_num, H2⟩
          | ((repeat apply Exists.intro); exact ⟨⟨k + 1, by omega, by go_num, H2⟩, rfl⟩)
      case measure =>
        have e3 : ((k : Int) + 1).toNat = k + 1 := by omega
        simp only [intOf, e3, Int.toNat_natCast]
        omega
    · have d1 : decide ((k : Int) < (sA.length : Int)) = false := decide_eq_false (by omega)
      have d2 : decide (k < sA.length) = false := decide_eq_false hlt
      have hN := rNew_any Bm nA sA wr hMr (by omega)
      have hF := fun w3 (hb3 : Below wr.heap.size wr w3) => rFresh_any Bm nA sA (newS sA) A aa ca av w3 (hMr.later hb3) (hVr.later hAr hb3) (fun b h => Nat.lt_of_lt_of_le (hAr b h) hb3.size) (by omega)
      obtain ⟨fn, hfn⟩ : ∃ y, fresh nA av (newS sA) = y := ⟨_, rfl⟩
      simp only [hfn] at hF
      unfold Name.val at hF
      obtain ⟨L, hLe⟩ : ∃ L, nA ++ (sA.take k).map (fun s => fresh nA av s) = L := ⟨_, rfl⟩
      have hLl : L.length ≤ 200000 := by rw [← hLe]; simp; omega
      have Hu : Hid (candsOf lst av = L ++ [fn]) := Lib.hid (by rw [Hc.out, ← hLe, hfn, List.take_of_length_le (by omega)])
      obtain ⟨ns, hns⟩ : ∃ y, newS sA = y := ⟨_, rfl⟩
      rw [hns] at hN
      simp only [hns] at hF
      rw [hLe] at HI
      clear hLe hfn hns
      go_wp2_with (go_at_call 86; refine hN.mono ?_)
      rintro e w3 ⟨rfl, hb3⟩
      go_wp2_with (go_at_call 85; refine (hF w3 hb3).mono ?_)
      rintro e w4 ⟨rfl, hb4⟩
      have hb34 := hb3.trans (hb4.mono hb3.size)
      have hown3 := ownsRow_kept HI.out.own (below_grown hb34) (by cases Value.ownBlock _ <;> simp)
      have hb5 : Below W1.heap.size W1 w4 := hb.trans (hb34.mono hbs)
      have hb5s := hb5.size
      go_wp2_with (at_builtin; refine wpList_app encN_len encN_one rfl (.tmp 38) (.tmp 44) 39 rfl W1.heap.size 23 i0 (.agg #[.string ⟨#[]⟩, .string ⟨#[]⟩]) 32 Tryz.underlying39 hi0 hz0 hz1 hz2 rfl (by decide) (by decide) _ rfl rfl L [fn] rfl (hown3.alloc _) (Rw.one fn w4 _) (by simp; omega) (by simp; omega) ?_; intro v5 w5 hown5 hg5 hat5)
      have hb6 : Below W1.heap.size W1 w5 := (hb5.alloc hb5s _).grown hg5 (by simp; omega) (own_lt hown3)
      go_ret
      rw [Hu.out]
      obtain ⟨a3, c3, rfl, q1, q2, q3⟩ := Rw.of_own encN_len (by simp; omega) hown5
      exact ⟨a3, c3, rfl, ⟨q1, q2, q3.keep (fun b hb' => .inr ⟨by omega, hb'.2⟩) (fun _ _ => rfl)⟩, hb1.trans (hb6.mono hb1s)⟩
end Np
end Go.Proofs.YtohlhihhadbphaaGreatDoor
