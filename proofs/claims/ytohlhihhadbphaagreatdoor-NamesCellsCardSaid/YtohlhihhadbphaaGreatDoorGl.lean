/- Names: Ao Aq Ar. -/
import Derived.Test.YtohlhihhadbphaaGreatDoorGc
import Derived.Deep.RegionWith
import Derived.Test.YtohlhihhadbphaaGreatDoorGj
import Derived.Test.YtohlhihhadbphaaGreatDoorGk
set_option linter.unusedSimpArgs false
set_option linter.unusedVariables false
/- SameClass. -/
namespace Go.Proofs.YtohlhihhadbphaaGreatDoor
open Go.RowKit Go.Shelf Go.Lib
namespace Np
def sameLof (f : CT → CT → Bool) (l m : List CT) : Bool := decide (l.length = m.length) && (List.range l.length).all fun j => f (l.getD j default) (m.getD j default)
def sameC : Nat → CT → CT → Bool
  | 0, _, _ => false
  | d + 1, a, b => decide (a.kind = b.kind) && (decide (a.name = b.name) && (decide (a.space = b.space) && (sameLof (sameC d) a.ex b.ex && sameLof (sameC d) a.ar b.ar)))
def SameFor (d : Nat) : Prop := ∀ (t u : CT) (w : World), t.In w w.heap.size → u.In w w.heap.size → Calls Tryz.prog 73 #[t.val, u.val, .int .i64 (d : Int)] w fun e w' => e = .returned (.bool (sameC d t u)) ∧ Below w.heap.size w w'
theorem range_all_succ (p : Nat → Bool) (n : Nat) : (∀ j, j < n → p j = true) → p n = true → ∀ j, j < n + 1 → p j = true := fun h hn j hj => by
  rcases Nat.lt_or_ge j n with h1 | h1
  · exact h j h1
  · obtain rfl : j = n := by omega
    exact hn
set_option maxRecDepth 100000 in
set_option maxHeartbeats 2000000 in
theorem sameClasses_any (d : Nat) (hd : d ≤ 100) (hD : SameFor d) (a a' : Option Addr) (c c' : Nat) (l m : List CT) (w : World) (hL : LIn w w.heap.size a l) (hM : LIn w w.heap.size a' m) :
    Calls Tryz.prog 95 #[.slice a l.length c, .slice a' m.length c', .int .i64 (d : Int)] w fun e w' => e = .returned (.bool (sameLof (sameC d) l m)) ∧ Below w.heap.size w w' := by
  have hml := hL.row.1
  have hmm := hM.row.1
  unfold maxLen at hml hmm
  by_cases hlm : l.length = m.length
  · obtain ⟨n, hn⟩ : ∃ n, m.length = n := ⟨_, rfl⟩
    have Hres : Hid (sameLof (sameC d) l m = (List.range n).all fun j => sameC d (l.getD j default) (m.getD j default)) := Lib.hid (by unfold sameLof; rw [decide_eq_true hlm, hlm, hn]; rfl)
    rw [hlm, hn]
    have Hl := Lib.hid (hlm.trans hn)
    have Hm := Lib.hid hn
    have hnm : n ≤ 2 ^ 63 - 1 := by omega
    obtain ⟨r, hr⟩ : ∃ r, sameLof (sameC d) l m = r := ⟨_, rfl⟩
    rw [hr]
    have Hr := Lib.hid hr
    clear hr hlm hn hml hmm
    go_enter Tryz.func95, Tryz.ntmps95
    go_wp2
    go_loopw [7] (fun i wr => ∃ k : Nat, k ≤ n ∧ i = .int .i64 k ∧ Hid (∀ j, j < k → sameC d (l.getD j default) (m.getD j default) = true) ∧ Below w.heap.size w wr) (fun i _ => n - (intOf i).toNat)
    case atStart => exact ⟨0, by omega, rfl, Lib.hid (fun j hj => by omega), Below.refl _ _⟩
    case round =>
      obtain ⟨k, hk, rfl, HZ, hb⟩ := hrel
      by_cases hlt : k < n
      · have hkl : k < l.length := by rw [Hl.out]; exact hlt
        have hkm : k < m.length := by rw [Hm.out]; exact hlt
        obtain ⟨u, hu⟩ : ∃ u, l[k] = u := ⟨_, rfl⟩
        obtain ⟨v, hv⟩ : ∃ v, m[k] = v := ⟨_, rfl⟩
        have hmu : u ∈ l := by rw [← hu]; exact List.getElem_mem hkl
        have hmv : v ∈ m := by rw [← hv]; exact List.getElem_mem hkm
        obtain ⟨b, o, rfl, hbn, hcells⟩ := hL.row.2 (List.ne_nil_of_length_pos (by omega))
        obtain ⟨b2, o2, rfl, hbn2, hcells2⟩ := hM.row.2 (List.ne_nil_of_length_pos (by omega))
        have hcu : ∀ i x, u.cells[i]? = some x → wr.cell? ⟨b, o + k * 6 + i, none⟩ = some x := fun i x hx => (hb.cell (p := ⟨b, o + k * 6 + i, none⟩) hbn).trans (hcells k hkl i x (by rw [hu]; exact hx))
        have hcv : ∀ i x, v.cells[i]? = some x → wr.cell? ⟨b2, o2 + k * 6 + i, none⟩ = some x := fun i x hx => (hb.cell (p := ⟨b2, o2 + k * 6 + i, none⟩) hbn2).trans (hcells2 k hkm i x (by rw [hv]; exact hx))
        have u0 := hcu 0 _ rfl
        have u1 := hcu 1 _ rfl
        have u2 := hcu 2 _ rfl
        have u3 := hcu 3 _ rfl
        have u4 := hcu 4 _ rfl
        have u5 := hcu 5 _ rfl
        rw [Nat.add_zero] at u0
        rw [CT.exv_eq] at u4
        rw [CT.arv_eq] at u5
        have v0 := hcv 0 _ rfl
        have v1 := hcv 1 _ rfl
        have v2 := hcv 2 _ rfl
        have v3 := hcv 3 _ rfl
        have v4 := hcv 4 _ rfl
        have v5 := hcv 5 _ rfl
        rw [Nat.add_zero] at v0
        rw [CT.exv_eq] at v4
        rw [CT.arv_eq] at v5
        have hC := fun W (hW : Below wr.heap.size wr W) => hD u v W (((hL.ins u hmu).below (hb.trans (hW.mono hb.size)) (Nat.le_refl _)).mono (Nat.le_trans hb.size hW.size)) (((hM.ins v hmv).below (hb.trans (hW.mono hb.size)) (Nat.le_refl _)).mono (Nat.le_trans hb.size hW.size))
        obtain ⟨rs, hrs⟩ : ∃ rs, sameC d u v = rs := ⟨_, rfl⟩
        rw [hrs, CT.val_eq, CT.val_eq] at hC
        have Hu : Hid (sameC d (l.getD k default) (m.getD k default) = rs) := Lib.hid (by rw [List.getD_eq_getElem?_getD, List.getD_eq_getElem?_getD, List.getElem?_eq_getElem hkl, List.getElem?_eq_getElem hkm, hu, hv]; exact hrs)
        have hCd := hC wr.drew ⟨rfl, rfl, rfl, Nat.le_refl _, fun _ _ => rfl⟩
        have hdr : Below wr.heap.size wr wr.drew := ⟨rfl, rfl, rfl, Nat.le_refl _, fun _ _ => rfl⟩
        clear hu hv hcu hcv hcells hcells2 hrs hC
        go_wp2
        go_region_with (go_at_call 73; refine hCd.mono ?_; rintro e w2 ⟨rfl, hb2⟩)
        · have hB2 : Below w.heap.size w w2 := hb.trans ((hdr.trans hb2).mono hb.size)
          cases rs
          · have Hres2 : Hid (r = false) := Lib.hid (by
              rw [← Hr.out, Hres.out, List.all_eq_false]
              exact ⟨k, List.mem_range.2 hlt, by rw [Hu.out]; simp⟩)
            go_wp2
            go_ret
            exact ⟨ret_bool Hres2.out.symm, hB2⟩
          · have HZ2 : Hid (∀ j, j < k + 1 → sameC d (l.getD j default) (m.getD j default) = true) := Lib.hid (range_all_succ _ k HZ.out Hu.out)
            go_wp2
            go_roundw
            case rel =>
              have hrl : ∃ k' : Nat, k' ≤ n ∧ Value.int .i64 ((k : Int) + 1) = .int .i64 k' ∧ Hid (∀ j, j < k' → sameC d (l.getD j default) (m.getD j default) = true) ∧ Below w.heap.size w w2 := ⟨k + 1, by omega, by go_num, HZ2, hB2⟩
              first
                | exact hrl
                | ((repeat apply Exists.intro); exact ⟨hrl, rfl⟩)
            case measure =>
              have e3 : ((k : Int) + 1).toNat = k + 1 := by omega
              simp only [intOf, e3, Int.toNat_natCast]
              omega
        · have hB2 : Below w.heap.size w w2 := hb.trans ((hdr.trans hb2).mono hb.size)
          cases rs
          · have Hres2 : Hid (r = false) := Lib.hid (by
              rw [← Hr.out, Hres.out, List.all_eq_false]
              exact ⟨k, List.mem_range.2 hlt, by rw [Hu.out]; simp⟩)
            go_wp2
            go_ret
            exact ⟨ret_bool Hres2.out.symm, hB2⟩
          · have HZ2 : Hid (∀ j, j < k + 1 → sameC d (l.getD j default) (m.getD j default) = true) := Lib.hid (range_all_succ _ k HZ.out Hu.out)
            go_wp2
            go_roundw
            case rel =>
              have hrl : ∃ k' : Nat, k' ≤ n ∧ Value.int .i64 ((k : Int) + 1) = .int .i64 k' ∧ Hid (∀ j, j < k' → sameC d (l.getD j default) (m.getD j default) = true) ∧ Below w.heap.size w w2 := ⟨k + 1, by omega, by go_num, HZ2, hB2⟩
              first
                | exact hrl
                | ((repeat apply Exists.intro); exact ⟨hrl, rfl⟩)
            case measure =>
              have e3 : ((k : Int) + 1).toNat = k + 1 := by omega
              simp only [intOf, e3, Int.toNat_natCast]
              omega
      · obtain rfl : k = n := by omega
        have Hres2 : Hid (r = true) := Lib.hid (by
          rw [← Hr.out, Hres.out, List.all_eq_true]
          exact fun j hj => HZ.out j (List.mem_range.1 hj))
        go_wp2
        go_ret
        exact ⟨ret_bool Hres2.out.symm, hb⟩
  · have hne : decide (l.length = m.length) = false := by simpa using hlm
    have hne2 : ((l.length : Int) == (m.length : Int)) = false := by simp only [beq_eq_false_iff_ne]; omega
    have hne3 : ((l.length : Int) != (m.length : Int)) = true := by simp only [bne_iff_ne]; omega
    have Hres : Hid (sameLof (sameC d) l m = false) := Lib.hid (by unfold sameLof; rw [hne]; rfl)
    clear hlm
    go_enter Tryz.func95, Tryz.ntmps95
    go_wp2
    go_ret
    exact ⟨ret_bool Hres.out.symm, Below.refl _ _⟩
set_option maxRecDepth 100000 in
set_option maxHeartbeats 2000000 in
theorem sameClass_step (d : Nat) (hd : d ≤ 100) (hD : SameFor d) : SameFor (d + 1) := by
  intro t u w hIn hIn2
  have hI := CT.in_iff.1 hIn
  have hJ := CT.in_iff.1 hIn2
  obtain ⟨W1, hW1⟩ : ∃ W1, (w.alloc (.cells t.cells.toArray 26)).alloc (.cells u.cells.toArray 26) = W1 := ⟨_, rfl⟩
  have hb1 : Below w.heap.size w W1 := by rw [← hW1]; exact ((Below.refl _ w).alloc (Nat.le_refl _) _).alloc (by simp) _
  have B0 : Blk W1 w.heap.size t.cells.toArray 26 := by rw [← hW1]; exact (Blk.new _ _ _).alloc _
  have B1 : Blk W1 (w.heap.size + 1) u.cells.toArray 26 := by
    rw [← hW1]
    have := Blk.new (w.alloc (.cells t.cells.toArray 26)) u.cells.toArray 26
    rw [World.size_alloc] at this; exact this
  have hs1 : w.heap.size + 1 < W1.heap.size := B1.lt
  obtain ⟨r, hr⟩ : ∃ r, sameC (d + 1) t u = r := ⟨_, rfl⟩
  have Hr := Lib.hid hr
  rw [sameC] at hr
  have hE := sameClasses_any d hd hD t.ea u.ea t.ec u.ec t.ex u.ex W1 (LIn.mono (LIn.below ⟨hI.2.2.1, hI.2.2.2.2.1⟩ hb1 (Nat.le_refl _)) (by omega)) (LIn.mono (LIn.below ⟨hJ.2.2.1, hJ.2.2.2.2.1⟩ hb1 (Nat.le_refl _)) (by omega))
  have hA := fun W2 (hb2 : Below W1.heap.size W1 W2) => sameClasses_any d hd hD t.aa u.aa t.ac u.ac t.ar u.ar W2 (LIn.mono (LIn.below ⟨hI.2.2.2.1, hI.2.2.2.2.2⟩ (hb1.trans (hb2.mono hb1.size)) (Nat.le_refl _)) (Nat.le_trans hb1.size hb2.size)) (LIn.mono (LIn.below ⟨hJ.2.2.2.1, hJ.2.2.2.2.2⟩ (hb1.trans (hb2.mono hb1.size)) (Nat.le_refl _)) (Nat.le_trans hb1.size hb2.size))
  obtain ⟨ve, hve⟩ : ∃ v, sameLof (sameC d) t.ex u.ex = v := ⟨_, rfl⟩
  obtain ⟨va, hva⟩ : ∃ v, sameLof (sameC d) t.ar u.ar = v := ⟨_, rfl⟩
  rw [hve] at hE hr
  rw [Hr.out]
  have Hva := Lib.hid hva
  have eN := eqN t.name u.name
  have gN := fun op x y => guardN op x y t.name u.name
  have e2 : (t.space.toList == u.space.toList) = decide (t.space = u.space) := by
    rw [Bool.eq_iff_iff]; simp only [beq_iff_eq, decide_eq_true_eq, ba_inj]
  have e1 : (t.kind == u.kind) = decide (t.kind = u.kind) := by
    rw [Bool.eq_iff_iff]; simp
  obtain ⟨c0, c1, c2, c3, c4, c5⟩ := ct_cells B0
  obtain ⟨g0, g1, g2, g3, g4, g5⟩ := ct_cells B1
  rw [CT.cells_eq, CT.cells_eq] at hW1
  rw [CT.val_eq, CT.val_eq]
  obtain ⟨b1, hb1'⟩ : ∃ b, decide (t.name = u.name) = b := ⟨_, rfl⟩
  obtain ⟨b2, hb2'⟩ : ∃ b, decide (t.space = u.space) = b := ⟨_, rfl⟩
  obtain ⟨b0, hb0'⟩ : ∃ b, decide (t.kind = u.kind) = b := ⟨_, rfl⟩
  rw [hb1'] at eN hr
  rw [hb2'] at e2 hr
  rw [hb0'] at e1 hr
  rw [hva] at hr
  have Hr2 := Lib.hid hr
  have hd1 : ((d + 1 : Nat) : Int) = (d : Int) + 1 := by omega
  have hsub : (d : Int) + 1 - 1 = (d : Int) := by omega
  have hpos : decide (0 < (d : Int) + 1) = true := decide_eq_true (by omega)
  rw [hd1]
  clear hb1' hb2' hb0' hr hve hva hI hJ hIn hIn2 hd1 Hr
  cases b0
  · go_enter Tryz.func73, Tryz.ntmps73
    go_wp2
    go_ret
    exact ⟨ret_bool (by rw [← Hr2.out]; try rfl), hb1⟩
  · cases b1
    · go_enter Tryz.func73, Tryz.ntmps73
      go_wp2
      go_ret
      exact ⟨ret_bool (by rw [← Hr2.out]; try rfl), hb1⟩
    · cases b2
      · go_enter Tryz.func73, Tryz.ntmps73
        go_wp2
        go_ret
        exact ⟨ret_bool (by rw [← Hr2.out]; try rfl), hb1⟩
      · go_enter Tryz.func73, Tryz.ntmps73
        go_wp2_with (go_at_call 95; refine hE.mono ?_)
        rintro e W2 ⟨rfl, hb2⟩
        have hA2 := hA W2 hb2
        rw [Hva.out] at hA2
        have hB2 := hb1.trans (hb2.mono hb1.size)
        clear c0 c1 c2 c3 c4 c5 g0 g1 g2 g3 g4 g5 hA hE hW1
        obtain ⟨c0, c1, c2, c3, c4, c5⟩ := ct_cells (B0.kept (below_grown hb2) (by simp))
        obtain ⟨g0, g1, g2, g3, g4, g5⟩ := ct_cells (B1.kept (below_grown hb2) (by simp))
        cases ve
        · go_wp2
          go_ret
          exact ⟨ret_bool (by rw [← Hr2.out]; try rfl), hB2⟩
        · go_wp2_with (go_at_call 95; refine hA2.mono ?_)
          rintro e W3 ⟨rfl, hb3⟩
          go_wp2
          go_ret
          exact ⟨ret_bool (by rw [← Hr2.out]; try rfl), hB2.trans (hb3.mono hB2.size)⟩
set_option maxRecDepth 100000 in
theorem sameClass_zero : SameFor 0 := by
  intro t u w hIn hIn2
  rw [CT.val_eq, CT.val_eq, sameC]
  have hb1 : Below w.heap.size w ((w.alloc (.cells #[.int .i64 t.kind, .string t.name.sp, .string t.name.lc, .string t.space, .slice t.ea t.ex.length t.ec, .slice t.aa t.ar.length t.ac] 26)).alloc (.cells #[.int .i64 u.kind, .string u.name.sp, .string u.name.lc, .string u.space, .slice u.ea u.ex.length u.ec, .slice u.aa u.ar.length u.ac] 26)) := ((Below.refl _ w).alloc (Nat.le_refl _) _).alloc (by simp) _
  go_enter Tryz.func73, Tryz.ntmps73
  go_wp2
  go_ret
  exact ⟨rfl, hb1⟩
theorem same_all : ∀ d, d ≤ 100 → SameFor d
  | 0, _ => sameClass_zero
  | d + 1, h => sameClass_step d (by omega) (same_all d (by omega))
set_option maxRecDepth 100000 in
theorem SameClass_any (t u : CT) (w : World) (hIn : t.In w w.heap.size) (hIn2 : u.In w w.heap.size) : Calls Tryz.prog 36 #[t.val, u.val] w fun e w' => e = .returned (.bool (sameC 40 t u)) ∧ Below w.heap.size w w' := by
  obtain ⟨W1, hW1⟩ : ∃ W1, (w.alloc (.cells t.cells.toArray 26)).alloc (.cells u.cells.toArray 26) = W1 := ⟨_, rfl⟩
  have hb1 : Below w.heap.size w W1 := by rw [← hW1]; exact ((Below.refl _ w).alloc (Nat.le_refl _) _).alloc (by simp) _
  have B0 : Blk W1 w.heap.size t.cells.toArray 26 := by rw [← hW1]; exact (Blk.new _ _ _).alloc _
  have B1 : Blk W1 (w.heap.size + 1) u.cells.toArray 26 := by
    rw [← hW1]
    have := Blk.new (w.alloc (.cells t.cells.toArray 26)) u.cells.toArray 26
    rw [World.size_alloc] at this; exact this
  have hC := same_all 40 (by omega) t u W1 ((hIn.below hb1 (Nat.le_refl _)).mono hb1.size) ((hIn2.below hb1 (Nat.le_refl _)).mono hb1.size)
  obtain ⟨r, hr⟩ : ∃ r, sameC 40 t u = r := ⟨_, rfl⟩
  rw [hr] at hC ⊢
  obtain ⟨c0, c1, c2, c3, c4, c5⟩ := ct_cells B0
  obtain ⟨g0, g1, g2, g3, g4, g5⟩ := ct_cells B1
  rw [CT.val_eq, CT.val_eq, show ((40 : Nat) : Int) = 40 from rfl] at hC
  rw [CT.cells_eq, CT.cells_eq] at hW1
  rw [CT.val_eq, CT.val_eq]
  clear hr B0 B1
  go_enter Tryz.func36, Tryz.ntmps36
  go_wp2_with (go_at_call 73; refine hC.mono ?_)
  rintro e W2 ⟨rfl, hb2⟩
  go_wp2
  go_ret
  exact ⟨rfl, hb1.trans (hb2.mono hb1.size)⟩
/-- Equal classes, not too deep, are found equal; what is found equal is equal. -/
theorem sameLof_iff {f : CT → CT → Bool} : ∀ {l m : List CT}, sameLof f l m = true ↔ l.length = m.length ∧ ∀ p ∈ l.zip m, f p.1 p.2 = true := by
  intro l m
  unfold sameLof
  rw [Bool.and_eq_true, decide_eq_true_eq, List.all_eq_true]
  refine and_congr_right fun hl => ?_
  constructor
  · intro h p hp
    obtain ⟨j, hj, rfl⟩ := List.mem_iff_getElem.1 hp
    rw [List.length_zip] at hj
    have h1 : j < l.length := by omega
    have h2 : j < m.length := by omega
    have := h j (List.mem_range.2 h1)
    simpa [List.getD_eq_getElem?_getD, h1, h2] using this
  · intro h j hj
    have h1 : j < l.length := List.mem_range.1 hj
    have h2 : j < m.length := by omega
    have := h (l[j], m[j]) (List.mem_iff_getElem.2 ⟨j, by simp; omega, by simp⟩)
    simpa [List.getD_eq_getElem?_getD, h1, h2] using this
theorem zip_er {l m : List CT} (hl : l.length = m.length) (h : ∀ p ∈ l.zip m, p.1.er = p.2.er) : l.map CT.er = m.map CT.er := by
  apply List.ext_getElem (by simpa using hl)
  intro j h1 h2
  rw [List.length_map] at h1 h2
  have := h (l[j], m[j]) (List.mem_iff_getElem.2 ⟨j, by simp; omega, by simp⟩)
  simpa using this
theorem er_mk (t : CT) : t.er = .mk t.kind t.name t.space (t.ex.map CT.er) (t.ar.map CT.er) := by
  cases t; rw [CT.er, CT.erL_map, CT.erL_map]; rfl
theorem sameC_er : ∀ (d : Nat) (t u : CT), sameC d t u = true → t.er = u.er
  | 0, _, _, h => by simp [sameC] at h
  | d + 1, t, u, h => by
    rw [sameC] at h
    simp only [Bool.and_eq_true, decide_eq_true_eq, sameLof_iff] at h
    obtain ⟨h1, h2, h3, ⟨h4, h5⟩, h6, h7⟩ := h
    rw [er_mk t, er_mk u, h1, h2, h3, zip_er h4 (fun p hp => sameC_er d _ _ (h5 p hp)), zip_er h6 (fun p hp => sameC_er d _ _ (h7 p hp))]
theorem er_sameC : ∀ (d : Nat) (t u : CT), t.depth ≤ d → t.er = u.er → sameC d t u = true
  | 0, t, _, h, _ => by rw [CT.depth_eq] at h; omega
  | d + 1, t, u, h, he => by
    rw [er_mk t, er_mk u] at he
    injection he with h1 h2 h3 h4 h5
    rw [sameC]
    simp only [Bool.and_eq_true, decide_eq_true_eq, sameLof_iff]
    have aux : ∀ (l m : List CT), (∀ x ∈ l, x.depth ≤ d) → l.map CT.er = m.map CT.er → l.length = m.length ∧ ∀ p ∈ l.zip m, sameC d p.1 p.2 = true := by
      intro l m hd hlm
      have hl : l.length = m.length := by simpa using congrArg List.length hlm
      refine ⟨hl, fun p hp => ?_⟩
      obtain ⟨j, hj, rfl⟩ := List.mem_iff_getElem.1 hp
      rw [List.length_zip] at hj
      have g1 : j < l.length := by omega
      have g2 : j < m.length := by omega
      rw [List.getElem_zip]
      refine er_sameC d _ _ (hd _ (List.getElem_mem g1)) ?_
      have := congrArg (fun l => l[j]?) hlm
      simpa [g1, g2] using this
    exact ⟨h1, h2, h3, aux _ _ (fun x hx => by have := CT.depth_ex hx; omega) h4, aux _ _ (fun x hx => by have := CT.depth_ar hx; omega) h5⟩
end Np
end Go.Proofs.YtohlhihhadbphaaGreatDoor

/- The classes that the law builds. -/
namespace Go.Proofs.YtohlhihhadbphaaGreatDoor
open Go.RowKit Go.Shelf Go.Lib
namespace Np
theorem name_any (s l : ByteArray) (w : World) : Calls Tryz.prog 40 #[.string s, .string l] w fun e w' => e = .returned (.agg #[.int .i64 1, .string s, .string l, .string ⟨#[]⟩, .slice none 0 0, .slice none 0 0]) ∧ Below w.heap.size w w' := by
  have hb1 : Below w.heap.size w (w.alloc (.cells #[.int .i64 1, .string s, .string l, .string ⟨#[]⟩, .slice none 0 0, .slice none 0 0] 26)) := (Below.refl _ w).alloc (Nat.le_refl _) _
  go_enter Tryz.func40, Tryz.ntmps40
  go_wp2
  exact bodyPost_ret (v := .agg #[.int .i64 1, .string s, .string l, .string ⟨#[]⟩, .slice none 0 0, .slice none 0 0]) (by simp [results, Tryz.f40, go_sem]) rfl ⟨rfl, hb1⟩
theorem choice_any (a : Option Addr) (n c : Nat) (w : World) : Calls Tryz.prog 39 #[.slice a n c] w fun e w' => e = .returned (.agg #[.int .i64 4, .string ⟨#[]⟩, .string ⟨#[]⟩, .string ⟨#[]⟩, .slice none 0 0, .slice a n c]) ∧ Below w.heap.size w w' := by
  have hb1 : Below w.heap.size w (w.alloc (.cells #[.int .i64 4, .string ⟨#[]⟩, .string ⟨#[]⟩, .string ⟨#[]⟩, .slice none 0 0, .slice a n c] 26)) := (Below.refl _ w).alloc (Nat.le_refl _) _
  go_enter Tryz.func39, Tryz.ntmps39
  go_wp2
  exact bodyPost_ret (v := .agg #[.int .i64 4, .string ⟨#[]⟩, .string ⟨#[]⟩, .string ⟨#[]⟩, .slice none 0 0, .slice a n c]) (by simp [results, Tryz.f39, go_sem]) rfl ⟨rfl, hb1⟩
theorem all_any (a : Option Addr) (n c : Nat) (w : World) : Calls Tryz.prog 41 #[.slice a n c] w fun e w' => e = .returned (.agg #[.int .i64 3, .string ⟨#[]⟩, .string ⟨#[]⟩, .string ⟨#[]⟩, .slice a n c, .slice none 0 0]) ∧ Below w.heap.size w w' := by
  have hb1 : Below w.heap.size w (w.alloc (.cells #[.int .i64 3, .string ⟨#[]⟩, .string ⟨#[]⟩, .string ⟨#[]⟩, .slice a n c, .slice none 0 0] 26)) := (Below.refl _ w).alloc (Nat.le_refl _) _
  go_enter Tryz.func41, Tryz.ntmps41
  go_wp2
  exact bodyPost_ret (v := .agg #[.int .i64 3, .string ⟨#[]⟩, .string ⟨#[]⟩, .string ⟨#[]⟩, .slice a n c, .slice none 0 0]) (by simp [results, Tryz.f41, go_sem]) rfl ⟨rfl, hb1⟩
theorem space_any (s : ByteArray) (a : Option Addr) (n c : Nat) (w : World) : Calls Tryz.prog 42 #[.string s, .slice a n c] w fun e w' => e = .returned (.agg #[.int .i64 2, .string ⟨#[]⟩, .string ⟨#[]⟩, .string s, .slice a n c, .slice none 0 0]) ∧ Below w.heap.size w w' := by
  have hb1 : Below w.heap.size w (w.alloc (.cells #[.int .i64 2, .string ⟨#[]⟩, .string ⟨#[]⟩, .string s, .slice a n c, .slice none 0 0] 26)) := (Below.refl _ w).alloc (Nat.le_refl _) _
  go_enter Tryz.func42, Tryz.ntmps42
  go_wp2
  exact bodyPost_ret (v := .agg #[.int .i64 2, .string ⟨#[]⟩, .string ⟨#[]⟩, .string s, .slice a n c, .slice none 0 0]) (by simp [results, Tryz.f42, go_sem]) rfl ⟨rfl, hb1⟩
theorem below_step {A B C : World} (h2 : Below B.heap.size B C) (h1 : Below A.heap.size A B) : Below A.heap.size A C := h1.trans (h2.mono h1.size)
theorem below_alloc {A B : World} {o : Obj} (h1 : Below A.heap.size A B) : Below A.heap.size A (B.alloc o) := h1.alloc h1.size _
theorem below_drew {A B : World} (h1 : Below A.heap.size A B) : Below A.heap.size A B.drew := ⟨h1.os, h1.tape, h1.output, h1.size, h1.block⟩
/-- A class that is a choice of classes in the row at this block; the like for all names, and those of a space. -/
def chT (b : Nat) (l : List CT) : CT := .mk 4 ⟨⟨#[]⟩, ⟨#[]⟩⟩ ⟨#[]⟩ none 0 [] (some ⟨b, 0, none⟩) l.length l
def alT (b : Nat) (l : List CT) : CT := .mk 3 ⟨⟨#[]⟩, ⟨#[]⟩⟩ ⟨#[]⟩ (some ⟨b, 0, none⟩) l.length l none 0 []
def al0 : CT := .mk 3 ⟨⟨#[]⟩, ⟨#[]⟩⟩ ⟨#[]⟩ none 0 [] none 0 []
def spT (s : ByteArray) (b : Nat) (l : List CT) : CT := .mk 2 ⟨⟨#[]⟩, ⟨#[]⟩⟩ s (some ⟨b, 0, none⟩) l.length l none 0 []
def sp0 (s : ByteArray) : CT := .mk 2 ⟨⟨#[]⟩, ⟨#[]⟩⟩ s none 0 [] none 0 []
theorem small0 : (⟨#[]⟩ : ByteArray).size ≤ maxLen := by unfold maxLen; simp [ByteArray.size]
theorem rowIn_nil (W : World) (n : Nat) (a : Option Addr) : RowIn W n a [] := ⟨by simp, by simp⟩
theorem row_in {W : World} {b n : Nat} {l : List CT} (hb : Blk W b (l.flatMap CT.cells).toArray 26) (hn : b < n) (hl : l.length ≤ maxLen) (hin : ∀ u ∈ l, u.In W n) : RowIn W n (some ⟨b, 0, none⟩) l := (lin_row hb hn hl hin).row
theorem nameT_in (W : World) (m : Nat) {n : Name} (h : n.fit) : (nameT n).In W m := by
  rw [CT.in_iff]; exact ⟨h, small0, rowIn_nil _ _ _, rowIn_nil _ _ _, by simp [nameT, CT.ex], by simp [nameT, CT.ar]⟩
theorem chT_in {W : World} {b n : Nat} {l : List CT} (hb : Blk W b (l.flatMap CT.cells).toArray 26) (hn : b < n) (hl : l.length ≤ maxLen) (hin : ∀ u ∈ l, u.In W n) : (chT b l).In W n := by
  rw [CT.in_iff]; exact ⟨⟨small0, small0⟩, small0, rowIn_nil _ _ _, row_in hb hn hl hin, by simp [chT, CT.ex], hin⟩
theorem alT_in {W : World} {b n : Nat} {l : List CT} (hb : Blk W b (l.flatMap CT.cells).toArray 26) (hn : b < n) (hl : l.length ≤ maxLen) (hin : ∀ u ∈ l, u.In W n) : (alT b l).In W n := by
  rw [CT.in_iff]; exact ⟨⟨small0, small0⟩, small0, row_in hb hn hl hin, rowIn_nil _ _ _, hin, by simp [alT, CT.ar]⟩
theorem spT_in {W : World} {b n : Nat} {s : ByteArray} {l : List CT} (hs : s.size ≤ maxLen) (hb : Blk W b (l.flatMap CT.cells).toArray 26) (hn : b < n) (hl : l.length ≤ maxLen) (hin : ∀ u ∈ l, u.In W n) : (spT s b l).In W n := by
  rw [CT.in_iff]; exact ⟨⟨small0, small0⟩, hs, row_in hb hn hl hin, rowIn_nil _ _ _, hin, by simp [spT, CT.ar]⟩
theorem al0_in (W : World) (n : Nat) : al0.In W n := by
  rw [CT.in_iff]; exact ⟨⟨small0, small0⟩, small0, rowIn_nil _ _ _, rowIn_nil _ _ _, by simp [al0, CT.ex], by simp [al0, CT.ar]⟩
theorem sp0_in (W : World) (n : Nat) {s : ByteArray} (hs : s.size ≤ maxLen) : (sp0 s).In W n := by
  rw [CT.in_iff]; exact ⟨⟨small0, small0⟩, hs, rowIn_nil _ _ _, rowIn_nil _ _ _, by simp [sp0, CT.ex], by simp [sp0, CT.ar]⟩
/-- Two classes that are equal, and not too deep, are found so. -/
theorem same_true (t u : CT) (w : World) (he : t.er = u.er) (hd : t.depth ≤ 40) (h1 : t.In w w.heap.size) (h2 : u.In w w.heap.size) : Calls Tryz.prog 36 #[t.val, u.val] w fun e w' => e = .returned (.bool true) ∧ Below w.heap.size w w' := by
  have := SameClass_any t u w h1 h2
  rw [er_sameC 40 t u hd he] at this
  exact this
end Np
end Go.Proofs.YtohlhihhadbphaaGreatDoor

/- What the law shows, as plain mathematics. -/
namespace Go.Proofs.YtohlhihhadbphaaGreatDoor
open Go.RowKit Go.Shelf Go.Lib
namespace Np
def aS : ByteArray := ⟨#[97]⟩
def bS : ByteArray := ⟨#[98]⟩
def nAX : Name := ⟨aS, xS⟩
def nBY : Name := ⟨bS, ⟨#[121]⟩⟩
def nAB : Name := ⟨aS, bS⟩
theorem chT_holds (b : Nat) (l : List Name) (n : Name) : (chT b (l.map nameT)).holds n = l.any fun m => decide (m = n) := by
  rw [CT.holds_eq]
  show (l.map nameT).any (fun t => t.holds n) = _
  rw [List.any_map]
  exact any_same fun m _ => by rw [Function.comp_apply, CT.holds_eq]; rfl
theorem nameT_holds (m n : Name) : (nameT m).holds n = decide (m = n) := by rw [CT.holds_eq]; rfl
theorem sp0_holds (s : ByteArray) (n : Name) : (sp0 s).holds n = decide (s = n.sp) := by
  rw [CT.holds_eq, Bool.eq_iff_iff]
  simp [sp0, CT.kind, CT.space, CT.ex]
  exact ⟨of_decide_eq_true, fun h => decide_eq_true h⟩
theorem al0_holds (n : Name) : al0.holds n = true := by rw [CT.holds_eq]; simp [al0, CT.kind, CT.ex]
theorem alT_holds (b : Nat) (t : CT) (n : Name) : (alT b [t]).holds n = !t.holds n := by rw [CT.holds_eq]; simp [alT, CT.kind, CT.ex]
theorem dec_one (t : CT) : Dec (nmsOf (CT.partsL [t] 1)) (spsOf (CT.partsL [t] 1)) t.holds := Dec.of_class t.er (ment_of (by simp))
theorem dec_two (t u : CT) (f : Bool → Bool → Bool) : Dec (nmsOf (CT.partsL [t, u] 1)) (spsOf (CT.partsL [t, u] 1)) (fun n => f (t.holds n) (u.holds n)) :=
  Dec.two (Dec.of_class t.er (ment_of (by simp))) (Dec.of_class u.er (ment_of (by simp))) f
theorem normR_get {lst : List CT} {inn : Name → Bool} {c C : Cls} {r : Int} (h : NormR lst inn c r) (hc : chkL lst = 0) (hD : Dec (nmsOf (CT.partsL lst 1)) (spsOf (CT.partsL lst 1)) inn) (hN : IsNorm inn C) (hs : C.small = true) : c = C ∧ r = 0 := by
  obtain ⟨c0, h0, h1, _⟩ := h.2 hc hD
  have e := h0.unique hN
  subst e
  exact h1 hs
def C1 : Cls := .mk 4 ⟨⟨#[]⟩, ⟨#[]⟩⟩ ⟨#[]⟩ [] [nameC nAB, nameC nAX, nameC nBY]
def C2 : Cls := anyC [.mk 2 ⟨⟨#[]⟩, ⟨#[]⟩⟩ aS [nameC nAX] []]
def C3 : Cls := anyC [anyC []]
theorem norm1 (b : Nat) : IsNorm (chT b [nameT nAX, nameT nBY, nameT nAB]).holds C1 := by
  have hS : ∀ n, (chT b [nameT nAX, nameT nBY, nameT nAB]).holds n = ([nAX, nBY, nAB].any fun m => decide (m = n)) := fun n => chT_holds b [nAX, nBY, nAB] n
  have hno : ∀ x : Name, x ∉ [nAB, nAX, nBY] → (chT b [nameT nAX, nameT nBY, nameT nAB]).holds x = false := fun x hx => by
    rw [hS, List.any_eq_false]
    intro m hm e
    have e := of_decide_eq_true e
    subst e
    simp at hm hx
    rcases hm with h | h | h <;> simp [h] at hx
  refine ⟨[nAB, nAX, nBY], [aS, bS], fun _ => true, fun _ => false, false, ⟨by unfold Asc; decide +kernel, by unfold Asc; decide +kernel, fun n hn => hasS_iff.1 ((by decide +kernel : ∀ n ∈ [nAB, nAX, nBY], hasS [aS, bS] n.sp = true) n hn), fun n hn => ?_, fun s _ x hx _ => hno x hx, fun x hx => hno x (fun h => hx ?_)⟩, by kernel_rfl, by decide +kernel, by decide +kernel⟩
  · rw [hS]
    symm
    rw [List.any_eq_true]
    exact ⟨n, by simp at hn ⊢; rcases hn with h | h | h <;> simp [h], by simp⟩
  · simp at h
    rcases h with h | h | h <;> rw [h] <;> exact hasS_iff.1 (by decide +kernel)
theorem norm2 (b : Nat) : IsNorm (fun n => (alT b [sp0 aS]).holds n || (nameT nAX).holds n) C2 := by
  have hS : ∀ n, ((alT b [sp0 aS]).holds n || (nameT nAX).holds n) = (!decide (aS = n.sp) || decide (nAX = n)) := fun n => by rw [alT_holds, sp0_holds, nameT_holds]
  refine ⟨[nAX], [aS], fun _ => true, fun _ => false, true, ⟨by unfold Asc; decide +kernel, by unfold Asc; decide +kernel, fun n hn => hasS_iff.1 ((by decide +kernel : ∀ n ∈ [nAX], hasS [aS] n.sp = true) n hn), fun n hn => ?_, fun s hs x hx e => ?_, fun x hx => ?_⟩, by kernel_rfl, by decide +kernel, by decide +kernel⟩
  · rw [hS]
    rw [List.mem_singleton] at hn
    rw [hn]; simp
  · rw [hS]
    rw [List.mem_singleton] at hs hx
    have h1 : aS = x.sp := by rw [e, hs]
    have h2 : nAX ≠ x := fun e => hx e.symm
    simp [h1, h2]
  · rw [hS]
    rw [List.mem_singleton] at hx
    have h1 : aS ≠ x.sp := fun e => hx e.symm
    simp [h1]
theorem norm3 : IsNorm (fun n => (nameT nAX).holds n && !al0.holds n) C3 := by
  have hS : ∀ n, ((nameT nAX).holds n && !al0.holds n) = false := fun n => by rw [al0_holds]; simp
  exact ⟨[], [], fun _ => true, fun _ => false, false, ⟨List.Pairwise.nil, List.Pairwise.nil, by simp, by simp, by simp, fun x _ => hS x⟩, by kernel_rfl, by simp, by simp⟩
theorem small1 : C1.small = true := by decide +kernel
theorem small2 : C2.small = true := by decide +kernel
theorem small3 : C3.small = true := by decide +kernel
theorem chk1 (b : Nat) : chkL [chT b [nameT nAX, nameT nBY, nameT nAB]] = 0 := by kernel_rfl
theorem chk2 (b : Nat) : chkL [alT b [sp0 aS], nameT nAX] = 0 := by kernel_rfl
theorem chk3 : chkL [nameT nAX, al0] = 0 := by kernel_rfl
theorem shown1 {b : Nat} {c : Cls} {r : Int} (h : NormR [chT b [nameT nAX, nameT nBY, nameT nAB]] (chT b [nameT nAX, nameT nBY, nameT nAB]).holds c r) : c = C1 ∧ r = 0 := normR_get h (chk1 b) (dec_one _) (norm1 b) small1
theorem shown2 {b : Nat} {c : Cls} {r : Int} (h : NormR [alT b [sp0 aS], nameT nAX] (fun n => (alT b [sp0 aS]).holds n || (nameT nAX).holds n) c r) : c = C2 ∧ r = 0 := normR_get h (chk2 b) (dec_two _ _ or) (norm2 b) small2
theorem shown3 {c : Cls} {r : Int} (h : NormR [nameT nAX, al0] (fun n => (nameT nAX).holds n && !al0.holds n) c r) : c = C3 ∧ r = 0 := normR_get h chk3 (dec_two _ _ (fun x y => x && !y)) norm3 small3
theorem er1 (b : Nat) : (chT b [nameT nAB, nameT nAX, nameT nBY]).er = C1 := by kernel_rfl
theorem er2 (b b' : Nat) : (alT b [spT aS b' [nameT nAX]]).er = C2 := by kernel_rfl
theorem er3 (b : Nat) : (alT b [al0]).er = C3 := by kernel_rfl
theorem wit1 (b : Nat) : witN (alT b [sp0 aS]) [] = ⟨uS, xS⟩ ∧ witR (alT b [sp0 aS]) [] = 0 := ⟨by kernel_rfl, by kernel_rfl⟩
theorem wit2 : witN (nameT nAX) [nAX] = noN ∧ witR (nameT nAX) [nAX] = 4 := by
  have hc : (nameT nAX).check = 0 := by kernel_rfl
  have hw : witC (nameT nAX) [nAX] = none := by
    unfold witC
    rw [List.find?_eq_none]
    intro x _ h
    rw [nameT_holds] at h
    simp at h
    exact h.2 h.1.symm
  unfold witN witR
  rw [if_pos hc, if_pos hc, hw]
  exact ⟨rfl, rfl⟩
def x1S : ByteArray := ⟨#[120, 49]⟩
theorem word1 : word xS 1 = x1S := by
  unfold word
  rw [if_neg (by omega), decDigits_one (by omega)]
  rfl
theorem cands3 : candsOf [nameT nAX, sp0 aS] [] = [nAX, ⟨aS, x1S⟩, ⟨uS, xS⟩] := by
  have : candsOf [nameT nAX, sp0 aS] [] = [nAX, ⟨aS, word xS 1⟩, ⟨uS, xS⟩] := by kernel_rfl
  rw [this, word1]
theorem cells3 : cellsF [nameT nAX, sp0 aS] (candsOf [nameT nAX, sp0 aS] []) = [(nAX, [true, true]), (⟨aS, x1S⟩, [false, true]), (⟨uS, xS⟩, [false, false])] := by
  rw [cands3]; kernel_rfl
theorem chk4 : chkL [nameT nAX, sp0 aS] = 0 := by kernel_rfl
end Np
end Go.Proofs.YtohlhihhadbphaaGreatDoor
