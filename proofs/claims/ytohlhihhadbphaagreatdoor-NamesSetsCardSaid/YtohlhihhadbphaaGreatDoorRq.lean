/- The reference of names: normal. -/
import Derived.Test.YtohlhihhadbphaaGreatDoorRp
import Derived.Test.YtohlhihhadbphaaGreatDoorGn
import Derived.Deep.RegionHeld3
set_option linter.unusedSimpArgs false
set_option linter.unusedVariables false
namespace Go.Proofs.YtohlhihhadbphaaGreatDoor
open Go.RowKit Go.Shelf Go.Lib Go.Maps
namespace Np
/-- The odd classes of the first spaces. -/
def oddF (how : Int) (t u : CT) (nA : List Name) (fl : ByteArray → Bool) (wide : Bool) (l : List ByteArray) : List Cls := l.flatMap (oddC nA (fun x => tru how (t.holds x) (u.holds x)) fl wide)
structure OSt (W3 : World) (cs : List Cls) (v : Value) (W : World) : Prop where
  own : OwnC W W3.heap.size W3.heap.size v cs
  bel : Below W3.heap.size W3 W
structure NSt (W : World) (l : List Name) (v : Value) (W' : World) : Prop where
  own : W'.ownsRow W.heap.size 26 6 v l.length (l.flatMap nameCells)
  bel : Below W.heap.size W W'
theorem nc_len (x : Name) : (nameCells x).length = 6 := rfl
theorem nc_one (x : Name) : ∀ u ∈ nameCells x, u.oneCell' = true := by intro u hu; simp [nameCells] at hu; rcases hu with rfl | rfl | rfl | rfl | rfl | rfl <;> rfl
theorem ct_len (x : CT) : x.cells.length = 6 := rfl
theorem ct_one (x : CT) : ∀ u ∈ x.cells, u.oneCell' = true := by intro u hu; simp [CT.cells] at hu; rcases hu with rfl | rfl | rfl | rfl | rfl | rfl <;> first | rfl | (rw [CT.exv_eq]; rfl) | (rw [CT.arv_eq]; rfl)
theorem own_none (v : Value) : v.ownBlock = none ∨ v.ownBlock ≠ none := by cases v.ownBlock <;> simp
theorem rw_mapN {A : Nat → Prop} {W : World} {a : Option Addr} {L : List Name} (h : Rw 6 nameCells A W a L) : Rw 6 CT.cells A W a (L.map nameT) :=
  ⟨by rw [List.length_map]; exact h.len, fun hl => by
    obtain ⟨b, o, e, hb, hc⟩ := h.cells (fun e => hl (by rw [e]; rfl))
    exact ⟨b, o, e, hb, fun j hj i v hv => hc j (by simpa using hj) i v (by rw [List.getElem_map] at hv; exact hv)⟩⟩
theorem oddC_len (nA : List Name) (S : Name → Bool) (F : ByteArray → Bool) (wide : Bool) (s : ByteArray) : (oddC nA S F wide s).length ≤ nA.length + 1 := by
  unfold oddC
  have : (oddN nA S F s).length ≤ nA.length := by unfold oddN; rw [List.length_map]; exact List.length_filter_le _ _
  split
  · simp
  · omega
theorem oddF_len (how : Int) (t u : CT) (nA : List Name) (fl : ByteArray → Bool) (wide : Bool) (l : List ByteArray) : (oddF how t u nA fl wide l).length ≤ l.length * (nA.length + 1) := by
  unfold oddF
  induction l with
  | nil => simp
  | cons a r ih =>
    have := oddC_len nA (fun x => tru how (t.holds x) (u.holds x)) fl wide a
    rw [List.flatMap_cons, List.length_append, List.length_cons, Nat.add_mul, Nat.one_mul]
    omega
theorem fit_of_valid {n : Name} (h : validN n = true) : n.fit := by
  unfold validN at h
  simp at h
  unfold Name.fit maxLen
  omega
def NorO (w : World) (lst : List CT) (S : Name → Bool) (e : Ending) (w' : World) : Prop :=
  ∃ (x : CT) (r : Int), e = .returned (.tuple #[x.val, .int .i64 r]) ∧ (x.On (fun b => w.heap.size ≤ b ∧ b < w'.heap.size) w' ∧ NormR lst S x.er r) ∧ Below w.heap.size w w'
set_option maxRecDepth 100000 in
set_option maxHeartbeats 8000000 in
theorem rnormal_any (how : Int) (hh : how = 0 ∨ how = 1 ∨ how = 2 ∨ how = 3) (t u : CT) (w : World) (hIn : t.In w w.heap.size) (hIn2 : u.In w w.heap.size) (hct : t.check = 0) (hcu : u.check = 0) :
    Calls Tryz.prog 54 #[.int .i64 how, t.val, u.val] w (NorO w [t, u] fun x => tru how (t.holds x) (u.holds x)) := by
  have hn1 : nod t ≤ 100 := small_of_check hct
  have hn2 : nod u ≤ 100 := small_of_check hcu
  have hnod : nodL [t, u] ≤ 200 := by simp only [nodL, List.map_cons, List.map_nil, List.sum_cons, List.sum_nil]; omega
  obtain ⟨W1, hW1⟩ : ∃ W1, ((w.alloc (.cells t.cells.toArray 26)).alloc (.cells u.cells.toArray 26)).alloc (.cells #[.int .i64 0, .string ⟨#[]⟩, .string ⟨#[]⟩, .string ⟨#[]⟩, .slice none 0 0, .slice none 0 0] 26) = W1 := ⟨_, rfl⟩
  have hb1 : Below w.heap.size w W1 := by rw [← hW1]; exact (((Below.refl _ w).alloc (Nat.le_refl _) _).alloc (by simp) _).alloc (by simp; omega) _
  obtain ⟨B0, B1, BR⟩ : Blk W1 w.heap.size t.cells.toArray 26 ∧ Blk W1 (w.heap.size + 1) u.cells.toArray 26 ∧ Blk W1 (w.heap.size + 2) #[.int .i64 0, .string ⟨#[]⟩, .string ⟨#[]⟩, .string ⟨#[]⟩, .slice none 0 0, .slice none 0 0] 26 := by rw [← hW1]; exact blk3 _ _ _ _ _ _ _
  have hs1 : w.heap.size + 2 < W1.heap.size := BR.lt
  have hi1 := (hIn.below hb1 (Nat.le_refl _)).mono hb1.size
  have hi2 := (hIn2.below hb1 (Nat.le_refl _)).mono hb1.size
  obtain ⟨W2, hW2⟩ : ∃ W2, W1.alloc (.cells ([t, u].flatMap CT.cells).toArray 26) = W2 := ⟨_, rfl⟩
  have hb2 : Below W1.heap.size W1 W2 := by rw [← hW2]; exact (Below.refl _ W1).alloc (Nat.le_refl _) _
  have BL : Blk W2 W1.heap.size ([t, u].flatMap CT.cells).toArray 26 := by rw [← hW2]; exact Blk.new _ _ _
  have hs2 : W1.heap.size < W2.heap.size := BL.lt
  have hi1b := (hi1.below hb2 (Nat.le_refl _)).mono hb2.size
  have hi2b := (hi2.below hb2 (Nat.le_refl _)).mono hb2.size
  have hLL : LIn W2 W2.heap.size (some ⟨W1.heap.size, 0, none⟩) [t, u] := lin_row BL (by omega) (by simp; unfold maxLen; omega) (by intro x hx; simp at hx; rcases hx with rfl | rfl <;> assumption)
  have hMe := rMentioned_any (some ⟨W1.heap.size, 0, none⟩) 2 [t, u] W2 hLL (by omega)
  simp only [List.length_cons, List.length_nil, Nat.reduceAdd, Nat.zero_add] at hMe
  have hl1 : (nmsOf (CT.partsL [t, u] 1)).length ≤ 200 := Nat.le_trans (nmsOf_len _) (by rw [partsL_len]; exact hnod)
  have hl2 : (spsOf (CT.partsL [t, u] 1)).length ≤ 200 := Nat.le_trans (spsOf_len _) (by rw [partsL_len]; exact hnod)
  have e1 := asc_length cmpN (nmsOf (CT.partsL [t, u] 1))
  have e2 := asc_length cmpS (spsOf (CT.partsL [t, u] 1))
  obtain ⟨nA, hnA⟩ : ∃ x, asc cmpN (nmsOf (CT.partsL [t, u] 1)) = x := ⟨_, rfl⟩
  obtain ⟨sA, hsA⟩ : ∃ x, asc cmpS (spsOf (CT.partsL [t, u] 1)) = x := ⟨_, rfl⟩
  rw [hnA] at e1 hMe
  rw [hsA] at e2 hMe
  have HnA := Lib.hid hnA
  have HsA := Lib.hid hsA
  have hln : nA.length ≤ 200 := by omega
  have hls : sA.length ≤ 200 := by omega
  have hW12 : W1.alloc (.cells #[.int .i64 t.kind, .string t.name.sp, .string t.name.lc, .string t.space, .slice t.ea t.ex.length t.ec, .slice t.aa t.ar.length t.ac, .int .i64 u.kind, .string u.name.sp, .string u.name.lc, .string u.space, .slice u.ea u.ex.length u.ec, .slice u.aa u.ar.length u.ac] 26) = W2 := by
    rw [← hW2]
    congr 2
    simp [CT.cells, CT.exv_eq, CT.arv_eq]
  obtain ⟨c0, c1, c2, c3, c4, c5⟩ := ct_cells B0
  obtain ⟨e0, e1, e2, e3, e4, e5⟩ := ct_cells B1
  have Hin := Lib.hid (And.intro hIn hIn2)
  have hvl := valid_of (lst := [t, u]) (by intro x hx; simp at hx; rcases hx with rfl | rfl <;> assumption)
  have hfitN : ∀ x ∈ nA, x.fit := fun x hx => fit_of_valid (hvl.1 x ((mem_asc linN).1 (by rw [hnA]; exact hx)))
  have hokS : ∀ s ∈ sA, s.size ≤ maxLen := fun s hs => by have := hvl.2 s ((mem_asc linS).1 (by rw [hsA]; exact hs)); unfold maxLen; omega
  clear hvl
  have Hck := Lib.hid (And.intro hct hcu)
  have hft := fits_of_check hct
  have hfu := fits_of_check hcu
  rw [CT.cells_eq, CT.cells_eq] at hW1
  rw [CT.val_eq, CT.val_eq]
  clear hnA hsA hl1 hl2 hW2 hIn hIn2 hct hcu
  go_enter Tryz.func54, Tryz.ntmps54
  go_wp2_with (go_at_call 83; refine hMe.mono ?_)
  rintro e W3 ⟨Bm, rfl, hM, hBm, hb3⟩
  have hb13 := hb2.trans (hb3.mono hb2.size)
  have hs3 := hb13.size
  have hMl := hM.lt
  have B0 := (hb13.block _ (by omega)).trans B0
  have B1 := (hb13.block _ (by omega)).trans B1
  have BR := (hb13.block _ (by omega)).trans BR
  have hi1 := (hi1.below hb13 (Nat.le_refl _)).mono hs3
  have hi2 := (hi2.below hb13 (Nat.le_refl _)).mono hs3
  have hNew := fun V (hV : Below W3.heap.size W3 V) => rNew_any Bm nA sA V (hM.later hV) (by omega)
  have hFr := fun V (hV : Below W3.heap.size W3 V) s => rFresh_any Bm nA sA s (fun _ => False) none 0 [] V (hM.later hV) (Rw.nil _) (fun _ h => h.elim) (by simp; omega)
  have hTr := fun V (hV : Below W3.heap.size W3 V) x => rTruth_any how hh t u x V ((hi1.below hV (Nat.le_refl _)).mono hV.size) ((hi2.below hV (Nat.le_refl _)).mono hV.size) hft hfu
  simp only [CT.val_eq, List.length_nil] at hTr hFr
  unfold Name.val at hTr hFr
  have HM := Lib.hid hM
  clear hMe hLL hi1b hi2b BL hW1 hW12 c0 c1 c2 c3 c4 c5 e0 e1 e2 e3 e4 e5 hM
  have c0 := fun w' (h : Below W3.heap.size W3 w') => (ct_cells (W := w') ((h.block _ (by omega)).trans B0)).1
  have c1 := fun w' (h : Below W3.heap.size W3 w') => (ct_cells (W := w') ((h.block _ (by omega)).trans B0)).2.1
  have c2 := fun w' (h : Below W3.heap.size W3 w') => (ct_cells (W := w') ((h.block _ (by omega)).trans B0)).2.2.1
  have c3 := fun w' (h : Below W3.heap.size W3 w') => (ct_cells (W := w') ((h.block _ (by omega)).trans B0)).2.2.2.1
  have c4 := fun w' (h : Below W3.heap.size W3 w') => (ct_cells (W := w') ((h.block _ (by omega)).trans B0)).2.2.2.2.1
  have c5 := fun w' (h : Below W3.heap.size W3 w') => (ct_cells (W := w') ((h.block _ (by omega)).trans B0)).2.2.2.2.2
  have e0 := fun w' (h : Below W3.heap.size W3 w') => (ct_cells (W := w') ((h.block _ (by omega)).trans B1)).1
  have e1 := fun w' (h : Below W3.heap.size W3 w') => (ct_cells (W := w') ((h.block _ (by omega)).trans B1)).2.1
  have e2 := fun w' (h : Below W3.heap.size W3 w') => (ct_cells (W := w') ((h.block _ (by omega)).trans B1)).2.2.1
  have e3 := fun w' (h : Below W3.heap.size W3 w') => (ct_cells (W := w') ((h.block _ (by omega)).trans B1)).2.2.2.1
  have e4 := fun w' (h : Below W3.heap.size W3 w') => (ct_cells (W := w') ((h.block _ (by omega)).trans B1)).2.2.2.2.1
  have e5 := fun w' (h : Below W3.heap.size W3 w') => (ct_cells (W := w') ((h.block _ (by omega)).trans B1)).2.2.2.2.2
  obtain ⟨ns, hns⟩ : ∃ x, newS sA = x := ⟨_, rfl⟩
  obtain ⟨fw, hfw⟩ : ∃ x, fresh nA [] ns = x := ⟨_, rfl⟩
  obtain ⟨wide, hwd⟩ : ∃ x, tru how (t.holds fw) (u.holds fw) = x := ⟨_, rfl⟩
  have hN2 := hNew
  simp only [hns] at hN2
  have hF2 := fun V (hV : Below W3.heap.size W3 V) => hFr V hV ns
  simp only [hfw] at hF2
  have hT2 := fun V (hV : Below W3.heap.size W3 V) => hTr V hV fw
  simp only [hwd] at hT2
  have Hns := Lib.hid hns
  have Hfw := Lib.hid hfw
  have Hwd := Lib.hid hwd
  clear hns hfw hwd hNew
  go_upto_region 2 with (fail)
  go_region_held3 (fun w' => Below W3.heap.size W3 w') (first | assumption | exact b_drew (Below.refl _ _) | exact b_step hb7 (b_step hb6 (b_step hb5 (b_drew (Below.refl _ _)))) | exact b_step hb6 (b_step hb5 (b_drew (Below.refl _ _))) | exact b_step hb5 (b_drew (Below.refl _ _)))
    (first
      | (go_at_call 86; (with_reducible refine (hN2 _ (by assumption)).mono ?_); rintro e w5 ⟨rfl, hb5⟩)
      | (go_at_call 85; (with_reducible refine (hF2 _ (by assumption)).mono ?_); rintro e w6 ⟨rfl, hb6⟩)
      | (go_at_call 84; (with_reducible refine (hT2 _ (by assumption)).mono ?_); rintro e w7 ⟨rfl, hb7⟩))
  have hb7' : Below W3.heap.size W3 w7 := by assumption
  have HO : Hid (OSt W3 (oddF how t u nA (fun s => tru how (t.holds (fresh nA [] s)) (u.holds (fresh nA [] s))) wide (sA.take 0)) (.slice none 0 0) w7) := Lib.hid ⟨OwnC.nil _ _ _, hb7'⟩
  clear hN2 hF2 hT2
  obtain ⟨F, hF⟩ : ∃ F : ByteArray → Bool, F = fun s => tru how (t.holds (fresh nA [] s)) (u.holds (fresh nA [] s)) := ⟨_, rfl⟩
  rw [← hF] at HO
  have HF := Lib.hid hF
  obtain ⟨iC, hiC, hzC, hzC1, hzC2⟩ := info_parts infoC
  obtain ⟨a0, k0, a1, k1, BM, ⟨h0, h1⟩, ⟨h2, h3⟩, hRN, hRS⟩ := HM.out.ex
  have Hh1 := Lib.hid (And.intro h1 h3)
  have pn0 := fun w' (h : Below W3.heap.size W3 w') => (h.cell (p := ⟨Bm, 0, none⟩) hMl).trans (BM.cell 0)
  have pn1 := fun w' (h : Below W3.heap.size W3 w') => (h.cell (p := ⟨Bm, 1, none⟩) hMl).trans (BM.cell 1)
  simp only [List.getElem?_toArray, List.getElem?_cons_zero, List.getElem?_cons_succ] at pn0 pn1
  clear hF h1 h3
  go_wp2
  go_loopw [10, 11] (fun v i wr => ∃ k : Nat, k ≤ sA.length ∧ i = .int .i64 k ∧ Hid (OSt W3 (oddF how t u nA F wide (sA.take k)) v wr)) (fun _ i _ => sA.length - (intOf i).toNat)
  case atStart => exact ⟨0, by omega, rfl, HO⟩
  case round =>
    obtain ⟨k, hk, rfl, HI⟩ := hrel
    clear hb5 hb6 hb7
    have hbW := HI.out.bel
    have hbs := hbW.size
    by_cases hlt : k < sA.length
    · have d1 : decide ((k : Int) < (sA.length : Int)) = true := decide_eq_true (by omega)
      have d2 : decide (k < sA.length) = true := decide_eq_true hlt
      obtain ⟨b, o, hao, hbA, u0⟩ := rwS_at (hRS.keep (fun _ h => h) (fun b hb' => hbW.block b hb'.2)) hlt
      obtain ⟨s, hx⟩ : ∃ x, sA[k] = x := ⟨_, rfl⟩
      rw [hx] at u0
      subst hao
      have p1 := pn1 wr hbW
      have Hx := Lib.hid hx
      obtain ⟨fs, hfs⟩ : ∃ x, fresh nA [] s = x := ⟨_, rfl⟩
      obtain ⟨full, hfl⟩ : ∃ x, tru how (t.holds fs) (u.holds fs) = x := ⟨_, rfl⟩
      have hF3 := fun V (hV : Below W3.heap.size W3 V) => hFr V hV s
      simp only [hfs] at hF3
      have hT3 := fun V (hV : Below W3.heap.size W3 V) => hTr V hV fs
      simp only [hfl] at hT3
      have Hfl : Hid (F s = full) := Lib.hid (by rw [HF.out, ← hfl, ← hfs])
      clear hx hfs hfl
      go_upto_region 8 with (fail)
      go_region_held3 (fun w' => Below W3.heap.size W3 w') (first | assumption | exact b_drew hbW | exact b_step hb6 (b_step hb5 (b_drew hbW)) | exact b_step hb5 (b_drew hbW))
        (first
          | (go_at_call 85; (with_reducible refine (hF3 _ (by assumption)).mono ?_); rintro e w5 ⟨rfl, hb5⟩)
          | (go_at_call 84; (with_reducible refine (hT3 _ (by assumption)).mono ?_); rintro e w6 ⟨rfl, hb6⟩))
      have hbR : Below W3.heap.size W3 w6 := by assumption
      have hbr6 : Below wr.heap.size wr w6 := b_step hb6 (b_step hb5 (b_drew (Below.refl _ _)))
      have hbRs := hbR.size
      obtain ⟨P, hP⟩ : ∃ P : Name → Bool, P = fun n => decide (n.sp = s) && (tru how (t.holds n) (u.holds n) != full) := ⟨_, rfl⟩
      have HP := Lib.hid hP
      have HN : Hid (NSt w6 ((nA.take 0).filter P) (.slice none 0 0) w6) := Lib.hid ⟨World.ownsRow_nil _ _ _ _, Below.refl _ _⟩
      clear hP hF3 hT3 p1 u0 hb5 hb6
      go_wp2
      go_loopw [14, 15] (fun v i wr => ∃ m : Nat, m ≤ nA.length ∧ i = .int .i64 m ∧ Hid (NSt w6 ((nA.take m).filter P) v wr)) (fun _ i _ => nA.length - (intOf i).toNat)
      case atStart => exact ⟨0, by omega, rfl, HN⟩
      case round =>
        obtain ⟨m, hm, rfl, HL⟩ := hrel
        have hbq := HL.out.bel
        have hbqs := hbq.size
        have hbQ : Below W3.heap.size W3 wr := hbR.trans (hbq.mono hbRs)
        by_cases hmt : m < nA.length
        · have d3 : decide ((m : Int) < (nA.length : Int)) = true := decide_eq_true (by omega)
          have d4 : decide (m < nA.length) = true := decide_eq_true hmt
          obtain ⟨b, o, hao, hbA, u0, u1⟩ := rwN_at (hRN.keep (fun _ h => h) (fun b hb' => hbQ.block b hb'.2)) hmt
          have hblt : b < wr.heap.size := by have := hbQ.size; have := hbA.2; omega
          obtain ⟨n, hn⟩ : ∃ x, nA[m] = x := ⟨_, rfl⟩
          rw [hn] at u0 u1
          have e1q : (n.sp.toList == s.toList) = decide (n.sp = s) := by rw [Bool.eq_iff_iff]; simp only [beq_iff_eq, decide_eq_true_eq, ba_inj]
          obtain ⟨b1, hb1'⟩ : ∃ b, decide (n.sp = s) = b := ⟨_, rfl⟩
          rw [hb1'] at e1q
          obtain ⟨sn, hsn⟩ : ∃ b, tru how (t.holds n) (u.holds n) = b := ⟨_, rfl⟩
          obtain ⟨b2, hb2'⟩ : ∃ b, (sn != full) = b := ⟨_, rfl⟩
          have hb3' : (!sn == full) = b2 := by rw [← hb2']; cases sn <;> cases full <;> rfl
          have hPn : P n = (b1 && b2) := by
            rw [HP.out]
            show (decide (n.sp = s) && (tru how (t.holds n) (u.holds n) != full)) = _
            rw [hb1', hsn, hb2']
          have Hu : Hid ((nA.take (m + 1)).filter P = (nA.take m).filter P ++ if b1 && b2 then [n] else []) := Lib.hid (by
            rw [List.take_succ_eq_append_getElem hmt, hn, List.filter_append, List.filter_cons, List.filter_nil, hPn])
          have p0 := pn0 wr hbQ
          rw [hao] at p0
          obtain ⟨W5, hW5⟩ : ∃ W5, wr.alloc (.cells #[.string n.sp, .string n.lc] 23) = W5 := ⟨_, rfl⟩
          have hbw5 : Below wr.heap.size wr W5 := by rw [← hW5]; exact (Below.refl _ wr).alloc (Nat.le_refl _) _
          have BN : Blk W5 wr.heap.size #[.string n.sp, .string n.lc] 23 := by rw [← hW5]; exact Blk.new _ _ _
          have hbw5s := hbw5.size
          have hbQ5 : Below W3.heap.size W3 W5 := b_step hbw5 hbQ
          have hT4 := hTr W5 hbQ5 n
          rw [hsn] at hT4
          have n0 := BN.cell 0
          have n1 := BN.cell 1
          simp only [List.getElem?_toArray, List.getElem?_cons_zero, List.getElem?_cons_succ] at n0 n1
          have Hao := Lib.hid hao
          obtain ⟨Lm, hLm⟩ : ∃ L, (nA.take m).filter P = L := ⟨_, rfl⟩
          have hLml : Lm.length ≤ 200 := by rw [← hLm]; exact Nat.le_trans (List.length_filter_le _ _) (by rw [List.length_take]; omega)
          rw [hLm] at HL Hu
          clear hn hb1' hsn hLm hPn
          cases b1
          · have H4 : Hid (NSt w6 ((nA.take (m + 1)).filter P) _ W5) := Lib.hid (by
              rw [Hu.out]
              exact ⟨by simpa using ownsRow_kept HL.out.own (below_grown hbw5) (own_none _), hbq.trans (hbw5.mono hbqs)⟩)
            clear hb2' hb3' hT4
            go_wp2
            go_roundw
            case rel =>
              first
                | exact ⟨m + 1, by omega, by go_num, H4⟩
                | ((repeat apply Exists.intro); exact ⟨⟨m + 1, by omega, by go_num, H4⟩, rfl⟩)
            case measure =>
              have e3 : ((m : Int) + 1).toNat = m + 1 := by omega
              simp only [intOf, e3, Int.toNat_natCast]
              omega
          · have c0' := c0 W5 hbQ5
            have c1' := c1 W5 hbQ5
            have c2' := c2 W5 hbQ5
            have c3' := c3 W5 hbQ5
            have c4' := c4 W5 hbQ5
            have c5' := c5 W5 hbQ5
            have e0' := e0 W5 hbQ5
            have e1' := e1 W5 hbQ5
            have e2' := e2 W5 hbQ5
            have e3' := e3 W5 hbQ5
            have e4' := e4 W5 hbQ5
            have e5' := e5 W5 hbQ5
            go_wp2_with (go_at_call 84; refine hT4.mono ?_)
            clear c0' c1' c2' c3' c4' c5' e0' e1' e2' e3' e4' e5' hT4 n0 n1
            first | rintro e W6 rfl hb6' | rintro e W6 ⟨rfl, hb6'⟩
            have hbq6 : Below wr.heap.size wr W6 := b_step hb6' hbw5
            have hq6 := hbq6.size
            have BN6 := BN.below hb6'
            have n0 := BN6.cell 0
            have n1 := BN6.cell 1
            simp only [List.getElem?_toArray, List.getElem?_cons_zero, List.getElem?_cons_succ] at n0 n1
            have hown6 := ownsRow_kept HL.out.own (below_grown hbq6) (own_none _)
            have hb66 : Below w6.heap.size w6 W6 := hbq.trans (hbq6.mono hbqs)
            have hb66s := hb66.size
            cases b2
            · have H4 : Hid (NSt w6 ((nA.take (m + 1)).filter P) _ W6) := Lib.hid (by
                rw [Hu.out]
                exact ⟨by simpa using hown6, hb66⟩)
              go_wp2
              go_roundw
              case rel =>
                first
                  | exact ⟨m + 1, by omega, by go_num, H4⟩
                  | ((repeat apply Exists.intro); exact ⟨⟨m + 1, by omega, by go_num, H4⟩, rfl⟩)
              case measure =>
                have e3 : ((m : Int) + 1).toNat = m + 1 := by omega
                simp only [intOf, e3, Int.toNat_natCast]
                omega
            · go_wp2_with (at_builtin; refine wpList_app nc_len nc_one rfl (.tmp 83) (.tmp 86) 24 rfl w6.heap.size 26 iC _ 104 Tryz.underlying24 hiC hzC hzC1 hzC2 rfl (by decide) (by decide) _ rfl rfl Lm [n] rfl (hown6.alloc _) (Rw.one n W6 _) (by simp; omega) (by simp; omega) ?_; intro v7 w7 hown7 hg7 hat7)
              have H4 : Hid (NSt w6 ((nA.take (m + 1)).filter P) v7 w7) := Lib.hid (by
                rw [Hu.out]
                exact ⟨by simpa using hown7, (hb66.alloc hb66s _).grown hg7 (by simp; omega) (own_lt hown6)⟩)
              clear hown7 hg7 hat7 hown6
              go_wp2
              go_roundw
              case rel =>
                first
                  | exact ⟨m + 1, by omega, by go_num, H4⟩
                  | ((repeat apply Exists.intro); exact ⟨⟨m + 1, by omega, by go_num, H4⟩, rfl⟩)
              case measure =>
                have e3 : ((m : Int) + 1).toNat = m + 1 := by omega
                simp only [intOf, e3, Int.toNat_natCast]
                omega
        · have d3 : decide ((m : Int) < (nA.length : Int)) = false := decide_eq_false (by omega)
          have d4 : decide (m < nA.length) = false := decide_eq_false hmt
          obtain ⟨L, hLe⟩ : ∃ L, nA.filter P = L := ⟨_, rfl⟩
          have hLmem : ∀ x ∈ L, x ∈ nA := fun x hx => by rw [← hLe] at hx; exact (List.mem_filter.1 hx).1
          have hLl : L.length ≤ 200 := by rw [← hLe]; exact Nat.le_trans (List.length_filter_le _ _) hln
          have hNS := HL.out
          rw [List.take_of_length_le (by omega), hLe] at hNS
          obtain ⟨a2, c2, rfl, q1, q2, q3⟩ := Rw.of_own nc_len (by omega) hNS.own
          have hLfit : ∀ x ∈ L, x.fit := fun x hx => hfitN x (hLmem x hx)
          have HLn : Hid (L.map nameC = oddN nA (fun x => tru how (t.holds x) (u.holds x)) F s) := Lib.hid (by
            unfold oddN
            rw [← hLe, HP.out]
            congr 1
            refine List.filter_congr (fun n _ => ?_)
            by_cases hns : n.sp = s
            · rw [hns, Hfl.out]
            · simp [hns])
          have Hoo : Hid (oddF how t u nA F wide (sA.take (k + 1)) = oddF how t u nA F wide (sA.take k) ++ oddC nA (fun x => tru how (t.holds x) (u.holds x)) F wide s) := Lib.hid (by
            unfold oddF
            rw [List.take_succ_eq_append_getElem hlt, Hx.out, List.flatMap_append]
            simp)
          obtain ⟨cts, hce, hown0, hon0⟩ := HI.out.own.ex
          have hctl : cts.length ≤ 100000 := by
            have h1 := oddF_len how t u nA F wide (sA.take k)
            rw [← hce, List.length_map] at h1
            have h2 : (sA.take k).length ≤ 200 := Nat.le_trans (by rw [List.length_take]; omega) hls
            exact Nat.le_trans h1 (Nat.le_trans (Nat.mul_le_mul h2 (show nA.length + 1 ≤ 201 by omega)) (by omega))
          have hbo := b_step hbq hbr6
          have hown1 := ownsRow_kept hown0 (below_grown hbo) (own_none _)
          have hon1 := fun x hx => On.later (hon0 x hx) (below_grown hbo)
          have hWo : W3.heap.size ≤ wr.heap.size := hbQ.size
          have hold0 : ∀ g, u10.ownBlock = some g → g < w6.heap.size := fun g hg => Nat.lt_of_lt_of_le (ownsRow_lt hown0 hg).2.1 hbr6.size
          have H1 := Lib.hid hown1
          have HC := Lib.hid hce
          obtain ⟨b3, hb3⟩ : ∃ b, (full == wide) = b := ⟨_, rfl⟩
          have Hb3 := Lib.hid hb3
          have hLe2 := Lib.hid q2
          clear hLe hNS HL hown0 hon0 hce q2 HP HN
          cases b3
          · have Hodd : Hid (oddC nA (fun x => tru how (t.holds x) (u.holds x)) F wide s = [.mk 2 ⟨⟨#[]⟩, ⟨#[]⟩⟩ s (Np.together (L.map nameC)) []]) := Lib.hid (by
              unfold oddC
              have : (full != wide) = true := by have := Hb3.out; cases full <;> cases wide <;> simp_all
              rw [Hfl.out, this, HLn.out]; rfl)
            have hsz : s.size ≤ maxLen := hokS s (by rw [← Hx.out]; exact List.getElem_mem hlt)
            have Hsz := Lib.hid hsz
            have p0 := pn0 wr hbQ
            obtain ⟨W5, hW5⟩ : ∃ W5, wr.alloc (.cells #[.int .i64 2, .string ⟨#[]⟩, .string ⟨#[]⟩, .string s, .slice none 0 0, .slice none 0 0] 26) = W5 := ⟨_, rfl⟩
            have hb5 : Below wr.heap.size wr W5 := by rw [← hW5]; exact (Below.refl _ wr).alloc (Nat.le_refl _) _
            have B17 : Blk W5 wr.heap.size #[.int .i64 2, .string ⟨#[]⟩, .string ⟨#[]⟩, .string s, .slice none 0 0, .slice none 0 0] 26 := by rw [← hW5]; exact Blk.new _ _ _
            have hb5s := hb5.size
            have h17 := B17.lt
            have hownW5 := ownsRow_kept H1.out (below_grown hb5) (own_none _)
            have HW5 := Lib.hid hW5
            clear hW5
            go_upto_if 98 with (fail)
            rw [HW5.out]
            clear hsz
            by_cases hL0 : L = []
            · subst hL0
              have r0 := B17.cell 0
              have r1 := B17.cell 1
              have r2 := B17.cell 2
              have r3 := B17.cell 3
              have r4 := B17.cell 4
              have r5 := B17.cell 5
              simp only [List.getElem?_toArray, List.getElem?_cons_zero, List.getElem?_cons_succ] at r0 r1 r2 r3 r4 r5
              obtain ⟨C, hCe⟩ : ∃ C : CT, C = .mk 2 ⟨⟨#[]⟩, ⟨#[]⟩⟩ s none 0 [] none 0 [] := ⟨_, rfl⟩
              have hCc : C.cells = [.int .i64 2, .string ⟨#[]⟩, .string ⟨#[]⟩, .string s, .slice none 0 0, .slice none 0 0] := by rw [hCe]; rfl
              have hrone := Rw.one (sz := 6) (enc := CT.cells) C W5 26
              rw [hCc] at hrone
              have Hod : Hid (oddC nA (fun x => tru how (t.holds x) (u.holds x)) F wide s = [C.er]) := Lib.hid (by rw [Hodd.out, hCe]; simp [CT.er, CT.erL, Np.together])
              have hbZ : Below wr.heap.size wr (W5.alloc (.cells #[.int .i64 2, .string ⟨#[]⟩, .string ⟨#[]⟩, .string s, .slice none 0 0, .slice none 0 0] 26)) := hb5.alloc hb5s _
              have HCon : Hid (C.On (fun b => W3.heap.size ≤ b ∧ b < (W5.alloc (.cells #[.int .i64 2, .string ⟨#[]⟩, .string ⟨#[]⟩, .string s, .slice none 0 0, .slice none 0 0] 26)).heap.size ∧ some b ≠ u10.ownBlock) (W5.alloc (.cells #[.int .i64 2, .string ⟨#[]⟩, .string ⟨#[]⟩, .string s, .slice none 0 0, .slice none 0 0] 26))) := Lib.hid (by
                rw [hCe, CT.On]
                simp only [CT.onL_iff]
                exact ⟨⟨by unfold maxLen; simp [ByteArray.size], by unfold maxLen; simp [ByteArray.size]⟩, Hsz.out, ⟨by simp, by simp⟩, ⟨by simp, by simp⟩, by simp, by simp⟩)
              clear hCe
              go_wp2_with (at_builtin; refine wpList_app ct_len ct_one rfl (.tmp 103) (.tmp 105) 24 rfl W3.heap.size 26 iC _ 104 Tryz.underlying24 hiC hzC hzC1 hzC2 rfl (by decide) (by decide) _ rfl rfl cts [C] rfl (hownW5.alloc _) hrone (by simp; omega) (Nat.le_trans hWo hbZ.size) ?_; intro v7 w7 hown7 hg7 hat7)
              have H4 : Hid (OSt W3 (oddF how t u nA F wide (sA.take (k + 1))) v7 w7) := Lib.hid (by
                rw [Hoo.out, Hod.out]
                refine ⟨OwnC.step (W := _) (dts := [C]) (ds := [C.er]) (Nat.le_trans hWo hbZ.size) HC.out rfl (fun x hx => On.later (hon1 x hx) (below_grown hbZ)) (fun x hx => by rw [List.mem_singleton.1 hx]; exact HCon.out) ?_ hg7 hat7, ?_⟩
                · rw [← List.length_append, ← List.flatMap_append]; exact hown7
                · exact (b_step hbZ hbQ).grown hg7 (Nat.le_trans hWo hbZ.size) (own_lt hown1))
              clear hown7 hg7 hat7
              go_wp2
              go_roundw
              case rel =>
                first
                  | exact ⟨k + 1, by omega, by go_num, H4⟩
                  | ((repeat apply Exists.intro); exact ⟨⟨k + 1, by omega, by go_num, H4⟩, rfl⟩)
              case measure =>
                have e3 : ((k : Int) + 1).toNat = k + 1 := by omega
                simp only [intOf, e3, Int.toNat_natCast]
                omega
            · have hLp : 0 < L.length := List.length_pos_iff.2 hL0
              have d5 : decide (0 < (L.length : Int)) = true := decide_eq_true (by omega)
              have d6 : decide (0 < L.length) = true := decide_eq_true hLp
              have hq := rw_mapN q3
              have hRo : RowOn (fun b => w6.heap.size ≤ b ∧ b < wr.heap.size) W5 a2 (L.map nameT) := ⟨by unfold maxLen; have := hq.len; omega, fun hl => by
                obtain ⟨b, o, e, hb, hc⟩ := hq.cells hl
                exact ⟨b, o, e, hb, fun j hj i v hv => (hb5.cell (p := ⟨b, o + j * 6 + i, none⟩) hb.2).trans (hc j hj i v hv)⟩⟩
              have hT := rTogether_any _ a2 c2 (L.map nameT) W5 hRo (fun b hb => by have := hb.2; omega)
              rw [List.length_map] at hT
              obtain ⟨T, hTe⟩ : ∃ T, togC a2 c2 (L.map nameT) = T := ⟨_, rfl⟩
              rw [hTe, CT.val_eq] at hT
              have HTer : Hid (Np.together (L.map nameC) = [T.er]) := Lib.hid (by
                have := togC_er a2 c2 (L.map nameT) (by simpa using hL0)
                rw [hTe] at this
                rw [← this, List.map_map]
                congr 1
                try exact List.map_congr_left (fun n _ => (nameT_er n).symm))
              have HTe := Lib.hid hTe
              have HL0 := Lib.hid hL0
              clear hTe hRo hL0
              go_wp2_with (go_at_call 87; refine hT.mono ?_)
              first | rintro e W6 rfl hb6 | rintro e W6 ⟨rfl, hb6⟩
              obtain ⟨W7, hW7⟩ : ∃ W7, W6.alloc (.cells #[.int .i64 T.kind, .string T.name.sp, .string T.name.lc, .string T.space, .slice T.ea T.ex.length T.ec, .slice T.aa T.ar.length T.ac] 26) = W7 := ⟨_, rfl⟩
              have hb7 : Below W6.heap.size W6 W7 := by rw [← hW7]; exact (Below.refl _ W6).alloc (Nat.le_refl _) _
              have BT : Blk W7 W6.heap.size T.cells.toArray 26 := by rw [← hW7, CT.cells_eq]; exact Blk.new _ _ _
              have hb6s := hb6.size
              have hb7s := hb7.size
              have B17' := (B17.below hb6).below hb7
              have z4 := B17'.cell 4
              have f4 := B17'.frozen 4
              have hBTl := BT.lt
              have qs := B17'.set 4 (by simp) (.slice (some ⟨W6.heap.size, 0, none⟩) 1 1)
              simp only [List.setIfInBounds_toArray, List.set_cons_zero, List.set_cons_succ] at qs
              have r0 := qs.cell 0
              have r1 := qs.cell 1
              have r2 := qs.cell 2
              have r3 := qs.cell 3
              have r4 := qs.cell 4
              have r5 := qs.cell 5
              simp only [List.getElem?_toArray, List.getElem?_cons_zero, List.getElem?_cons_succ] at z4 r0 r1 r2 r3 r4 r5
              have hb57 : Below wr.heap.size wr W7 := b_step hb7 (b_step hb6 hb5)
              have hb8 : Below wr.heap.size wr (W7.setCell ⟨wr.heap.size, 4, none⟩ (.slice (some ⟨W6.heap.size, 0, none⟩) 1 1)) := hb57.setCell (p := ⟨wr.heap.size, 4, none⟩) (Nat.le_refl _) _
              have hbZ : Below wr.heap.size wr ((W7.setCell ⟨wr.heap.size, 4, none⟩ (.slice (some ⟨W6.heap.size, 0, none⟩) 1 1)).alloc (.cells #[.int .i64 2, .string ⟨#[]⟩, .string ⟨#[]⟩, .string s, .slice (some ⟨W6.heap.size, 0, none⟩) 1 1, .slice none 0 0] 26)) := hb8.alloc hb8.size _
              have hBTz : Blk ((W7.setCell ⟨wr.heap.size, 4, none⟩ (.slice (some ⟨W6.heap.size, 0, none⟩) 1 1)).alloc (.cells #[.int .i64 2, .string ⟨#[]⟩, .string ⟨#[]⟩, .string s, .slice (some ⟨W6.heap.size, 0, none⟩) 1 1, .slice none 0 0] 26)) W6.heap.size T.cells.toArray 26 := Blk.alloc (by unfold Blk; rw [sameMap_setCell (by omega)]; exact BT) _
              obtain ⟨C, hCe⟩ : ∃ C : CT, C = .mk 2 ⟨⟨#[]⟩, ⟨#[]⟩⟩ s (some ⟨W6.heap.size, 0, none⟩) 1 [T] none 0 [] := ⟨_, rfl⟩
              have hCc : C.cells = [.int .i64 2, .string ⟨#[]⟩, .string ⟨#[]⟩, .string s, .slice (some ⟨W6.heap.size, 0, none⟩) 1 1, .slice none 0 0] := by rw [hCe]; rfl
              have hrone := Rw.one (sz := 6) (enc := CT.cells) C (W7.setCell ⟨wr.heap.size, 4, none⟩ (.slice (some ⟨W6.heap.size, 0, none⟩) 1 1)) 26
              rw [hCc] at hrone
              have hownW8 := ownsRow_kept H1.out (below_grown hb8) (own_none _)
              have Hod : Hid (oddC nA (fun x => tru how (t.holds x) (u.holds x)) F wide s = [C.er]) := Lib.hid (by rw [Hodd.out, hCe, HTer.out]; simp [CT.er, CT.erL])
              have hzs : (W7.setCell ⟨wr.heap.size, 4, none⟩ (.slice (some ⟨W6.heap.size, 0, none⟩) 1 1)).heap.size = W7.heap.size := by simp
              simp only [hzs] at hrone
              have HCon : Hid (C.On (fun b => W3.heap.size ≤ b ∧ b < ((W7.setCell ⟨wr.heap.size, 4, none⟩ (.slice (some ⟨W6.heap.size, 0, none⟩) 1 1)).alloc (.cells #[.int .i64 2, .string ⟨#[]⟩, .string ⟨#[]⟩, .string s, .slice (some ⟨W6.heap.size, 0, none⟩) 1 1, .slice none 0 0] 26)).heap.size ∧ some b ≠ u10.ownBlock) ((W7.setCell ⟨wr.heap.size, 4, none⟩ (.slice (some ⟨W6.heap.size, 0, none⟩) 1 1)).alloc (.cells #[.int .i64 2, .string ⟨#[]⟩, .string ⟨#[]⟩, .string s, .slice (some ⟨W6.heap.size, 0, none⟩) 1 1, .slice none 0 0] 26))) := Lib.hid (by
                have hzz : ((W7.setCell ⟨wr.heap.size, 4, none⟩ (.slice (some ⟨W6.heap.size, 0, none⟩) 1 1)).alloc (.cells #[.int .i64 2, .string ⟨#[]⟩, .string ⟨#[]⟩, .string s, .slice (some ⟨W6.heap.size, 0, none⟩) 1 1, .slice none 0 0] 26)).heap.size = W7.heap.size + 1 := by simp
                have hno : ∀ b, w6.heap.size ≤ b → some b ≠ u10.ownBlock := fun b hb e => by have := hold0 b e.symm; omega
                have hmt : ∀ x ∈ L.map nameT, x.On (fun b => W3.heap.size ≤ b ∧ b < ((W7.setCell ⟨wr.heap.size, 4, none⟩ (.slice (some ⟨W6.heap.size, 0, none⟩) 1 1)).alloc (.cells #[.int .i64 2, .string ⟨#[]⟩, .string ⟨#[]⟩, .string s, .slice (some ⟨W6.heap.size, 0, none⟩) 1 1, .slice none 0 0] 26)).heap.size ∧ some b ≠ u10.ownBlock) ((W7.setCell ⟨wr.heap.size, 4, none⟩ (.slice (some ⟨W6.heap.size, 0, none⟩) 1 1)).alloc (.cells #[.int .i64 2, .string ⟨#[]⟩, .string ⟨#[]⟩, .string s, .slice (some ⟨W6.heap.size, 0, none⟩) 1 1, .slice none 0 0] 26)) := fun x hx => by
                  obtain ⟨n, hn, rfl⟩ := List.mem_map.1 hx
                  exact nameT_on _ _ n (hLfit n hn)
                have hTon : T.On (fun b => W3.heap.size ≤ b ∧ b < ((W7.setCell ⟨wr.heap.size, 4, none⟩ (.slice (some ⟨W6.heap.size, 0, none⟩) 1 1)).alloc (.cells #[.int .i64 2, .string ⟨#[]⟩, .string ⟨#[]⟩, .string s, .slice (some ⟨W6.heap.size, 0, none⟩) 1 1, .slice none 0 0] 26)).heap.size ∧ some b ≠ u10.ownBlock) ((W7.setCell ⟨wr.heap.size, 4, none⟩ (.slice (some ⟨W6.heap.size, 0, none⟩) 1 1)).alloc (.cells #[.int .i64 2, .string ⟨#[]⟩, .string ⟨#[]⟩, .string s, .slice (some ⟨W6.heap.size, 0, none⟩) 1 1, .slice none 0 0] 26)) := by
                  rw [← HTe.out]
                  unfold togC
                  by_cases h1 : (L.map nameT).length = 1
                  · rw [if_pos h1]
                    refine hmt _ ?_
                    rw [List.getD_eq_getElem?_getD, List.getElem?_eq_getElem (by omega)]
                    exact List.getElem_mem (by omega)
                  · rw [if_neg h1, CT.On]
                    simp only [CT.onL_iff]
                    refine ⟨⟨by unfold maxLen; simp [ByteArray.size], by unfold maxLen; simp [ByteArray.size]⟩, by unfold maxLen; simp [ByteArray.size], ⟨by simp, by simp⟩, ⟨by unfold maxLen; have := hq.len; omega, fun hl => ?_⟩, by simp, hmt⟩
                    obtain ⟨b, o, e, hb, hc⟩ := hq.cells hl
                    exact ⟨b, o, e, ⟨by omega, by omega, hno b hb.1⟩, fun j hj i v hv => (hbZ.cell (p := ⟨b, o + j * 6 + i, none⟩) hb.2).trans (hc j hj i v hv)⟩
                rw [hCe, CT.On]
                simp only [CT.onL_iff]
                refine ⟨⟨by unfold maxLen; simp [ByteArray.size], by unfold maxLen; simp [ByteArray.size]⟩, Hsz.out, ⟨by unfold maxLen; simp, fun _ => ⟨W6.heap.size, 0, rfl, ⟨by omega, by omega, hno _ (by omega)⟩, fun j hj i v hv => ?_⟩⟩, ⟨by simp, by simp⟩, fun x hx => by rw [List.mem_singleton.1 hx]; exact hTon, by simp⟩
                obtain rfl : j = 0 := by simpa using hj
                have := hBTz.cell (0 + 0 * 6 + i)
                rw [this, Nat.zero_mul, Nat.zero_add]
                simpa using hv)
              clear hCe hT
              go_wp2_with (at_builtin; refine wpList_app ct_len ct_one rfl (.tmp 103) (.tmp 105) 24 rfl W3.heap.size 26 iC _ 104 Tryz.underlying24 hiC hzC hzC1 hzC2 rfl (by decide) (by decide) _ rfl rfl cts [C] rfl (hownW8.alloc _) hrone (by simp; omega) (Nat.le_trans hWo hbZ.size) ?_; intro v7 w7 hown7 hg7 hat7)
              have H4 : Hid (OSt W3 (oddF how t u nA F wide (sA.take (k + 1))) v7 w7) := Lib.hid (by
                rw [Hoo.out, Hod.out]
                refine ⟨OwnC.step (W := _) (dts := [C]) (ds := [C.er]) (Nat.le_trans hWo hbZ.size) HC.out rfl (fun x hx => On.later (hon1 x hx) (below_grown hbZ)) (fun x hx => by rw [List.mem_singleton.1 hx]; exact HCon.out) ?_ hg7 hat7, ?_⟩
                · rw [← List.length_append, ← List.flatMap_append]; exact hown7
                · exact (b_step hbZ hbQ).grown hg7 (Nat.le_trans hWo hbZ.size) (own_lt hown1))
              clear hown7 hg7 hat7
              go_wp2
              go_roundw
              case rel =>
                first
                  | exact ⟨k + 1, by omega, by go_num, H4⟩
                  | ((repeat apply Exists.intro); exact ⟨⟨k + 1, by omega, by go_num, H4⟩, rfl⟩)
              case measure =>
                have e3 : ((k : Int) + 1).toNat = k + 1 := by omega
                simp only [intOf, e3, Int.toNat_natCast]
                omega
          · have Hod : Hid ((L.map nameT).map CT.er = oddC nA (fun x => tru how (t.holds x) (u.holds x)) F wide s) := Lib.hid (by
              unfold oddC
              rw [Hfl.out, ← HLn.out, List.map_map]
              have : (full != wide) = false := by have := Hb3.out; cases full <;> cases wide <;> simp_all
              rw [this]
              exact List.map_congr_left (fun n _ => nameT_er n))
            have p0 := pn0 wr hbQ
            go_wp2_with (at_builtin; refine wpList_app ct_len ct_one rfl (.tmp 91) (.tmp 92) 24 rfl W3.heap.size 26 iC _ 104 Tryz.underlying24 hiC hzC hzC1 hzC2 rfl (by decide) (by decide) _ rfl rfl cts (L.map nameT) (by simp) H1.out (rw_mapN q3) (by simp; omega) hWo ?_; intro v7 w7 hown7 hg7 hat7)
            have H4 : Hid (OSt W3 (oddF how t u nA F wide (sA.take (k + 1))) v7 w7) := Lib.hid (by
              rw [Hoo.out]
              exact ⟨OwnC.step hWo HC.out Hod.out hon1 (fun x hx => by obtain ⟨n, hn, rfl⟩ := List.mem_map.1 hx; exact nameT_on _ _ n (hLfit n hn)) (by rw [← List.length_append, ← List.flatMap_append]; exact hown7) hg7 hat7,
                hbQ.grown hg7 hWo (own_lt hown1)⟩)
            clear hown7 hg7 hat7 hown1 hon1 hold0
            go_wp2
            go_roundw
            case rel =>
              first
                | exact ⟨k + 1, by omega, by go_num, H4⟩
                | ((repeat apply Exists.intro); exact ⟨⟨k + 1, by omega, by go_num, H4⟩, rfl⟩)
            case measure =>
              have e3 : ((k : Int) + 1).toNat = k + 1 := by omega
              simp only [intOf, e3, Int.toNat_natCast]
              omega
    · have d1 : decide ((k : Int) < (sA.length : Int)) = false := decide_eq_false (by omega)
      have d2 : decide (k < sA.length) = false := decide_eq_false hlt
      have p1 := pn1 wr hbW
      obtain ⟨cs, hcs⟩ : ∃ cs, oddF how t u nA F wide sA = cs := ⟨_, rfl⟩
      have hOS := HI.out
      rw [List.take_of_length_le (by omega), hcs] at hOS
      obtain ⟨cts, hce, hown, hon⟩ := hOS.own.ex
      have hctl : cts.length ≤ 100000 := by
        have h1 := oddF_len how t u nA F wide sA
        rw [hcs, ← hce, List.length_map] at h1
        exact Nat.le_trans h1 (Nat.le_trans (Nat.mul_le_mul hls (show nA.length + 1 ≤ 201 by omega)) (by omega))
      obtain ⟨a9, c9, rfl, q1, q2, hrd⟩ := Rw.of_own ct_len (by omega) hown
      have HNorm : Hid (IsNorm (fun x => tru how (t.holds x) (u.holds x)) (classG cs wide)) := Lib.hid (by
        have hvl := valid_of (lst := [t, u]) (by intro x hx; simp at hx; rcases hx with rfl | rfl; exact Hck.out.1; exact Hck.out.2)
        have hD := Dec.two (Dec.of_class t.er (ment_of (lst := [t, u]) (by simp))) (Dec.of_class u.er (ment_of (lst := [t, u]) (by simp))) (tru how)
        refine ⟨nA, sA, (fun x => tru how (t.holds x) (u.holds x)), F, wide, ?_, by rw [← hcs]; rfl, fun n hn => hvl.1 n ((mem_asc linN).1 (by rw [HnA.out]; exact hn)), fun s hs => hvl.2 s ((mem_asc linS).1 (by rw [HsA.out]; exact hs))⟩
        have := hD.sh sp_of (inn := fun x => tru how (t.holds x) (u.holds x)) (full := F) (wide := wide) (fun _ _ => rfl) (fun s _ => by simp only [HF.out, ← HnA.out, fresh_asc]; rfl) (by rw [← Hwd.out, ← Hfw.out, ← Hns.out, ← HnA.out, ← HsA.out, newS_asc, fresh_asc]; rfl)
        rw [HnA.out, HsA.out] at this
        exact this)
      have Hce := Lib.hid hce
      have hq2 := Lib.hid q2
      obtain ⟨W5, hW5⟩ : ∃ W5, wr.alloc (.cells #[.int .i64 3, .string ⟨#[]⟩, .string ⟨#[]⟩, .string ⟨#[]⟩, .slice none 0 0, .slice none 0 0] 26) = W5 := ⟨_, rfl⟩
      have hb5 : Below wr.heap.size wr W5 := by rw [← hW5]; exact (Below.refl _ wr).alloc (Nat.le_refl _) _
      have B17 : Blk W5 wr.heap.size #[.int .i64 3, .string ⟨#[]⟩, .string ⟨#[]⟩, .string ⟨#[]⟩, .slice none 0 0, .slice none 0 0] 26 := by rw [← hW5]; exact Blk.new _ _ _
      have hb5s := hb5.size
      have h17 := B17.lt
      have hbw3 := hb1.trans (hb13.mono hb1.size)
      have hs13 := hb13.size
      have hs01 := hb1.size
      have hRo : RowOn (fun b => W3.heap.size ≤ b ∧ b < wr.heap.size) W5 a9 cts := ⟨by unfold maxLen; omega, fun hl => by
        obtain ⟨b, o, e, hb, hc⟩ := hrd.cells hl
        exact ⟨b, o, e, hb, fun j hj i v hv => (hb5.cell (p := ⟨b, o + j * 6 + i, none⟩) hb.2).trans (hc j hj i v hv)⟩⟩
      have HW5 := Lib.hid hW5
      have Hown := Lib.hid hown
      obtain ⟨wd, hwd⟩ : ∃ b, wide = b := ⟨_, rfl⟩
      have Hwide := Lib.hid hwd
      clear hW5 hce hcs hOS q2 hown HO HI
      cases wd
      · have hwf : wide = false := hwd
        clear hwd
        subst hwf
        by_cases hc0 : cts = []
        · subst hc0
          go_upto_region 26 with (fail)
          rw [HW5.out]
          obtain ⟨Y, hYe⟩ : ∃ Y : CT, Y = .mk 3 ⟨⟨#[]⟩, ⟨#[]⟩⟩ ⟨#[]⟩ none 0 [] none 0 [] := ⟨_, rfl⟩
          have hYc : Y.cells.toArray = #[.int .i64 3, .string ⟨#[]⟩, .string ⟨#[]⟩, .string ⟨#[]⟩, .slice none 0 0, .slice none 0 0] := by rw [hYe]; rfl
          have hYon : ∀ Z : World, Y.On (fun b => W3.heap.size ≤ b ∧ b < Z.heap.size) Z := fun Z => by
            rw [hYe, CT.On]
            simp only [CT.onL_iff]
            exact ⟨⟨by unfold maxLen; simp [ByteArray.size], by unfold maxLen; simp [ByteArray.size]⟩, by unfold maxLen; simp [ByteArray.size], ⟨by simp, by simp⟩, ⟨by simp, by simp⟩, by simp, by simp⟩
          obtain ⟨W7, hW7⟩ : ∃ W7, W5.alloc (.cells #[.int .i64 3, .string ⟨#[]⟩, .string ⟨#[]⟩, .string ⟨#[]⟩, .slice none 0 0, .slice none 0 0] 26) = W7 := ⟨_, rfl⟩
          have hb7 : Below W5.heap.size W5 W7 := by rw [← hW7]; exact (Below.refl _ _).alloc (Nat.le_refl _) _
          have BT : Blk W7 W5.heap.size Y.cells.toArray 26 := by rw [← hW7, hYc]; exact Blk.new _ _ _
          have hb7s := hb7.size
          have hBTl := BT.lt
          have B17' := B17.below hb7
          have z4 := B17'.cell 4
          have f4 := B17'.frozen 4
          have qs := B17'.set 4 (by simp) (.slice (some ⟨W5.heap.size, 0, none⟩) 1 1)
          simp only [List.setIfInBounds_toArray, List.set_cons_zero, List.set_cons_succ] at qs
          simp only [List.getElem?_toArray, List.getElem?_cons_zero, List.getElem?_cons_succ] at z4
          obtain ⟨V, hVe⟩ : ∃ V, W7.setCell ⟨wr.heap.size, 4, none⟩ (.slice (some ⟨W5.heap.size, 0, none⟩) 1 1) = V := ⟨_, rfl⟩
          have hb8 : Below wr.heap.size wr V := by rw [← hVe]; exact (b_step hb7 hb5).setCell (p := ⟨wr.heap.size, 4, none⟩) (Nat.le_refl _) _
          have hVz : V.heap.size = W7.heap.size := by rw [← hVe]; simp
          have hbV : Below W3.heap.size W3 V := b_step hb8 hbW
          have BTV : Blk V W5.heap.size Y.cells.toArray 26 := by rw [← hVe]; unfold Blk; rw [sameMap_setCell (by omega)]; exact BT
          obtain ⟨X, hXe⟩ : ∃ X : CT, X = .mk 3 ⟨⟨#[]⟩, ⟨#[]⟩⟩ ⟨#[]⟩ (some ⟨W5.heap.size, 0, none⟩) 1 [Y] none 0 [] := ⟨_, rfl⟩
          have HBX : Hid (Blk V wr.heap.size X.cells.toArray 26) := Lib.hid (by rw [← hVe, hXe]; exact qs)
          have HXon : Hid (X.On (fun b => W3.heap.size ≤ b ∧ b < V.heap.size) V) := Lib.hid (by
            have hTV := hYon V
            rw [hXe, CT.On]
            simp only [CT.onL_iff]
            refine ⟨⟨by unfold maxLen; simp [ByteArray.size], by unfold maxLen; simp [ByteArray.size]⟩, by unfold maxLen; simp [ByteArray.size], ⟨by unfold maxLen; simp, fun _ => ⟨W5.heap.size, 0, rfl, ⟨by omega, by omega⟩, fun j hj i v hv => ?_⟩⟩, ⟨by simp, by simp⟩, fun x hx => by rw [List.mem_singleton.1 hx]; exact hTV, by simp⟩
            obtain rfl : j = 0 := by simpa using hj
            have := BTV.cell (0 + 0 * 6 + i)
            rw [this, Nat.zero_mul, Nat.zero_add]
            simpa using hv)
          have HXer : Hid (X.er = classG cs false) := Lib.hid (by
            rw [hXe, hYe, ← Hce.out]
            simp [classG, CT.er, CT.erL, anyC, Np.together])
          clear hXe hYe hVz
          have hXin : X.In V V.heap.size := HXon.out.in_ (fun b hb => hb.2)
          have hCk := rCheck_any X V hXin
          obtain ⟨kk, hkk⟩ : ∃ k, X.check = k := ⟨_, rfl⟩
          rw [hkk, CT.val_eq] at hCk
          have Hkk := Lib.hid hkk
          obtain ⟨x0, x1, x2, x3, x4, x5⟩ := ct_cells HBX.out
          clear hkk hXin
          go_wp2_with (go_at_call 12; refine hCk.mono ?_)
          first | rintro e V2 rfl hbV2 | rintro e V2 ⟨rfl, hbV2⟩
          have hbVV := b_step hbV2 hbV
          have hVs := hbV2.size
          have hWV : W3.heap.size ≤ V2.heap.size := hbVV.size
          have BRr : Blk V2 (w.heap.size + 1 + 1) #[.int .i64 0, .string ⟨#[]⟩, .string ⟨#[]⟩, .string ⟨#[]⟩, .slice none 0 0, .slice none 0 0] 26 := (hbVV.block _ (by omega)).trans BR
          have HXon2 : Hid (X.On (fun b => W3.heap.size ≤ b ∧ b < V2.heap.size) V2) := Lib.hid (HXon.out.keep (fun b hb => ⟨hb.1, Nat.lt_of_lt_of_le hb.2 hVs⟩) (fun b hb => hbV2.block b hb.2))
          have BX2 := HBX.out.below hbV2
          clear x0 x1 x2 x3 x4 x5 hCk
          obtain ⟨x0, x1, x2, x3, x4, x5⟩ := ct_cells BX2
          have f0 := BRr.frozen 0
          have f1 := BRr.frozen 1
          have f2 := BRr.frozen 2
          have f3 := BRr.frozen 3
          have f4 := BRr.frozen 4
          have f5 := BRr.frozen 5
          have z0 := BRr.cell 0
          have z1 := BRr.cell 1
          have z2 := BRr.cell 2
          have z3 := BRr.cell 3
          have z4 := BRr.cell 4
          have z5 := BRr.cell 5
          simp only [List.getElem?_toArray, List.getElem?_cons_zero, List.getElem?_cons_succ] at z0 z1 z2 z3 z4 z5
          have hck0 : chkL [t, u] = 0 := chkL_zero [t, u] (by intro x hx; simp at hx; rcases hx with rfl | rfl; exact Hck.out.1; exact Hck.out.2)
          by_cases h0 : kk = 0
          · have HN0 : Hid (NormR [t, u] (fun x => tru how (t.holds x) (u.holds x)) X.er 0) := Lib.hid ⟨fun h => absurd hck0 h, fun _ _ => ⟨X.er, by rw [HXer.out]; exact HNorm.out, fun _ => ⟨rfl, rfl⟩, fun hs => by
              have := smallT_of_check (Hkk.out.trans h0)
              rw [← CT.small_er] at this
              rw [this] at hs; cases hs⟩⟩
            subst h0
            have q := Blk.set6 BRr (.int .i64 X.kind) (.string X.name.sp) (.string X.name.lc) (.string X.space) (.slice X.ea X.ex.length X.ec) (.slice X.aa X.ar.length X.ac)
            have q0 := q.cell 0
            have q1 := q.cell 1
            have q2 := q.cell 2
            have q3 := q.cell 3
            have q4 := q.cell 4
            have q5 := q.cell 5
            simp only [List.getElem?_toArray, List.getElem?_cons_zero, List.getElem?_cons_succ] at q0 q1 q2 q3 q4 q5
            go_wp2
            refine bodyPost_ret (v := .tuple #[.agg #[.int .i64 X.kind, .string X.name.sp, .string X.name.lc, .string X.space, .slice X.ea X.ex.length X.ec, .slice X.aa X.ar.length X.ac], .int .i64 0]) ?_ rfl ⟨X, 0, by rw [CT.val_eq], ⟨?_, HN0.out⟩, ?_⟩
            · simp [results, Tryz.f54, go_sem, q0, q1, q2, q3, q4, q5]
            · refine HXon2.out.keep (fun b hb => ⟨by omega, by simpa using hb.2⟩) (fun b hb => ?_)
              exact six_other (by omega) _ _ _ _ _ _
            · exact sixBelow (hbw3.trans (hbVV.mono (by omega))) (by omega) _ _ _ _ _ _
          · have HN0 : Hid (NormR [t, u] (fun x => tru how (t.holds x) (u.holds x)) zeroC 3) := Lib.hid ⟨fun h => absurd hck0 h, fun _ _ => ⟨X.er, by rw [HXer.out]; exact HNorm.out, fun hs => by
              exfalso
              exact h0 (Hkk.out.symm.trans (check_of_norm (S := fun x => tru how (t.holds x) (u.holds x)) (by rw [HXer.out]; exact HNorm.out) hs)), fun _ => ⟨rfl, rfl⟩⟩⟩
            have g1 : (kk == 0) = false := by simpa using h0
            have g2 : (kk != 0) = true := by simpa using h0
            have q := Blk.set6 BRr (.int .i64 0) (.string ⟨#[]⟩) (.string ⟨#[]⟩) (.string ⟨#[]⟩) (.slice none 0 0) (.slice none 0 0)
            have q0 := q.cell 0
            have q1 := q.cell 1
            have q2 := q.cell 2
            have q3 := q.cell 3
            have q4 := q.cell 4
            have q5 := q.cell 5
            simp only [List.getElem?_toArray, List.getElem?_cons_zero, List.getElem?_cons_succ] at q0 q1 q2 q3 q4 q5
            clear h0
            go_wp2
            refine bodyPost_ret (v := .tuple #[.agg #[.int .i64 0, .string ⟨#[]⟩, .string ⟨#[]⟩, .string ⟨#[]⟩, .slice none 0 0, .slice none 0 0], .int .i64 3]) ?_ rfl ⟨zeroT, 3, rfl, ⟨?_, by rw [zeroT_er]; exact HN0.out⟩, ?_⟩
            · simp [results, Tryz.f54, go_sem, q0, q1, q2, q3, q4, q5]
            · exact zeroT_on _ _
            · exact sixBelow (hbw3.trans (hbVV.mono (by omega))) (by omega) _ _ _ _ _ _

        · have hT := rTogether_any _ a9 c9 cts W5 hRo (fun b hb => by have := hb.2; omega)
          obtain ⟨T, hTe⟩ : ∃ T, togC a9 c9 cts = T := ⟨_, rfl⟩
          rw [hTe, CT.val_eq] at hT
          have HTer : Hid (Np.together cs = [T.er]) := Lib.hid (by rw [← hTe, ← togC_er a9 c9 cts hc0, Hce.out])
          have HTe := Lib.hid hTe
          have d5 : decide (0 < (cts.length : Int)) = true := decide_eq_true (by have := List.length_pos_iff.2 hc0; omega)
          have d6 : decide (0 < cts.length) = true := decide_eq_true (List.length_pos_iff.2 hc0)
          have d7 : ((cts.length : Int) == 0) = false := by have := List.length_pos_iff.2 hc0; simp only [beq_eq_false_iff_ne]; omega
          have d8 : (cts.length == 0) = false := by have := List.length_pos_iff.2 hc0; simp only [beq_eq_false_iff_ne]; omega
          have Hc0 := Lib.hid hc0
          clear hTe hc0
          go_upto_region 28 with (fail)
          rw [HW5.out]
          go_wp2_with (go_at_call 87; refine hT.mono ?_)
          first | rintro e W6 rfl hb6 | rintro e W6 ⟨rfl, hb6⟩
          have hb6s := hb6.size
          have hTon : ∀ Z, Below wr.heap.size wr Z → T.On (fun b => W3.heap.size ≤ b ∧ b < Z.heap.size) Z := fun Z hZ => by
            have hon2 : ∀ x ∈ cts, x.On (fun b => W3.heap.size ≤ b ∧ b < Z.heap.size) Z := fun x hx => (hon x hx).keep (fun b hb => ⟨hb.1, Nat.lt_of_lt_of_le hb.2.1 hZ.size⟩) (fun b hb => hZ.block b hb.2.1)
            rw [← HTe.out]
            unfold togC
            by_cases h1 : cts.length = 1
            · rw [if_pos h1]
              refine hon2 _ ?_
              rw [List.getD_eq_getElem?_getD, List.getElem?_eq_getElem (by omega)]
              exact List.getElem_mem (by omega)
            · rw [if_neg h1, CT.On]
              simp only [CT.onL_iff]
              refine ⟨⟨by unfold maxLen; simp [ByteArray.size], by unfold maxLen; simp [ByteArray.size]⟩, by unfold maxLen; simp [ByteArray.size], ⟨by simp, by simp⟩, ⟨by unfold maxLen; omega, fun hl => ?_⟩, by simp, hon2⟩
              obtain ⟨b, o, e, hb, hc⟩ := hrd.cells hl
              exact ⟨b, o, e, ⟨hb.1, Nat.lt_of_lt_of_le hb.2 hZ.size⟩, fun j hj i v hv => (hZ.cell (p := ⟨b, o + j * 6 + i, none⟩) hb.2).trans (hc j hj i v hv)⟩
          have B17' := B17.below hb6
          have qs := Blk.set6 B17' (.int .i64 T.kind) (.string T.name.sp) (.string T.name.lc) (.string T.space) (.slice T.ea T.ex.length T.ec) (.slice T.aa T.ar.length T.ac)
          have f0 := B17'.frozen 0
          have f1 := B17'.frozen 1
          have f2 := B17'.frozen 2
          have f3 := B17'.frozen 3
          have f4 := B17'.frozen 4
          have f5 := B17'.frozen 5
          have z0 := B17'.cell 0
          have z1 := B17'.cell 1
          have z2 := B17'.cell 2
          have z3 := B17'.cell 3
          have z4 := B17'.cell 4
          have z5 := B17'.cell 5
          simp only [List.getElem?_toArray, List.getElem?_cons_zero, List.getElem?_cons_succ] at z0 z1 z2 z3 z4 z5
          obtain ⟨V, hVe⟩ : ∃ V, (((((W6.setCell ⟨wr.heap.size, 0, none⟩ (.int .i64 T.kind)).setCell ⟨wr.heap.size, 1, none⟩ (.string T.name.sp)).setCell ⟨wr.heap.size, 2, none⟩ (.string T.name.lc)).setCell ⟨wr.heap.size, 3, none⟩ (.string T.space)).setCell ⟨wr.heap.size, 4, none⟩ (.slice T.ea T.ex.length T.ec)).setCell ⟨wr.heap.size, 5, none⟩ (.slice T.aa T.ar.length T.ac) = V := ⟨_, rfl⟩
          have hb8 : Below wr.heap.size wr V := by rw [← hVe]; exact sixBelow (b_step hb6 hb5) (Nat.le_refl _) _ _ _ _ _ _
          have hbV : Below W3.heap.size W3 V := b_step hb8 hbW
          have HBX : Hid (Blk V wr.heap.size T.cells.toArray 26) := Lib.hid (by rw [← hVe, CT.cells_eq]; exact qs)
          have HXon : Hid (T.On (fun b => W3.heap.size ≤ b ∧ b < V.heap.size) V) := Lib.hid (hTon V hb8)
          have HXer : Hid (T.er = classG cs false) := Lib.hid (by
            unfold classG
            rw [HTer.out]; rfl)
          clear hT
          go_upto_region 29 with (fail)
          try rw [hVe]
          clear f0 f1 f2 f3 f4 f5 z0 z1 z2 z3 z4 z5
          have hXin : T.In V V.heap.size := HXon.out.in_ (fun b hb => hb.2)
          have hCk := rCheck_any T V hXin
          obtain ⟨kk, hkk⟩ : ∃ k, T.check = k := ⟨_, rfl⟩
          rw [hkk, CT.val_eq] at hCk
          have Hkk := Lib.hid hkk
          obtain ⟨x0, x1, x2, x3, x4, x5⟩ := ct_cells HBX.out
          clear hkk hXin
          go_wp2_with (go_at_call 12; refine hCk.mono ?_)
          first | rintro e V2 rfl hbV2 | rintro e V2 ⟨rfl, hbV2⟩
          have hbVV := b_step hbV2 hbV
          have hVs := hbV2.size
          have hWV : W3.heap.size ≤ V2.heap.size := hbVV.size
          have BRr : Blk V2 (w.heap.size + 1 + 1) #[.int .i64 0, .string ⟨#[]⟩, .string ⟨#[]⟩, .string ⟨#[]⟩, .slice none 0 0, .slice none 0 0] 26 := (hbVV.block _ (by omega)).trans BR
          have HXon2 : Hid (T.On (fun b => W3.heap.size ≤ b ∧ b < V2.heap.size) V2) := Lib.hid (HXon.out.keep (fun b hb => ⟨hb.1, Nat.lt_of_lt_of_le hb.2 hVs⟩) (fun b hb => hbV2.block b hb.2))
          have BX2 := HBX.out.below hbV2
          clear x0 x1 x2 x3 x4 x5 hCk
          obtain ⟨x0, x1, x2, x3, x4, x5⟩ := ct_cells BX2
          have f0 := BRr.frozen 0
          have f1 := BRr.frozen 1
          have f2 := BRr.frozen 2
          have f3 := BRr.frozen 3
          have f4 := BRr.frozen 4
          have f5 := BRr.frozen 5
          have z0 := BRr.cell 0
          have z1 := BRr.cell 1
          have z2 := BRr.cell 2
          have z3 := BRr.cell 3
          have z4 := BRr.cell 4
          have z5 := BRr.cell 5
          simp only [List.getElem?_toArray, List.getElem?_cons_zero, List.getElem?_cons_succ] at z0 z1 z2 z3 z4 z5
          have hck0 : chkL [t, u] = 0 := chkL_zero [t, u] (by intro x hx; simp at hx; rcases hx with rfl | rfl; exact Hck.out.1; exact Hck.out.2)
          by_cases h0 : kk = 0
          · have HN0 : Hid (NormR [t, u] (fun x => tru how (t.holds x) (u.holds x)) T.er 0) := Lib.hid ⟨fun h => absurd hck0 h, fun _ _ => ⟨T.er, by rw [HXer.out]; exact HNorm.out, fun _ => ⟨rfl, rfl⟩, fun hs => by
              have := smallT_of_check (Hkk.out.trans h0)
              rw [← CT.small_er] at this
              rw [this] at hs; cases hs⟩⟩
            subst h0
            have q := Blk.set6 BRr (.int .i64 T.kind) (.string T.name.sp) (.string T.name.lc) (.string T.space) (.slice T.ea T.ex.length T.ec) (.slice T.aa T.ar.length T.ac)
            have q0 := q.cell 0
            have q1 := q.cell 1
            have q2 := q.cell 2
            have q3 := q.cell 3
            have q4 := q.cell 4
            have q5 := q.cell 5
            simp only [List.getElem?_toArray, List.getElem?_cons_zero, List.getElem?_cons_succ] at q0 q1 q2 q3 q4 q5
            go_wp2
            refine bodyPost_ret (v := .tuple #[.agg #[.int .i64 T.kind, .string T.name.sp, .string T.name.lc, .string T.space, .slice T.ea T.ex.length T.ec, .slice T.aa T.ar.length T.ac], .int .i64 0]) ?_ rfl ⟨T, 0, by rw [CT.val_eq], ⟨?_, HN0.out⟩, ?_⟩
            · simp [results, Tryz.f54, go_sem, q0, q1, q2, q3, q4, q5]
            · refine HXon2.out.keep (fun b hb => ⟨by omega, by simpa using hb.2⟩) (fun b hb => ?_)
              exact six_other (by omega) _ _ _ _ _ _
            · exact sixBelow (hbw3.trans (hbVV.mono (by omega))) (by omega) _ _ _ _ _ _
          · have HN0 : Hid (NormR [t, u] (fun x => tru how (t.holds x) (u.holds x)) zeroC 3) := Lib.hid ⟨fun h => absurd hck0 h, fun _ _ => ⟨T.er, by rw [HXer.out]; exact HNorm.out, fun hs => by
              exfalso
              exact h0 (Hkk.out.symm.trans (check_of_norm (S := fun x => tru how (t.holds x) (u.holds x)) (by rw [HXer.out]; exact HNorm.out) hs)), fun _ => ⟨rfl, rfl⟩⟩⟩
            have g1 : (kk == 0) = false := by simpa using h0
            have g2 : (kk != 0) = true := by simpa using h0
            have q := Blk.set6 BRr (.int .i64 0) (.string ⟨#[]⟩) (.string ⟨#[]⟩) (.string ⟨#[]⟩) (.slice none 0 0) (.slice none 0 0)
            have q0 := q.cell 0
            have q1 := q.cell 1
            have q2 := q.cell 2
            have q3 := q.cell 3
            have q4 := q.cell 4
            have q5 := q.cell 5
            simp only [List.getElem?_toArray, List.getElem?_cons_zero, List.getElem?_cons_succ] at q0 q1 q2 q3 q4 q5
            clear h0
            go_wp2
            refine bodyPost_ret (v := .tuple #[.agg #[.int .i64 0, .string ⟨#[]⟩, .string ⟨#[]⟩, .string ⟨#[]⟩, .slice none 0 0, .slice none 0 0], .int .i64 3]) ?_ rfl ⟨zeroT, 3, rfl, ⟨?_, by rw [zeroT_er]; exact HN0.out⟩, ?_⟩
            · simp [results, Tryz.f54, go_sem, q0, q1, q2, q3, q4, q5]
            · exact zeroT_on _ _
            · exact sixBelow (hbw3.trans (hbVV.mono (by omega))) (by omega) _ _ _ _ _ _

      · have hwf : wide = true := hwd
        clear hwd
        subst hwf
        by_cases hc0 : cts = []
        · subst hc0
          obtain ⟨V, hVe⟩ : ∃ V, W5 = V := ⟨_, rfl⟩
          have hbV : Below W3.heap.size W3 V := by rw [← hVe]; exact b_step hb5 hbW
          obtain ⟨X, hXe⟩ : ∃ X : CT, X = .mk 3 ⟨⟨#[]⟩, ⟨#[]⟩⟩ ⟨#[]⟩ none 0 [] none 0 [] := ⟨_, rfl⟩
          have HBX : Hid (Blk V wr.heap.size X.cells.toArray 26) := Lib.hid (by rw [← hVe, hXe]; exact B17)
          have HXon : Hid (X.On (fun b => W3.heap.size ≤ b ∧ b < V.heap.size) V) := Lib.hid (by
            rw [hXe, CT.On]
            simp only [CT.onL_iff]
            exact ⟨⟨by unfold maxLen; simp [ByteArray.size], by unfold maxLen; simp [ByteArray.size]⟩, by unfold maxLen; simp [ByteArray.size], ⟨by simp, by simp⟩, ⟨by simp, by simp⟩, by simp, by simp⟩)
          have HXer : Hid (X.er = classG cs true) := Lib.hid (by
            rw [hXe, ← Hce.out]
            simp [classG, CT.er, CT.erL, anyC, Np.together])
          clear hXe
          go_upto_if 113 with (fail)
          rw [HW5.out, hVe]
          have hXin : X.In V V.heap.size := HXon.out.in_ (fun b hb => hb.2)
          have hCk := rCheck_any X V hXin
          obtain ⟨kk, hkk⟩ : ∃ k, X.check = k := ⟨_, rfl⟩
          rw [hkk, CT.val_eq] at hCk
          have Hkk := Lib.hid hkk
          obtain ⟨x0, x1, x2, x3, x4, x5⟩ := ct_cells HBX.out
          clear hkk hXin
          go_wp2_with (go_at_call 12; refine hCk.mono ?_)
          first | rintro e V2 rfl hbV2 | rintro e V2 ⟨rfl, hbV2⟩
          have hbVV := b_step hbV2 hbV
          have hVs := hbV2.size
          have hWV : W3.heap.size ≤ V2.heap.size := hbVV.size
          have BRr : Blk V2 (w.heap.size + 1 + 1) #[.int .i64 0, .string ⟨#[]⟩, .string ⟨#[]⟩, .string ⟨#[]⟩, .slice none 0 0, .slice none 0 0] 26 := (hbVV.block _ (by omega)).trans BR
          have HXon2 : Hid (X.On (fun b => W3.heap.size ≤ b ∧ b < V2.heap.size) V2) := Lib.hid (HXon.out.keep (fun b hb => ⟨hb.1, Nat.lt_of_lt_of_le hb.2 hVs⟩) (fun b hb => hbV2.block b hb.2))
          have BX2 := HBX.out.below hbV2
          clear x0 x1 x2 x3 x4 x5 hCk
          obtain ⟨x0, x1, x2, x3, x4, x5⟩ := ct_cells BX2
          have f0 := BRr.frozen 0
          have f1 := BRr.frozen 1
          have f2 := BRr.frozen 2
          have f3 := BRr.frozen 3
          have f4 := BRr.frozen 4
          have f5 := BRr.frozen 5
          have z0 := BRr.cell 0
          have z1 := BRr.cell 1
          have z2 := BRr.cell 2
          have z3 := BRr.cell 3
          have z4 := BRr.cell 4
          have z5 := BRr.cell 5
          simp only [List.getElem?_toArray, List.getElem?_cons_zero, List.getElem?_cons_succ] at z0 z1 z2 z3 z4 z5
          have hck0 : chkL [t, u] = 0 := chkL_zero [t, u] (by intro x hx; simp at hx; rcases hx with rfl | rfl; exact Hck.out.1; exact Hck.out.2)
          by_cases h0 : kk = 0
          · have HN0 : Hid (NormR [t, u] (fun x => tru how (t.holds x) (u.holds x)) X.er 0) := Lib.hid ⟨fun h => absurd hck0 h, fun _ _ => ⟨X.er, by rw [HXer.out]; exact HNorm.out, fun _ => ⟨rfl, rfl⟩, fun hs => by
              have := smallT_of_check (Hkk.out.trans h0)
              rw [← CT.small_er] at this
              rw [this] at hs; cases hs⟩⟩
            subst h0
            have q := Blk.set6 BRr (.int .i64 X.kind) (.string X.name.sp) (.string X.name.lc) (.string X.space) (.slice X.ea X.ex.length X.ec) (.slice X.aa X.ar.length X.ac)
            have q0 := q.cell 0
            have q1 := q.cell 1
            have q2 := q.cell 2
            have q3 := q.cell 3
            have q4 := q.cell 4
            have q5 := q.cell 5
            simp only [List.getElem?_toArray, List.getElem?_cons_zero, List.getElem?_cons_succ] at q0 q1 q2 q3 q4 q5
            go_wp2
            refine bodyPost_ret (v := .tuple #[.agg #[.int .i64 X.kind, .string X.name.sp, .string X.name.lc, .string X.space, .slice X.ea X.ex.length X.ec, .slice X.aa X.ar.length X.ac], .int .i64 0]) ?_ rfl ⟨X, 0, by rw [CT.val_eq], ⟨?_, HN0.out⟩, ?_⟩
            · simp [results, Tryz.f54, go_sem, q0, q1, q2, q3, q4, q5]
            · refine HXon2.out.keep (fun b hb => ⟨by omega, by simpa using hb.2⟩) (fun b hb => ?_)
              exact six_other (by omega) _ _ _ _ _ _
            · exact sixBelow (hbw3.trans (hbVV.mono (by omega))) (by omega) _ _ _ _ _ _
          · have HN0 : Hid (NormR [t, u] (fun x => tru how (t.holds x) (u.holds x)) zeroC 3) := Lib.hid ⟨fun h => absurd hck0 h, fun _ _ => ⟨X.er, by rw [HXer.out]; exact HNorm.out, fun hs => by
              exfalso
              exact h0 (Hkk.out.symm.trans (check_of_norm (S := fun x => tru how (t.holds x) (u.holds x)) (by rw [HXer.out]; exact HNorm.out) hs)), fun _ => ⟨rfl, rfl⟩⟩⟩
            have g1 : (kk == 0) = false := by simpa using h0
            have g2 : (kk != 0) = true := by simpa using h0
            have q := Blk.set6 BRr (.int .i64 0) (.string ⟨#[]⟩) (.string ⟨#[]⟩) (.string ⟨#[]⟩) (.slice none 0 0) (.slice none 0 0)
            have q0 := q.cell 0
            have q1 := q.cell 1
            have q2 := q.cell 2
            have q3 := q.cell 3
            have q4 := q.cell 4
            have q5 := q.cell 5
            simp only [List.getElem?_toArray, List.getElem?_cons_zero, List.getElem?_cons_succ] at q0 q1 q2 q3 q4 q5
            clear h0
            go_wp2
            refine bodyPost_ret (v := .tuple #[.agg #[.int .i64 0, .string ⟨#[]⟩, .string ⟨#[]⟩, .string ⟨#[]⟩, .slice none 0 0, .slice none 0 0], .int .i64 3]) ?_ rfl ⟨zeroT, 3, rfl, ⟨?_, by rw [zeroT_er]; exact HN0.out⟩, ?_⟩
            · simp [results, Tryz.f54, go_sem, q0, q1, q2, q3, q4, q5]
            · exact zeroT_on _ _
            · exact sixBelow (hbw3.trans (hbVV.mono (by omega))) (by omega) _ _ _ _ _ _

        · have hT := rTogether_any _ a9 c9 cts W5 hRo (fun b hb => by have := hb.2; omega)
          obtain ⟨T, hTe⟩ : ∃ T, togC a9 c9 cts = T := ⟨_, rfl⟩
          rw [hTe, CT.val_eq] at hT
          have HTer : Hid (Np.together cs = [T.er]) := Lib.hid (by rw [← hTe, ← togC_er a9 c9 cts hc0, Hce.out])
          have HTe := Lib.hid hTe
          have d5 : decide (0 < (cts.length : Int)) = true := decide_eq_true (by have := List.length_pos_iff.2 hc0; omega)
          have d6 : decide (0 < cts.length) = true := decide_eq_true (List.length_pos_iff.2 hc0)
          have d7 : ((cts.length : Int) == 0) = false := by have := List.length_pos_iff.2 hc0; simp only [beq_eq_false_iff_ne]; omega
          have d8 : (cts.length == 0) = false := by have := List.length_pos_iff.2 hc0; simp only [beq_eq_false_iff_ne]; omega
          have Hc0 := Lib.hid hc0
          clear hTe hc0
          go_upto_region 24 with (fail)
          rw [HW5.out]
          go_wp2_with (go_at_call 87; refine hT.mono ?_)
          first | rintro e W6 rfl hb6 | rintro e W6 ⟨rfl, hb6⟩
          have hb6s := hb6.size
          have hTon : ∀ Z, Below wr.heap.size wr Z → T.On (fun b => W3.heap.size ≤ b ∧ b < Z.heap.size) Z := fun Z hZ => by
            have hon2 : ∀ x ∈ cts, x.On (fun b => W3.heap.size ≤ b ∧ b < Z.heap.size) Z := fun x hx => (hon x hx).keep (fun b hb => ⟨hb.1, Nat.lt_of_lt_of_le hb.2.1 hZ.size⟩) (fun b hb => hZ.block b hb.2.1)
            rw [← HTe.out]
            unfold togC
            by_cases h1 : cts.length = 1
            · rw [if_pos h1]
              refine hon2 _ ?_
              rw [List.getD_eq_getElem?_getD, List.getElem?_eq_getElem (by omega)]
              exact List.getElem_mem (by omega)
            · rw [if_neg h1, CT.On]
              simp only [CT.onL_iff]
              refine ⟨⟨by unfold maxLen; simp [ByteArray.size], by unfold maxLen; simp [ByteArray.size]⟩, by unfold maxLen; simp [ByteArray.size], ⟨by simp, by simp⟩, ⟨by unfold maxLen; omega, fun hl => ?_⟩, by simp, hon2⟩
              obtain ⟨b, o, e, hb, hc⟩ := hrd.cells hl
              exact ⟨b, o, e, ⟨hb.1, Nat.lt_of_lt_of_le hb.2 hZ.size⟩, fun j hj i v hv => (hZ.cell (p := ⟨b, o + j * 6 + i, none⟩) hb.2).trans (hc j hj i v hv)⟩
          obtain ⟨W7, hW7⟩ : ∃ W7, W6.alloc (.cells #[.int .i64 T.kind, .string T.name.sp, .string T.name.lc, .string T.space, .slice T.ea T.ex.length T.ec, .slice T.aa T.ar.length T.ac] 26) = W7 := ⟨_, rfl⟩
          have hb7 : Below W6.heap.size W6 W7 := by rw [← hW7]; exact (Below.refl _ _).alloc (Nat.le_refl _) _
          have BT : Blk W7 W6.heap.size T.cells.toArray 26 := by rw [← hW7, CT.cells_eq]; exact Blk.new _ _ _
          have hb7s := hb7.size
          have hBTl := BT.lt
          have B17' := (B17.below hb6).below hb7
          have z4 := B17'.cell 4
          have f4 := B17'.frozen 4
          have qs := B17'.set 4 (by simp) (.slice (some ⟨W6.heap.size, 0, none⟩) 1 1)
          simp only [List.setIfInBounds_toArray, List.set_cons_zero, List.set_cons_succ] at qs
          simp only [List.getElem?_toArray, List.getElem?_cons_zero, List.getElem?_cons_succ] at z4
          obtain ⟨V, hVe⟩ : ∃ V, W7.setCell ⟨wr.heap.size, 4, none⟩ (.slice (some ⟨W6.heap.size, 0, none⟩) 1 1) = V := ⟨_, rfl⟩
          have hb8 : Below wr.heap.size wr V := by rw [← hVe]; exact (b_step hb7 (b_step hb6 hb5)).setCell (p := ⟨wr.heap.size, 4, none⟩) (Nat.le_refl _) _
          have hVz : V.heap.size = W7.heap.size := by rw [← hVe]; simp
          have hbV : Below W3.heap.size W3 V := b_step hb8 hbW
          have BTV : Blk V W6.heap.size T.cells.toArray 26 := by rw [← hVe]; unfold Blk; rw [sameMap_setCell (by omega)]; exact BT
          obtain ⟨X, hXe⟩ : ∃ X : CT, X = .mk 3 ⟨⟨#[]⟩, ⟨#[]⟩⟩ ⟨#[]⟩ (some ⟨W6.heap.size, 0, none⟩) 1 [T] none 0 [] := ⟨_, rfl⟩
          have HBX : Hid (Blk V wr.heap.size X.cells.toArray 26) := Lib.hid (by rw [← hVe, hXe]; exact qs)
          have HXon : Hid (X.On (fun b => W3.heap.size ≤ b ∧ b < V.heap.size) V) := Lib.hid (by
            have hTV := hTon V hb8
            rw [hXe, CT.On]
            simp only [CT.onL_iff]
            refine ⟨⟨by unfold maxLen; simp [ByteArray.size], by unfold maxLen; simp [ByteArray.size]⟩, by unfold maxLen; simp [ByteArray.size], ⟨by unfold maxLen; simp, fun _ => ⟨W6.heap.size, 0, rfl, ⟨by omega, by omega⟩, fun j hj i v hv => ?_⟩⟩, ⟨by simp, by simp⟩, fun x hx => by rw [List.mem_singleton.1 hx]; exact hTV, by simp⟩
            obtain rfl : j = 0 := by simpa using hj
            have := BTV.cell (0 + 0 * 6 + i)
            rw [this, Nat.zero_mul, Nat.zero_add]
            simpa using hv)
          have HXer : Hid (X.er = classG cs true) := Lib.hid (by
            rw [hXe]
            unfold classG
            rw [if_pos rfl, HTer.out]
            simp [CT.er, CT.erL, anyC])
          clear hXe hT hVz
          have hXin : X.In V V.heap.size := HXon.out.in_ (fun b hb => hb.2)
          have hCk := rCheck_any X V hXin
          obtain ⟨kk, hkk⟩ : ∃ k, X.check = k := ⟨_, rfl⟩
          rw [hkk, CT.val_eq] at hCk
          have Hkk := Lib.hid hkk
          obtain ⟨x0, x1, x2, x3, x4, x5⟩ := ct_cells HBX.out
          clear hkk hXin
          go_wp2_with (go_at_call 12; refine hCk.mono ?_)
          first | rintro e V2 rfl hbV2 | rintro e V2 ⟨rfl, hbV2⟩
          have hbVV := b_step hbV2 hbV
          have hVs := hbV2.size
          have hWV : W3.heap.size ≤ V2.heap.size := hbVV.size
          have BRr : Blk V2 (w.heap.size + 1 + 1) #[.int .i64 0, .string ⟨#[]⟩, .string ⟨#[]⟩, .string ⟨#[]⟩, .slice none 0 0, .slice none 0 0] 26 := (hbVV.block _ (by omega)).trans BR
          have HXon2 : Hid (X.On (fun b => W3.heap.size ≤ b ∧ b < V2.heap.size) V2) := Lib.hid (HXon.out.keep (fun b hb => ⟨hb.1, Nat.lt_of_lt_of_le hb.2 hVs⟩) (fun b hb => hbV2.block b hb.2))
          have BX2 := HBX.out.below hbV2
          clear x0 x1 x2 x3 x4 x5 hCk
          obtain ⟨x0, x1, x2, x3, x4, x5⟩ := ct_cells BX2
          have f0 := BRr.frozen 0
          have f1 := BRr.frozen 1
          have f2 := BRr.frozen 2
          have f3 := BRr.frozen 3
          have f4 := BRr.frozen 4
          have f5 := BRr.frozen 5
          have z0 := BRr.cell 0
          have z1 := BRr.cell 1
          have z2 := BRr.cell 2
          have z3 := BRr.cell 3
          have z4 := BRr.cell 4
          have z5 := BRr.cell 5
          simp only [List.getElem?_toArray, List.getElem?_cons_zero, List.getElem?_cons_succ] at z0 z1 z2 z3 z4 z5
          have hck0 : chkL [t, u] = 0 := chkL_zero [t, u] (by intro x hx; simp at hx; rcases hx with rfl | rfl; exact Hck.out.1; exact Hck.out.2)
          by_cases h0 : kk = 0
          · have HN0 : Hid (NormR [t, u] (fun x => tru how (t.holds x) (u.holds x)) X.er 0) := Lib.hid ⟨fun h => absurd hck0 h, fun _ _ => ⟨X.er, by rw [HXer.out]; exact HNorm.out, fun _ => ⟨rfl, rfl⟩, fun hs => by
              have := smallT_of_check (Hkk.out.trans h0)
              rw [← CT.small_er] at this
              rw [this] at hs; cases hs⟩⟩
            subst h0
            have q := Blk.set6 BRr (.int .i64 X.kind) (.string X.name.sp) (.string X.name.lc) (.string X.space) (.slice X.ea X.ex.length X.ec) (.slice X.aa X.ar.length X.ac)
            have q0 := q.cell 0
            have q1 := q.cell 1
            have q2 := q.cell 2
            have q3 := q.cell 3
            have q4 := q.cell 4
            have q5 := q.cell 5
            simp only [List.getElem?_toArray, List.getElem?_cons_zero, List.getElem?_cons_succ] at q0 q1 q2 q3 q4 q5
            go_wp2
            refine bodyPost_ret (v := .tuple #[.agg #[.int .i64 X.kind, .string X.name.sp, .string X.name.lc, .string X.space, .slice X.ea X.ex.length X.ec, .slice X.aa X.ar.length X.ac], .int .i64 0]) ?_ rfl ⟨X, 0, by rw [CT.val_eq], ⟨?_, HN0.out⟩, ?_⟩
            · simp [results, Tryz.f54, go_sem, q0, q1, q2, q3, q4, q5]
            · refine HXon2.out.keep (fun b hb => ⟨by omega, by simpa using hb.2⟩) (fun b hb => ?_)
              exact six_other (by omega) _ _ _ _ _ _
            · exact sixBelow (hbw3.trans (hbVV.mono (by omega))) (by omega) _ _ _ _ _ _
          · have HN0 : Hid (NormR [t, u] (fun x => tru how (t.holds x) (u.holds x)) zeroC 3) := Lib.hid ⟨fun h => absurd hck0 h, fun _ _ => ⟨X.er, by rw [HXer.out]; exact HNorm.out, fun hs => by
              exfalso
              exact h0 (Hkk.out.symm.trans (check_of_norm (S := fun x => tru how (t.holds x) (u.holds x)) (by rw [HXer.out]; exact HNorm.out) hs)), fun _ => ⟨rfl, rfl⟩⟩⟩
            have g1 : (kk == 0) = false := by simpa using h0
            have g2 : (kk != 0) = true := by simpa using h0
            have q := Blk.set6 BRr (.int .i64 0) (.string ⟨#[]⟩) (.string ⟨#[]⟩) (.string ⟨#[]⟩) (.slice none 0 0) (.slice none 0 0)
            have q0 := q.cell 0
            have q1 := q.cell 1
            have q2 := q.cell 2
            have q3 := q.cell 3
            have q4 := q.cell 4
            have q5 := q.cell 5
            simp only [List.getElem?_toArray, List.getElem?_cons_zero, List.getElem?_cons_succ] at q0 q1 q2 q3 q4 q5
            clear h0
            go_wp2
            refine bodyPost_ret (v := .tuple #[.agg #[.int .i64 0, .string ⟨#[]⟩, .string ⟨#[]⟩, .string ⟨#[]⟩, .slice none 0 0, .slice none 0 0], .int .i64 3]) ?_ rfl ⟨zeroT, 3, rfl, ⟨?_, by rw [zeroT_er]; exact HN0.out⟩, ?_⟩
            · simp [results, Tryz.f54, go_sem, q0, q1, q2, q3, q4, q5]
            · exact zeroT_on _ _
            · exact sixBelow (hbw3.trans (hbVV.mono (by omega))) (by omega) _ _ _ _ _ _
end Np
end Go.Proofs.YtohlhihhadbphaaGreatDoor
