/- The reference of names: Cells. -/
import Derived.Test.YtohlhihhadbphaaGreatDoorRu
import Derived.Test.YtohlhihhadbphaaGreatDoorRm
import Derived.Deep.RegionLaw
set_option linter.unusedSimpArgs false
set_option linter.unusedVariables false
namespace Go.Proofs.YtohlhihhadbphaaGreatDoor
open Go.RowKit Go.Shelf Go.Lib Go.Maps
namespace Np
def OwnR (W : World) (lo : Nat) (v : Value) (cs : List (Name × List Bool)) : Prop :=
  ∃ cms : List CR, cms.map (fun c => (c.n, c.bs)) = cs ∧ W.ownsRow lo 52 3 v cms.length (cms.flatMap CR.cells) ∧ ∀ c ∈ cms, Rw 1 encB (fun b => lo ≤ b ∧ b < W.heap.size ∧ some b ≠ v.ownBlock) W c.ia c.bs
theorem OwnR.nil (W : World) (lo : Nat) : OwnR W lo (.slice none 0 0) [] := ⟨[], rfl, World.ownsRow_nil _ _ _ _, by simp⟩
theorem OwnR.later {W W' : World} {lo : Nat} {v : Value} {cs : List (Name × List Bool)} (h : OwnR W lo v cs) (hb : Below W.heap.size W W') : OwnR W' lo v cs := by
  obtain ⟨cms, h1, h2, h3⟩ := h
  exact ⟨cms, h1, ownsRow_kept h2 (below_grown hb) (by cases v.ownBlock <;> simp), fun c hc => (h3 c hc).keep (fun b h => ⟨h.1, Nat.lt_of_lt_of_le h.2.1 hb.size, h.2.2⟩) (fun b h => hb.block b h.2.1)⟩
theorem OwnR.row {W : World} {lo : Nat} {v : Value} {cs : List (Name × List Bool)} (h : OwnR W lo v cs) (hl : cs.length ≤ 1000000) : ∃ a c, v = .slice a cs.length c ∧ CRow (fun b => lo ≤ b ∧ b < W.heap.size) W a cs := by
  obtain ⟨cms, rfl, h2, h3⟩ := h
  rw [List.length_map] at hl
  obtain ⟨a, c, e, _, _, hr⟩ := Rw.of_own cr_len hl h2
  exact ⟨a, c, by rw [e, List.length_map], _, rfl, hr, fun x hx => (h3 x hx).keep (fun b h => ⟨h.1, h.2.1⟩) (fun _ _ => rfl)⟩
structure ISt (W0 : World) (l : List Bool) (v : Value) (W : World) : Prop where
  own : W.ownsRow W0.heap.size 4 1 v l.length (l.flatMap encB)
  bel : Below W0.heap.size W0 W
theorem in_append {W0 : World} {L : List Bool} {v : Value} {wr : World} (h : ISt W0 L v wr) (hl : L.length ≤ 1000) (V : World) (hV : Below wr.heap.size wr V) (r : Bool) :
    ∃ v7 w7, (Builtin.append_ #[50, 50] 50 #[v, .slice (some ⟨V.heap.size, 0, none⟩) 1 1]).run Tryz.prog (V.alloc (.cells #[.bool r] 4)) = .ok v7 w7 ∧ Hid (ISt W0 (L ++ [r]) v7 w7) := by
  obtain ⟨i0, hi, hz0, hz1, hz2⟩ := info_partsB
  have hown := ownsRow_kept h.own (below_grown hV) (by cases v.ownBlock <;> simp)
  have hb : Below W0.heap.size W0 V := h.bel.trans (hV.mono h.bel.size)
  have hbs := hb.size
  obtain ⟨v7, w7, h1, h2, h3, h4⟩ := run_app (l := L) (W := V.alloc (.cells #[.bool r] 4)) encB_len encB_one W0.heap.size 50 50 4 i0 (.bool false) 1 Tryz.underlying50 hi hz0 hz1 hz2 rfl (by decide) (by decide) v (hown.alloc _) (some ⟨V.heap.size, 0, none⟩) 1 [r] (Rw.one r V 4) (by simp; omega) (by simp; omega)
  exact ⟨v7, w7, h1, Lib.hid ⟨h2, (hb.alloc hbs _).grown h3 (by simp; omega) (own_lt hown)⟩⟩
def RCellsE (w : World) (lst : List CT) (e : Ending) (w' : World) : Prop := ∃ v : Value, e = .returned (.tuple #[v, .int .i64 (if 100 < lst.length then 3 else chkL lst)]) ∧ Hid (OwnR w' w.heap.size v (if 100 < lst.length then [] else if chkL lst = 0 then cellsF lst (candsOf lst []) else [])) ∧ Below w.heap.size w w'
theorem chkL_at (lst : List CT) (k : Nat) (hk : k < lst.length) (h : ∀ u ∈ lst.take k, u.check = 0) (h0 : lst[k].check ≠ 0) : chkL lst = lst[k].check := by
  induction lst generalizing k with
  | nil => simp at hk
  | cons a r ih =>
    cases k with
    | zero =>
      have h1 : a.check ≠ 0 := h0
      show (if a.check = 0 then chkL r else a.check) = a.check
      rw [if_neg h1]
    | succ k =>
      have hk' : k < r.length := by simpa using hk
      show (if a.check = 0 then chkL r else a.check) = (r[k]'hk').check
      rw [if_pos (h a (by simp))]
      exact ih k hk' (fun u hu => h u (by simp [hu])) h0
theorem nodL_ok (lst : List CT) (h : ∀ u ∈ lst, u.check = 0) : nodL lst ≤ lst.length * 100 := by
  unfold nodL
  induction lst with
  | nil => simp
  | cons a r ih =>
    have := nod_le (h a (by simp))
    have := ih (fun u hu => h u (by simp [hu]))
    simp only [List.map_cons, List.sum_cons, List.length_cons]
    omega
theorem OwnR.append {W0 W : World} {v : Value} {cs : List (Name × List Bool)} (h : OwnR W W0.heap.size v cs) (hb : Below W0.heap.size W0 W) (x : Name) (R : List Bool) (a9 : Option Addr) (c9 : Nat)
    (hR : Rw 1 encB (fun b => W0.heap.size ≤ b ∧ b < W.heap.size ∧ some b ≠ v.ownBlock) W a9 R) (hl : cs.length < 1000000) :
    ∃ v7 w7, (Builtin.append_ #[45, 45] 45 #[v, .slice (some ⟨W.heap.size, 0, none⟩) 1 1]).run Tryz.prog (W.alloc (.cells #[.string x.sp, .string x.lc, .slice a9 R.length c9] 52)) = .ok v7 w7 ∧ OwnR w7 W0.heap.size v7 (cs ++ [(x, R)]) ∧ Below W0.heap.size W0 w7 := by
  obtain ⟨cms, rfl, hrow, hin⟩ := h
  rw [List.length_map] at hl
  have hbs := hb.size
  obtain ⟨i0, hi, hz0, hz1, hz2⟩ := info_partsC
  obtain ⟨v7, w7, h1, h2, h3, h4⟩ := run_app (l := cms) (W := W.alloc (.cells #[.string x.sp, .string x.lc, .slice a9 R.length c9] 52)) cr_len cr_one W0.heap.size 45 45 52 i0 _ 56 Tryz.underlying45 hi hz0 hz1 hz2 rfl (by decide) (by decide) v (hrow.alloc _) (some ⟨W.heap.size, 0, none⟩) 1 [(⟨x, a9, c9, R⟩ : CR)] (Rw.one (⟨x, a9, c9, R⟩ : CR) W 52) (by simp; omega) (by simp; omega)
  refine ⟨v7, w7, h1, ⟨cms ++ [⟨x, a9, c9, R⟩], by simp, h2, fun c hc => ?_⟩, (hb.alloc hbs _).grown h3 (by simp; omega) (own_lt hrow)⟩
  have hgs := h3.size
  rw [World.size_alloc] at hgs h4
  have hk : ∀ b, (W0.heap.size ≤ b ∧ b < W.heap.size ∧ some b ≠ v.ownBlock) → (W0.heap.size ≤ b ∧ b < w7.heap.size ∧ some b ≠ v7.ownBlock) := fun b hb' => ⟨hb'.1, by omega, fun e => by
    rcases h4 with h | h
    · exact hb'.2.2 (e.trans h)
    · rw [h] at e; injection e; omega⟩
  have hs : ∀ b, (W0.heap.size ≤ b ∧ b < W.heap.size ∧ some b ≠ v.ownBlock) → w7.heap[b]? = W.heap[b]? := fun b hb' => (h3.block b (by simp; omega) hb'.2.2).trans (((Below.refl W.heap.size W).alloc (Nat.le_refl _) _).block b hb'.2.1)
  rcases List.mem_append.1 hc with hc | hc
  · exact (hin c hc).keep hk hs
  · rw [List.mem_singleton.1 hc]
    exact hR.keep hk hs
structure RSt (W0 : World) (cs : List (Name × List Bool)) (v : Value) (W : World) : Prop where
  own : OwnR W W0.heap.size v cs
  bel : Below W0.heap.size W0 W
set_option maxRecDepth 100000 in
set_option maxHeartbeats 4000000 in
theorem rCells_any (a : Option Addr) (c : Nat) (lst : List CT) (w : World) (hL : LIn w w.heap.size a lst) :
    Calls Tryz.prog 33 #[.slice a lst.length c] w (RCellsE w lst) := by
  have hll := hL.row.1
  unfold maxLen at hll
  have hbw : Below w.heap.size w w := Below.refl _ _
  by_cases hlen : 100 < lst.length
  · have l1 : decide (100 < (lst.length : Int)) = true := decide_eq_true (by omega)
    have l2 : decide (100 < lst.length) = true := decide_eq_true hlen
    have Hlen := Lib.hid hlen
    clear hlen
    go_enter Tryz.func33, Tryz.ntmps33
    go_wp2
    go_ret2
    exact ⟨.slice none 0 0, by rw [if_pos Hlen.out]; rfl, Lib.hid (by rw [if_pos Hlen.out]; exact OwnR.nil _ _), hbw⟩
  have l1 : decide (100 < (lst.length : Int)) = false := decide_eq_false (by omega)
  have l2 : decide (100 < lst.length) = false := decide_eq_false hlen
  have Hlen := Lib.hid hlen
  clear hlen
  go_enter Tryz.func33, Tryz.ntmps33
  go_wp2
  go_loopw [4] (fun i wr => ∃ k : Nat, k ≤ lst.length ∧ i = .int .i64 k ∧ Hid (∀ u ∈ lst.take k, u.check = 0) ∧ Below w.heap.size w wr) (fun i _ => lst.length - (intOf i).toNat)
  case atStart => exact ⟨0, by omega, rfl, Lib.hid (by simp), hbw⟩
  case round =>
    obtain ⟨k, hk, rfl, HI, hb⟩ := hrel
    have hbs := hb.size
    by_cases hlt : k < lst.length
    · have d1 : decide ((k : Int) < (lst.length : Int)) = true := decide_eq_true (by omega)
      have d2 : decide (k < lst.length) = true := decide_eq_true hlt
      obtain ⟨u, hu⟩ : ∃ u, lst[k] = u := ⟨_, rfl⟩
      have hmu : u ∈ lst := by rw [← hu]; exact List.getElem_mem hlt
      obtain ⟨b, o, hao, hbn', hcells⟩ := hL.row.2 (List.ne_nil_of_length_pos (by omega))
      have hcu : ∀ i x, u.cells[i]? = some x → wr.cell? ⟨b, o + k * 6 + i, none⟩ = some x := fun i x hx => (hb.cell (p := ⟨b, o + k * 6 + i, none⟩) hbn').trans (hcells k hlt i x (by rw [hu]; exact hx))
      have u0 := hcu 0 _ rfl
      have u1 := hcu 1 _ rfl
      have u2 := hcu 2 _ rfl
      have u3 := hcu 3 _ rfl
      have u4 := hcu 4 _ rfl
      have u5 := hcu 5 _ rfl
      rw [Nat.add_zero] at u0
      rw [CT.exv_eq] at u4
      rw [CT.arv_eq] at u5
      have hC := rCheck_any u wr (((hL.ins u hmu).below hb (Nat.le_refl _)).mono hbs)
      obtain ⟨ck, hck⟩ : ∃ x, u.check = x := ⟨_, rfl⟩
      rw [hck, CT.val_eq] at hC
      have Hck := Lib.hid hck
      have Hu := Lib.hid hu
      subst hao
      clear hu hck hcu hcells hmu
      go_wp2_with (go_at_call 12; refine hC.mono ?_)
      clear hC u0 u1 u2 u3 u4 u5
      first | rintro e w2 rfl hb2 | rintro e w2 ⟨rfl, hb2⟩
      have hB2 := hb.trans (hb2.mono hbs)
      by_cases h0 : ck = 0
      · subst h0
        have H2 : Hid (∀ u ∈ lst.take (k + 1), u.check = 0) := Lib.hid (by
          rw [List.take_succ_eq_append_getElem hlt, Hu.out]
          intro y hy
          rcases List.mem_append.1 hy with hy | hy
          · exact HI.out y hy
          · rw [List.mem_singleton.1 hy, Hck.out])
        go_wp2
        go_roundw
        case rel =>
          first
            | exact ⟨k + 1, by omega, by go_num, H2, hB2⟩
            | ((repeat apply Exists.intro); exact ⟨⟨k + 1, by omega, by go_num, H2, hB2⟩, rfl⟩)
        case measure =>
          have e3 : ((k : Int) + 1).toNat = k + 1 := by omega
          simp only [intOf, e3, Int.toNat_natCast]
          omega
      · have g1 : (ck == 0) = false := by simpa using h0
        have g2 : (ck != 0) = true := by simpa using h0
        have Hr : Hid (chkL lst = ck) := Lib.hid (by rw [chkL_at lst k hlt HI.out (by rw [Hu.out, Hck.out]; exact h0), Hu.out, Hck.out])
        have H0 := Lib.hid h0
        clear h0
        go_wp2
        go_ret2
        exact ⟨.slice none 0 0, by rw [if_neg Hlen.out, Hr.out]; rfl, Lib.hid (by rw [if_neg Hlen.out, if_neg (by rw [Hr.out]; exact H0.out)]; exact OwnR.nil _ _), hB2⟩
    · have d1 : decide ((k : Int) < (lst.length : Int)) = false := decide_eq_false (by omega)
      have d2 : decide (k < lst.length) = false := decide_eq_false hlt
      have hck : ∀ u ∈ lst, u.check = 0 := by
        have h := HI.out
        rwa [List.take_of_length_le (by omega)] at h
      have Hck := Lib.hid hck
      have hnod := nodL_ok lst hck
      have hLr := (hL.below hb (Nat.le_refl _)).mono hbs
      have hCa := rCandidates_any a c lst (fun _ => False) none 0 [] wr hLr (by have := Hlen.out; omega) (Rw.nil _) (fun _ h => h.elim) (by simp)
      rw [List.length_nil] at hCa
      have Hk0 : Hid (chkL lst = 0) := Lib.hid (chkL_zero lst hck)
      clear hck
      have hwz : wr.heap.size = wr.heap.size := rfl
      obtain ⟨Cd, hCd⟩ : ∃ x, candsOf lst [] = x := ⟨_, rfl⟩
      rw [hCd] at hCa
      have HCd := Lib.hid hCd
      clear hCd hwz
      go_wp2_with (go_at_call 67; refine hCa.mono ?_)
      clear hCa
      rintro e W2 ⟨a2, c2, rfl, ⟨hc2, hc3, hRC⟩, hb2⟩
      have hRC := hRC.keep (A' := fun b => wr.heap.size ≤ b ∧ b < W2.heap.size) (fun b h => h.resolve_left id) (fun _ _ => rfl)
      have Hc2 := Lib.hid (And.intro hc2 hc3)
      have hCl := hRC.len
      have hB2 := hb.trans (hb2.mono hbs)
      have HS : Hid (RSt W2 (cellsF lst (Cd.take 0)) (.slice none 0 0) W2) := Lib.hid ⟨OwnR.nil _ _, Below.refl _ _⟩
      clear hc2 hc3
      go_wp2
      go_loopw [6, 8] (fun v i wz => ∃ k : Nat, k ≤ Cd.length ∧ i = .int .i64 k ∧ Hid (RSt W2 (cellsF lst (Cd.take k)) v wz)) (fun _ i _ => Cd.length - (intOf i).toNat)
      case atStart => exact ⟨0, by omega, rfl, HS⟩
      case round =>
        obtain ⟨k2, hk2, rfl, HI2⟩ := hrel
        have hbz := HI2.out.bel
        have hbzs := hbz.size
        have hBz := hB2.trans (hbz.mono hB2.size)
        by_cases hlt2 : k2 < Cd.length
        · have d3 : decide ((k2 : Int) < (Cd.length : Int)) = true := decide_eq_true (by omega)
          have d4 : decide (k2 < Cd.length) = true := decide_eq_true hlt2
          obtain ⟨b, o, hao, hbA, n0, n1⟩ := rwN_at (hRC.keep (fun _ h => h) (fun b hb' => hbz.block b hb'.2)) hlt2
          have hbl : b < wr.heap.size := Nat.lt_of_lt_of_le hbA.2 hbzs
          obtain ⟨x, hx⟩ : ∃ x, Cd[k2] = x := ⟨_, rfl⟩
          rw [hx] at n0 n1
          have Hx := Lib.hid hx
          obtain ⟨Wz, hWz⟩ : ∃ N, wr.heap.size = N := ⟨_, rfl⟩
          have HWz := Lib.hid hWz
          clear hWz
          have HS0 : Hid (ISt wr ((lst.take 0).map fun u => u.holds x) (.slice none 0 0) wr) := Lib.hid ⟨World.ownsRow_nil _ _ _ _, Below.refl _ _⟩
          subst hao
          clear hx
          go_wp2
          go_loopw [9, 10] (fun v i wz => ∃ m : Nat, m ≤ lst.length ∧ i = .int .i64 m ∧ Hid (ISt wr ((lst.take m).map fun u => u.holds x) v wz)) (fun _ i _ => lst.length - (intOf i).toNat)
          case atStart => exact ⟨0, by omega, rfl, HS0⟩
          case round =>
            obtain ⟨m, hm, rfl, HI3⟩ := hrel
            have hb3 := HI3.out.bel
            have hb3s := hb3.size
            have hBw := hBz.trans (hb3.mono hBz.size)
            by_cases hlt3 : m < lst.length
            · have d5 : decide ((m : Int) < (lst.length : Int)) = true := decide_eq_true (by omega)
              have d6 : decide (m < lst.length) = true := decide_eq_true hlt3
              obtain ⟨u, hu⟩ : ∃ u, lst[m] = u := ⟨_, rfl⟩
              have hmu : u ∈ lst := by rw [← hu]; exact List.getElem_mem hlt3
              obtain ⟨b4, o4, hao4, hbn4, hcells⟩ := hL.row.2 (List.ne_nil_of_length_pos (by omega))
              have hcu : ∀ i y, u.cells[i]? = some y → wr.cell? ⟨b4, o4 + m * 6 + i, none⟩ = some y := fun i y hy => (hBw.cell (p := ⟨b4, o4 + m * 6 + i, none⟩) hbn4).trans (hcells m hlt3 i y (by rw [hu]; exact hy))
              have u0 := hcu 0 _ rfl
              have u1 := hcu 1 _ rfl
              have u2 := hcu 2 _ rfl
              have u3 := hcu 3 _ rfl
              have u4 := hcu 4 _ rfl
              have u5 := hcu 5 _ rfl
              rw [Nat.add_zero] at u0
              rw [CT.exv_eq] at u4
              rw [CT.arv_eq] at u5
              have m0 := (hb3.cell (p := ⟨b, o + k2 * 2, none⟩) hbl).trans n0
              have m1 := (hb3.cell (p := ⟨b, o + k2 * 2 + 1, none⟩) hbl).trans n1
              have hBd := b_drew hBw
              have hC := in_any u x wr.drew (((hL.ins u hmu).below hBd (Nat.le_refl _)).mono hBd.size) (fits_of_check (Hck.out u hmu))
              obtain ⟨r, hr⟩ : ∃ r, u.holds x = r := ⟨_, rfl⟩
              rw [hr, CT.val_eq] at hC
              unfold Name.val at hC
              have Hu : Hid (((lst.take (m + 1)).map fun u => u.holds x) = ((lst.take m).map fun u => u.holds x) ++ [r]) := Lib.hid (by rw [List.take_succ_eq_append_getElem hlt3, hu, List.map_append, List.map_singleton, hr])
              have hAp := fun V (hV : Below wr.heap.size wr V) => in_append HI3.out (by rw [List.length_map, List.length_take]; have := Hlen.out; omega) V hV r
              subst hao4
              clear hu hr hcu hcells hmu
              go_upto_region 18 with (fail)
              go_region_law (first
                | (obtain ⟨v7, w7, hrun7, H7⟩ := hAp _ (b_step hb5 (b_drew (Below.refl _ _))); refine step_append_run rfl (.tmp 44) (.tmp 54) 50 rfl (by simp [Act.eval, Act.put]) (by simp [Act.eval, Act.put]) hrun7 ?_)
                | (go_simp; go_wp2_with (go_at_call 45; refine hC.mono ?_; rintro e w5 ⟨rfl, hb5⟩)))
              all_goals
                rw [← Hu.out] at H7
                clear hAp hC u0 u1 u2 u3 u4 u5 m0 m1
                go_wp2
                go_roundw
                case rel =>
                  first
                    | exact ⟨m + 1, by omega, by go_num, H7⟩
                    | ((repeat apply Exists.intro); exact ⟨⟨m + 1, by omega, by go_num, H7⟩, rfl⟩)
                case measure =>
                  have e3 : ((m : Int) + 1).toNat = m + 1 := by omega
                  simp only [intOf, e3, Int.toNat_natCast]
                  omega
            · have d5 : decide ((m : Int) < (lst.length : Int)) = false := decide_eq_false (by omega)
              have d6 : decide (m < lst.length) = false := decide_eq_false hlt3
              have hI3 := HI3.out
              rw [List.take_of_length_le (by omega)] at hI3
              have hRl : (lst.map fun u => u.holds x).length = lst.length := by simp
              have hcl := cellsF_len lst (Cd.take k2)
              have hcle := cellsF_le lst (Cd.take k2)
              rw [List.length_take] at hcle
              have Hst : Hid (cellsF lst (Cd.take (k2 + 1)) = stepC lst (cellsF lst (Cd.take k2)) x) := Lib.hid (by
                rw [List.take_succ_eq_append_getElem hlt2, Hx.out]
                simp [cellsF, List.foldl_append])
              obtain ⟨cs, hcs⟩ : ∃ cs, cellsF lst (Cd.take k2) = cs := ⟨_, rfl⟩
              rw [hcs] at hcl hcle Hst HI2
              obtain ⟨R, hR⟩ : ∃ R, (lst.map fun u => u.holds x) = R := ⟨_, rfl⟩
              rw [hR] at hI3 hRl
              have HR : Hid (inR lst x = R) := Lib.hid hR
              have Hcl := Lib.hid hcl
              have HRl := Lib.hid hRl
              obtain ⟨a9, c9, rfl, _, _, hR9⟩ := Rw.of_own encB_len (by have := Hlen.out; omega) hI3.own
              have hO6 := HI2.out.own.later hb3
              obtain ⟨a6, c6, rfl, hR6⟩ := hO6.row (by omega)
              have HO6 : Hid (∀ b, Wz ≤ b → some b ≠ (Value.slice a6 cs.length c6).ownBlock) := Lib.hid (fun b hb' e => by
                obtain ⟨cms, q1, q2, q3⟩ := HI2.out.own
                have := (ownsRow_lt q2 e.symm).2.1
                rw [HWz.out] at this
                omega)
              have hR9 := hR9.keep (A' := fun b => Wz ≤ b ∧ b < wr.heap.size) (fun b h => by rw [HWz.out] at h; exact h) (fun _ _ => rfl)
              have HO6r := Lib.hid hO6
              have hbW2 : Below W2.heap.size W2 wr := hbz.trans (hb3.mono hbzs)
              have hbW2s := hbW2.size
              have hcN : cs.length < 1000000 := by omega
              have hWzs : W2.heap.size ≤ Wz := by rw [← HWz.out]; exact hbzs
              clear hcs hR hcl hRl hcle hI3 hO6
              go_wp2
              go_loopw [11, 12] (fun s i wz => ∃ (j : Nat) (sb : Bool), j ≤ cs.length ∧ i = .int .i64 j ∧ s = .bool sb ∧ Hid (decide (R ∈ (cs.take j).map Prod.snd) = sb) ∧ Below wr.heap.size wr wz) (fun _ i _ => cs.length - (intOf i).toNat)
              case atStart => exact ⟨0, false, by omega, rfl, rfl, Lib.hid (by simp), Below.refl _ _⟩
              case round =>
                obtain ⟨j, sb, hj, rfl, rfl, HS, hb4⟩ := hrel
                have hb4s := hb4.size
                by_cases hlt4 : j < cs.length
                · have d7 : decide ((j : Int) < (cs.length : Int)) = true := decide_eq_true (by omega)
                  have d8 : decide (j < cs.length) = true := decide_eq_true hlt4
                  have Hu : Hid ((cs.take (j + 1)).map Prod.snd = (cs.take j).map Prod.snd ++ [cs[j].2]) := Lib.hid (by rw [List.take_succ_eq_append_getElem hlt4, List.map_append, List.map_singleton])
                  cases sb with
                  | true =>
                    have H2 : Hid (decide (R ∈ (cs.take (j + 1)).map Prod.snd) = true) := Lib.hid (by
                      rw [Hu.out]; exact decide_eq_true (List.mem_append_left _ (of_decide_eq_true HS.out)))
                    go_wp2
                    go_roundw
                    case rel =>
                      first
                        | exact ⟨j + 1, true, by omega, by go_num, rfl, H2, hb4⟩
                        | ((repeat apply Exists.intro); exact ⟨⟨j + 1, true, by omega, by go_num, rfl, H2, hb4⟩, rfl⟩)
                    case measure =>
                      have e3 : ((j : Int) + 1).toNat = j + 1 := by omega
                      simp only [intOf, e3, Int.toNat_natCast]
                      omega
                  | false =>
                    obtain ⟨b5, o5, ia, ic, hao5, hbA5, p0, p1, p2, hRj⟩ := (hR6.later (fun b h => h.2) hb4).at hlt4
                    have hlj : cs[j].2.length = R.length := (Hcl.out _ (List.getElem_mem hlt4)).trans HRl.out.symm
                    have hC := rsameBools_any _ _ ia a9 ic c9 cs[j].2 R wr hRj (hR9.later (fun b h => h.2) hb4) (fun b h => Nat.lt_of_lt_of_le h.2 hb4s) (fun b h => Nat.lt_of_lt_of_le h.2 hb4s) hlj
                    obtain ⟨B, hB⟩ : ∃ B, cs[j].2 = B := ⟨_, rfl⟩
                    rw [hB] at hC p2
                    obtain ⟨q, hq⟩ : ∃ q, decide (B = R) = q := ⟨_, rfl⟩
                    rw [hq] at hC
                    have H2 : Hid (decide (R ∈ (cs.take (j + 1)).map Prod.snd) = q) := Lib.hid (by
                      rw [Hu.out, hB, ← hq, Bool.eq_iff_iff, decide_eq_true_eq, decide_eq_true_eq, List.mem_append, List.mem_singleton]
                      exact ⟨fun h => (h.resolve_left (of_decide_eq_false HS.out)).symm, fun h => .inr h.symm⟩)
                    subst hao5
                    clear hB hq hRj hlj
                    go_wp2_with (go_at_call 71; refine hC.mono ?_)
                    first | rintro e w5 rfl hb5 | rintro e w5 ⟨rfl, hb5⟩
                    have hb45 : Below _ _ w5 := b_step hb5 hb4
                    clear hC p0 p1 p2
                    go_wp2
                    go_roundw
                    case rel =>
                      first
                        | exact ⟨j + 1, q, by omega, by go_num, rfl, H2, hb45⟩
                        | ((repeat apply Exists.intro); exact ⟨⟨j + 1, q, by omega, by go_num, rfl, H2, hb45⟩, rfl⟩)
                    case measure =>
                      have e3 : ((j : Int) + 1).toNat = j + 1 := by omega
                      simp only [intOf, e3, Int.toNat_natCast]
                      omega
                · have d7 : decide ((j : Int) < (cs.length : Int)) = false := decide_eq_false (by omega)
                  have d8 : decide (j < cs.length) = false := decide_eq_false hlt4
                  have hS := HS.out
                  rw [List.take_of_length_le (by omega)] at hS
                  have hbW4 : Below W2.heap.size W2 wr := b_step hb4 hbW2
                  cases sb with
                  | true =>
                    have H3 : Hid (RSt W2 (cellsF lst (Cd.take (k2 + 1))) (.slice a6 cs.length c6) wr) := Lib.hid (by
                      rw [Hst.out]
                      unfold stepC
                      rw [HR.out, if_pos (of_decide_eq_true hS)]
                      exact ⟨HO6r.out.later hb4, hbW4⟩)
                    clear hS
                    go_wp2
                    go_roundw
                    case rel =>
                      first
                        | exact ⟨k2 + 1, by omega, by go_num, H3⟩
                        | ((repeat apply Exists.intro); exact ⟨⟨k2 + 1, by omega, by go_num, H3⟩, rfl⟩)
                    case measure =>
                      have e3 : ((k2 : Int) + 1).toNat = k2 + 1 := by omega
                      simp only [intOf, e3, Int.toNat_natCast]
                      omega
                  | false =>
                    obtain ⟨v7, w7, hap, hO7, hb7⟩ := OwnR.append (HO6r.out.later hb4) hbW4 x R a9 c9 (hR9.keep (fun b h => ⟨Nat.le_trans hWzs h.1, Nat.lt_of_lt_of_le h.2 hb4s, HO6.out b h.1⟩) (fun b h => hb4.block b h.2)) (by omega)
                    have H3 : Hid (RSt W2 (cellsF lst (Cd.take (k2 + 1))) v7 w7) := Lib.hid (by
                      rw [Hst.out]
                      unfold stepC
                      rw [HR.out, if_neg (of_decide_eq_false hS)]
                      exact ⟨hO7, hb7⟩)
                    have m0 := (hb4.cell (p := ⟨b, o + k2 * 2, none⟩) (show b < _ from Nat.lt_of_lt_of_le hbl hb3s)).trans ((hb3.cell (p := ⟨b, o + k2 * 2, none⟩) hbl).trans n0)
                    have m1 := (hb4.cell (p := ⟨b, o + k2 * 2 + 1, none⟩) (show b < _ from Nat.lt_of_lt_of_le hbl hb3s)).trans ((hb3.cell (p := ⟨b, o + k2 * 2 + 1, none⟩) hbl).trans n1)
                    clear hS hO7 hb7
                    go_wp2_with (at_builtin; refine wpList_append_run rfl _ _ 45 rfl rfl rfl hap ?_)
                    clear hap
                    go_wp2
                    go_roundw
                    case rel =>
                      first
                        | exact ⟨k2 + 1, by omega, by go_num, H3⟩
                        | ((repeat apply Exists.intro); exact ⟨⟨k2 + 1, by omega, by go_num, H3⟩, rfl⟩)
                    case measure =>
                      have e3 : ((k2 : Int) + 1).toNat = k2 + 1 := by omega
                      simp only [intOf, e3, Int.toNat_natCast]
                      omega
        · have d3 : decide ((k2 : Int) < (Cd.length : Int)) = false := decide_eq_false (by omega)
          have d4 : decide (k2 < Cd.length) = false := decide_eq_false hlt2
          have HF : Hid (OwnR wr w.heap.size u6 (cellsF lst Cd)) := Lib.hid (by
            have h := HI2.out.own
            rw [List.take_of_length_le (by omega)] at h
            obtain ⟨cms, q1, q2, q3⟩ := h
            refine ⟨cms, q1, ⟨q2.1, q2.2.imp id (fun ⟨g, cap, cur, e1, e2, e3⟩ => ⟨g, cap, cur, e1, Nat.le_trans hB2.size e2, e3⟩)⟩, fun c hc => (q3 c hc).keep (fun b h => ⟨by have := hB2.size; omega, h.2.1, h.2.2⟩) (fun _ _ => rfl)⟩)
          go_wp2
          go_ret2
          exact ⟨u6, by rw [if_neg Hlen.out, Hk0.out]; rfl, Lib.hid (by rw [if_neg Hlen.out, if_pos Hk0.out, HCd.out]; exact HF.out), hBz⟩
end Np
end Go.Proofs.YtohlhihhadbphaaGreatDoor
