/- Rows of cells that are read; sameCells. -/
import Derived.Test.YtohlhihhadbphaaGreatDoorRt
import Derived.Test.YtohlhihhadbphaaGreatDoorGk
import Derived.Test.YtohlhihhadbphaaGreatDoorRk
import Derived.Test.YtohlhihhadbphaaGreatDoorRl
import Derived.Deep.RegionHeld3
import Derived.BigQuiet
import Derived.Deep.RegionWith
set_option linter.unusedSimpArgs false
set_option linter.unusedVariables false
namespace Go.Proofs.YtohlhihhadbphaaGreatDoor
open Go.RowKit Go.Shelf Go.Lib Go.Maps
namespace Np
/-- A cell, with the place of its In. -/
structure CR where
  n : Name
  ia : Option Addr
  ic : Nat
  bs : List Bool
def CR.cells (c : CR) : List Value := [.string c.n.sp, .string c.n.lc, .slice c.ia c.bs.length c.ic]
theorem cr_len (c : CR) : c.cells.length = 3 := rfl
theorem cr_one (c : CR) : ∀ u ∈ c.cells, u.oneCell' = true := by intro u hu; simp [CR.cells] at hu; rcases hu with rfl | rfl | rfl <;> rfl
/-- Cells one behind the other, each with its row of bools. -/
def CRow (A : Nat → Prop) (W : World) (a : Option Addr) (cs : List (Name × List Bool)) : Prop :=
  ∃ cms : List CR, cms.map (fun c => (c.n, c.bs)) = cs ∧ Rw 3 CR.cells A W a cms ∧ ∀ c ∈ cms, Rw 1 encB A W c.ia c.bs
theorem CRow.len {A : Nat → Prop} {W : World} {a : Option Addr} {cs : List (Name × List Bool)} (h : CRow A W a cs) : cs.length ≤ 1000000 := by
  obtain ⟨cms, rfl, h2, _⟩ := h
  rw [List.length_map]; exact h2.len
theorem CRow.keep {A A' : Nat → Prop} {W W' : World} {a : Option Addr} {cs : List (Name × List Bool)} (h : CRow A W a cs) (hA : ∀ b, A b → A' b) (hk : ∀ b, A b → W'.heap[b]? = W.heap[b]?) : CRow A' W' a cs := by
  obtain ⟨cms, h1, h2, h3⟩ := h
  exact ⟨cms, h1, h2.keep hA hk, fun c hc => (h3 c hc).keep hA hk⟩
theorem CRow.later {A : Nat → Prop} {W W' : World} {a : Option Addr} {cs : List (Name × List Bool)} (h : CRow A W a cs) (hA : ∀ b, A b → b < W.heap.size) (hb : Below W.heap.size W W') : CRow A W' a cs :=
  h.keep (fun _ h => h) (fun b hb' => hb.block b (hA b hb'))
theorem CRow.at {A : Nat → Prop} {W : World} {a : Option Addr} {cs : List (Name × List Bool)} (h : CRow A W a cs) {k : Nat} (hk : k < cs.length) : ∃ (b o : Nat) (ia : Option Addr) (ic : Nat), a = some ⟨b, o, none⟩ ∧ A b ∧
    W.cell? ⟨b, o + k * 3, none⟩ = some (.string cs[k].1.sp) ∧ W.cell? ⟨b, o + k * 3 + 1, none⟩ = some (.string cs[k].1.lc) ∧ W.cell? ⟨b, o + k * 3 + 2, none⟩ = some (.slice ia cs[k].2.length ic) ∧ Rw 1 encB A W ia cs[k].2 := by
  obtain ⟨cms, rfl, h2, h3⟩ := h
  rw [List.length_map] at hk
  obtain ⟨b, o, e, hb, hc⟩ := h2.cells (List.ne_nil_of_length_pos (by omega))
  simp only [List.getElem_map]
  have c0 := hc k hk 0 _ rfl
  rw [Nat.add_zero] at c0
  exact ⟨b, o, (cms[k]).ia, (cms[k]).ic, e, hb, c0, hc k hk 1 _ rfl, hc k hk 2 _ rfl, h3 _ (List.getElem_mem hk)⟩
theorem brow_rw {W : World} {b lo : Nat} {l : List Bool} (h : BRow W b l) (h1 : lo ≤ b) (h2 : b < W.heap.size) (hl : l.length ≤ 1000000) : Rw 1 encB (fun b => lo ≤ b ∧ b < W.heap.size) W (some ⟨b, 0, none⟩) l :=
  ⟨hl, fun _ => ⟨b, 0, rfl, ⟨h1, h2⟩, fun j hj i v hv => by
    match i, hv with
    | 0, hv => simp [encB] at hv; subst hv; have := h.cell hj; simpa using this
    | n + 1, hv => simp [encB] at hv⟩⟩
theorem CRow.of_own {W : World} {lo : Nat} {v : Value} {cs : List (Name × List Bool)} (h : OwnCells W lo v cs) (hl : cs.length ≤ 1000000) (hb : ∀ c ∈ cs, c.2.length ≤ 1000000) : ∃ a c, v = .slice a cs.length c ∧ CRow (fun b => lo ≤ b ∧ b < W.heap.size) W a cs := by
  obtain ⟨cms, rfl, h2, h3⟩ := h
  rw [List.length_map] at hl
  have e1 : cms.flatMap CM.cells = (cms.map fun c => (⟨c.n, some ⟨c.ib, 0, none⟩, c.ic, c.bs⟩ : CR)).flatMap CR.cells := by
    rw [List.flatMap_map]; rfl
  obtain ⟨a, c, e, _, _, hr⟩ := Rw.of_own (l := cms.map fun c => (⟨c.n, some ⟨c.ib, 0, none⟩, c.ic, c.bs⟩ : CR)) cr_len (base := lo) (e := 52) (v := v) (W := W) (by rw [List.length_map]; exact hl) (by rw [List.length_map, ← e1]; exact h2)
  refine ⟨a, c, by rw [e, List.length_map, List.length_map], _, by rw [List.map_map]; rfl, hr, fun x hx => ?_⟩
  obtain ⟨y, hy, rfl⟩ := List.mem_map.1 hx
  obtain ⟨q1, q2, q3, q4⟩ := h3 y hy
  exact brow_rw q4 q1 q2 (hb (y.n, y.bs) (List.mem_map.2 ⟨y, hy, rfl⟩))
theorem cells_eq_take {α : Type} {l m : List α} (h : l.length = m.length) (k : Nat) (hk : l.length ≤ k) (e : l.take k = m.take k) : l = m := by
  rwa [List.take_of_length_le hk, List.take_of_length_le (by omega)] at e
theorem cells_ne {α : Type} {l m : List α} {k : Nat} (hk : k < l.length) (hm : k < m.length) (e : l[k] ≠ m[k]) : l ≠ m := by
  intro h; subst h; exact e rfl
set_option maxRecDepth 100000 in
set_option maxHeartbeats 2000000 in
theorem sameCells_any (A A' : Nat → Prop) (a a' : Option Addr) (c c' : Nat) (l m : List (Name × List Bool)) (w : World) (hr : CRow A w a l) (hm : CRow A' w a' m) (hA : ∀ b, A b → b < w.heap.size) (hA' : ∀ b, A' b → b < w.heap.size) :
    Calls Tryz.prog 34 #[.slice a l.length c, .slice a' m.length c'] w fun e w' => e = .returned (.bool (decide (l = m))) ∧ Below w.heap.size w w' := by
  obtain ⟨r, hr'⟩ : ∃ r, decide (l = m) = r := ⟨_, rfl⟩
  rw [hr']
  have Hr := Lib.hid hr'
  clear hr'
  have hll := hr.len
  have hml := hm.len
  have hbw : Below w.heap.size w w := Below.refl _ _
  by_cases hlm : ¬ l.length = m.length
  · have g1 : ((l.length : Int) == (m.length : Int)) = false := by simp; omega
    have g2 : ((l.length : Int) != (m.length : Int)) = true := by simp; omega
    have g3 : (l.length == m.length) = false := by simpa using hlm
    have g4 : (l.length != m.length) = true := by simpa using hlm
    have H2 : Hid (r = false) := Lib.hid (by rw [← Hr.out]; exact decide_eq_false (fun h => hlm (by rw [h])))
    clear hlm
    go_enter Tryz.func34, Tryz.ntmps34
    go_wp2
    go_ret
    exact ⟨ret_bool H2.out.symm, hbw⟩
  have hlm : l.length = m.length := Decidable.of_not_not hlm
  have g1 : ((l.length : Int) == (m.length : Int)) = true := by simp; omega
  have g2 : ((l.length : Int) != (m.length : Int)) = false := by simp; omega
  have g3 : (l.length == m.length) = true := by simpa using hlm
  have g4 : (l.length != m.length) = false := by simpa using hlm
  have Hlm := Lib.hid hlm
  clear hlm
  go_enter Tryz.func34, Tryz.ntmps34
  go_wp2
  go_loopw [5] (fun i wr => ∃ k : Nat, k ≤ l.length ∧ i = .int .i64 k ∧ Hid (l.take k = m.take k) ∧ Below w.heap.size w wr) (fun i _ => l.length - (intOf i).toNat)
  case atStart => exact ⟨0, by omega, rfl, Lib.hid (by simp), hbw⟩
  case round =>
    obtain ⟨k, hk, rfl, HI, hb⟩ := hrel
    have hbs := hb.size
    by_cases hlt : k < l.length
    · have hmt : k < m.length := by rw [← Hlm.out]; exact hlt
      have d1 : decide ((k : Int) < (l.length : Int)) = true := decide_eq_true (by omega)
      have d2 : decide (k < l.length) = true := decide_eq_true hlt
      have d3 : decide ((k : Int) < (m.length : Int)) = true := decide_eq_true (by omega)
      have d4 : decide (k < m.length) = true := decide_eq_true hmt
      obtain ⟨b, o, ia, ic, hao, hbA, u0, u1, u2, hR⟩ := (hr.later hA hb).at hlt
      obtain ⟨b', o', ia', ic', hao', hbA', u0', u1', u2', hR'⟩ := (hm.later hA' hb).at hmt
      have hbl : b < wr.heap.size := Nat.lt_of_lt_of_le (hA b hbA) hbs
      have hbl' : b' < wr.heap.size := Nat.lt_of_lt_of_le (hA' b' hbA') hbs
      obtain ⟨x, hx⟩ : ∃ x, l[k] = x := ⟨_, rfl⟩
      obtain ⟨y, hy⟩ : ∃ x, m[k] = x := ⟨_, rfl⟩
      rw [hx] at u0 u1 u2 hR
      rw [hy] at u0' u1' u2' hR'
      have Hx := Lib.hid hx
      have Hy := Lib.hid hy
      obtain ⟨n, bs⟩ := x
      obtain ⟨n', bs'⟩ := y
      simp only at u0 u1 u2 hR u0' u1' u2' hR'
      have hS := fun w' (h : Below wr.heap.size wr w') => SameBools_any A A' ia ia' ic ic' bs bs' w' (hR.later (fun b hb' => Nat.lt_of_lt_of_le (hA b hb') hbs) h) (hR'.later (fun b hb' => Nat.lt_of_lt_of_le (hA' b hb') hbs) h) (fun b hb' => Nat.lt_of_lt_of_le (hA b hb') (Nat.le_trans hbs h.size)) (fun b hb' => Nat.lt_of_lt_of_le (hA' b hb') (Nat.le_trans hbs h.size))
      have eN := neN n n'
      have gN := fun op y z => guardN op y z n n'
      obtain ⟨b1, hb1⟩ : ∃ b, (!decide (n = n')) = b := ⟨_, rfl⟩
      obtain ⟨b2, hb2⟩ : ∃ b, decide (bs = bs') = b := ⟨_, rfl⟩
      rw [hb1] at eN
      simp only [hb2] at hS
      have Hb1 := Lib.hid hb1
      have Hb2 := Lib.hid hb2
      subst hao
      subst hao'
      clear hx hy hb1 hb2 hR hR'
      have Hne : Hid (¬(b1 = false ∧ b2 = true) → r = false) := Lib.hid (by
        intro hq
        rw [← Hr.out]
        refine decide_eq_false (cells_ne hlt hmt ?_)
        rw [Hx.out, Hy.out]
        intro e
        injection e with e1 e2
        exact hq ⟨by rw [← Hb1.out, e1]; simp, by rw [← Hb2.out]; exact decide_eq_true e2⟩)
      cases b1
      · have v0 := fun w' (h : Below wr.heap.size wr w') => (h.cell (p := ⟨b, o + k * 3, none⟩) hbl).trans u0
        have v1 := fun w' (h : Below wr.heap.size wr w') => (h.cell (p := ⟨b, o + k * 3 + 1, none⟩) hbl).trans u1
        have v2 := fun w' (h : Below wr.heap.size wr w') => (h.cell (p := ⟨b, o + k * 3 + 2, none⟩) hbl).trans u2
        have v0' := fun w' (h : Below wr.heap.size wr w') => (h.cell (p := ⟨b', o' + k * 3, none⟩) hbl').trans u0'
        have v1' := fun w' (h : Below wr.heap.size wr w') => (h.cell (p := ⟨b', o' + k * 3 + 1, none⟩) hbl').trans u1'
        have v2' := fun w' (h : Below wr.heap.size wr w') => (h.cell (p := ⟨b', o' + k * 3 + 2, none⟩) hbl').trans u2'
        have hbW : Below wr.heap.size wr wr := Below.refl _ _
        clear u0 u1 u2 u0' u1' u2'
        go_upto_region 6 with (fail)
        go_region_held3 (fun w' => Below wr.heap.size wr w') (first | assumption | exact b_drew hbW | exact b_step hb5 (b_drew hbW))
          (first
            | (go_at_call 72; (with_reducible refine (hS _ (by assumption)).mono ?_); rintro e w5 ⟨rfl, hb5⟩))
        have hH : Below wr.heap.size wr w5 := by assumption
        have hB5 := hb.trans (hH.mono hbs)
        clear hS v0 v1 v2 v0' v1' v2'
        cases b2
        · go_wp2
          go_ret
          exact ⟨ret_bool (Hne.out (by simp)).symm, hB5⟩
        · have H2 : Hid (l.take (k + 1) = m.take (k + 1)) := Lib.hid (by
            rw [List.take_succ_eq_append_getElem hlt, List.take_succ_eq_append_getElem hmt, HI.out, Hx.out, Hy.out, show n = n' by have := Hb1.out; simpa using this, of_decide_eq_true Hb2.out])
          go_wp2
          go_roundw
          case rel =>
            first
              | exact ⟨k + 1, by omega, by go_num, H2, hB5⟩
              | ((repeat apply Exists.intro); exact ⟨⟨k + 1, by omega, by go_num, H2, hB5⟩, rfl⟩)
          case measure =>
            have e3 : ((k : Int) + 1).toNat = k + 1 := by omega
            simp only [intOf, e3, Int.toNat_natCast]
            omega
      · clear hS
        go_wp2
        go_quiet (fail)
        go_wp2
        go_ret
        exact ⟨ret_bool (Hne.out (by simp)).symm, below_drewN hb _⟩
    · have d1 : decide ((k : Int) < (l.length : Int)) = false := decide_eq_false (by omega)
      have d2 : decide (k < l.length) = false := decide_eq_false hlt
      have H2 : Hid (r = true) := Lib.hid (by
        rw [← Hr.out]
        exact decide_eq_true (cells_eq_take Hlm.out k (by omega) HI.out))
      go_wp2
      go_ret
      exact ⟨ret_bool H2.out.symm, hb⟩
end Np
end Go.Proofs.YtohlhihhadbphaaGreatDoor
