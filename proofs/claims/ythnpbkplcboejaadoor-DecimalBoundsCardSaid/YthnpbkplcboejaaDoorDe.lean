/- Decimal: numbers of parts in memory; carrier. -/
import Derived.Test.YthnpbkplcboejaaDoorDc
import Derived.Test.YthnpbkplcboejaaDoorShelf
import Derived.WalkKit
import Derived.Below
import Derived.ChangeArms
import Derived.Deep.WholeRow
import Derived.Deep.Draws
import Derived.Deep.RegionWith
import Derived.Deep.RegionHeld3
import Derived.Deep.RegionLaw
import Derived.Deep.QuietTactic
import Derived.BigQuiet
import Derived.RegionTactic
import Derived.BigRegion
import Derived.LoopTactic
import Derived.Outline
import Derived.Lib.Hide
import Derived.Handy
import Derived.KernelRfl
import Derived.StillTailTactics
set_option linter.unusedSimpArgs false
set_option linter.unusedVariables false
namespace Go.Proofs.YthnpbkplcboejaaDoor
open Go.RowKit Go.Shelf
namespace Dc
/-- A block of cells. -/
def Blk (W : World) (B : Nat) (cs : Array Value) (t : TypeId) : Prop := W.heap[B]? = some (.cells cs t (0, 0))
theorem Blk.new (W : World) (cs : Array Value) (t : TypeId) : Blk (W.alloc (.cells cs t)) W.heap.size cs t := by show (W.heap.push _)[W.heap.size]? = _; simp
theorem Blk.lt {W : World} {B : Nat} {cs : Array Value} {t : TypeId} (h : Blk W B cs t) : B < W.heap.size := (Array.getElem?_eq_some_iff.1 h).1
theorem Blk.below {W W' : World} {B n : Nat} {cs : Array Value} {t : TypeId} (h : Blk W B cs t) (hn : B < n) (hb : Below n W W') : Blk W' B cs t := (hb.block B hn).trans h
theorem Blk.alloc {W : World} {B : Nat} {cs : Array Value} {t : TypeId} (h : Blk W B cs t) (o : Obj) : Blk (W.alloc o) B cs t := h.below h.lt ((Below.refl _ W).alloc (Nat.le_refl _) _)
theorem Blk.drew {W : World} {B : Nat} {cs : Array Value} {t : TypeId} (h : Blk W B cs t) : Blk W.drew B cs t := h
theorem Blk.cell {W : World} {B : Nat} {cs : Array Value} {t : TypeId} (h : Blk W B cs t) (i : Nat) : W.cell? ⟨B, i, none⟩ = cs[i]? := by simp [World.cell?, show W.heap[B]? = _ from h]
theorem Blk.frozen {W : World} {B : Nat} {cs : Array Value} {t : TypeId} (h : Blk W B cs t) (i : Nat) : W.frozen? ⟨B, i, none⟩ = false := by simp [World.frozen?, show W.heap[B]? = _ from h]
theorem Blk.set {W : World} {B : Nat} {cs : Array Value} {t : TypeId} (h : Blk W B cs t) (i : Nat) (v : Value) : Blk (W.setCell ⟨B, i, none⟩ v) B (cs.setIfInBounds i v) t := by
  unfold Blk at *
  simp only [World.setCell, Option.isSome_none, Bool.false_eq_true, if_false, Array.getElem?_modify, if_true, h, Option.map_some]
theorem Blk.other {W : World} {B B' i : Nat} {cs : Array Value} {t : TypeId} (h : Blk W B cs t) (hne : B ≠ B') (u : Value) : Blk (W.setCell ⟨B', i, none⟩ u) B cs t := by
  unfold Blk at *
  rw [← h]
  simp only [World.setCell, Array.getElem?_modify]
  rw [if_neg (fun e => hne e.symm)]
theorem Blk.row {W : World} {B : Nat} {cs : Array Value} {t : TypeId} (h : Blk W B cs t) (cs' : Array Value) : Blk (W.setRow B cs') B cs' t := setRow_heap W B cs cs' t _ h
theorem Blk.row_other {W : World} {B B' : Nat} {cs cs' : Array Value} {t : TypeId} (h : Blk W B cs t) (hne : B ≠ B') : Blk (W.setRow B' cs') B cs t := (setRow_other W B' B cs' hne).trans h
theorem b_step {A B C : World} (h2 : Below B.heap.size B C) (h1 : Below A.heap.size A B) : Below A.heap.size A C := h1.trans (h2.mono h1.size)
theorem b_alloc {A B : World} {o : Obj} (h1 : Below A.heap.size A B) : Below A.heap.size A (B.alloc o) := h1.alloc h1.size _
theorem b_drew {A B : World} (h1 : Below A.heap.size A B) : Below A.heap.size A B.drew := ⟨h1.os, h1.tape, h1.output, h1.size, h1.block⟩
theorem b_row {n : Nat} {A B : World} {g : Nat} {cs : Array Value} (h1 : Below n A B) (hg : n ≤ g) : Below n A (B.setRow g cs) :=
  ⟨h1.os, h1.tape, h1.output, by rw [size_setRow]; exact h1.size, fun k hk => (setRow_other B g k cs (by omega)).trans (h1.block k hk)⟩
theorem ret_int {k : IntKind} {a b : Int} (h : a = b) : Ending.returned (.int k a) = .returned (.int k b) := by rw [h]

theorem setCell_setCell_same (w : World) (a : Addr) (u v : Value) : (w.setCell a u).setCell a v = w.setCell a v := by
  simp only [World.setCell]
  congr 1
  apply Array.ext_getElem?
  intro k
  rw [Array.getElem?_modify, Array.getElem?_modify, Array.getElem?_modify]
  by_cases h : a.block = k
  · rw [if_pos h, if_pos h, if_pos h]
    cases w.heap[k]? with
    | none => rfl
    | some o =>
      cases o with
      | cells cs t fr => cases a.spot <;> simp [Array.setIfInBounds_setIfInBounds]
      | _ => rfl
  · rw [if_neg h, if_neg h, if_neg h]

/-- A number's parts as cells. -/
def arr (f : Nat → Int) : Array Value := ((List.range 20).map fun i => Value.int .i64 (f i)).toArray
theorem arr_size (f : Nat → Int) : (arr f).size = 20 := by simp [arr]
theorem arr_get (f : Nat → Int) {i : Nat} (h : i < 20) : (arr f)[i]? = some (.int .i64 (f i)) := by
  unfold arr; simp [List.getElem?_range, h]
theorem arr_one (f : Nat → Int) : (arr f).all (·.oneCell') = true := by
  rw [Array.all_eq_true_iff_forall_mem]
  intro v hv
  unfold arr at hv
  simp only [List.mem_toArray, List.mem_map] at hv
  obtain ⟨i, _, rfl⟩ := hv
  rfl
theorem arr_ext {f g : Nat → Int} (h : ∀ i, i < 20 → f i = g i) : arr f = arr g := by
  unfold arr
  congr 1
  exact List.map_congr_left fun i hi => by rw [h i (List.mem_range.1 hi)]
theorem arr_set (f : Nat → Int) {i : Nat} (h : i < 20) (v : Int) : (arr f).setIfInBounds i (.int .i64 v) = arr (fun j => if j = i then v else f j) := by
  apply Array.ext_getElem?
  intro j
  rw [Array.getElem?_setIfInBounds]
  by_cases hj : i = j
  · subst hj
    rw [if_pos rfl, if_pos (by rw [arr_size]; exact h), arr_get _ h, if_pos rfl]
  · rw [if_neg hj]
    by_cases hj2 : j < 20
    · rw [arr_get _ hj2, arr_get _ hj2, if_neg (fun e => hj e.symm)]
    · rw [Array.getElem?_eq_none (by rw [arr_size]; omega), Array.getElem?_eq_none (by rw [arr_size]; omega)]
/-- The parts of n. -/
def numF (n : Nat) (j : Nat) : Int := (lim n j : Int)
theorem numF_bd (n j : Nat) : 0 ≤ numF n j ∧ numF n j < 1000000000 := by unfold numF; have := lim_lt n j; omega
theorem underNum : Tryd.prog.underlying 56 = some (.array 20 2) := Tryd.underlying56
theorem infoNum : (Tryd.prog.info? 56).map (fun i => (i.zero, i.size)) = some (some (.agg (arr fun _ => 0)), 20) := by kernel_rfl
theorem sizeNum (f : Nat → Int) : (Tryd.prog.info? 56).map (·.size) = some (arr f).size := by rw [arr_size]; kernel_rfl
theorem zeroNum : ∀ w, (zeroValue 56).run Tryd.prog w = .ok (.agg (arr fun _ => 0)) w := (zero_of_info infoNum).1

set_option maxHeartbeats 1000000 in
theorem carrier_any (w : World) :
    Calls Tryd.prog 51 #[] w fun e w' => e = .returned (.func (.func 72) #[] #[.pointer (some ⟨w.heap.size, 0, none⟩)]) ∧ w' = w.alloc (.cells #[.int .i64 0] 2) := by
  go_enter Tryd.func51, Tryd.ntmps51
  go_wp2
  go_ret
  exact ⟨rfl, rfl⟩
theorem floor_of (p : Int) : (if p.tmod 1000000000 < 0 then p.tdiv 1000000000 - 1 else p.tdiv 1000000000) = p / 1000000000 := by
  rw [Int.tmod_eq_emod, Int.tdiv_eq_ediv, show Int.sign 1000000000 = 1 from rfl, show Int.natAbs 1000000000 = 1000000000 from rfl]
  by_cases h : 0 ≤ p ∨ 1000000000 ∣ p
  · rw [if_pos h, if_pos h, if_neg (by omega)]; omega
  · rw [if_neg h, if_neg h, if_pos (by omega)]; omega
set_option maxHeartbeats 2000000 in
theorem carried_any (p c : Int) (b : Nat) (w : World) (hc : Blk w b #[.int .i64 c] 2) (h1 : -2000000000000000000 ≤ p) (h2 : p ≤ 2000000000000000000) (h3 : -2000000000000000000 ≤ c) (h4 : c ≤ 2000000000000000000) :
    Calls Tryd.prog 72 #[.int .i64 p, .pointer (some ⟨b, 0, none⟩)] w fun e w' => e = .returned (.int .i64 ((p + c) % 1000000000)) ∧ w' = w.setCell ⟨b, 0, none⟩ (.int .i64 ((p + c) / 1000000000)) := by
  have k0 := hc.cell 0
  simp only [List.getElem?_toArray, List.getElem?_cons_zero] at k0
  have kf := hc.frozen 0
  have hf := floor_of (p + c)
  have HF := Lib.hid hf
  clear hf hc
  go_enter Tryd.func72, Tryd.ntmps72
  go_wp2
  · have ht := HF.out
    rw [if_pos ‹_›] at ht
    have hw : wrap64 ((p + c).tdiv 1000000000 - 1) = (p + c) / 1000000000 := by rw [ht]; unfold wrap64; omega
    go_ret
    refine ⟨ret_int ?_, ?_⟩
    · rw [hw]; unfold wrap64; omega
    · rw [hw, setCell_setCell_same]
  · have ht := HF.out
    rw [if_neg (by omega)] at ht
    go_ret
    refine ⟨ret_int ?_, ?_⟩
    · rw [ht]; unfold wrap64; omega
    · rw [ht]
end Dc
end Go.Proofs.YthnpbkplcboejaaDoor
