/- Names: A B C D E. -/
import Derived.Test.YtohlhihhadbphaaGreatDoorProg
import Derived.Test.YtohlhihhadbphaaGreatDoorGa
import Derived.WalkKit
import Derived.WalkLawsBesides
import Derived.WalkSpells
import Derived.Lib.Hide
import Derived.KernelRfl
import Derived.Lib.Strings
import Derived.Deep.QuietTactic
import Derived.BigQuiet
import Derived.Laws.StructEq
import Derived.RangeFuncNested
import Derived.RangeFuncBound
import Derived.RangeFuncCalls
import Derived.RangeFuncLeaves
import Derived.Shelf.Abstract
import Derived.Shelf.RegionOpen
import Derived.OwnWalkIn
import Derived.TacticsInMore
import Derived.LoopNIn
import Derived.LoopIn
import Derived.Laws.EntriesVeiled
set_option linter.unusedSimpArgs false
set_option linter.unusedVariables false
/- The small functions: valid, fits. -/
namespace Go.Proofs.YtohlhihhadbphaaGreatDoor
open Go.RowKit
namespace Np
theorem ret_bool {a b : Bool} (h : a = b) : Ending.returned (.bool a) = .returned (.bool b) := by rw [h]
theorem ret_int {k : IntKind} {a b : Int} (h : a = b) : Ending.returned (.int k a) = .returned (.int k b) := by rw [h]
/-- What lay there before reads as it did. -/
theorem bcell {W w1 : World} (hb : Below W.heap.size W w1) : (∀ b o, b < W.heap.size → w1.cell? ⟨b, o, none⟩ = W.cell? ⟨b, o, none⟩) ∧ (∀ b o, b < W.heap.size → w1.frozen? ⟨b, o, none⟩ = W.frozen? ⟨b, o, none⟩) :=
  ⟨fun b o h => hb.cell (p := ⟨b, o, none⟩) h, fun b o h => hb.frozen (p := ⟨b, o, none⟩) h⟩
theorem empty_iff (s : ByteArray) : s.toList.isEmpty = decide (s.size = 0) := by
  rw [Lib.toList_data]
  cases s with | mk d => cases d with | mk l => cases l <;> simp [ByteArray.size]

theorem nil_iff (s : ByteArray) : s.toList = [] ↔ s.size = 0 := by
  rw [← List.isEmpty_iff, empty_iff, decide_eq_true_iff]

set_option maxHeartbeats 400000 in
theorem valid_any (n : Name) (w : World) :
    Calls Tryz.prog 43 #[n.val] w fun e w' => e = .returned (.bool (validN n)) ∧ Below w.heap.size w w' := by
  unfold Name.val
  go_enter Tryz.func43, Tryz.ntmps43
  go_wp2
  all_goals
    simp only [nil_iff] at *
    go_ret
    refine ⟨ret_bool ?_, (Below.refl _ _).alloc (Nat.le_refl _) _⟩
    rw [Bool.eq_iff_iff]
    simp only [validN, empty_iff, Bool.and_eq_true, Bool.not_eq_true', decide_eq_true_eq, decide_eq_false_iff_not, Bool.false_eq_true, false_iff]
    omega
end Np
end Go.Proofs.YtohlhihhadbphaaGreatDoor

/- fits: are the fields of a class as its kind wants them? -/
namespace Go.Proofs.YtohlhihhadbphaaGreatDoor
open Go.RowKit
namespace Np
theorem ba_inj {a b : ByteArray} : a.toList = b.toList ↔ a = b := by
  constructor
  · intro h
    rw [ByteArray.toList_eq, ByteArray.toList_eq] at h
    cases a; cases b
    simp only [ByteArray.mk.injEq]
    exact Array.toList_inj.1 h
  · rintro rfl; rfl
theorem eqN (n m : Name) (w : World) : (binOp .eql 23 (.agg #[.string n.sp, .string n.lc]) (.agg #[.string m.sp, .string m.lc])).run Tryz.prog w = .ok (.bool (decide (n = m))) w := by
  have hS : Tryz.prog.underlying 23 = some (.struct (Tryz.prog.fieldsOf 23)) := by kernel_rfl
  have hp : Tryz.prog.stoodInHeld 23 = false := by kernel_rfl
  have u3 := Tryz.underlying9
  have a3 := Tryz.isAgg9
  have z3 := Tryz.sizeOf9
  rw [run_eql_struct, show (10000 : Nat) = 9999 + 1 from rfl, run_equalIn_agg w 9999 23 _ _ hS hp]
  simp only [Program.fieldsOf, Tryz.underlying23]
  go_simp
  have e : (n = m) ↔ n.sp.toList = m.sp.toList ∧ n.lc.toList = m.lc.toList := by
    cases n; cases m
    simp only [Name.mk.injEq, ba_inj]
  by_cases h1 : n.sp.toList = m.sp.toList <;> by_cases h2 : n.lc.toList = m.lc.toList <;> simp [h1, h2, e]
theorem neN (n m : Name) (w : World) : (binOp .neq 23 (.agg #[.string n.sp, .string n.lc]) (.agg #[.string m.sp, .string m.lc])).run Tryz.prog w = .ok (.bool (!decide (n = m))) w := by
  have h := eqN n m w
  rw [run_eql_struct] at h
  rw [run_neq_struct]
  cases hr : (Op.equalIn 10000 23 (.agg #[.string n.sp, .string n.lc]) (.agg #[.string m.sp, .string m.lc])).run Tryz.prog w with
  | ok b w' => rw [hr] at h; simp only [Result.andThen_ok, Result.ok.injEq, Value.bool.injEq] at h ⊢; rw [h.1]; exact ⟨rfl, h.2⟩
  | halt x w' => rw [hr] at h; simp [Result.andThen] at h
theorem guardN (op : BinOp) (x y : Operand) (n m : Name) (w : World) : (eqGuard op 23 x y (.agg #[.string n.sp, .string n.lc]) (.agg #[.string m.sp, .string m.lc])).run Tryz.prog w = .ok () w := run_eqGuard_agg w op 23 x y _ _ (by kernel_rfl)

def zN : Name := ⟨⟨#[]⟩, ⟨#[]⟩⟩
set_option maxRecDepth 100000 in
set_option maxHeartbeats 1000000 in
theorem fits_any (t : CT) (w : World) :
    Calls Tryz.prog 48 #[t.val] w fun e w' => e = .returned (.bool t.fits) ∧ Below w.heap.size w w' := by
  cases t with
  | mk k n s ea ec ex aa ac ar =>
  unfold CT.val
  have hf : (CT.mk k n s ea ec ex aa ac ar).fits = fitsG k n s ex.length ar.length := rfl
  rw [hf]
  clear hf
  simp only [CT.kind, CT.name, CT.space, CT.exv, CT.arv]
  have e1 : ∀ w, (binOp .eql 23 (.agg #[.string n.sp, .string n.lc]) (.agg #[.string ⟨#[]⟩, .string ⟨#[]⟩])).run Tryz.prog w = .ok (.bool (noName n)) w := fun w => eqN n ⟨⟨#[]⟩, ⟨#[]⟩⟩ w
  have g1 : ∀ op x y w, (eqGuard op 23 x y (.agg #[.string n.sp, .string n.lc]) (.agg #[.string ⟨#[]⟩, .string ⟨#[]⟩])).run Tryz.prog w = .ok () w := fun op x y w => guardN op x y n ⟨⟨#[]⟩, ⟨#[]⟩⟩ w
  obtain ⟨nb, hnb⟩ : ∃ b, noName n = b := ⟨_, rfl⟩
  rw [hnb] at e1
  obtain ⟨le, hle⟩ : ∃ b, ex.length = b := ⟨_, rfl⟩
  obtain ⟨la, hla⟩ : ∃ b, ar.length = b := ⟨_, rfl⟩
  rw [hle, hla]
  have Hn := Lib.hid hnb
  clear hnb hle hla
  obtain ⟨v, hv⟩ : ∃ v, fitsG k n s le la = v := ⟨_, rfl⟩
  rw [hv]
  have Hv := Lib.hid hv
  clear hv
  have hk : k = 1 ∨ k = 2 ∨ k = 3 ∨ k = 4 ∨ ((k == 1) = false ∧ (k == 2) = false ∧ (k == 3) = false ∧ (k == 4) = false) := by simp only [beq_eq_false_iff_ne]; omega
  rcases hk with rfl | rfl | rfl | rfl | ⟨h1, h2, h3, h4⟩
  all_goals
    go_enter Tryz.func48, Tryz.ntmps48
    go_wp2
    go_quiet (fail)
    go_wp2_with (go_at_call 43; refine (valid_any n _).mono ?_; rintro e w1 ⟨rfl, hb⟩; obtain ⟨hc, hf⟩ := bcell hb)
  all_goals
    try simp only [nil_iff] at *
    go_ret
    refine ⟨ret_bool ?_, ?_⟩
    · have hn := Hn.out
      rw [← Hv.out, Bool.eq_iff_iff]
      clear e1 g1
      simp only [fitsG, hn, empty_iff, beq_eq_false_iff_ne, ne_eq, Bool.and_eq_true, beq_iff_eq, decide_eq_true_eq, Bool.false_eq_true, false_iff, if_true, if_false, not_and, Bool.not_eq_true, not_false_eq_true, Int.reduceEq] at *
      try simp only [*, if_false, true_and, false_and, Bool.false_eq_true, not_false_eq_true, not_true_eq_false, false_iff, and_true, true_implies, forall_const, implies_true, false_implies, iff_self] at *
      try omega
    · first
        | exact (below_drewN ((Below.refl _ _).alloc (Nat.le_refl _) _) _).trans (Below.mono ‹_› (by simp))
        | exact below_drewN ((Below.refl _ _).alloc (Nat.le_refl _) _) _
end Np
end Go.Proofs.YtohlhihhadbphaaGreatDoor

/- parts: the classes in a class, by an iterator. -/
namespace Go.Proofs.YtohlhihhadbphaaGreatDoor
open Go.RowKit Go.Shelf
attribute [local go_sem] Oper.semAt_some
namespace Np

theorem room_of_none {F : Fence} (hd : F.depth = none) (k : Nat) : F.room k := fun d h => by rw [hd] at h; cases h
theorem YieldAt.anyDepth {F : Fence} (hd : F.depth = none) {m : Nat} (m' : Nat) {P : Program} {l : Nat} {args : Array Value} {W : World} {R : Ending → World → Prop} (h : YieldAt F m P l args W R) : YieldAt F m' P l args W R := by
  obtain ⟨fn, tmps, assign, body, hy, hR⟩ := h
  exact ⟨fn, tmps, assign, body, hy, hR.1, fun c cs _ => hR.2 c cs (room_of_none hd _)⟩
theorem below_grown {w w' : World} (h : Below w.heap.size w w') : w.grownBy w' none := ⟨h.os, h.tape, h.output, h.size, fun k hk _ => h.block k hk⟩
theorem abides_below {β : Type} {B : Nat} {J : β → World → Prop} (hJ : AbidesFrom B J) {s : β} {w w' : World} (h : J s w) (hb : Below w.heap.size w w') : J s w' :=
  hJ s w w' none h (below_grown hb) (fun r e => by cases e)

/-- What a round that goes on keeps: what lies below n₀, block Bs, and what are cells from B0 on. -/
structure KpP (n₀ Bs B0 : Nat) (W W' : World) : Prop where
  below : Below n₀ W W'
  box : W'.heap[Bs]? = W.heap[Bs]?
  cells : ∀ b o, B0 ≤ b → W.heap[b]? = some o → o.isCells = true → W'.heap[b]? = some o
theorem KpP.refl (n₀ Bs B0 : Nat) (W : World) : KpP n₀ Bs B0 W W := ⟨Below.refl _ _, rfl, fun _ _ _ h _ => h⟩
theorem KpP.trans {n₀ Bs B0 : Nat} {A B C : World} (h : KpP n₀ Bs B0 A B) (k : KpP n₀ Bs B0 B C) : KpP n₀ Bs B0 A C :=
  ⟨h.below.trans k.below, k.box.trans h.box, fun b o hb ho hc => k.cells b o hb (h.cells b o hb ho hc) hc⟩
theorem KpP.of_below {n₀ Bs B0 : Nat} {W W' : World} (hn : n₀ ≤ W.heap.size) (hB : Bs < W.heap.size) (h : Below W.heap.size W W') : KpP n₀ Bs B0 W W' :=
  ⟨h.mono hn, h.block _ hB, fun b o _ ho _ => (h.block b (Array.getElem?_eq_some_iff.1 ho).1).trans ho⟩
theorem KpP.size {n₀ Bs B0 : Nat} {W W' : World} (h : KpP n₀ Bs B0 W W') : W.heap.size ≤ W'.heap.size := h.below.size
theorem box_cell {W : World} {B : Nat} {t : TypeId} {v : Value} {fz : Nat × Nat} (h : W.heap[B]? = some (.cells #[v] t fz)) : W.cell? ⟨B, 0, none⟩ = some v := by simp [World.cell?, h]

def encP (x : CT × Nat) : Array Value := #[x.1.val, .int .i64 (x.2 : Int)]
/-- What the recursive closure finds captured. -/
def Caps (l Yb Vb : Nat) (W : World) : Prop :=
  W.heap[Yb]? = some (.cells #[.func (.yield l) #[] #[]] 27 (0, 0)) ∧
  W.heap[Vb]? = some (.cells #[.func (.func 78) #[] #[.pointer (some ⟨Yb, 0, none⟩), .pointer (some ⟨Vb, 0, none⟩)]] 27 (0, 0))
theorem Caps.keep {l Yb Vb n₀ Bs B0 : Nat} {W W' : World} (h : Caps l Yb Vb W) (hY : B0 ≤ Yb) (hV : B0 ≤ Vb) (hk : KpP n₀ Bs B0 W W') : Caps l Yb Vb W' :=
  ⟨hk.cells _ _ hY h.1 rfl, hk.cells _ _ hV h.2 rfl⟩
def segs (t : CT) (d : Nat) : Nat → List (CT × Nat)
  | 0 => []
  | 1 => CT.partsL t.ex (d + 1)
  | _ => CT.partsL t.ex (d + 1) ++ CT.partsL t.ar (d + 1)

set_option maxRecDepth 100000 in
set_option maxHeartbeats 4000000 in
theorem visit_in (l Yb Vb n₀ Bs B0 B : Nat) (hYB : B0 ≤ Yb) (hVB : B0 ≤ Vb) (L : List (CT × Nat)) (J Jx : List (CT × Nat) → World → Prop) (hJa : AbidesFrom B J)
    (hY : ∀ m pre x W, x ∈ L → J pre W → pre.length < L.length → YieldAt Fence.wide m Tryz.prog l (encP x) W fun e W' =>
      (e = .returned (.bool true) ∧ J (pre ++ [x]) W' ∧ KpP n₀ Bs B0 W W') ∨ (e = .returned (.bool false) ∧ Jx (pre ++ [x]) W')) (D : Nat) :
    ∀ (t : CT) (n d : Nat) (di : Int) (pre post : List (CT × Nat)) (W : World), t.depth ≤ D → Hid (di = d) → 0 ≤ di → di + t.depth ≤ 1000000 → pre ++ t.parts d ++ post = L → t.In W n₀ → n₀ ≤ W.heap.size → Bs < W.heap.size → Caps l Yb Vb W → J pre W →
      CallsIn Fence.wide n Tryz.prog 78 #[t.val, .int .i64 di, .pointer (some ⟨Yb, 0, none⟩), .pointer (some ⟨Vb, 0, none⟩)] W fun e W' =>
        (e = .returned (.bool true) ∧ J (pre ++ t.parts d) W' ∧ KpP n₀ Bs B0 W W') ∨ (e = .returned (.bool false) ∧ ∃ q, q <+: L ∧ Jx q W') := by
  induction D with
  | zero => intro t n d di pre post W hD; rw [CT.depth_eq] at hD; omega
  | succ D ih =>
  intro t n d di pre post W hD Hd hd0 hdm hL hIn hn0 hBs hcap hJ
  have hdd : ∀ k : Nat, (Fence.wide.depth.isSome = true → 1 ≤ k) := fun k h => by cases h
  have hW1 : Below W.heap.size W (W.alloc (.cells #[.int .i64 t.kind, .string t.name.sp, .string t.name.lc, .string t.space, .slice t.ea t.ex.length t.ec, .slice t.aa t.ar.length t.ac] 26)) := (Below.refl _ _).alloc (Nat.le_refl _) _
  have hJ1 := abides_below hJa hJ hW1
  obtain ⟨fn, tmps, assign, body, hy, hR⟩ := hY (n - 1) pre (t, d) _ (by rw [← hL, CT.parts_eq]; simp) hJ1 (by rw [← hL, CT.parts_eq]; simp)
  have hk1 : KpP n₀ Bs B0 W _ := KpP.of_below hn0 hBs hW1
  have hc1 := hcap.keep hYB hVB hk1
  have hyb := box_cell hc1.1
  simp only [encP] at hy
  rw [← Hd.out] at hy
  clear hW1
  unfold CT.val at hy ⊢
  rw [CT.exv_eq, CT.arv_eq] at hy ⊢
  refine callsIn_of_wp Tryz.func78 rfl trivial ?_ rfl
  simp only [Tryz.ntmps78, List.size_toArray, List.length_cons, List.length_nil, Nat.reduceAdd, Nat.reduceSub, Array.replicate_succ, Array.replicate_zero, List.push_toArray, List.append_toArray, List.nil_append, List.cons_append]
  gi_wp2_with ((try refine ⟨hdd _, ?_⟩); refine hR.mono ?_)
  clear hR
  rintro e W2 (⟨rfl, hJ2, hk2⟩ | ⟨rfl, hx2⟩)
  · have hYl : Yb < W.heap.size := (Array.getElem?_eq_some_iff.1 hcap.1).1
    have hbox := hk2.cells W.heap.size _ (by omega) (World.alloc_heap_new W _) rfl
    have hb4 : W2.cell? ⟨W.heap.size, 4, none⟩ = some (.slice t.ea t.ex.length t.ec) := by simp [World.cell?, hbox]
    have hb5 : W2.cell? ⟨W.heap.size, 5, none⟩ = some (.slice t.aa t.ar.length t.ac) := by simp [World.cell?, hbox]
    have hkk := hk1.trans hk2
    clear hy hyb hc1
    have hsel : ∀ k : Nat, k < 2 → ∃ (a : Option Addr) (cap : Nat) (lst : List CT), (∀ w, (Instr.index 89 (.agg #[.slice t.ea t.ex.length t.ec, .slice t.aa t.ar.length t.ac]) (.int .i64 k)).run Tryz.prog w = .ok (.slice a lst.length cap) w) ∧
        RowIn W n₀ a lst ∧ (∀ u ∈ lst, u.In W n₀) ∧ (∀ u ∈ lst, u.depth < t.depth) ∧ segs t d (k + 1) = segs t d k ++ CT.partsL lst (d + 1) := by
      have hI := CT.in_iff.1 hIn
      intro k hk
      match k, hk with
      | 0, _ => exact ⟨t.ea, t.ec, t.ex, fun _ => by kernel_rfl, hI.2.2.1, hI.2.2.2.2.1, fun u hu => CT.depth_ex hu, rfl⟩
      | 1, _ => exact ⟨t.aa, t.ac, t.ar, fun _ => by kernel_rfl, hI.2.2.2.1, hI.2.2.2.2.2, fun u hu => CT.depth_ar hu, rfl⟩
    have Hsel := Lib.hid hsel
    have Hfin : Hid (pre ++ [(t, d)] ++ segs t d 2 = pre ++ t.parts d) := Lib.hid (by rw [CT.parts_eq]; simp [segs])
    have HL : Hid (pre ++ t.parts d ++ post = L) := Lib.hid hL
    clear hsel hL hIn hk1 hk2 hJ1
    gi_wp2
    clear hb4 hb5
    gi_loopw [21] (fun i wr => ∃ k : Nat, k ≤ 2 ∧ i = .int .i64 k ∧ J (pre ++ [(t, d)] ++ segs t d k) wr ∧ KpP n₀ Bs B0 W wr) (fun i _ => 2 - (intOf i).toNat)
    case atStart => exact ⟨0, by omega, rfl, by simpa [segs] using hJ2, hkk⟩
    case round =>
      obtain ⟨k, hk, rfl, hJk, hkw⟩ := hrel
      by_cases hlt : k < 2
      · obtain ⟨a, cap, lst, hidx, hrow, hin, hdep, hseg⟩ := Hsel.out k hlt
        have Hseg := Lib.hid hseg
        have hltI : (k : Int) < 2 := by omega
        clear hseg
        gi_wp2
        gi_loopw [26] (fun i wr => ∃ j : Nat, j ≤ lst.length ∧ i = .int .i64 j ∧ J (pre ++ [(t, d)] ++ segs t d k ++ CT.partsL (lst.take j) (d + 1)) wr ∧ KpP n₀ Bs B0 W wr) (fun i _ => lst.length - (intOf i).toNat)
        case atStart => exact ⟨0, by omega, rfl, by simpa [CT.partsL] using hJk, hkw⟩
        case round =>
          obtain ⟨j, hj, rfl, hJj, hkj⟩ := hrel
          have hml := hrow.1
          unfold maxLen at hml
          by_cases hjl : j < lst.length
          · obtain ⟨u, hu⟩ : ∃ u, lst[j] = u := ⟨_, rfl⟩
            have hmem : u ∈ lst := by rw [← hu]; exact List.getElem_mem hjl
            obtain ⟨b, o, rfl, hbn, hcells⟩ := hrow.2 (List.ne_nil_of_length_pos (by omega))
            have hcu : ∀ i v, u.cells[i]? = some v → wr.cell? ⟨b, o + j * 6 + i, none⟩ = some v := fun i v hv => (hkj.below.cell (p := ⟨b, o + j * 6 + i, none⟩) (show b < n₀ from hbn)).trans (hcells j hjl i v (by rw [hu]; exact hv))
            have u0 := hcu 0 _ rfl
            have u1 := hcu 1 _ rfl
            have u2 := hcu 2 _ rfl
            have u3 := hcu 3 _ rfl
            have u4 := hcu 4 _ rfl
            have u5 := hcu 5 _ rfl
            rw [Nat.add_zero] at u0
            rw [CT.exv_eq] at u4
            rw [CT.arv_eq] at u5
            have Hsn : Hid (CT.partsL (lst.take (j + 1)) (d + 1) = CT.partsL (lst.take j) (d + 1) ++ u.parts (d + 1)) := Lib.hid (by
              rw [List.take_succ_eq_append_getElem hjl, CT.partsL_append, hu]; simp [CT.partsL])
            have Hu := Lib.hid hu
            have hcw := hcap.keep hYB hVB hkj
            have hvc := box_cell hcw.2
            have hVl : Vb < wr.heap.size := (Array.getElem?_eq_some_iff.1 hcw.2).1
            have hnw : n₀ ≤ wr.heap.size := Nat.le_trans hn0 hkj.size
            have hBw : Bs < wr.heap.size := Nat.lt_of_lt_of_le hBs hkj.size
            have hbw : Below wr.heap.size wr (wr.alloc (.cells #[.int .i64 u.kind, .string u.name.sp, .string u.name.lc, .string u.space, .slice u.ea u.ex.length u.ec, .slice u.aa u.ar.length u.ac] 26)) := (Below.refl _ _).alloc (Nat.le_refl _) _
            have hk2 : KpP n₀ Bs B0 wr _ := KpP.of_below hnw hBw hbw
            have hud := hdep u hmem
            have hud0 : 1 ≤ u.depth := by rw [CT.depth_eq]; omega
            have hv := ih u (n - 1) (d + 1) (di + 1) (pre ++ [(t, d)] ++ segs t d k ++ CT.partsL (lst.take j) (d + 1)) (CT.partsL (lst.drop (j + 1)) (d + 1) ++ (if k = 0 then CT.partsL t.ar (d + 1) else []) ++ post) _ (by omega) (Lib.hid (by rw [Hd.out]; omega)) (by omega) (by omega) ?hsub ((hin u hmem).below (hkj.trans hk2).below (Nat.le_refl _)) (Nat.le_trans hnw hbw.size) (Nat.lt_of_lt_of_le hBw hbw.size) (hcw.keep hYB hVB hk2) (abides_below hJa hJj hbw)
            case hsub =>
              have e1 : CT.partsL lst (d + 1) = CT.partsL (lst.take j) (d + 1) ++ u.parts (d + 1) ++ CT.partsL (lst.drop (j + 1)) (d + 1) := by
                rw [← Hsn.out, ← CT.partsL_append, List.take_append_drop]
              have e2 := Hseg.out
              rw [e1] at e2
              have e3 : segs t d (k + 1) ++ (if k = 0 then CT.partsL t.ar (d + 1) else []) = segs t d 2 := by
                rcases (show k = 0 ∨ k = 1 by omega) with rfl | rfl
                · simp [segs]
                · simp [segs]
              rw [← HL.out, ← Hfin.out, ← e3, e2]
              simp only [List.append_assoc]
            unfold CT.val at hv
            rw [CT.exv_eq, CT.arv_eq] at hv
            clear hbw hcw
            gi_wp2
            refine ⟨trivial, hdd _, hv.mono ?_⟩
            clear hv
            rintro e w3 (⟨rfl, hJ3, hk3⟩ | ⟨rfl, q, hq, hx3⟩)
            · gi_wp2
              go_roundw
              case rel =>
                have hJ4 : J (pre ++ [(t, d)] ++ segs t d k ++ CT.partsL (lst.take (j + 1)) (d + 1)) w3 := by rw [Hsn.out, ← List.append_assoc]; exact hJ3
                have hr : ∃ j' : Nat, j' ≤ lst.length ∧ Value.int .i64 ((j : Int) + 1) = .int .i64 j' ∧ J (pre ++ [(t, d)] ++ segs t d k ++ CT.partsL (lst.take j') (d + 1)) w3 ∧ KpP n₀ Bs B0 W w3 := ⟨j + 1, by omega, by go_num, hJ4, hkj.trans (hk2.trans hk3)⟩
                first
                  | exact hr
                  | ((repeat apply Exists.intro); exact ⟨hr, rfl⟩)

              case measure =>
                have e3 : ((j : Int) + 1).toNat = j + 1 := by omega
                simp only [intOf, e3, Int.toNat_natCast]
                omega
            · gi_wp2
              go_ret
              exact .inr ⟨rfl, q, hq, hx3⟩
          · obtain rfl : j = lst.length := by omega
            rw [List.take_length] at hJj
            have hJ3 : J (pre ++ [(t, d)] ++ segs t d (k + 1)) wr := by rw [Hseg.out, ← List.append_assoc]; exact hJj
            clear hJj
            gi_wp2
            go_roundw
            case rel =>
              have hr : ∃ k' : Nat, k' ≤ 2 ∧ Value.int .i64 ((k : Int) + 1) = .int .i64 k' ∧ J (pre ++ [(t, d)] ++ segs t d k') wr ∧ KpP n₀ Bs B0 W wr := ⟨k + 1, by omega, by go_num, hJ3, hkj⟩
              first
                | exact hr
                | ((repeat apply Exists.intro); exact ⟨hr, rfl⟩)

            case measure =>
              have e3 : ((k : Int) + 1).toNat = k + 1 := by omega
              simp only [intOf, e3, Int.toNat_natCast]
              omega
      · obtain rfl : k = 2 := by omega
        rw [Hfin.out] at hJk
        gi_wp2
        go_ret
        exact .inl ⟨rfl, hJk, hkw⟩
  · gi_wp2
    go_ret
    exact .inr ⟨rfl, _, by rw [← hL, CT.parts_eq]; exact ⟨_, by simp; rfl⟩, hx2⟩
end Np
end Go.Proofs.YtohlhihhadbphaaGreatDoor

/- parts: the iterator as a contract. -/
namespace Go.Proofs.YtohlhihhadbphaaGreatDoor
open Go.RowKit Go.Shelf
attribute [local go_sem] Oper.semAt_some
namespace Np
set_option maxRecDepth 100000 in
set_option maxHeartbeats 4000000 in
theorem parts1_in (n l Bs n₀ B0 B : Nat) (t : CT) (ht : t.depth ≤ 1000) (J Jx : List (CT × Nat) → World → Prop) (hJa : AbidesFrom B J)
    (hY : ∀ pre x W, x ∈ t.parts 1 → J pre W → pre.length < (t.parts 1).length → YieldAt Fence.wide (n - 1) Tryz.prog l (encP x) W fun e W' =>
      (e = .returned (.bool true) ∧ J (pre ++ [x]) W' ∧ KpP n₀ Bs B0 W W') ∨ (e = .returned (.bool false) ∧ Jx (pre ++ [x]) W'))
    (W : World) (hB0 : B0 ≤ W.heap.size) (fz : Nat × Nat) (hBs : W.heap[Bs]? = some (.cells t.cells.toArray 26 fz)) (hn0 : n₀ ≤ W.heap.size) (hIn : t.In W n₀) (h0 : J [] W) :
    CallsIn Fence.wide n Tryz.prog 77 #[.func (.yield l) #[] #[], .pointer (some ⟨Bs, 0, none⟩)] W fun e W' => (∃ v, e = .returned v) ∧
      ((∃ ys, ys = t.parts 1 ∧ J ys W') ∨ (∃ pre, pre <+: t.parts 1 ∧ Jx pre W')) := by
  have hdd : ∀ k : Nat, (Fence.wide.depth.isSome = true → 1 ≤ k) := fun k h => by cases h
  have hBl : Bs < W.heap.size := (Array.getElem?_eq_some_iff.1 hBs).1
  have hcell : ∀ i v, t.cells[i]? = some v → W.cell? ⟨Bs, i, none⟩ = some v := fun i v hv => by simp [World.cell?, hBs, hv]
  have u0 := hcell 0 _ rfl
  have u1 := hcell 1 _ rfl
  have u2 := hcell 2 _ rfl
  have u3 := hcell 3 _ rfl
  have u4 := hcell 4 _ rfl
  have u5 := hcell 5 _ rfl
  rw [CT.exv_eq] at u4
  rw [CT.arv_eq] at u5
  clear hcell
  obtain ⟨W1, hW1⟩ : ∃ W1, (W.alloc (.cells #[.func (.yield l) #[] #[]] 27)).alloc (.cells #[.func (.func 78) #[] #[.pointer (some ⟨W.heap.size, 0, none⟩), .pointer (some ⟨W.heap.size + 1, 0, none⟩)]] 27) = W1 := ⟨_, rfl⟩
  have hb : Below W.heap.size W W1 := by
    rw [← hW1]
    exact ((Below.refl _ _).alloc (Nat.le_refl _) _).alloc (by simp) _
  have hcap : Caps l W.heap.size (W.heap.size + 1) W1 := by
    rw [← hW1]
    constructor
    · have h : Boxed (W.alloc (.cells #[.func (.yield l) #[] #[]] 27)) W.heap.size 27 (.func (.yield l) #[] #[]) := Boxed.new W _ _
      exact h.alloc _
    · have := Boxed.new (W.alloc (.cells #[.func (.yield l) #[] #[]] 27)) 27 (.func (.func 78) #[] #[.pointer (some ⟨W.heap.size, 0, none⟩), .pointer (some ⟨W.heap.size + 1, 0, none⟩)])
      rw [World.size_alloc] at this
      exact this
  have hv := visit_in l W.heap.size (W.heap.size + 1) n₀ Bs B0 B hB0 (by omega) (t.parts 1) J Jx hJa (fun m pre x W hx hj hl => YieldAt.anyDepth rfl m (hY pre x W hx hj hl)) t.depth t (n - 1) 1 1 [] [] W1 (Nat.le_refl _) (Lib.hid rfl) (by omega) (by omega) (by simp) (hIn.below hb hn0) (Nat.le_trans hn0 hb.size) (Nat.lt_of_lt_of_le hBl hb.size) hcap (abides_below hJa h0 hb)
  have HW := Lib.hid hW1
  clear hW1 hcap hb
  refine callsIn_of_wp Tryz.func77 rfl trivial ?_ rfl
  simp only [Tryz.ntmps77, List.size_toArray, List.length_cons, List.length_nil, Nat.reduceAdd, Nat.reduceSub, Array.replicate_succ, Array.replicate_zero, List.push_toArray, List.append_toArray, List.nil_append, List.cons_append]
  unfold CT.val at hv
  rw [CT.exv_eq, CT.arv_eq] at hv
  gi_wp2
  rw [HW.out]
  refine ⟨trivial, hdd _, hv.mono ?_⟩
  clear hv
  rintro e w3 (⟨rfl, hJ3, hk3⟩ | ⟨rfl, q, hq, hx3⟩)
  · gi_wp2
    go_end0
    exact ⟨⟨_, rfl⟩, .inl ⟨_, rfl, by simpa using hJ3⟩⟩
  · gi_wp2
    go_end0
    exact ⟨⟨_, rfl⟩, .inr ⟨q, hq, hx3⟩⟩

/-- The parts of a class, each known to be one. -/
abbrev PI (t : CT) := { x : CT × Nat // x ∈ t.parts 1 }
abbrev pvals {t : CT} (l : List (PI t)) : List (CT × Nat) := l.map Subtype.val
def encPI {t : CT} (x : PI t) : Array Value := encP x.1
/-- **The iterator that parts returns.** -/
theorem parts_stops (n Bs n₀ B0 : Nat) (t : CT) (ht : t.depth ≤ 1000) (w : World) (hB0 : B0 ≤ w.heap.size) (fz : Nat × Nat) (hBs : w.heap[Bs]? = some (.cells t.cells.toArray 26 fz)) (hn0 : n₀ ≤ w.heap.size) (hIn : t.In w n₀) :
    SeqStopsK Fence.wide n Tryz.prog 77 #[.pointer (some ⟨Bs, 0, none⟩)] (encPI (t := t)) (KpP n₀ Bs B0) (fun ys => pvals ys = t.parts 1) (fun pre => pvals pre <+: t.parts 1) (t.parts 1).length w := fun l J Jx W hW hJ _ hY h0 => by
  have hlt : Bs < w.heap.size := (Array.getElem?_eq_some_iff.1 hBs).1
  refine (parts1_in n l Bs n₀ B0 W.heap.size t ht (fun pre W => ∃ p : List (PI t), pvals p = pre ∧ J p W) (fun pre W => ∃ p : List (PI t), pvals p = pre ∧ Jx p W) ?_ ?_ W (Nat.le_trans hB0 hW.size) fz ((hW.block _ hlt).trans hBs) (Nat.le_trans hn0 hW.size) (hIn.below hW hn0) ⟨[], rfl, h0⟩).mono ?_
  · rintro pre A B row ⟨p, hp, hs⟩ hg hr
    exact ⟨p, hp, hJ p A B row hs hg hr⟩
  · rintro pre x A hx ⟨p, rfl, hp⟩ hl
    obtain ⟨fn, tmps, assign, body, hy, hR⟩ := hY p ⟨x, hx⟩ A hp (by rw [List.length_map] at hl; exact hl)
    refine ⟨fn, tmps, assign, body, hy, hR.mono ?_⟩
    rintro e B (⟨he, h1, h2⟩ | ⟨he, h1⟩)
    · exact .inl ⟨he, ⟨_, by simp [pvals], h1⟩, h2⟩
    · exact .inr ⟨he, ⟨_, by simp [pvals], h1⟩⟩
  · rintro e B ⟨he, ⟨ys, rfl, p, hp, h1⟩ | ⟨pre, hpre, p, rfl, h1⟩⟩
    · exact ⟨he, .inl ⟨p, hp, h1⟩⟩
    · exact ⟨he, .inr ⟨p, hpre, h1⟩⟩

set_option maxHeartbeats 1000000 in
/-- parts(c): the class is boxed; the function value captures the box. -/
theorem parts_any (t : CT) (w : World) :
    Calls Tryz.prog 47 #[t.val] w fun e w' => e = .returned (.func (.func 77) #[] #[.pointer (some ⟨w.heap.size, 0, none⟩)]) ∧ w' = w.alloc (.cells t.cells.toArray 26) := by
  unfold CT.val CT.cells
  go_enter Tryz.func47, Tryz.ntmps47
  go_wp2
  go_ret
  exact ⟨rfl, rfl⟩
end Np
end Go.Proofs.YtohlhihhadbphaaGreatDoor

/- small and Check. -/
namespace Go.Proofs.YtohlhihhadbphaaGreatDoor
open Go.RowKit Go.Shelf
attribute [local go_sem] Oper.semAt_some
namespace Np
theorem kpP_b {n₀ Bs B0 : Nat} {w : World} (hn : n₀ ≤ w.heap.size) (hB : Bs < w.heap.size) (W : World) (l : Nat) (o o' : Obj) (hl : w.heap.size ≤ l) (h : W.heap[l]? = some o) (h1 : o.isCells = false) (h2 : o.isWalk = false) : KpP n₀ Bs B0 W (W.putObj l o') :=
  ⟨belowK_b hn W l o o' hl h h1 h2, World.putObj_heap_other (by omega), fun b ob _ hb hc => (World.putObj_heap_other (fun e => by rw [e, h] at hb; cases hb; rw [h1] at hc; cases hc)).trans hb⟩
theorem setCell_heap_other {W : World} {b b' : Nat} (h : b' ≠ b) (v : Value) : (W.setCell ⟨b, 0, none⟩ v).heap[b']? = W.heap[b']? := by
  by_cases hl : b' < W.heap.size
  · exact (grownBy_setCell' W b v).block b' hl (fun e => h (by injection e))
  · have hs : (W.setCell ⟨b, 0, none⟩ v).heap.size = W.heap.size := by simp
    rw [Array.getElem?_eq_none (by omega), Array.getElem?_eq_none (by omega)]
theorem KpP.setCell {n₀ Bs B0 : Nat} {W W' : World} (h : KpP n₀ Bs B0 W W') {b : Nat} (h1 : n₀ ≤ b) (h2 : b ≠ Bs) (h3 : b < B0) (v : Value) : KpP n₀ Bs B0 W (W'.setCell ⟨b, 0, none⟩ v) :=
  h.trans ⟨(Below.refl _ _).setCell (p := ⟨b, 0, none⟩) h1 _, setCell_heap_other (fun e => h2 e.symm) v, fun b' o hb ho _ => (setCell_heap_other (by omega) v).trans ho⟩
theorem boxed_putObj {W : World} {B D : Nat} {t : TypeId} {v : Value} {o o' : Obj} (h : Boxed W B t v) (hD : W.heap[D]? = some o) (ho : o.isCells = false) : Boxed (W.putObj D o') B t v :=
  h.kept (grownBy_putObj' W D o') (fun e => by cases e; rw [show W.heap[B]? = _ from h] at hD; cases hD; cases ho)
theorem alloc_cells (W : World) (cs : Array Value) (t : TypeId) : (W.alloc (.cells cs t)).heap[W.heap.size]? = some (.cells cs t (0, 0)) := World.alloc_heap_new W _

theorem small_of {t : CT} {pre : List (PI t)} (hp : pvals pre = t.parts 1) (h1 : pre.length ≤ 100) (h2 : ∀ x ∈ pre, x.1.2 ≤ 10) : t.small = true := by
  unfold CT.small smallB
  rw [← hp, List.length_map]
  simp only [Bool.and_eq_true, decide_eq_true_eq, List.all_eq_true, List.mem_map]
  exact ⟨h1, by rintro x ⟨y, hy, rfl⟩; exact h2 y hy⟩
theorem not_small_of {t : CT} {pre : List (PI t)} {x : PI t} (hp : pvals (pre ++ [x]) <+: t.parts 1) (h : 100 < (pre ++ [x]).length ∨ 10 < x.1.2) : t.small = false := by
  unfold CT.small smallB
  rw [Bool.and_eq_false_iff]
  rcases h with h | h
  · left
    rw [decide_eq_false_iff_not]
    have := hp.length_le
    rw [List.length_map] at this
    omega
  · right
    rw [List.all_eq_false]
    exact ⟨x.1, hp.subset (by simp), by simp; omega⟩

set_option maxRecDepth 100000 in
set_option maxHeartbeats 4000000 in
theorem small_any (t : CT) (ht : t.depth ≤ 1000) (w : World) (hIn : t.In w w.heap.size) :
    Calls Tryz.prog 46 #[t.val] w fun e w' => e = .returned (.bool t.small) ∧ Below w.heap.size w w' := by
  refine (callsIn_wide (n := 9)).1 ?_
  refine callsIn_of_wp_marks Tryz.func46 rfl trivial ?_ rfl
  simp only [Tryz.ntmps46, List.size_toArray, List.length_cons, List.length_nil, Nat.reduceAdd, Nat.reduceSub, Array.replicate_succ, Array.replicate_zero, List.push_toArray, List.append_toArray, List.nil_append, List.cons_append]
  unfold CT.val
  have hP := parts_any t
  unfold CT.val at hP
  gi_wp2_with (refine ⟨trivial, ?_⟩; gi_at_call 47; refine (callsIn_wide.2 (hP _)).mono ?_)
  rintro e w' ⟨rfl, rfl⟩
  obtain ⟨W0, hW0⟩ : ∃ W0, (((w.alloc (.cells #[.int .i64 t.kind, .string t.name.sp, .string t.name.lc, .string t.space, t.exv, t.arv] 26)).alloc (.cells #[.bool false] 4)).alloc (.cells #[.int .i64 0] 3)).alloc (.cells t.cells.toArray 26) = W0 := ⟨_, rfl⟩
  have hsz0 : W0.heap.size = w.heap.size + 4 := by rw [← hW0]; simp
  have hB0 : Below w.heap.size w W0 := by rw [← hW0]; exact ((((Below.refl _ w).alloc (Nat.le_refl _) _).alloc (by simp) _).alloc (by simp; omega) _).alloc (by simp; omega) _
  have b1 := Boxed.new (w.alloc (.cells #[.int .i64 t.kind, .string t.name.sp, .string t.name.lc, .string t.space, t.exv, t.arv] 26)) 4 (.bool false)
  have b2 := Boxed.new ((w.alloc (.cells #[.int .i64 t.kind, .string t.name.sp, .string t.name.lc, .string t.space, t.exv, t.arv] 26)).alloc (.cells #[.bool false] 4)) 3 (.int .i64 0)
  have b3 := alloc_cells (((w.alloc (.cells #[.int .i64 t.kind, .string t.name.sp, .string t.name.lc, .string t.space, t.exv, t.arv] 26)).alloc (.cells #[.bool false] 4)).alloc (.cells #[.int .i64 0] 3)) t.cells.toArray 26
  simp only [World.size_alloc, Nat.add_assoc, Nat.reduceAdd] at b1 b2 b3
  have d1 : Boxed W0 (w.heap.size + 1) 4 (.bool false) := by rw [← hW0]; exact (b1.alloc _).alloc _
  have d2 : Boxed W0 (w.heap.size + 2) 3 (.int .i64 0) := by rw [← hW0]; exact b2.alloc _
  have d3 : W0.heap[w.heap.size + 3]? = some (.cells t.cells.toArray 26 (0, 0)) := by rw [← hW0]; exact b3
  clear b1 b2 b3
  gi_wp2
  simp only [Nat.add_assoc, Nat.reduceAdd]
  clear hW0
  refine wpIn_rangeFunc_ownG rfl (by omega) (gf := 77) (lb := #[.pointer (some ⟨w.heap.size + 3, 0, none⟩)]) rfl trivial (enters_of Tryz.func77 (by kernel_rfl) rfl)
    (parts_stops _ (w.heap.size + 3) w.heap.size (w.heap.size + 4) t ht W0 (by omega) _ d3 (by omega) (hIn.below hB0 (Nat.le_refl _))) (fun h k => h.trans k) (kpP_b (by omega) (by omega)) (Below.refl _ _) (fun _ => rfl)
    (fun (pre : List (PI t)) W => (Boxed W (w.heap.size + 1) 4 (.bool false) ∧ Boxed W (w.heap.size + 2) 3 (.int .i64 (pre.length : Int)) ∧ pre.length ≤ 100 ∧ ∀ x ∈ pre, x.1.2 ≤ 10) ∧ Below w.heap.size w W)
    (fun c (pre : List (PI t)) W => (Boxed W (w.heap.size + 1) 4 (.bool false) ∧ c = .ret ∧ ∃ (ini : List (PI t)) (last : PI t), pre = ini ++ [last] ∧ (100 < pre.length ∨ 10 < last.1.2)) ∧ Below w.heap.size w W)
    (OwnFrom.and (Own.from (fun pre A B row hs hg hr => ⟨boxed_own _ _ (fun _ : Unit => Value.bool false) () A B row hs.1 hg hr, boxed_own _ _ (fun pre : List (PI t) => Value.int .i64 (pre.length : Int)) pre A B row hs.2.1 hg hr, hs.2.2⟩) _) (ownFrom_below (by omega) (by omega)))
    (fun c => OwnFrom.and (Own.from (fun pre A B row hs hg hr => ⟨boxed_own _ _ (fun _ : Unit => Value.bool false) () A B row hs.1 hg hr, hs.2⟩) _) (ownFrom_below (by omega) (by omega)))
    ⟨⟨d1, d2, by simp, by simp⟩, hB0⟩ ?a1 ?assign ?body ?done ?stop
  case assign =>
    intro l x W K hK
    simp only [encPI, encP]
    gi_wp2
    exact hK
  case body =>
    rintro l pre x W ⟨⟨h1, h2, h3, h4⟩, hB⟩ hlt
    have hsB := hB.size
    have c1 := h1.cell
    have f1 := h1.frozen
    have c2 := h2.cell
    have f2 := h2.frozen
    have hx := x.2
    obtain ⟨dp, hdp⟩ : ∃ dp, x.1.2 = dp := ⟨_, rfl⟩
    rw [hdp]
    have Hdp := Lib.hid hdp
    clear hdp
    by_cases hc : 100 < pre.length + 1
    · have g1 : (100 : Int) < (pre.length : Int) + 1 := by omega
      gi_wp2
      have m1 := (h1.other (B' := w.heap.size + 2) (by omega) (.int .i64 ((pre.length : Int) + 1))).set (.bool false)
      exact ⟨((KeepsOthers.setCell _ _ _).trans (KeepsOthers.setCell _ _ _)).from _, ⟨m1, rfl, pre, x, rfl, .inl (by simpa using hc)⟩, (hB.setCell (p := ⟨w.heap.size + 2, 0, none⟩) (by simp) _).setCell (p := ⟨w.heap.size + 1, 0, none⟩) (by simp) _⟩
    · have g1 : (pre.length : Int) + 1 ≤ 100 := by omega
      by_cases hd : 10 < dp
      · have g2 : (10 : Int) < (dp : Int) := by omega
        gi_wp2
        have m1 := (h1.other (B' := w.heap.size + 2) (by omega) (.int .i64 ((pre.length : Int) + 1))).set (.bool false)
        exact ⟨((KeepsOthers.setCell _ _ _).trans (KeepsOthers.setCell _ _ _)).from _, ⟨m1, rfl, pre, x, rfl, .inr (by rw [Hdp.out]; exact hd)⟩, (hB.setCell (p := ⟨w.heap.size + 2, 0, none⟩) (by simp) _).setCell (p := ⟨w.heap.size + 1, 0, none⟩) (by simp) _⟩
      · have g2 : (dp : Int) ≤ 10 := by omega
        gi_wp2
        have m1 := h1.other (B' := w.heap.size + 2) (by omega) (.int .i64 ((pre.length : Int) + 1))
        have m2 := h2.set (.int .i64 ((pre.length : Int) + 1))
        have e2 : (.int .i64 ((pre.length : Int) + 1) : Value) = .int .i64 ((pre ++ [x]).length : Int) := by simp
        refine ⟨(KeepsOthers.setCell _ _ _).from _, (KpP.refl _ _ _ _).setCell (by omega) (by omega) (by omega) _, ⟨m1, e2 ▸ m2, by simp; omega, ?_⟩, hB.setCell (p := ⟨w.heap.size + 2, 0, none⟩) (by simp) _⟩
        intro y hy
        rcases List.mem_append.1 hy with hy | hy
        · exact h4 y hy
        · rw [List.mem_singleton.1 hy, Hdp.out]; omega
  case done =>
    rintro D ys W hD hys ⟨⟨h1, h2, h3, h4⟩, hB⟩ hK
    have c1 := h1.cell
    have f1 := h1.frozen
    have Hs := Lib.hid (small_of hys h3 h4)
    clear hys
    gi_wp2
    have m1 := h1.set (.bool true)
    have hK' := (KeepsOthers.setCell W ⟨w.heap.size + 1, 0, none⟩ (.bool true)).same D _ hK rfl
    have hB' := hB.setCell (p := ⟨w.heap.size + 1, 0, none⟩) (by simp) (.bool true)
    refine ⟨by simp, .inl ⟨_, _, rfl, run_takeDeferred hK', ?_⟩⟩
    have q1 := (boxed_putObj (o' := .deferred none) m1 hK' rfl).cell
    refine ⟨.bool true, ?_, by rw [Hs.out], hB'.trans (belowK_b (w := w) (Nat.le_refl _) _ D _ _ (by omega) hK' rfl rfl)⟩
    simp [results, Tryz.f46, go_sem, q1]
  case stop =>
    rintro D c pre W hD hpre ⟨⟨h1, rfl, ini, last, rfl, hbad⟩, hB⟩ hK
    have Hs := Lib.hid (not_small_of hpre hbad)
    clear hpre hbad
    gi_wp2
    have q1 := (boxed_putObj (o' := .deferred none) h1 hK rfl).cell
    refine ⟨by simp, .inl ⟨_, _, rfl, run_takeDeferred hK, ?_⟩⟩
    refine ⟨.bool false, ?_, by rw [Hs.out], hB.trans (belowK_b (w := w) (Nat.le_refl _) _ D _ _ (by omega) hK rfl rfl)⟩
    simp [results, Tryz.f46, go_sem, q1]
end Np
end Go.Proofs.YtohlhihhadbphaaGreatDoor
