/- Names: Ag0 Math2 Ag Ah Ai Aj. -/
import Derived.Test.YtohlhihhadbphaaGreatDoorGi
import Derived.Test.YtohlhihhadbphaaGreatDoorGg
import Derived.Test.YtohlhihhadbphaaGreatDoorGa
set_option linter.unusedSimpArgs false
set_option linter.unusedVariables false
/- A region that draws its order, by an invariant on what has been listed: one goal an operation, in a fence, in a round. -/
namespace Go.Proofs.YtohlhihhadbphaaGreatDoor
open Go.RowKit Go.Shelf Go.Lib Go.Maps
namespace Np
theorem count_set_true : ∀ (l : List Bool) (i : Nat), l.getD i true = false → (l.set i true).count false + 1 = l.count false
  | [], i, h => by simp at h
  | b :: r, 0, h => by
    have : b = false := by simpa using h
    subst this
    simp
  | b :: r, i + 1, h => by
    have := count_set_true r i (by simpa using h)
    simp only [List.set_cons_succ, List.count_cons]
    omega
/-- Behind which operations this one comes. -/
def depsOf (md : Region.Mode) (o : Oper) : List Nat := (o.after.toList.filter (Region.binds md)).map (·.on)
def acyc (md : Region.Mode) (os : List Oper) : Bool := (List.range os.length).all fun i => match os[i]? with | some o => (depsOf md o).all fun j => decide (j < i) | none => true
theorem ready_deps {md : Region.Mode} {os : List Oper} {l : List Bool} {i : Nat} : i ∈ Region.ready md os.toArray l.toArray ↔ l.getD i true = false ∧ ∃ o, os[i]? = some o ∧ ∀ j ∈ depsOf md o, l.getD j false = true := by
  rw [mem_ready]
  have e : ∀ (i : Nat) (b : Bool), l.toArray.getD i b = l.getD i b := fun i b => by simp [Array.getD, List.getD]; split <;> simp_all
  rw [e]
  refine and_congr Iff.rfl ?_
  constructor
  · rintro ⟨o, ho, h⟩
    refine ⟨o, by simpa using ho, fun j hj => ?_⟩
    simp only [depsOf, List.mem_map, List.mem_filter] at hj
    obtain ⟨x, ⟨hx, hb⟩, rfl⟩ := hj
    rw [← e]; exact h x (by simpa using hx) hb
  · rintro ⟨o, ho, h⟩
    refine ⟨o, by simpa using ho, fun x hx hb => ?_⟩
    rw [e]; exact h _ (by simp only [depsOf, List.mem_map, List.mem_filter]; exact ⟨x, ⟨by simpa using hx, hb⟩, rfl⟩)
theorem all_listed {md : Region.Mode} {os : List Oper} {l : List Bool} (hac : acyc md os = true) (hl : l.length = os.length) (hr : Region.ready md os.toArray l.toArray = []) : ∀ i, l.getD i true = true := by
  intro i
  induction i using Nat.strongRecOn with
  | _ i ih =>
    rcases Nat.lt_or_ge i os.length with hi | hi
    · cases hv : l.getD i true with
      | true => rfl
      | false =>
        have ho : os[i]? = some os[i] := List.getElem?_eq_getElem hi
        have h1 : i ∈ Region.ready md os.toArray l.toArray := ready_deps.2 ⟨hv, _, ho, fun j hj => by
          unfold acyc at hac
          rw [List.all_eq_true] at hac
          have h2 := hac i (List.mem_range.2 hi)
          rw [ho] at h2
          have h3 := of_decide_eq_true (List.all_eq_true.1 h2 j hj)
          have h4 := ih j h3
          have hj' : j < l.length := by omega
          simpa [List.getD, List.getElem?_eq_getElem hj'] using h4⟩
        rw [hr] at h1; cases h1
    · simp [List.getD, List.getElem?_eq_none (show l.length ≤ i by omega)]
/-- What comes before a listed operation is listed. -/
def Closed (md : Region.Mode) (os : List Oper) (l : List Bool) : Prop := ∀ i o, os[i]? = some o → l.getD i false = true → ∀ j ∈ depsOf md o, l.getD j false = true
theorem getD_set_true {l : List Bool} {i k : Nat} (h : l.getD k false = true) : (l.set i true).getD k false = true := by
  simp only [List.getD, List.getElem?_set] at h ⊢
  split
  · split <;> simp_all
  · exact h
theorem Closed.set {md : Region.Mode} {os : List Oper} {l : List Bool} (h : Closed md os l) {i : Nat} {o : Oper} (ho : os[i]? = some o) (hd : ∀ j ∈ depsOf md o, l.getD j false = true) : Closed md os (l.set i true) := by
  intro k ok hk hl j hj
  refine getD_set_true ?_
  by_cases e : i = k
  · subst e
    rw [ho] at hk; injection hk with hk; subst hk
    exact hd j hj
  · refine h k ok hk ?_ j hj
    simpa [List.getD, List.getElem?_set, e] using hl
theorem Closed.start {md : Region.Mode} {os : List Oper} (n : Nat) : Closed md os (List.replicate n false) := by
  intro i o _ h
  simp only [List.getD, List.getElem?_replicate] at h
  split at h <;> simp at h
theorem wpAnyIn_inv {F : Fence} {n : Nat} {P : Program} {md : Region.Mode} {os : List Oper} {Q : Exit → Act → World → Prop} (I : List Bool → Act → World → Prop) (hac : acyc md os = true)
    (hlen : ∀ l a w, I l a w → l.length = os.length)
    (hdone : ∀ l a w, I l a w → (∀ i, l.getD i true = true) → Q .normal a w)
    (hstep : ∀ i o, os[i]? = some o → ∀ l a w, I l a w → Closed md os l → l.getD i true = false → (∀ j ∈ depsOf md o, l.getD j false = true) → ∀ K : Act → World → Prop, (∀ a' w', I (l.set i true) a' w' → K a' w') →
      if Region.wanted o (yielded os.toArray a.tmps) = true then Oper.wpIn F n P o a w K Q else (∀ f, o.about P w a.eval = some f → F.fn f) ∧ K (a.put o.dst undef) w) :
    ∀ (fuel : Nat) (l : List Bool) (a : Act) (w : World), I l a w → Closed md os l → l.count false ≤ fuel → wpAnyIn F n P md os.toArray Q fuel l.toArray a w
  | 0, l, a, w, h, _, hc => by
    have hr : Region.ready md os.toArray l.toArray = [] := by
      cases e : Region.ready md os.toArray l.toArray with
      | nil => rfl
      | cons i r =>
        have hi : i ∈ Region.ready md os.toArray l.toArray := by rw [e]; simp
        have := count_set_true l i (ready_deps.1 hi).1
        omega
    exact ⟨hr, hdone _ _ _ h (all_listed hac (hlen _ _ _ h) hr)⟩
  | fuel + 1, l, a, w, h, hcl, hc => ⟨fun hr => hdone _ _ _ h (all_listed hac (hlen _ _ _ h) hr), fun i hi => by
      obtain ⟨hu, o, ho, hd⟩ := ready_deps.1 hi
      have hcs := count_set_true l i hu
      refine wpOpIn_step (o := o) (by simpa using ho) fun K' hK => hstep i o ho l a w h hcl hu hd K' fun a' w' h' => hK a' w' ?_
      rw [show l.toArray.setIfInBounds i true = (l.set i true).toArray from by simp]
      exact wpAnyIn_inv I hac hlen hdone hstep fuel _ a' w' h' (hcl.set ho hd) (by omega)⟩
/-- A drawing region in a round, by an invariant. -/
theorem region_round_inv {id l n : Nat} {P : Program} {Q : Exit → Act → World → Prop} {a : Act} {w : World} {os : List Oper} (I : List Bool → Act → World → Prop) (hm : P.follows .mixedOrders = true) (hac : acyc .any os = true) (hd : noDefer os = true)
    (hlen : ∀ l a w, I l a w → l.length = os.length)
    (hdone : ∀ l a w, I l a w → (∀ i, l.getD i true = true) → Q .normal a w)
    (h0 : I (List.replicate os.length false) a w.drew)
    (hstep : ∀ i o, os[i]? = some o → ∀ l a w, I l a w → Closed .any os l → l.getD i true = false → (∀ j ∈ depsOf .any o, l.getD j false = true) → ∀ K : Act → World → Prop, (∀ a' w', I (l.set i true) a' w' → K a' w') →
      if Region.wanted o (yielded os.toArray a.tmps) = true then Oper.wpIn Fence.wide n P o a w K Q else (∀ f, o.about P w a.eval = some f → Fence.wide.fn f) ∧ K (a.put o.dst undef) w) :
    (Code.region id os.toArray true).wpIn (Fence.wide.inRound l) n P Q a w := by
  refine wpIn_region_any hm (wpAnyIn_round (noDefer_spec hd) _ _ _ _ ?_)
  have := wpAnyIn_inv I hac hlen hdone hstep os.toArray.size (List.replicate os.length false) a w.drew h0 (Closed.start _) (by simp)
  simpa using this
/-- The same in a fence without a round. -/
theorem region_wide_inv {id n : Nat} {P : Program} {Q : Exit → Act → World → Prop} {a : Act} {w : World} {os : List Oper} (I : List Bool → Act → World → Prop) (hm : P.follows .mixedOrders = true) (hac : acyc .any os = true)
    (hlen : ∀ l a w, I l a w → l.length = os.length)
    (hdone : ∀ l a w, I l a w → (∀ i, l.getD i true = true) → Q .normal a w)
    (h0 : I (List.replicate os.length false) a w.drew)
    (hstep : ∀ i o, os[i]? = some o → ∀ l a w, I l a w → Closed .any os l → l.getD i true = false → (∀ j ∈ depsOf .any o, l.getD j false = true) → ∀ K : Act → World → Prop, (∀ a' w', I (l.set i true) a' w' → K a' w') →
      if Region.wanted o (yielded os.toArray a.tmps) = true then Oper.wpIn Fence.wide n P o a w K Q else (∀ f, o.about P w a.eval = some f → Fence.wide.fn f) ∧ K (a.put o.dst undef) w) :
    (Code.region id os.toArray true).wpIn Fence.wide n P Q a w := by
  refine wpIn_region_any hm ?_
  have := wpAnyIn_inv I hac hlen hdone hstep os.toArray.size (List.replicate os.length false) a w.drew h0 (Closed.start _) (by simp)
  simpa using this
end Np
end Go.Proofs.YtohlhihhadbphaaGreatDoor

/- What classes in memory mention; depths; the result of normal: plain mathematics. -/
namespace Go.Proofs.YtohlhihhadbphaaGreatDoor
open Go.Lib
namespace Np
theorem CT.partsL_iff {l : List CT} {d : Nat} {p : CT × Nat} : p ∈ CT.partsL l d ↔ ∃ u ∈ l, p ∈ u.parts d := by
  induction l with
  | nil => simp [CT.partsL]
  | cons a r ih => rw [CT.partsL, List.mem_append, ih]; simp
theorem subs_er {u : CT} {v : Cls} (h : v ∈ u.er.subs) : ∃ q ∈ u.parts 1, q.1.er = v := by
  unfold Cls.subs at h
  rw [← CT.parts_er, List.map_map, List.mem_map] at h
  obtain ⟨q, hq, e⟩ := h
  exact ⟨q, hq, e⟩
theorem ment_of {lst : List CT} {u : CT} (hu : u ∈ lst) : MentIn u.er (nmsOf (CT.partsL lst 1)) (spsOf (CT.partsL lst 1)) := by
  intro v hv
  obtain ⟨q, hq, rfl⟩ := subs_er hv
  have hm : q ∈ CT.partsL lst 1 := CT.partsL_iff.2 ⟨u, hu, hq⟩
  exact ⟨fun n hn => List.mem_filterMap.2 ⟨q, hm, hn⟩, fun s hs => List.mem_filterMap.2 ⟨q, hm, hs⟩⟩
theorem sp_of {P : List (CT × Nat)} : ∀ n ∈ nmsOf P, n.sp ∈ spsOf P := by
  intro n hn
  obtain ⟨q, hq, e⟩ := List.mem_filterMap.1 hn
  refine List.mem_filterMap.2 ⟨q, hq, ?_⟩
  rw [nmOf_er] at e
  rw [spOf_er]
  split at e
  · rename_i hk
    injection e with e
    rw [if_pos hk, e]
  · cases e
theorem fits_of_check {t : CT} (h : t.check = 0) : t.fitsAll = true := by
  unfold CT.check at h
  split at h
  · split at h
    · assumption
    · cases h
  · cases h
theorem smallT_of_check {t : CT} (h : t.check = 0) : t.small = true := by
  unfold CT.check at h
  split at h
  · assumption
  · cases h
theorem part_fits {lst : List CT} (h : ∀ u ∈ lst, u.check = 0) {q : CT × Nat} (hq : q ∈ CT.partsL lst 1) : q.1.fits = true := by
  obtain ⟨u, hu, hp⟩ := CT.partsL_iff.1 hq
  have := fits_of_check (h u hu)
  unfold CT.fitsAll at this
  exact List.all_eq_true.1 this q hp
theorem valid_of {lst : List CT} (h : ∀ u ∈ lst, u.check = 0) : (∀ n ∈ nmsOf (CT.partsL lst 1), validN n = true) ∧ ∀ s ∈ spsOf (CT.partsL lst 1), s.size ≤ 200 := by
  constructor
  · intro n hn
    obtain ⟨q, hq, e⟩ := List.mem_filterMap.1 hn
    have hf := part_fits h hq
    rw [nmOf_er] at e
    split at e
    · rename_i hk
      injection e with e
      unfold CT.fits fitsG at hf
      rw [if_pos hk, e, Bool.and_eq_true] at hf
      exact hf.1
    · cases e
  · intro s hs
    obtain ⟨q, hq, e⟩ := List.mem_filterMap.1 hs
    have hf := part_fits h hq
    rw [spOf_er] at e
    split at e
    · rename_i hk
      injection e with e
      unfold CT.fits fitsG at hf
      rw [if_pos hk, Bool.and_eq_true] at hf
      have := hf.1
      unfold validN at this
      simp only [Bool.and_eq_true, decide_eq_true_eq] at this
      rw [← e]; exact this.2
    · split at e
      · rename_i hk1 hk
        injection e with e
        unfold CT.fits fitsG at hf
        rw [if_neg hk1, if_pos hk, Bool.and_eq_true, Bool.and_eq_true, decide_eq_true_eq] at hf
        rw [← e]; exact hf.2.1
      · cases e
/-- How deep the classes in a class lie. -/
def Dp (c : Cls) (D : Nat) : Prop := ∀ d, ∀ p ∈ c.parts d, p.2 + 1 ≤ d + D
theorem Dp.mk {k : Int} {n : Name} {s : ByteArray} {ex ar : List Cls} {D : Nat} (h1 : ∀ u ∈ ex, Dp u D) (h2 : ∀ u ∈ ar, Dp u D) : Dp (.mk k n s ex ar) (D + 1) := by
  intro d p hp
  rw [Cls.parts_eq, List.mem_cons, List.mem_append, Cls.partsL_iff, Cls.partsL_iff] at hp
  rcases hp with rfl | ⟨u, hu, hp⟩ | ⟨u, hu, hp⟩
  · simp
  · have := h1 u hu (d + 1) p hp; omega
  · have := h2 u hu (d + 1) p hp; omega
theorem Dp.mono {c : Cls} {D E : Nat} (h : Dp c D) (hE : D ≤ E) : Dp c E := fun d p hp => by have := h d p hp; omega
theorem CT.depth_part (t : CT) : ∀ d, ∃ x ∈ t.parts d, x.2 + 1 = d + t.depth := by
  refine CT.ind (M := fun t => ∀ d, ∃ x ∈ t.parts d, x.2 + 1 = d + t.depth) ?_ t
  intro k nm s ea ec ex aa ac ar h1 h2 d
  have aux : ∀ l : List CT, (∀ t ∈ l, ∀ d, ∃ x ∈ t.parts d, x.2 + 1 = d + t.depth) → CT.depthL l = 0 ∨ ∃ x ∈ CT.partsL l (d + 1), x.2 + 1 = d + 1 + CT.depthL l := by
    intro l
    induction l with
    | nil => intro _; exact .inl rfl
    | cons a r ih =>
      intro h
      have ha := h a (List.mem_cons_self ..) (d + 1)
      have hr := ih (fun t ht => h t (List.mem_cons_of_mem _ ht))
      obtain ⟨x, hx, e⟩ := ha
      right
      by_cases hm : CT.depthL r ≤ a.depth
      · exact ⟨x, by rw [CT.partsL, List.mem_append]; exact .inl hx, by rw [CT.depthL]; omega⟩
      · rcases hr with hr | ⟨y, hy, e2⟩
        · omega
        · exact ⟨y, by rw [CT.partsL, List.mem_append]; exact .inr hy, by rw [CT.depthL]; omega⟩
  rw [CT.depth]
  by_cases hm : CT.depthL ar ≤ CT.depthL ex
  · rcases aux ex h1 with h0 | ⟨x, hx, e⟩
    · exact ⟨_, by rw [CT.parts]; exact List.mem_cons_self .., by simp; omega⟩
    · exact ⟨x, by rw [CT.parts, List.mem_cons, List.mem_append]; exact .inr (.inl hx), by omega⟩
  · rcases aux ar h2 with h0 | ⟨x, hx, e⟩
    · omega
    · exact ⟨x, by rw [CT.parts, List.mem_cons, List.mem_append]; exact .inr (.inr hx), by omega⟩
theorem CT.depth_le {t : CT} {D : Nat} (h : ∀ p ∈ t.parts 1, p.2 ≤ D) : t.depth ≤ D := by
  obtain ⟨x, hx, e⟩ := t.depth_part 1
  have := h x hx
  omega
theorem depth_of_dp {t : CT} {D : Nat} (h : Dp t.er D) : t.depth ≤ D := by
  refine CT.depth_le fun p hp => ?_
  have := h 1 (erp p) (by rw [← CT.parts_er]; exact List.mem_map_of_mem hp)
  have e : (erp p).2 = p.2 := rfl
  omega
theorem depth_of_small {t : CT} (h : t.small = true) : t.depth ≤ 10 := by
  unfold CT.small smallB at h
  rw [Bool.and_eq_true, List.all_eq_true] at h
  exact CT.depth_le fun p hp => of_decide_eq_true (h.2 p hp)
theorem together_dp {l : List Cls} {D : Nat} (h : ∀ u ∈ l, Dp u D) : ∀ u ∈ together l, Dp u (D + 1) := by
  unfold together
  split
  · exact fun u hu => (h u hu).mono (by omega)
  · intro u hu
    rw [List.mem_singleton] at hu
    subst hu
    exact Dp.mk (by simp) h
theorem classG_dp {ln : List Name} {ls : List ByteArray} {inn : Name → Bool} {full : ByteArray → Bool} {wide : Bool} : Dp (classG (oddL ln ls inn full wide) wide) 6 := by
  have hN : ∀ s, ∀ u ∈ oddN ln inn full s, Dp u 1 := by
    intro s u hu
    unfold oddN at hu
    obtain ⟨n, _, rfl⟩ := List.mem_map.1 hu
    exact Dp.mk (by simp) (by simp)
  have hO : ∀ u ∈ oddL ln ls inn full wide, Dp u 3 := by
    intro u hu
    unfold oddL at hu
    obtain ⟨s, hs, hu⟩ := List.mem_flatMap.1 hu
    unfold oddC at hu
    split at hu
    · rw [List.mem_singleton] at hu
      subst hu
      exact Dp.mk (together_dp (hN s)) (by simp)
    · exact (hN s u hu).mono (by omega)
  unfold classG
  split
  · exact (Dp.mk (together_dp hO) (by simp)).mono (by omega)
  · have := together_dp hO
    split
    · exact (Dp.mk (D := 1) (fun u hu => by rw [List.mem_singleton] at hu; subst hu; exact Dp.mk (by simp) (by simp)) (by simp)).mono (by omega)
    · rename_i e
      rw [e] at this
      exact (this _ (List.mem_cons_self ..)).mono (by omega)
/-- The class without anything. -/
def zeroC : Cls := .mk 0 ⟨⟨#[]⟩, ⟨#[]⟩⟩ ⟨#[]⟩ [] []
/-- What normal returns. -/
def NormR (lst : List CT) (inn : Name → Bool) (c : Cls) (r : Int) : Prop :=
  (chkL lst ≠ 0 → r = chkL lst ∧ c = zeroC) ∧
  (chkL lst = 0 → Dec (nmsOf (CT.partsL lst 1)) (spsOf (CT.partsL lst 1)) inn → ∃ c0, IsNorm inn c0 ∧ (c0.small = true → c = c0 ∧ r = 0) ∧ (c0.small = false → c = zeroC ∧ r = 3))
end Np
end Go.Proofs.YtohlhihhadbphaaGreatDoor

/- shapeOf. -/
namespace Go.Proofs.YtohlhihhadbphaaGreatDoor
open Go.RowKit Go.Shelf Go.Lib Go.Maps
attribute [local go_sem] Oper.semAt_some
namespace Np
theorem KpC.of_grown {K : List Nat} {B0 r : Nat} {W W' : World} (hg : W.grownBy W' (some r)) (h1 : 4 ≤ r) (h4 : 4 ≤ W.heap.size) (hr : r ∉ K) (hK : ∀ k, k ∈ K → k < W.heap.size) (hB : r < B0) : KpC K B0 W W' :=
  ⟨below_of_grown hg h1 h4, fun k hk => hg.block k (hK k hk) (fun e => by injection e with e; exact hr (e ▸ hk)), fun b _ _ _ hb ho _ => (hg.block b (Array.getElem?_eq_some_iff.1 ho).1 (fun e => by injection e; omega)).trans ho⟩
section
variable {w : World} {g : Nat} {lb : Array Value} {b1 b2 : Nat} {nms : List Name} {sps : List ByteArray} {inn : Name → Bool} {pre : List Name} {W W' : World} {y : Name}
theorem ShSt.step_in (hb1 : b1 < w.heap.size) (hb2 : b2 < w.heap.size) (hn : y ∈ nms) (h : ShSt w g lb b1 b2 nms sps inn pre W) (hg : W.grownBy W' (some (w.heap.size + 3)))
    (hm : NMap W' (w.heap.size + 3) (pre.length + 1) (fun t => if t = y then some (inn y) else miP nms inn pre t)) : ShSt w g lb b1 b2 nms sps inn (pre ++ [y]) W' := by
  obtain ⟨e1, e2, e3⟩ := sh_in (sps := sps) (inn := inn) (pre := pre) hn
  exact ⟨h.below.trans (below_of_grown hg (by omega) h.below.size), h.box.kept hg (by simp), h.fn.kept hg (by simp), h.res.kept hg (by simp), by rw [e3]; exact h.sh.kept hg (by simp), by rw [← e1, List.length_append]; exact hm, by rw [e2]; exact (BMap.kept h.mf hg (by simp)).mono (by simp), BMap.kept h.m1 hg (fun e => by injection e; omega), BMap.kept h.m2 hg (fun e => by injection e; omega)⟩
theorem ShSt.step_sp (hb1 : b1 < w.heap.size) (hb2 : b2 < w.heap.size) (hy : y = fresh nms [] y.sp) (hn : y ∉ nms) (hs : hasS sps y.sp = true) (h : ShSt w g lb b1 b2 nms sps inn pre W) (hg : W.grownBy W' (some (w.heap.size + 4)))
    (hm : SMap W' (w.heap.size + 4) (pre.length + 1) (fun t => if t = y.sp then some (inn y) else mfP nms sps inn pre t)) : ShSt w g lb b1 b2 nms sps inn (pre ++ [y]) W' := by
  obtain ⟨e1, e2, e3⟩ := sh_sp (inn := inn) (pre := pre) hy hn hs
  exact ⟨h.below.trans (below_of_grown hg (by omega) h.below.size), h.box.kept hg (by simp), h.fn.kept hg (by simp), h.res.kept hg (by simp), by rw [e3]; exact h.sh.kept hg (by simp), by rw [e2]; exact (BMap.kept h.mi hg (by simp)).mono (by simp), by rw [← e1, List.length_append]; exact hm, BMap.kept h.m1 hg (fun e => by injection e; omega), BMap.kept h.m2 hg (fun e => by injection e; omega)⟩
theorem ShSt.step_wide (hb1 : b1 < w.heap.size) (hb2 : b2 < w.heap.size) (hy : y = fresh nms [] (newS sps)) (hn : y ∉ nms) (hs : hasS sps y.sp = false) (h : ShSt w g lb b1 b2 nms sps inn pre W) : ShSt w g lb b1 b2 nms sps inn (pre ++ [y]) (W.setCell ⟨w.heap.size + 5, 2, none⟩ (.bool (inn y))) := by
  obtain ⟨e1, e2, e3⟩ := sh_wide (inn := inn) (pre := pre) hy hn hs
  have k : ∀ b, b ≠ w.heap.size + 5 → (W.setCell ⟨w.heap.size + 5, 2, none⟩ (.bool (inn y))).heap[b]? = W.heap[b]? := fun b hb => sameMap_setCell hb
  have q := h.sh.set 2 (by simp) (.bool (inn y))
  exact ⟨h.below.setCell (p := ⟨w.heap.size + 5, 2, none⟩) (by simp) _, (k _ (by omega)).trans h.box, (k _ (by omega)).trans h.fn, (k _ (by omega)).trans h.res, by rw [e3]; simpa using q, by rw [e2]; exact (BMap.same h.mi (k _ (by omega))).mono (by simp), by rw [e1]; exact (BMap.same h.mf (k _ (by omega))).mono (by simp), BMap.same h.m1 (k _ (by omega)), BMap.same h.m2 (k _ (by omega))⟩
end
set_option maxRecDepth 100000 in
set_option maxHeartbeats 2000000 in
theorem shapeOf_any (g : Nat) (lb : Array Value) (inn : Name → Bool) (b1 b2 : Nat) (nms : List Name) (sps : List ByteArray) (w : World) (hG : G w) (h1 : NMap w b1 1000000 (mN nms)) (h2 : SMap w b2 1000000 (mS sps)) (hfit : ∀ x ∈ nms, x.fit) (hok : ∀ s ∈ sps, okS s) (hlen : nms.length + sps.length + 1 ≤ 1000000) (hW : Wants g lb inn w) :
    Calls Tryz.prog 81 #[.agg #[.map (some b1), .map (some b2)], .func (.func g) #[] lb] w fun e w' => ∃ (bi bf : Nat) (mi : Name → Option Bool) (mf : ByteArray → Option Bool), e = .returned (.agg #[.map (some bi), .map (some bf), .bool (inn (fresh nms [] (newS sps)))]) ∧
      Hid (NMap w' bi 1000000 mi ∧ SMap w' bf 1000000 mf ∧ (∀ x : Name, (mi x).isSome = true ↔ x ∈ nms) ∧ (∀ x ∈ nms, (mi x).getD false = inn x) ∧ (∀ s, (mf s).isSome = true ↔ s ∈ sps) ∧ ∀ s ∈ sps, (mf s).getD false = inn (fresh nms [] s)) ∧ Below w.heap.size w w' := by
  have hb1l := BMap.lt h1
  have hb2l := BMap.lt h2
  have hmm := @run_makeMap Tryz.prog
  refine (callsIn_wide (n := 9)).1 ?_
  refine callsIn_of_wp_marks Tryz.func81 rfl trivial ?_ rfl
  simp only [Tryz.ntmps81, List.size_toArray, List.length_cons, List.length_nil, Nat.reduceAdd, Nat.reduceSub, Array.replicate_succ, Array.replicate_zero, List.push_toArray, List.append_toArray, List.nil_append, List.cons_append]
  obtain ⟨W0, hW0⟩ : ∃ W0, (((((w.alloc (.cells #[.map (some b1), .map (some b2)] 76)).alloc (.cells #[.func (.func g) #[] lb] 49)).alloc (.cells #[.map none, .map none, .bool false] 93)).alloc (.map #[] 0)).alloc (.map #[] 0)).alloc (.cells #[.map (some (w.heap.size + 1 + 1 + 1)), .map (some (w.heap.size + 1 + 1 + 1 + 1)), .bool false] 93) = W0 := ⟨_, rfl⟩
  have hS0 : ShSt w g lb b1 b2 nms sps inn [] W0 := by
    obtain ⟨k0, k1, k2⟩ := blk_third w #[.map (some b1), .map (some b2)] #[.func (.func g) #[] lb] #[.map none, .map none, .bool false] 76 49 93
    have m1 := BMap.made (P := Tryz.prog) (k := 23) (e := 4) (lit := litN) (ok := Name.fit) (((w.alloc (.cells #[.map (some b1), .map (some b2)] 76)).alloc (.cells #[.func (.func g) #[] lb] 49)).alloc (.cells #[.map none, .map none, .bool false] 93))
    have m2 := BMap.made (P := Tryz.prog) (k := 9) (e := 4) (lit := litS) (ok := okS) ((((w.alloc (.cells #[.map (some b1), .map (some b2)] 76)).alloc (.cells #[.func (.func g) #[] lb] 49)).alloc (.cells #[.map none, .map none, .bool false] 93)).alloc (.map #[] 0))
    have m3 := Blk.new (((((w.alloc (.cells #[.map (some b1), .map (some b2)] 76)).alloc (.cells #[.func (.func g) #[] lb] 49)).alloc (.cells #[.map none, .map none, .bool false] 93)).alloc (.map #[] 0)).alloc (.map #[] 0)) #[.map (some (w.heap.size + 3)), .map (some (w.heap.size + 4)), .bool false] 93
    simp only [World.size_alloc, Nat.add_assoc, Nat.reduceAdd] at m1 m2 m3
    rw [← hW0]
    exact ⟨((((((Below.refl _ w).alloc (Nat.le_refl _) _).alloc (by simp) _).alloc (by simp; omega) _).alloc (by simp; omega) _).alloc (by simp; omega) _).alloc (by simp; omega) _,
      ((k0.alloc _).alloc _).alloc _, ((k1.alloc _).alloc _).alloc _, ((k2.alloc _).alloc _).alloc _, by simpa [wdP] using m3,
      BMap.ext ((m1.alloc _).alloc _) (fun _ _ => by simp [miP]), BMap.ext (m2.alloc _) (fun _ _ => by simp [mfP]),
      BMap.alloc (BMap.alloc (BMap.alloc (BMap.alloc (BMap.alloc (BMap.alloc h1 _) _) _) _) _) _, BMap.alloc (BMap.alloc (BMap.alloc (BMap.alloc (BMap.alloc (BMap.alloc h2 _) _) _) _) _) _⟩
  have hs0 : w.heap.size + 6 ≤ W0.heap.size := by have := hS0.sh.lt; omega
  have HW0 := Lib.hid hW0
  clear hW0
  gi_wp2
  refine ⟨trivial, (callsIn_wide.2 (candidates_any b1 b2 none _)).mono ?_⟩
  rintro e W3 ⟨rfl, hW3⟩
  rw [HW0.out] at hW3 ⊢
  clear HW0
  have hb3 : Below W0.heap.size W0 W3 := by rw [hW3]; exact ((Below.refl _ _).alloc (Nat.le_refl _) _).alloc (by simp) _
  have hS3 : ShSt w g lb b1 b2 nms sps inn [] W3 := hS0.kept hb1l hb2l (B := W0.heap.size) (below_grown hb3) (fun r e => by cases e) hs0
  have hCs : Cs W0.heap.size (W0.heap.size + 1) b1 b2 none nms sps [] W3 := by
    refine ⟨hG.later hS3.below, ?_, ?_, hS3.m1, hS3.m2, rfl⟩
    · rw [hW3]; exact (Blk.new _ _ _).alloc _
    · rw [hW3]
      have := Blk.new (W0.alloc (.cells #[.map (some b1), .map (some b2)] 76)) #[.map none] 71
      rw [World.size_alloc] at this; exact this
  have hs3 := hb3.size
  obtain ⟨C, hC⟩ : ∃ C, C = candL nms [] sps := ⟨_, rfl⟩
  have hCf : ∀ x ∈ C, x.fit := by rw [hC]; exact candL_fit (by simp; omega) (by omega) hfit hok
  have hCl : C.length ≤ 1000000 := by
    rw [hC]; unfold candL
    have e1 := asc_length cmpN nms
    have e2 := asc_length cmpS sps
    simp; omega
  have hst := cand_stops 8 W0.heap.size (W0.heap.size + 1) b1 b2 W3.heap.size none nms [] sps (by simp; omega) (by omega) hfit hok C hC W3 (Nat.le_refl _) hCs
  clear hW3
  simp only [Nat.add_assoc, Nat.reduceAdd]
  gi_wp2
  refine wpIn_rangeFunc_ownH rfl (by omega) (gf := 88) (lb := #[.pointer (some ⟨W0.heap.size, 0, none⟩), .pointer (some ⟨W0.heap.size + 1, 0, none⟩)]) rfl trivial (enters_of Tryz.func88 (by kernel_rfl) rfl)
    hst (fun h k => h.trans k) (kpC_b hCs (Nat.le_refl _)) (Below.refl _ _) (fun _ => rfl)
    (fun (pre : List (CN C)) W => ShSt w g lb b1 b2 nms sps inn (cvals pre) W ∧ W3.heap.size ≤ W.heap.size)
    (fun _ _ _ => False)
    (OwnFrom.and (fun _ _ _ _ hs hg hr => hs.kept hb1l hb2l hg (fun r e => (hr r e).1) (by omega)) (fun _ _ _ _ hs hg _ => Nat.le_trans hs hg.size)) (fun _ _ _ _ _ hs _ _ => hs)
    ⟨by simpa using hS3, Nat.le_refl _⟩
    (fun x a' W => ∃ Bx, W3.heap.size ≤ Bx ∧ Blk W Bx #[.string x.1.sp, .string x.1.lc] 23 ∧ a' = { tmps := #[.agg #[.map (some b1), .map (some b2)], .func (.func g) #[] lb, .pointer (some ⟨w.heap.size, 0, none⟩), .pointer (some ⟨w.heap.size + 1, 0, none⟩), .pointer (some ⟨w.heap.size + 2, 0, none⟩), .pointer (some ⟨w.heap.size + 5, 0, none⟩), .pointer (some ⟨Bx, 0, none⟩), .map (some (w.heap.size + 3)), .map (some (w.heap.size + 4)), .agg #[.map (some (w.heap.size + 3)), .map (some (w.heap.size + 4)), .bool false], .agg #[.map (some b1), .map (some b2)], .func (.func 88) #[] #[.pointer (some ⟨W0.heap.size, 0, none⟩), .pointer (some ⟨W0.heap.size + 1, 0, none⟩)], .agg #[.string x.1.sp, .string x.1.lc], undef, undef, undef, undef, undef, undef, undef, undef, undef, undef, undef, undef, undef, undef, undef, undef, undef, undef, undef, undef, undef, undef, undef, undef, undef, undef, undef, undef, undef], defers := [] })
    (fun x a' => Own.from (fun _ A B row hs hg hr => by obtain ⟨Bx, h1, h2, h3⟩ := hs; exact ⟨Bx, h1, blk_own _ _ (fun _ : Unit => #[.string x.1.sp, .string x.1.lc]) () A B row h2 hg hr, h3⟩) _) ?assign ?body ?done ?stop
  case stop => intro D c pre W _ _ h _; exact h.elim
  case assign =>
    rintro l pre x W K ⟨hS, hN⟩ hK
    simp only [encCN, encCd, Name.val]
    gi_wp2
    have hbx : Below W.heap.size W (W.alloc (.cells #[.string x.1.sp, .string x.1.lc] 23)) := (Below.refl _ _).alloc (Nat.le_refl _) _
    exact hK _ _ ((KeepsOthers.alloc _ _).from _) (KpC.of_below (Nat.le_trans hCs.g.2 hN) (fun k hk => Nat.lt_of_lt_of_le (hCs.lt k hk) hN) hbx) ⟨hS.kept hb1l hb2l (B := W.heap.size) (below_grown hbx) (fun r e => by cases e) (by omega), by simp; omega⟩ ⟨W.heap.size, hN, Blk.new _ _ _, rfl⟩
  case body =>
    rintro l pre x a' W hl ⟨r', hr'⟩ ⟨hS, hN⟩ ⟨Bx, hBx, bx, rfl⟩ hlt
    have hxf := hCf x.1 x.2
    have c0 := hS.box.cell 0
    have c1 := hS.box.cell 1
    have n0 := bx.cell 0
    have n1 := bx.cell 1
    simp only [List.getElem?_toArray, List.getElem?_cons_zero, List.getElem?_cons_succ] at c0 c1 n0 n1
    have r1 := look_n hS.m1 x.1 hxf
    have r2 := look_s hS.m2 x.1.sp hxf.1
    have hpre : (cvals (pre ++ [x])) = cvals pre ++ [x.1] := by simp [cvals]
    have hlp : (cvals pre).length < maxLen := by rw [List.length_map]; unfold maxLen; omega
    obtain ⟨Wd, hWd⟩ : ∃ Wd, W.drew = Wd := ⟨_, rfl⟩
    have hgd : W.grownBy Wd none := by rw [← hWd]; exact ⟨rfl, rfl, rfl, Nat.le_refl _, fun _ _ _ => rfl⟩
    have hSd : ShSt w g lb b1 b2 nms sps inn (cvals pre) Wd := hS.kept hb1l hb2l (B := W.heap.size) hgd (fun r e => by cases e) (by omega)
    have hbd := bx.kept hgd (by simp)
    have hsd := hgd.size
    have CC_def : ∃ CC : World → Prop, CC = fun W' => ShSt w g lb b1 b2 nms sps inn (cvals pre) W' ∧ Blk W' Bx #[.string x.1.sp, .string x.1.lc] 23 ∧ Below W.heap.size W W' := ⟨_, rfl⟩
    obtain ⟨CC, hCC⟩ := CC_def
    have hCd : CC W.drew := by
      rw [hCC]
      have hgd : W.grownBy W.drew none := ⟨rfl, rfl, rfl, Nat.le_refl _, fun _ _ _ => rfl⟩
      exact ⟨hS.kept hb1l hb2l (B := W.heap.size) hgd (fun r e => by cases e) (by omega), bx.kept hgd (by simp), ⟨rfl, rfl, rfl, Nat.le_refl _, fun _ _ => rfl⟩⟩
    obtain ⟨v, hv⟩ : ∃ v, inn x.1 = v := ⟨_, rfl⟩
    have hcall : ∀ W', CC W' → Calls Tryz.prog g (#[.agg #[.string x.1.sp, .string x.1.lc]] ++ lb) W' fun e W'' => e = .returned (.bool v) ∧ CC W'' := by
      rw [hCC, ← hv]
      rintro W' ⟨h1, h2, h3⟩
      refine (hW.says x.1 W' hxf h1.below).mono ?_
      rintro e W'' ⟨rfl, hb⟩
      have hg := below_grown hb
      have hs := h3.size
      exact ⟨rfl, h1.kept hb1l hb2l (B := W'.heap.size) hg (fun r e => by cases e) (by omega), h2.kept hg (by simp), h3.trans (hb.mono hs)⟩
    have hcells : ∀ W', CC W' → W'.cell? ⟨w.heap.size + 5, 0, none⟩ = some (.map (some (w.heap.size + 3))) ∧ W'.cell? ⟨w.heap.size + 5, 1, none⟩ = some (.map (some (w.heap.size + 4))) ∧ W'.cell? ⟨w.heap.size + 1, 0, none⟩ = some (.func (.func g) #[] lb) ∧ W'.cell? ⟨Bx, 0, none⟩ = some (.string x.1.sp) ∧ W'.cell? ⟨Bx, 1, none⟩ = some (.string x.1.lc) := by
      rw [hCC]
      rintro W' ⟨h1, h2, _⟩
      exact ⟨h1.sh.cell 0, h1.sh.cell 1, h1.fn.cell 0, h2.cell 0, h2.cell 1⟩
    have eg := hW.enters
    have hdd : ∀ k : Nat, (Fence.wide.depth.isSome = true → 1 ≤ k) := fun k h => by cases h
    by_cases hn : x.1 ∈ nms
    · rw [decide_eq_true hn] at r1
      have Hn := Lib.hid hn
      have Hv := Lib.hid hv
      have PP_def : ∃ PP : World → Prop, PP = fun W' => KeepsFrom W3.heap.size W W' ∧ KpC (csK W0.heap.size (W0.heap.size + 1) b1 b2 none) W3.heap.size W W' ∧ ShSt w g lb b1 b2 nms sps inn (cvals (pre ++ [x])) W' ∧ W3.heap.size ≤ W'.heap.size := ⟨_, rfl⟩
      obtain ⟨PP, hPP⟩ := PP_def
      have hup : ∀ W', CC W' → ∃ W'', (Instr.mapUpdate 71 (.map (some (w.heap.size + 3))) (.agg #[.string x.1.sp, .string x.1.lc]) (.bool v)).run Tryz.prog W' = .ok () W'' ∧ PP W'' := by
        rw [hCC, hPP]
        rintro W' ⟨h1, h2, h3⟩
        obtain ⟨W5, hup, hm5, hg5⟩ := BMap.update keyEncN Tryz.underlying71 Tryz.underlying4 h1.mi hlp hxf v
        have hs := h3.size
        have hs5 := hg5.size
        refine ⟨W5, hup, ?_⟩
        refine ⟨((keepsOthers_below h3).from _).trans (KeepsFrom.of_grownBy hg5 (fun j e => by injection e; omega)), (KpC.of_below (Nat.le_trans hCs.g.2 hN) (fun k hk => Nat.lt_of_lt_of_le (hCs.lt k hk) hN) h3).trans (KpC.of_grown hg5 (by have := hG.2; omega) (by have := hCs.g.2; omega) ?_ (fun k hk => Nat.lt_of_lt_of_le (hCs.lt k hk) (by omega)) (by omega)), ?_, by omega⟩
        · simp [csK]; omega
        · rw [hpre]; exact h1.step_in hb1l hb2l Hn.out hg5 (by rw [Hv.out]; exact hm5)
      clear hn hv hCC
      gi_wp2
      refine region_round_inv (fun ls a' w' => ∃ (l0 l1 l2 l3 l4 l5 l6 : Bool) (t22 t23 t24 t25 t26 t27 : Value), ls = [l0, l1, l2, l3, l4, l5, l6] ∧ a' = { tmps := #[.agg #[.map (some b1), .map (some b2)], .func (.func g) #[] lb, .pointer (some ⟨w.heap.size, 0, none⟩), .pointer (some ⟨w.heap.size + 1, 0, none⟩), .pointer (some ⟨w.heap.size + 2, 0, none⟩), .pointer (some ⟨w.heap.size + 5, 0, none⟩), .pointer (some ⟨Bx, 0, none⟩), .map (some (w.heap.size + 3)), .map (some (w.heap.size + 4)), .agg #[.map (some (w.heap.size + 3)), .map (some (w.heap.size + 4)), .bool false], .agg #[.map (some b1), .map (some b2)], .func (.func 88) #[] #[.pointer (some ⟨W0.heap.size, 0, none⟩), .pointer (some ⟨W0.heap.size + 1, 0, none⟩)], .agg #[.string x.1.sp, .string x.1.lc], undef, undef, undef, undef, .bool true, .pointer (some ⟨w.heap.size, 0, none⟩), .map (some b1), .agg #[.string x.1.sp, .string x.1.lc], .bool true, t22, t23, t24, t25, t26, t27, undef, undef, undef, undef, undef, undef, undef, undef, undef, undef, undef, undef, undef, undef], defers := [] } ∧ (l0 = true → t22 = Value.pointer (some ⟨w.heap.size + 5, 0, none⟩)) ∧ (l1 = true → t23 = Value.map (some (w.heap.size + 3))) ∧ (l2 = true → t24 = Value.agg #[.string x.1.sp, .string x.1.lc]) ∧ (l3 = true → t25 = Value.func (.func g) #[] lb) ∧ (l4 = true → t26 = Value.agg #[.string x.1.sp, .string x.1.lc]) ∧ (l5 = true → t27 = Value.bool v) ∧ (l6 = false → CC w') ∧ (l6 = true → PP w')) (by kernel_rfl) (by kernel_rfl) (by kernel_rfl) ?rlen ?rdone ?rh0 ?rstep
      case rlen => rintro ls a' w' ⟨l0, l1, l2, l3, l4, l5, l6, t22, t23, t24, t25, t26, t27, rfl, _⟩; rfl
      case rh0 => exact ⟨false, false, false, false, false, false, false, undef, undef, undef, undef, undef, undef, rfl, rfl, by simp, by simp, by simp, by simp, by simp, by simp, fun _ => hCd, by simp⟩
      case rdone =>
        rintro ls a' w' ⟨l0, l1, l2, l3, l4, l5, l6, t22, t23, t24, t25, t26, t27, rfl, rfl, h22, h23, h24, h25, h26, h27, hC, hP⟩ hl
        have hP6 := hP (by simpa using hl 6)
        clear h22 h23 h24 h25 h26 h27 hC hP hl hup hcall hcells hCd
        rw [hPP] at hP6
        clear hPP
        gi_wp2
        exact hP6
      case rstep =>
        rintro i o ho ls a' w' ⟨l0, l1, l2, l3, l4, l5, l6, t22, t23, t24, t25, t26, t27, rfl, rfl, h22, h23, h24, h25, h26, h27, hC, hP⟩ hcl hu hd K hK
        rcases i with _ | _ | _ | _ | _ | _ | _ | i <;> simp only [List.getElem?_cons_zero, List.getElem?_cons_succ, List.getElem?_nil, Option.some.injEq, reduceCtorEq] at ho
        all_goals subst ho
        · have hu : l0 = false := hu
          have hl6 : l6 = false := Bool.eq_false_iff.2 fun e => by have h : l0 = true := hcl 6 _ rfl e 0 (by decide +kernel); rw [hu] at h; cases h
          subst hl6
          clear hcl
          go_simp
          refine hK _ _ ⟨true, l1, l2, l3, l4, l5, false, _, t23, t24, t25, t26, t27, rfl, rfl, fun _ => rfl, h23, h24, h25, h26, h27, fun _ => hC rfl, by simp⟩
        · have hu : l1 = false := hu
          have hl6 : l6 = false := Bool.eq_false_iff.2 fun e => by have h : l1 = true := hcl 6 _ rfl e 1 (by decide +kernel); rw [hu] at h; cases h
          subst hl6
          clear hcl
          have y22 := h22 (hd 0 (by decide +kernel))
          subst y22
          obtain ⟨e0, e1, e2, e3, e4⟩ := hcells _ (hC rfl)
          go_simp
          refine hK _ _ ⟨l0, true, l2, l3, l4, l5, false, _, _, t24, t25, t26, t27, rfl, rfl, fun _ => rfl, fun _ => rfl, h24, h25, h26, h27, fun _ => hC rfl, by simp⟩
        · have hu : l2 = false := hu
          have hl6 : l6 = false := Bool.eq_false_iff.2 fun e => by have h : l2 = true := hcl 6 _ rfl e 2 (by decide +kernel); rw [hu] at h; cases h
          subst hl6
          clear hcl
          obtain ⟨e0, e1, e2, e3, e4⟩ := hcells _ (hC rfl)
          go_simp
          refine hK _ _ ⟨l0, l1, true, l3, l4, l5, false, t22, t23, _, t25, t26, t27, rfl, rfl, h22, h23, fun _ => rfl, h25, h26, h27, fun _ => hC rfl, by simp⟩
        · have hu : l3 = false := hu
          have hl6 : l6 = false := Bool.eq_false_iff.2 fun e => by have h : l3 = true := hcl 6 _ rfl e 3 (by decide +kernel); rw [hu] at h; cases h
          subst hl6
          clear hcl
          obtain ⟨e0, e1, e2, e3, e4⟩ := hcells _ (hC rfl)
          go_simp
          refine hK _ _ ⟨l0, l1, l2, true, l4, l5, false, t22, t23, t24, _, t26, t27, rfl, rfl, h22, h23, h24, fun _ => rfl, h26, h27, fun _ => hC rfl, by simp⟩
        · have hu : l4 = false := hu
          have hl6 : l6 = false := Bool.eq_false_iff.2 fun e => by have h : l4 = true := hcl 6 _ rfl e 4 (by decide +kernel); rw [hu] at h; cases h
          subst hl6
          clear hcl
          obtain ⟨e0, e1, e2, e3, e4⟩ := hcells _ (hC rfl)
          go_simp
          refine hK _ _ ⟨l0, l1, l2, l3, true, l5, false, t22, t23, t24, t25, _, t27, rfl, rfl, h22, h23, h24, h25, fun _ => rfl, h27, fun _ => hC rfl, by simp⟩
        · have hu : l5 = false := hu
          have hl6 : l6 = false := Bool.eq_false_iff.2 fun e => by have h : l5 = true := hcl 6 _ rfl e 5 (by decide +kernel); rw [hu] at h; cases h
          subst hl6
          clear hcl
          have y25 := h25 (hd 3 (by decide +kernel))
          subst y25
          have y26 := h26 (hd 4 (by decide +kernel))
          subst y26
          have hC5 := hC rfl
          go_simp
          refine ⟨trivial, (callsIn_wide.2 (hcall _ hC5)).mono ?_⟩
          rintro e w4 ⟨rfl, hC6⟩
          refine hK _ _ ⟨l0, l1, l2, l3, l4, true, false, t22, t23, t24, _, _, _, rfl, rfl, h22, h23, h24, fun _ => rfl, fun _ => rfl, fun _ => rfl, fun _ => hC6, by simp⟩
        · have hu : l6 = false := hu
          subst hu
          have y23 := h23 (hd 1 (by decide +kernel))
          subst y23
          have y24 := h24 (hd 2 (by decide +kernel))
          subst y24
          have y27 := h27 (hd 5 (by decide +kernel))
          subst y27
          obtain ⟨w5, hup5, hp5⟩ := hup _ (hC rfl)
          go_simp
          refine hK _ _ ⟨l0, l1, l2, l3, l4, l5, true, t22, _, _, t25, t26, _, rfl, rfl, h22, fun _ => rfl, fun _ => rfl, h25, h26, fun _ => rfl, by simp, fun _ => hp5⟩
    · have hcn := cand_not (by rw [← hC]; exact x.2) hn
      have Hcn := Lib.hid hcn
      rw [decide_eq_false hn] at r1
      have Hn := Lib.hid hn
      have Hv := Lib.hid hv
      clear hn hv hcn
      cases hs : hasS sps x.1.sp
      · rw [hs] at r2
        have Hs := Lib.hid hs
        clear hs hcells
        have hCw : CC W := by rw [hCC]; exact ⟨hS, bx, Below.refl _ _⟩
        have hc := hcall W hCw
        have k1 := hS.fn.cell 0
        simp only [List.getElem?_toArray, List.getElem?_cons_zero, List.getElem?_cons_succ] at k1
        rw [hCC] at hc
        clear hCC hcall hCw hCd
        gi_wp2
        refine ⟨trivial, (CallsIn.inRound l (callsIn_wide.2 hc)).mono ?_⟩
        clear hc
        rintro e w4 ⟨rfl, hS4, bx4, hb4⟩
        have z2 := hS4.sh.frozen 2
        have y2 := hS4.sh.cell 2
        simp only [List.getElem?_toArray, List.getElem?_cons_zero, List.getElem?_cons_succ] at y2
        have hs4 := hb4.size
        have hend : KeepsFrom W3.heap.size W (w4.setCell ⟨w.heap.size + 5, 2, none⟩ (.bool v)) ∧ KpC (csK W0.heap.size (W0.heap.size + 1) b1 b2 none) W3.heap.size W (w4.setCell ⟨w.heap.size + 5, 2, none⟩ (.bool v)) ∧ ShSt w g lb b1 b2 nms sps inn (cvals (pre ++ [x])) (w4.setCell ⟨w.heap.size + 5, 2, none⟩ (.bool v)) ∧ W3.heap.size ≤ (w4.setCell ⟨w.heap.size + 5, 2, none⟩ (.bool v)).heap.size := by
          refine ⟨((keepsOthers_below hb4).from _).trans ((KeepsOthers.setCell _ _ _).from _), (KpC.of_below (Nat.le_trans hCs.g.2 hN) (fun k hk => Nat.lt_of_lt_of_le (hCs.lt k hk) hN) hb4).trans ⟨(Below.refl _ _).setCell (p := ⟨w.heap.size + 5, 2, none⟩) (by have := hG.2; show 4 ≤ w.heap.size + 5; omega) _, fun k hk => sameMap_setCell (fun e => ?_), fun b _ _ _ hb ho _ => (sameMap_setCell (by omega)).trans ho⟩, ?_, by simp; omega⟩
          · subst e
            simp [csK] at hk; omega
          · rw [hpre, ← Hv.out]; exact hS4.step_wide hb1l hb2l (Hcn.out.2 Hs.out) Hn.out Hs.out
        have Hend := Lib.hid hend
        clear hend
        gi_wp2
        exact Hend.out
      · rw [hs] at r2
        have Hs := Lib.hid hs
        clear hs
        have PP_def : ∃ PP : World → Prop, PP = fun W' => KeepsFrom W3.heap.size W W' ∧ KpC (csK W0.heap.size (W0.heap.size + 1) b1 b2 none) W3.heap.size W W' ∧ ShSt w g lb b1 b2 nms sps inn (cvals (pre ++ [x])) W' ∧ W3.heap.size ≤ W'.heap.size := ⟨_, rfl⟩
        obtain ⟨PP, hPP⟩ := PP_def
        have hup : ∀ W', CC W' → ∃ W'', (Instr.mapUpdate 74 (.map (some (w.heap.size + 4))) (.string x.1.sp) (.bool v)).run Tryz.prog W' = .ok () W'' ∧ PP W'' := by
          rw [hCC, hPP]
          rintro W' ⟨h1, h2, h3⟩
          obtain ⟨W5, hup, hm5, hg5⟩ := BMap.update keyEncS Tryz.underlying74 Tryz.underlying4 h1.mf hlp hxf.1 v
          have hs := h3.size
          have hs5 := hg5.size
          refine ⟨W5, hup, ?_⟩
          refine ⟨((keepsOthers_below h3).from _).trans (KeepsFrom.of_grownBy hg5 (fun j e => by injection e; omega)), (KpC.of_below (Nat.le_trans hCs.g.2 hN) (fun k hk => Nat.lt_of_lt_of_le (hCs.lt k hk) hN) h3).trans (KpC.of_grown hg5 (by have := hG.2; omega) (by have := hCs.g.2; omega) ?_ (fun k hk => Nat.lt_of_lt_of_le (hCs.lt k hk) (by omega)) (by omega)), ?_, by omega⟩
          · simp [csK]; omega
          · rw [hpre]; exact h1.step_sp hb1l hb2l Hcn.out.1 Hn.out Hs.out hg5 (by rw [Hv.out]; exact hm5)
        clear hCC
        gi_wp2
        refine region_round_inv (fun ls a' w' => ∃ (l0 l1 l2 l3 l4 l5 l6 l7 : Bool) (t34 t35 t36 t37 t38 t39 t40 : Value), ls = [l0, l1, l2, l3, l4, l5, l6, l7] ∧ a' = { tmps := #[.agg #[.map (some b1), .map (some b2)], .func (.func g) #[] lb, .pointer (some ⟨w.heap.size, 0, none⟩), .pointer (some ⟨w.heap.size + 1, 0, none⟩), .pointer (some ⟨w.heap.size + 2, 0, none⟩), .pointer (some ⟨w.heap.size + 5, 0, none⟩), .pointer (some ⟨Bx, 0, none⟩), .map (some (w.heap.size + 3)), .map (some (w.heap.size + 4)), .agg #[.map (some (w.heap.size + 3)), .map (some (w.heap.size + 4)), .bool false], .agg #[.map (some b1), .map (some b2)], .func (.func 88) #[] #[.pointer (some ⟨W0.heap.size, 0, none⟩), .pointer (some ⟨W0.heap.size + 1, 0, none⟩)], .agg #[.string x.1.sp, .string x.1.lc], undef, undef, undef, undef, .bool false, .pointer (some ⟨w.heap.size, 0, none⟩), .map (some b1), .agg #[.string x.1.sp, .string x.1.lc], .bool false, undef, undef, undef, undef, undef, undef, .bool true, .pointer (some ⟨w.heap.size, 1, none⟩), .map (some b2), .pointer (some ⟨Bx, 0, none⟩), .string x.1.sp, .bool true, t34, t35, t36, t37, t38, t39, t40, undef], defers := [] } ∧ (l0 = true → t34 = Value.pointer (some ⟨w.heap.size + 5, 1, none⟩)) ∧ (l1 = true → t35 = Value.map (some (w.heap.size + 4))) ∧ (l2 = true → t36 = Value.pointer (some ⟨Bx, 0, none⟩)) ∧ (l3 = true → t37 = Value.string x.1.sp) ∧ (l4 = true → t38 = Value.func (.func g) #[] lb) ∧ (l5 = true → t39 = Value.agg #[.string x.1.sp, .string x.1.lc]) ∧ (l6 = true → t40 = Value.bool v) ∧ (l7 = false → CC w') ∧ (l7 = true → PP w')) (by kernel_rfl) (by kernel_rfl) (by kernel_rfl) ?rlen ?rdone ?rh0 ?rstep
        case rlen => rintro ls a' w' ⟨l0, l1, l2, l3, l4, l5, l6, l7, t34, t35, t36, t37, t38, t39, t40, rfl, _⟩; rfl
        case rh0 => exact ⟨false, false, false, false, false, false, false, false, undef, undef, undef, undef, undef, undef, undef, rfl, rfl, by simp, by simp, by simp, by simp, by simp, by simp, by simp, fun _ => hCd, by simp⟩
        case rdone =>
          rintro ls a' w' ⟨l0, l1, l2, l3, l4, l5, l6, l7, t34, t35, t36, t37, t38, t39, t40, rfl, rfl, h34, h35, h36, h37, h38, h39, h40, hC, hP⟩ hl
          have hP6 := hP (by simpa using hl 7)
          clear h34 h35 h36 h37 h38 h39 h40 hC hP hl hup hcall hcells hCd
          rw [hPP] at hP6
          clear hPP
          gi_wp2
          exact hP6
        case rstep =>
          rintro i o ho ls a' w' ⟨l0, l1, l2, l3, l4, l5, l6, l7, t34, t35, t36, t37, t38, t39, t40, rfl, rfl, h34, h35, h36, h37, h38, h39, h40, hC, hP⟩ hcl hu hd K hK
          rcases i with _ | _ | _ | _ | _ | _ | _ | _ | i <;> simp only [List.getElem?_cons_zero, List.getElem?_cons_succ, List.getElem?_nil, Option.some.injEq, reduceCtorEq] at ho
          all_goals subst ho
          · have hu : l0 = false := hu
            have hl7 : l7 = false := Bool.eq_false_iff.2 fun e => by have h : l0 = true := hcl 7 _ rfl e 0 (by decide +kernel); rw [hu] at h; cases h
            subst hl7
            clear hcl
            go_simp
            refine hK _ _ ⟨true, l1, l2, l3, l4, l5, l6, false, _, t35, t36, t37, t38, t39, t40, rfl, rfl, fun _ => rfl, h35, h36, h37, h38, h39, h40, fun _ => hC rfl, by simp⟩
          · have hu : l1 = false := hu
            have hl7 : l7 = false := Bool.eq_false_iff.2 fun e => by have h : l1 = true := hcl 7 _ rfl e 1 (by decide +kernel); rw [hu] at h; cases h
            subst hl7
            clear hcl
            have y34 := h34 (hd 0 (by decide +kernel))
            subst y34
            obtain ⟨e0, e1, e2, e3, e4⟩ := hcells _ (hC rfl)
            go_simp
            refine hK _ _ ⟨l0, true, l2, l3, l4, l5, l6, false, _, _, t36, t37, t38, t39, t40, rfl, rfl, fun _ => rfl, fun _ => rfl, h36, h37, h38, h39, h40, fun _ => hC rfl, by simp⟩
          · have hu : l2 = false := hu
            have hl7 : l7 = false := Bool.eq_false_iff.2 fun e => by have h : l2 = true := hcl 7 _ rfl e 2 (by decide +kernel); rw [hu] at h; cases h
            subst hl7
            clear hcl
            go_simp
            refine hK _ _ ⟨l0, l1, true, l3, l4, l5, l6, false, t34, t35, _, t37, t38, t39, t40, rfl, rfl, h34, h35, fun _ => rfl, h37, h38, h39, h40, fun _ => hC rfl, by simp⟩
          · have hu : l3 = false := hu
            have hl7 : l7 = false := Bool.eq_false_iff.2 fun e => by have h : l3 = true := hcl 7 _ rfl e 3 (by decide +kernel); rw [hu] at h; cases h
            subst hl7
            clear hcl
            have y36 := h36 (hd 2 (by decide +kernel))
            subst y36
            obtain ⟨e0, e1, e2, e3, e4⟩ := hcells _ (hC rfl)
            go_simp
            refine hK _ _ ⟨l0, l1, l2, true, l4, l5, l6, false, t34, t35, _, _, t38, t39, t40, rfl, rfl, h34, h35, fun _ => rfl, fun _ => rfl, h38, h39, h40, fun _ => hC rfl, by simp⟩
          · have hu : l4 = false := hu
            have hl7 : l7 = false := Bool.eq_false_iff.2 fun e => by have h : l4 = true := hcl 7 _ rfl e 4 (by decide +kernel); rw [hu] at h; cases h
            subst hl7
            clear hcl
            obtain ⟨e0, e1, e2, e3, e4⟩ := hcells _ (hC rfl)
            go_simp
            refine hK _ _ ⟨l0, l1, l2, l3, true, l5, l6, false, t34, t35, t36, t37, _, t39, t40, rfl, rfl, h34, h35, h36, h37, fun _ => rfl, h39, h40, fun _ => hC rfl, by simp⟩
          · have hu : l5 = false := hu
            have hl7 : l7 = false := Bool.eq_false_iff.2 fun e => by have h : l5 = true := hcl 7 _ rfl e 5 (by decide +kernel); rw [hu] at h; cases h
            subst hl7
            clear hcl
            obtain ⟨e0, e1, e2, e3, e4⟩ := hcells _ (hC rfl)
            go_simp
            refine hK _ _ ⟨l0, l1, l2, l3, l4, true, l6, false, t34, t35, t36, t37, t38, _, t40, rfl, rfl, h34, h35, h36, h37, h38, fun _ => rfl, h40, fun _ => hC rfl, by simp⟩
          · have hu : l6 = false := hu
            have hl7 : l7 = false := Bool.eq_false_iff.2 fun e => by have h : l6 = true := hcl 7 _ rfl e 6 (by decide +kernel); rw [hu] at h; cases h
            subst hl7
            clear hcl
            have y38 := h38 (hd 4 (by decide +kernel))
            subst y38
            have y39 := h39 (hd 5 (by decide +kernel))
            subst y39
            have hC5 := hC rfl
            go_simp
            refine ⟨trivial, (callsIn_wide.2 (hcall _ hC5)).mono ?_⟩
            rintro e w4 ⟨rfl, hC6⟩
            refine hK _ _ ⟨l0, l1, l2, l3, l4, l5, true, false, t34, t35, t36, t37, _, _, _, rfl, rfl, h34, h35, h36, h37, fun _ => rfl, fun _ => rfl, fun _ => rfl, fun _ => hC6, by simp⟩
          · have hu : l7 = false := hu
            subst hu
            have y35 := h35 (hd 1 (by decide +kernel))
            subst y35
            have y37 := h37 (hd 3 (by decide +kernel))
            subst y37
            have y40 := h40 (hd 6 (by decide +kernel))
            subst y40
            obtain ⟨w5, hup5, hp5⟩ := hup _ (hC rfl)
            go_simp
            refine hK _ _ ⟨l0, l1, l2, l3, l4, l5, l6, true, t34, _, t36, _, t38, t39, _, rfl, rfl, h34, fun _ => rfl, h36, fun _ => rfl, h38, h39, fun _ => rfl, by simp, fun _ => hp5⟩
  case done =>
    rintro D ys W hD hys ⟨hS, hN⟩ hK
    rw [hys] at hS
    have Hdone := Lib.hid (sh_done (inn := inn) hC)
    have m0 := hS.sh.cell 0
    have m1 := hS.sh.cell 1
    have m2 := hS.sh.cell 2
    have f0 := hS.res.frozen 0
    have f1 := hS.res.frozen 1
    have f2 := hS.res.frozen 2
    simp only [List.getElem?_toArray, List.getElem?_cons_zero, List.getElem?_cons_succ] at m0 m1 m2
    obtain ⟨wd, hwd⟩ : ∃ wd, wdP nms sps inn C = wd := ⟨_, rfl⟩
    rw [hwd] at m2
    have Hwd := Lib.hid hwd
    clear hwd hys
    have r0 := hS.res.cell 0
    have r1 := hS.res.cell 1
    have r2 := hS.res.cell 2
    simp only [List.getElem?_toArray, List.getElem?_cons_zero, List.getElem?_cons_succ] at r0 r1 r2
    gi_wp2
    obtain ⟨W', hW'⟩ : ∃ W', ((W.setCell ⟨w.heap.size + 2, 0, none⟩ (.map (some (w.heap.size + 3)))).setCell ⟨w.heap.size + 2, 1, none⟩ (.map (some (w.heap.size + 4)))).setCell ⟨w.heap.size + 2, 2, none⟩ (.bool wd) = W' := ⟨_, rfl⟩
    have hsame : ∀ b, b ≠ w.heap.size + 2 → W'.heap[b]? = W.heap[b]? := fun b hb => by rw [← hW', sameMap_setCell hb, sameMap_setCell hb, sameMap_setCell hb]
    have q : Blk W' (w.heap.size + 2) #[.map (some (w.heap.size + 3)), .map (some (w.heap.size + 4)), .bool wd] 93 := by
      rw [← hW']
      have := ((hS.res.set 0 (by simp) (.map (some (w.heap.size + 3)))).set 1 (by simp) (.map (some (w.heap.size + 4)))).set 2 (by simp) (.bool wd)
      simpa using this
    have hbW : Below w.heap.size w W' := by
      rw [← hW']
      exact ((hS.below.setCell (p := ⟨w.heap.size + 2, 0, none⟩) (by simp) _).setCell (p := ⟨w.heap.size + 2, 1, none⟩) (by simp) _).setCell (p := ⟨w.heap.size + 2, 2, none⟩) (by simp) _
    rw [hW']
    clear hW'
    have hK' : W'.heap[D]? = some (.deferred (some [])) := (hsame D (by omega)).trans hK
    refine ⟨by simp, .inl ⟨_, _, rfl, run_takeDeferred hK', ?_⟩⟩
    have hput : ∀ b, b ≠ D → (W'.putObj D (.deferred none)).heap[b]? = W'.heap[b]? := fun b hb => World.putObj_heap_other hb
    have q' : Blk (W'.putObj D (.deferred none)) (w.heap.size + 2) #[.map (some (w.heap.size + 3)), .map (some (w.heap.size + 4)), .bool wd] 93 := (hput _ (by omega)).trans q
    have q0 := q'.cell 0
    have q1 := q'.cell 1
    have q2 := q'.cell 2
    simp only [List.getElem?_toArray, List.getElem?_cons_zero, List.getElem?_cons_succ] at q0 q1 q2
    refine ⟨.agg #[.map (some (w.heap.size + 3)), .map (some (w.heap.size + 4)), .bool wd], by simp [results, Tryz.f81, go_sem, q0, q1, q2], w.heap.size + 3, w.heap.size + 4, miP nms inn C, mfP nms sps inn C, by rw [← Hdone.out.2.2.2.2, Hwd.out], Lib.hid ⟨?_, ?_, Hdone.out.1, Hdone.out.2.1, Hdone.out.2.2.1, Hdone.out.2.2.2.1⟩, hbW.trans (belowK_b (w := w) (Nat.le_refl _) _ D _ _ (by omega) hK' rfl rfl)⟩
    · exact BMap.same (hS.mi.mono hCl) ((hput _ (by omega)).trans (hsame _ (by omega)))
    · exact BMap.same (hS.mf.mono hCl) ((hput _ (by omega)).trans (hsame _ (by omega)))
end Np
end Go.Proofs.YtohlhihhadbphaaGreatDoor

/- normal. -/
namespace Go.Proofs.YtohlhihhadbphaaGreatDoor
open Go.RowKit Go.Shelf Go.Lib Go.Maps
namespace Np
theorem isNorm_of {lst : List CT} {inn : Name → Bool} (hc : chkL lst = 0) (hD : Dec (nmsOf (CT.partsL lst 1)) (spsOf (CT.partsL lst 1)) inn) {mi : Name → Option Bool} {mf : ByteArray → Option Bool}
    (h1 : ∀ x ∈ nmsOf (CT.partsL lst 1), (mi x).getD false = inn x) (h2 : ∀ s ∈ spsOf (CT.partsL lst 1), (mf s).getD false = inn (fresh (nmsOf (CT.partsL lst 1)) [] s)) {wide : Bool} (h3 : wide = inn (fresh (nmsOf (CT.partsL lst 1)) [] (newS (spsOf (CT.partsL lst 1))))) :
    IsNorm inn (classG ((asc cmpS (spsOf (CT.partsL lst 1))).flatMap (oddsC mi mf (asc cmpN (nmsOf (CT.partsL lst 1))) wide)) wide) := by
  have hv := valid_of (chk_all hc)
  exact ⟨_, _, _, _, _, hD.sh sp_of (inn := fun n => (mi n).getD false) (full := fun s => (mf s).getD false) h1 h2 h3, rfl, fun n hn => hv.1 n ((mem_asc linN).1 hn), fun s hs => hv.2 s ((mem_asc linS).1 hs)⟩
def zeroT : CT := .mk 0 ⟨⟨#[]⟩, ⟨#[]⟩⟩ ⟨#[]⟩ none 0 [] none 0 []
theorem zeroT_er : zeroT.er = zeroC := by simp [zeroT, zeroC, CT.er, CT.erL]
theorem zeroT_on (A : Nat → Prop) (W : World) : zeroT.On A W := by
  unfold zeroT
  rw [CT.On, CT.onL_iff]
  exact ⟨⟨by unfold maxLen; simp [ByteArray.size], by unfold maxLen; simp [ByteArray.size]⟩, by unfold maxLen; simp [ByteArray.size], ⟨by simp, by simp⟩, ⟨by simp, by simp⟩, by simp, by simp⟩
theorem zeroT_depth : zeroT.depth ≤ 1000 := by rw [CT.depth_eq]; simp [zeroT, CT.ex, CT.ar, CT.depthL]
theorem shapeOf_h (g : Nat) (lb : Array Value) (inn : Name → Bool) (b1 b2 : Nat) (nms : List Name) (sps : List ByteArray) (w : World) (hG : G w) (h1 : NMap w b1 1000000 (mN nms)) (h2 : SMap w b2 1000000 (mS sps)) (hfit : ∀ x ∈ nms, x.fit) (hok : ∀ s ∈ sps, okS s) (hlen : nms.length + sps.length + 1 ≤ 1000000) (hW : Wants g lb inn w) :
    Calls Tryz.prog 81 #[.agg #[.map (some b1), .map (some b2)], .func (.func g) #[] lb] w fun e w' => ∃ (bi bf : Nat) (wide : Bool), e = .returned (.agg #[.map (some bi), .map (some bf), .bool wide]) ∧
      Hid (wide = inn (fresh nms [] (newS sps)) ∧ ∃ (mi : Name → Option Bool) (mf : ByteArray → Option Bool), NMap w' bi 1000000 mi ∧ SMap w' bf 1000000 mf ∧ (∀ x : Name, (mi x).isSome = true ↔ x ∈ nms) ∧ (∀ x ∈ nms, (mi x).getD false = inn x) ∧ (∀ s, (mf s).isSome = true ↔ s ∈ sps) ∧ ∀ s ∈ sps, (mf s).getD false = inn (fresh nms [] s)) ∧ Below w.heap.size w w' :=
  (shapeOf_any g lb inn b1 b2 nms sps w hG h1 h2 hfit hok hlen hW).mono fun _ _ ⟨bi, bf, mi, mf, he, hh, hb⟩ => ⟨bi, bf, _, he, Lib.hid ⟨rfl, mi, mf, hh.out⟩, hb⟩
set_option maxRecDepth 100000 in
set_option maxHeartbeats 4000000 in
theorem normal_any (a : Option Addr) (c : Nat) (lst : List CT) (g : Nat) (lb : Array Value) (inn : Name → Bool) (w : World) (hG : G w) (hL : LIn w w.heap.size a lst) (hd : ∀ u ∈ lst, u.depth ≤ 1000) (hbig : chkL lst = 0 → (CT.partsL lst 1).length ≤ 400000) (hW : Wants g lb inn w) :
    Calls Tryz.prog 52 #[.slice a lst.length c, .func (.func g) #[] lb] w fun e w' => ∃ (t : CT) (r : Int), e = .returned (.tuple #[t.val, .int .i64 r]) ∧ Hid (t.On (fun b => w.heap.size ≤ b ∧ b < w'.heap.size) w' ∧ NormR lst inn t.er r ∧ t.depth ≤ 1000) ∧ Below w.heap.size w w' := by
  obtain ⟨W1, hW1⟩ : ∃ W1, w.alloc (.cells #[.int .i64 0, .string ⟨#[]⟩, .string ⟨#[]⟩, .string ⟨#[]⟩, .slice none 0 0, .slice none 0 0] 26) = W1 := ⟨_, rfl⟩
  have hb1 : Below w.heap.size w W1 := by rw [← hW1]; exact (Below.refl _ _).alloc (Nat.le_refl _) _
  have hbr : Blk W1 w.heap.size #[.int .i64 0, .string ⟨#[]⟩, .string ⟨#[]⟩, .string ⟨#[]⟩, .slice none 0 0, .slice none 0 0] 26 := by rw [← hW1]; exact Blk.new _ _ _
  have hs1 : w.heap.size < W1.heap.size := hbr.lt
  have hck := checkAll_any a c lst W1 ((hL.below hb1 (Nat.le_refl _)).mono (by omega)) hd
  obtain ⟨r, hr⟩ : ∃ r, chkL lst = r := ⟨_, rfl⟩
  rw [hr] at hck hbig
  have Hr := Lib.hid hr
  clear hr
  go_enter Tryz.func52, Tryz.ntmps52
  go_wp2_with (go_at_call 69; refine hck.mono ?_)
  clear hck hW1
  rintro e W2 ⟨rfl, hb2⟩
  have hB2 : Below w.heap.size w W2 := hb1.trans (hb2.mono hb1.size)
  have hs2 := hb2.size
  have hbr2 := hbr.kept (below_grown hb2) (by simp)
  by_cases h0 : r = 0
  · have Hb : Hid ((CT.partsL lst 1).length ≤ 400000) := Lib.hid (hbig h0)
    have hL2 := hL.below hB2 (Nat.le_refl _)
    have hmt := mentioned_h a c lst W2 (hL2.mono (by omega)) hd (Nat.le_trans Hb.out (by omega))
    have H0 := Lib.hid (Hr.out.trans h0)
    clear hbig Hr
    subst h0
    go_wp2_with (go_at_call 65; refine hmt.mono ?_)
    clear hmt
    rintro e W3 ⟨rfl, HM⟩
    obtain ⟨hb3, hm1, hm2⟩ := HM.out
    clear HM
    have hs3 := hb3.size
    have hB3 : Below w.heap.size w W3 := hB2.trans (hb3.mono (by omega))
    have hbr3 := hbr2.kept (below_grown hb3) (by simp)
    have hn1 := Nat.le_trans (nmsOf_len (CT.partsL lst 1)) Hb.out
    have hn2 := Nat.le_trans (spsOf_len (CT.partsL lst 1)) Hb.out
    have hnf := nmsOf_fit hL
    have hso := spsOf_ok hL
    obtain ⟨nms, hnms⟩ : ∃ x, nmsOf (CT.partsL lst 1) = x := ⟨_, rfl⟩
    obtain ⟨sps, hsps⟩ : ∃ x, spsOf (CT.partsL lst 1) = x := ⟨_, rfl⟩
    rw [hnms] at hm1 hn1 hnf
    rw [hsps] at hm2 hn2 hso
    have Hnms := Lib.hid hnms
    have Hsps := Lib.hid hsps
    clear hnms hsps
    have hsh := shapeOf_h g lb inn (W2.heap.size + 1) (W2.heap.size + 2) nms sps W3 (hG.later hB3) hm1 hm2 hnf hso (by omega) (hW.later hB3)
    clear hm1 hm2
    go_wp2_with (go_at_call 81; refine hsh.mono ?_)
    clear hsh
    rintro e W4 ⟨bi, bf, wide, rfl, HS, hb4⟩
    obtain ⟨mi, mf, hmi, hmf, hi1, hi2, hf1, hf2⟩ := HS.out.2
    have hs4 := hb4.size
    have hB4 : Below w.heap.size w W4 := hB3.trans (hb4.mono (by omega))
    have hbr4 := hbr3.kept (below_grown hb4) (by simp)
    have hcl := class_any bi bf 1000000 1000000 wide mi mf nms sps (by omega) (by omega) hnf (fun x _ => hi1 x) (by omega) hso (fun s _ => hf1 s) (by omega) W4 hmi hmf
    have Hn : Hid (Dec (nmsOf (CT.partsL lst 1)) (spsOf (CT.partsL lst 1)) inn → IsNorm inn (classG ((asc cmpS sps).flatMap (oddsC mi mf (asc cmpN nms) wide)) wide)) := Lib.hid (fun hD => by
      have := isNorm_of H0.out hD (mi := mi) (mf := mf) (wide := wide) (by rw [Hnms.out]; exact hi2) (by rw [Hnms.out, Hsps.out]; exact hf2) (by rw [Hnms.out, Hsps.out]; exact HS.out.1)
      rw [Hnms.out, Hsps.out] at this
      exact this)
    have Hdp : Hid (Dp (classG ((asc cmpS sps).flatMap (oddsC mi mf (asc cmpN nms) wide)) wide) 6) := Lib.hid (classG_dp (ln := asc cmpN nms) (ls := asc cmpS sps) (inn := fun n => (mi n).getD false) (full := fun s => (mf s).getD false))
    obtain ⟨cc, hcc⟩ : ∃ cc, classG ((asc cmpS sps).flatMap (oddsC mi mf (asc cmpN nms) wide)) wide = cc := ⟨_, rfl⟩
    rw [hcc] at hcl Hn Hdp
    clear hcc HS hmi hmf hi1 hi2 hf1 hf2 hnf hso Hnms Hsps hn1 hn2
    go_wp2_with (go_at_call 82; refine hcl.mono ?_)
    clear hcl
    rintro e W5 ⟨t, rfl, HT, hb5⟩
    have hs5 := hb5.size
    have hB5 : Below w.heap.size w W5 := hB4.trans (hb5.mono (by omega))
    have hbr5 := hbr4.kept (below_grown hb5) (by simp)
    obtain ⟨W6, hW6⟩ : ∃ W6, W5.alloc (.cells #[.int .i64 t.kind, .string t.name.sp, .string t.name.lc, .string t.space, .slice t.ea t.ex.length t.ec, .slice t.aa t.ar.length t.ac] 26) = W6 := ⟨_, rfl⟩
    have hb6 : Below W5.heap.size W5 W6 := by rw [← hW6]; exact (Below.refl _ _).alloc (Nat.le_refl _) _
    have hbt : Blk W6 W5.heap.size t.cells.toArray 26 := by rw [← hW6, CT.cells_eq]; exact Blk.new _ _ _
    have hB6 : Below w.heap.size w W6 := hB5.trans (hb6.mono (by omega))
    have hbr6 := hbr5.kept (below_grown hb6) (by simp)
    have hT6 : t.On (fun b => W4.heap.size ≤ b ∧ b < W5.heap.size) W6 := HT.out.1.keep (fun _ h => h) (fun b hb => hb6.block b hb.2)
    have Hd6 : Hid (t.depth ≤ 1000) := Lib.hid (Nat.le_trans (depth_of_dp (D := 6) (by rw [HT.out.2]; exact Hdp.out)) (by omega))
    have hsm := small_any t Hd6.out W6 (hT6.in_ (fun b hb => Nat.lt_of_lt_of_le hb.2 hb6.size))
    have Hsm : Hid (t.small = cc.small) := Lib.hid (by rw [← CT.small_er, HT.out.2])
    obtain ⟨sm, hsmv⟩ : ∃ sm, t.small = sm := ⟨_, rfl⟩
    rw [hsmv] at hsm Hsm
    have hs6 := hb6.size
    have hlt6 := hbt.lt
    obtain ⟨c0, c1, c2, c3, c4, c5⟩ := ct_cells hbt
    rw [CT.val_eq] at hsm ⊢
    clear hsmv
    go_wp2_with (go_at_call 46; refine hsm.mono ?_)
    clear hsm hW6 c0 c1 c2 c3 c4 c5
    rintro e W7 ⟨rfl, hb7⟩
    have hB7 : Below w.heap.size w W7 := hB6.trans (hb7.mono (by omega))
    have hs7 := hb7.size
    have hbt7 := hbt.kept (below_grown hb7) (by simp)
    have hbr7 := hbr6.kept (below_grown hb7) (by simp)
    have hT7 : t.On (fun b => W4.heap.size ≤ b ∧ b < W5.heap.size) W7 := hT6.keep (fun _ h => h) (fun b hb => hb7.block b (Nat.lt_of_lt_of_le hb.2 hs6))
    obtain ⟨c0, c1, c2, c3, c4, c5⟩ := ct_cells hbt7
    have f0 := hbr7.frozen 0
    have f1 := hbr7.frozen 1
    have f2 := hbr7.frozen 2
    have f3 := hbr7.frozen 3
    have f4 := hbr7.frozen 4
    have f5 := hbr7.frozen 5
    have g0 := hbr7.cell 0
    have g1 := hbr7.cell 1
    have g2 := hbr7.cell 2
    have g3 := hbr7.cell 3
    have g4 := hbr7.cell 4
    have g5 := hbr7.cell 5
    simp only [List.getElem?_toArray, List.getElem?_cons_zero, List.getElem?_cons_succ] at g0 g1 g2 g3 g4 g5
    cases sm
    · have q := hbr7.set6 (.int .i64 0) (.string ⟨#[]⟩) (.string ⟨#[]⟩) (.string ⟨#[]⟩) (.slice none 0 0) (.slice none 0 0)
      have q0 := q.cell 0
      have q1 := q.cell 1
      have q2 := q.cell 2
      have q3 := q.cell 3
      have q4 := q.cell 4
      have q5 := q.cell 5
      simp only [List.getElem?_toArray, List.getElem?_cons_zero, List.getElem?_cons_succ] at q0 q1 q2 q3 q4 q5
      have Hres : Hid (NormR lst inn zeroT.er 3) := Lib.hid ⟨fun h => absurd H0.out h, fun _ hD => ⟨cc, Hn.out hD, fun h => by rw [← Hsm.out] at h; (cases h), fun _ => ⟨zeroT_er, rfl⟩⟩⟩
      clear c0 c1 c2 c3 c4 c5
      go_wp2
      refine bodyPost_ret (v := .tuple #[.agg #[.int .i64 0, .string ⟨#[]⟩, .string ⟨#[]⟩, .string ⟨#[]⟩, .slice none 0 0, .slice none 0 0], .int .i64 3]) (by simp [results, Tryz.f52, go_sem, q0, q1, q2, q3, q4, q5]) rfl ⟨zeroT, 3, rfl, Lib.hid ⟨zeroT_on _ _, Hres.out, zeroT_depth⟩, sixBelow hB7 (by omega) _ _ _ _ _ _⟩
    · have q := hbr7.set6 (.int .i64 t.kind) (.string t.name.sp) (.string t.name.lc) (.string t.space) (.slice t.ea t.ex.length t.ec) (.slice t.aa t.ar.length t.ac)
      have q0 := q.cell 0
      have q1 := q.cell 1
      have q2 := q.cell 2
      have q3 := q.cell 3
      have q4 := q.cell 4
      have q5 := q.cell 5
      simp only [List.getElem?_toArray, List.getElem?_cons_zero, List.getElem?_cons_succ] at q0 q1 q2 q3 q4 q5
      have Hres : Hid (NormR lst inn t.er 0) := Lib.hid ⟨fun h => absurd H0.out h, fun _ hD => ⟨cc, Hn.out hD, fun _ => ⟨HT.out.2, rfl⟩, fun h => by rw [← Hsm.out] at h; (cases h)⟩⟩
      go_wp2
      refine bodyPost_ret (v := .tuple #[.agg #[.int .i64 t.kind, .string t.name.sp, .string t.name.lc, .string t.space, .slice t.ea t.ex.length t.ec, .slice t.aa t.ar.length t.ac], .int .i64 0]) (by simp [results, Tryz.f52, go_sem, q0, q1, q2, q3, q4, q5]) rfl ⟨t, 0, by rw [CT.val_eq], Lib.hid ⟨?_, Hres.out, Hd6.out⟩, sixBelow hB7 (by omega) _ _ _ _ _ _⟩
      exact hT7.keep (fun b hb => ⟨by have := hb.1; omega, by have := hb.2; simp; omega⟩) (fun b hb => six_other (by have := hb.1; omega) _ _ _ _ _ _)
  · have hne : (r == 0) = false := by simpa using h0
    have hne2 : (r != 0) = true := by simpa using h0
    have hne3 : decide (r = 0) = false := by simpa using h0
    have f0 := hbr2.frozen 0
    have f1 := hbr2.frozen 1
    have f2 := hbr2.frozen 2
    have f3 := hbr2.frozen 3
    have f4 := hbr2.frozen 4
    have f5 := hbr2.frozen 5
    have g0 := hbr2.cell 0
    have g1 := hbr2.cell 1
    have g2 := hbr2.cell 2
    have g3 := hbr2.cell 3
    have g4 := hbr2.cell 4
    have g5 := hbr2.cell 5
    simp only [List.getElem?_toArray, List.getElem?_cons_zero, List.getElem?_cons_succ] at g0 g1 g2 g3 g4 g5
    have q := hbr2.set6 (.int .i64 0) (.string ⟨#[]⟩) (.string ⟨#[]⟩) (.string ⟨#[]⟩) (.slice none 0 0) (.slice none 0 0)
    have q0 := q.cell 0
    have q1 := q.cell 1
    have q2 := q.cell 2
    have q3 := q.cell 3
    have q4 := q.cell 4
    have q5 := q.cell 5
    simp only [List.getElem?_toArray, List.getElem?_cons_zero, List.getElem?_cons_succ] at q0 q1 q2 q3 q4 q5
    have Hres : Hid (NormR lst inn zeroT.er r) := Lib.hid ⟨fun _ => ⟨Hr.out.symm, zeroT_er⟩, fun h => absurd (Hr.out.symm.trans h) h0⟩
    have H0 := Lib.hid h0
    clear h0 hbig
    go_wp2
    refine bodyPost_ret (v := .tuple #[.agg #[.int .i64 0, .string ⟨#[]⟩, .string ⟨#[]⟩, .string ⟨#[]⟩, .slice none 0 0, .slice none 0 0], .int .i64 r]) (by simp [results, Tryz.f52, go_sem, q0, q1, q2, q3, q4, q5]) rfl ⟨zeroT, r, rfl, Lib.hid ⟨zeroT_on _ _, Hres.out, zeroT_depth⟩, sixBelow hB2 (by omega) _ _ _ _ _ _⟩
end Np
end Go.Proofs.YtohlhihhadbphaaGreatDoor

/- Normal, Join, Meet, Minus. -/
namespace Go.Proofs.YtohlhihhadbphaaGreatDoor
open Go.RowKit Go.Shelf Go.Lib Go.Maps
namespace Np
/-- What a function that returns a normal class returns. -/
def NormE (w : World) (lst : List CT) (inn : Name → Bool) (e : Ending) (w' : World) : Prop := ∃ (x : CT) (r : Int), e = .returned (.tuple #[x.val, .int .i64 r]) ∧ Hid (x.On (fun b => w.heap.size ≤ b ∧ b < w'.heap.size) w' ∧ NormR lst inn x.er r ∧ x.depth ≤ 1000) ∧ Below w.heap.size w w'
theorem blk_fourth (W : World) (a b c d : Array Value) (s t u v : TypeId) : Blk ((((W.alloc (.cells a s)).alloc (.cells b t)).alloc (.cells c u)).alloc (.cells d v)) W.heap.size a s ∧ Blk ((((W.alloc (.cells a s)).alloc (.cells b t)).alloc (.cells c u)).alloc (.cells d v)) (W.heap.size + 1) b t ∧ Blk ((((W.alloc (.cells a s)).alloc (.cells b t)).alloc (.cells c u)).alloc (.cells d v)) (W.heap.size + 2) c u ∧ Blk ((((W.alloc (.cells a s)).alloc (.cells b t)).alloc (.cells c u)).alloc (.cells d v)) (W.heap.size + 3) d v := by
  obtain ⟨h1, h2, h3⟩ := blk_third W a b c s t u
  have h4 := Blk.new (((W.alloc (.cells a s)).alloc (.cells b t)).alloc (.cells c u)) d v
  simp only [World.size_alloc, Nat.add_assoc, Nat.reduceAdd] at h4
  exact ⟨h1.alloc _, h2.alloc _, h3.alloc _, h4⟩
set_option maxRecDepth 100000 in
set_option maxHeartbeats 2000000 in
theorem Normal_any (t : CT) (w : World) (hG : G w) (ht : t.depth ≤ 1000) (hIn : t.In w w.heap.size) :
    Calls Tryz.prog 15 #[t.val] w (NormE w [t] t.holds) := by
  obtain ⟨W1, hW1⟩ : ∃ W1, ((w.alloc (.cells t.cells.toArray 26)).alloc (.cells #[.int .i64 0, .string ⟨#[]⟩, .string ⟨#[]⟩, .string ⟨#[]⟩, .slice none 0 0, .slice none 0 0] 26)).alloc (.cells t.cells.toArray 26) = W1 := ⟨_, rfl⟩
  have hb : Below w.heap.size w W1 := by rw [← hW1]; exact (((Below.refl _ w).alloc (Nat.le_refl _) _).alloc (by simp) _).alloc (by simp; omega) _
  obtain ⟨B0, Bz, B1⟩ : Blk W1 w.heap.size t.cells.toArray 26 ∧ Blk W1 (w.heap.size + 1) #[.int .i64 0, .string ⟨#[]⟩, .string ⟨#[]⟩, .string ⟨#[]⟩, .slice none 0 0, .slice none 0 0] 26 ∧ Blk W1 (w.heap.size + 2) t.cells.toArray 26 := by rw [← hW1]; exact blk_third _ _ _ _ _ _ _
  have B3 : Blk W1 (w.heap.size + 2) ([t].flatMap CT.cells).toArray 26 := by simpa using B1
  have hs : W1.heap.size = w.heap.size + 3 := by rw [← hW1]; simp
  have hin1 : t.In W1 W1.heap.size := (hIn.below hb (Nat.le_refl _)).mono hb.size
  have hN := normal_any (some ⟨w.heap.size + 1 + 1, 0, none⟩) 1 [t] 53 #[.pointer (some ⟨w.heap.size, 0, none⟩)] t.holds W1 (hG.later hb) (lin_row B3 (by omega) (by simp; unfold maxLen; omega) (by simpa using hin1)) (by simpa using ht) (fun h => Nat.le_trans (parts_le (chk_all h)) (by simp))
    ⟨enters_of Tryz.func53 (by kernel_rfl) rfl, fun x W _ hbW => Normal1_any t x w.heap.size W (B0.below hbW) ((hin1.below hbW (Nat.le_refl _)).mono hbW.size)⟩
  have hs1 : w.heap.size + 3 ≤ W1.heap.size := by omega
  rw [show [t].length = 1 from rfl] at hN
  rw [CT.cells_eq] at hW1
  rw [CT.val_eq]
  clear B0 B1 B3 hs hin1
  unfold NormE
  go_enter Tryz.func15, Tryz.ntmps15
  go_wp2_with (go_at_call 52; refine hN.mono ?_)
  clear hN hW1
  rintro e W2 ⟨x, r, rfl, HX, hb2⟩
  have hs2 := hb2.size
  have hB2 : Below w.heap.size w W2 := hb.trans (hb2.mono hb.size)
  have hz2 := Bz.kept (below_grown hb2) (by simp)
  have f0 := hz2.frozen 0
  have f1 := hz2.frozen 1
  have f2 := hz2.frozen 2
  have f3 := hz2.frozen 3
  have f4 := hz2.frozen 4
  have f5 := hz2.frozen 5
  have g0 := hz2.cell 0
  have g1 := hz2.cell 1
  have g2 := hz2.cell 2
  have g3 := hz2.cell 3
  have g4 := hz2.cell 4
  have g5 := hz2.cell 5
  simp only [List.getElem?_toArray, List.getElem?_cons_zero, List.getElem?_cons_succ] at g0 g1 g2 g3 g4 g5
  have q := hz2.set6 (.int .i64 x.kind) (.string x.name.sp) (.string x.name.lc) (.string x.space) (.slice x.ea x.ex.length x.ec) (.slice x.aa x.ar.length x.ac)
  have q0 := q.cell 0
  have q1 := q.cell 1
  have q2 := q.cell 2
  have q3 := q.cell 3
  have q4 := q.cell 4
  have q5 := q.cell 5
  simp only [List.getElem?_toArray, List.getElem?_cons_zero, List.getElem?_cons_succ] at q0 q1 q2 q3 q4 q5
  rw [CT.val_eq x]
  go_wp2
  refine bodyPost_ret (v := .tuple #[.agg #[.int .i64 x.kind, .string x.name.sp, .string x.name.lc, .string x.space, .slice x.ea x.ex.length x.ec, .slice x.aa x.ar.length x.ac], .int .i64 r]) (by simp [results, Tryz.f15, go_sem, q0, q1, q2, q3, q4, q5]) rfl ⟨x, r, by rw [CT.val_eq], Lib.hid ⟨?_, HX.out.2.1, HX.out.2.2⟩, sixBelow hB2 (by omega) _ _ _ _ _ _⟩
  exact HX.out.1.keep (fun b hb => ⟨by have := hb.1; omega, by simp; exact hb.2⟩) (fun b hb => six_other (by have := hb.1; omega) _ _ _ _ _ _)
set_option maxRecDepth 100000 in
set_option maxHeartbeats 2000000 in
theorem Join_any (t u : CT) (w : World) (hG : G w) (ht : t.depth ≤ 1000) (hu : u.depth ≤ 1000) (hIn : t.In w w.heap.size) (hIn2 : u.In w w.heap.size) :
    Calls Tryz.prog 18 #[t.val, u.val] w (NormE w [t, u] (fun n => t.holds n || u.holds n)) := by
  obtain ⟨W1, hW1⟩ : ∃ W1, (((w.alloc (.cells t.cells.toArray 26)).alloc (.cells u.cells.toArray 26)).alloc (.cells #[.int .i64 0, .string ⟨#[]⟩, .string ⟨#[]⟩, .string ⟨#[]⟩, .slice none 0 0, .slice none 0 0] 26)).alloc (.cells (t.cells ++ u.cells).toArray 26) = W1 := ⟨_, rfl⟩
  have hb : Below w.heap.size w W1 := by rw [← hW1]; exact ((((Below.refl _ w).alloc (Nat.le_refl _) _).alloc (by simp) _).alloc (by simp; omega) _).alloc (by simp; omega) _
  obtain ⟨B0, B1, Bz, B2⟩ : Blk W1 w.heap.size t.cells.toArray 26 ∧ Blk W1 (w.heap.size + 1) u.cells.toArray 26 ∧ Blk W1 (w.heap.size + 2) #[.int .i64 0, .string ⟨#[]⟩, .string ⟨#[]⟩, .string ⟨#[]⟩, .slice none 0 0, .slice none 0 0] 26 ∧ Blk W1 (w.heap.size + 3) (t.cells ++ u.cells).toArray 26 := by rw [← hW1]; exact blk_fourth _ _ _ _ _ _ _ _ _
  have B3 : Blk W1 (w.heap.size + 3) ([t, u].flatMap CT.cells).toArray 26 := by simpa using B2
  have hs : W1.heap.size = w.heap.size + 4 := by rw [← hW1]; simp
  have hin1 : t.In W1 W1.heap.size := (hIn.below hb (Nat.le_refl _)).mono hb.size
  have hin2 : u.In W1 W1.heap.size := (hIn2.below hb (Nat.le_refl _)).mono hb.size
  have hN := normal_any (some ⟨w.heap.size + 1 + 1 + 1, 0, none⟩) 2 [t, u] 55 #[.pointer (some ⟨w.heap.size, 0, none⟩), .pointer (some ⟨w.heap.size + 1, 0, none⟩)] (fun n => t.holds n || u.holds n) W1 (hG.later hb) (lin_row B3 (by omega) (by simp; unfold maxLen; omega) (by intro x hx; simp at hx; rcases hx with rfl | rfl; exact hin1; exact hin2)) (by intro x hx; simp at hx; rcases hx with rfl | rfl; exact ht; exact hu) (fun h => Nat.le_trans (parts_le (chk_all h)) (by simp))
    ⟨enters_of Tryz.func55 (by kernel_rfl) rfl, fun x W _ hbW => Join1_any t u x w.heap.size (w.heap.size + 1) W (B0.below hbW) (B1.below hbW) ((hin1.below hbW (Nat.le_refl _)).mono hbW.size) ((hin2.below hbW (Nat.le_refl _)).mono hbW.size)⟩
  have hs1 : w.heap.size + 4 ≤ W1.heap.size := by omega
  rw [show [t, u].length = 2 from rfl] at hN
  rw [cells_two, CT.cells_eq, CT.cells_eq] at hW1
  rw [CT.val_eq, CT.val_eq]
  clear B0 B1 B2 B3 hs hin1 hin2
  unfold NormE
  go_enter Tryz.func18, Tryz.ntmps18
  go_wp2_with (go_at_call 52; refine hN.mono ?_)
  clear hN hW1
  rintro e W2 ⟨x, r, rfl, HX, hb2⟩
  have hs2 := hb2.size
  have hB2 : Below w.heap.size w W2 := hb.trans (hb2.mono hb.size)
  have hz2 := Bz.kept (below_grown hb2) (by simp)
  have f0 := hz2.frozen 0
  have f1 := hz2.frozen 1
  have f2 := hz2.frozen 2
  have f3 := hz2.frozen 3
  have f4 := hz2.frozen 4
  have f5 := hz2.frozen 5
  have g0 := hz2.cell 0
  have g1 := hz2.cell 1
  have g2 := hz2.cell 2
  have g3 := hz2.cell 3
  have g4 := hz2.cell 4
  have g5 := hz2.cell 5
  simp only [List.getElem?_toArray, List.getElem?_cons_zero, List.getElem?_cons_succ] at g0 g1 g2 g3 g4 g5
  have q := hz2.set6 (.int .i64 x.kind) (.string x.name.sp) (.string x.name.lc) (.string x.space) (.slice x.ea x.ex.length x.ec) (.slice x.aa x.ar.length x.ac)
  have q0 := q.cell 0
  have q1 := q.cell 1
  have q2 := q.cell 2
  have q3 := q.cell 3
  have q4 := q.cell 4
  have q5 := q.cell 5
  simp only [List.getElem?_toArray, List.getElem?_cons_zero, List.getElem?_cons_succ] at q0 q1 q2 q3 q4 q5
  rw [CT.val_eq x]
  go_wp2
  refine bodyPost_ret (v := .tuple #[.agg #[.int .i64 x.kind, .string x.name.sp, .string x.name.lc, .string x.space, .slice x.ea x.ex.length x.ec, .slice x.aa x.ar.length x.ac], .int .i64 r]) (by simp [results, Tryz.f18, go_sem, q0, q1, q2, q3, q4, q5]) rfl ⟨x, r, by rw [CT.val_eq], Lib.hid ⟨?_, HX.out.2.1, HX.out.2.2⟩, sixBelow hB2 (by omega) _ _ _ _ _ _⟩
  exact HX.out.1.keep (fun b hb => ⟨by have := hb.1; omega, by simp; exact hb.2⟩) (fun b hb => six_other (by have := hb.1; omega) _ _ _ _ _ _)
set_option maxRecDepth 100000 in
set_option maxHeartbeats 2000000 in
theorem Meet_any (t u : CT) (w : World) (hG : G w) (ht : t.depth ≤ 1000) (hu : u.depth ≤ 1000) (hIn : t.In w w.heap.size) (hIn2 : u.In w w.heap.size) :
    Calls Tryz.prog 20 #[t.val, u.val] w (NormE w [t, u] (fun n => t.holds n && u.holds n)) := by
  obtain ⟨W1, hW1⟩ : ∃ W1, (((w.alloc (.cells t.cells.toArray 26)).alloc (.cells u.cells.toArray 26)).alloc (.cells #[.int .i64 0, .string ⟨#[]⟩, .string ⟨#[]⟩, .string ⟨#[]⟩, .slice none 0 0, .slice none 0 0] 26)).alloc (.cells (t.cells ++ u.cells).toArray 26) = W1 := ⟨_, rfl⟩
  have hb : Below w.heap.size w W1 := by rw [← hW1]; exact ((((Below.refl _ w).alloc (Nat.le_refl _) _).alloc (by simp) _).alloc (by simp; omega) _).alloc (by simp; omega) _
  obtain ⟨B0, B1, Bz, B2⟩ : Blk W1 w.heap.size t.cells.toArray 26 ∧ Blk W1 (w.heap.size + 1) u.cells.toArray 26 ∧ Blk W1 (w.heap.size + 2) #[.int .i64 0, .string ⟨#[]⟩, .string ⟨#[]⟩, .string ⟨#[]⟩, .slice none 0 0, .slice none 0 0] 26 ∧ Blk W1 (w.heap.size + 3) (t.cells ++ u.cells).toArray 26 := by rw [← hW1]; exact blk_fourth _ _ _ _ _ _ _ _ _
  have B3 : Blk W1 (w.heap.size + 3) ([t, u].flatMap CT.cells).toArray 26 := by simpa using B2
  have hs : W1.heap.size = w.heap.size + 4 := by rw [← hW1]; simp
  have hin1 : t.In W1 W1.heap.size := (hIn.below hb (Nat.le_refl _)).mono hb.size
  have hin2 : u.In W1 W1.heap.size := (hIn2.below hb (Nat.le_refl _)).mono hb.size
  have hN := normal_any (some ⟨w.heap.size + 1 + 1 + 1, 0, none⟩) 2 [t, u] 57 #[.pointer (some ⟨w.heap.size, 0, none⟩), .pointer (some ⟨w.heap.size + 1, 0, none⟩)] (fun n => t.holds n && u.holds n) W1 (hG.later hb) (lin_row B3 (by omega) (by simp; unfold maxLen; omega) (by intro x hx; simp at hx; rcases hx with rfl | rfl; exact hin1; exact hin2)) (by intro x hx; simp at hx; rcases hx with rfl | rfl; exact ht; exact hu) (fun h => Nat.le_trans (parts_le (chk_all h)) (by simp))
    ⟨enters_of Tryz.func57 (by kernel_rfl) rfl, fun x W _ hbW => Meet1_any t u x w.heap.size (w.heap.size + 1) W (B0.below hbW) (B1.below hbW) ((hin1.below hbW (Nat.le_refl _)).mono hbW.size) ((hin2.below hbW (Nat.le_refl _)).mono hbW.size)⟩
  have hs1 : w.heap.size + 4 ≤ W1.heap.size := by omega
  rw [show [t, u].length = 2 from rfl] at hN
  rw [cells_two, CT.cells_eq, CT.cells_eq] at hW1
  rw [CT.val_eq, CT.val_eq]
  clear B0 B1 B2 B3 hs hin1 hin2
  unfold NormE
  go_enter Tryz.func20, Tryz.ntmps20
  go_wp2_with (go_at_call 52; refine hN.mono ?_)
  clear hN hW1
  rintro e W2 ⟨x, r, rfl, HX, hb2⟩
  have hs2 := hb2.size
  have hB2 : Below w.heap.size w W2 := hb.trans (hb2.mono hb.size)
  have hz2 := Bz.kept (below_grown hb2) (by simp)
  have f0 := hz2.frozen 0
  have f1 := hz2.frozen 1
  have f2 := hz2.frozen 2
  have f3 := hz2.frozen 3
  have f4 := hz2.frozen 4
  have f5 := hz2.frozen 5
  have g0 := hz2.cell 0
  have g1 := hz2.cell 1
  have g2 := hz2.cell 2
  have g3 := hz2.cell 3
  have g4 := hz2.cell 4
  have g5 := hz2.cell 5
  simp only [List.getElem?_toArray, List.getElem?_cons_zero, List.getElem?_cons_succ] at g0 g1 g2 g3 g4 g5
  have q := hz2.set6 (.int .i64 x.kind) (.string x.name.sp) (.string x.name.lc) (.string x.space) (.slice x.ea x.ex.length x.ec) (.slice x.aa x.ar.length x.ac)
  have q0 := q.cell 0
  have q1 := q.cell 1
  have q2 := q.cell 2
  have q3 := q.cell 3
  have q4 := q.cell 4
  have q5 := q.cell 5
  simp only [List.getElem?_toArray, List.getElem?_cons_zero, List.getElem?_cons_succ] at q0 q1 q2 q3 q4 q5
  rw [CT.val_eq x]
  go_wp2
  refine bodyPost_ret (v := .tuple #[.agg #[.int .i64 x.kind, .string x.name.sp, .string x.name.lc, .string x.space, .slice x.ea x.ex.length x.ec, .slice x.aa x.ar.length x.ac], .int .i64 r]) (by simp [results, Tryz.f20, go_sem, q0, q1, q2, q3, q4, q5]) rfl ⟨x, r, by rw [CT.val_eq], Lib.hid ⟨?_, HX.out.2.1, HX.out.2.2⟩, sixBelow hB2 (by omega) _ _ _ _ _ _⟩
  exact HX.out.1.keep (fun b hb => ⟨by have := hb.1; omega, by simp; exact hb.2⟩) (fun b hb => six_other (by have := hb.1; omega) _ _ _ _ _ _)
set_option maxRecDepth 100000 in
set_option maxHeartbeats 2000000 in
theorem Minus_any (t u : CT) (w : World) (hG : G w) (ht : t.depth ≤ 1000) (hu : u.depth ≤ 1000) (hIn : t.In w w.heap.size) (hIn2 : u.In w w.heap.size) :
    Calls Tryz.prog 22 #[t.val, u.val] w (NormE w [t, u] (fun n => t.holds n && !u.holds n)) := by
  obtain ⟨W1, hW1⟩ : ∃ W1, (((w.alloc (.cells t.cells.toArray 26)).alloc (.cells u.cells.toArray 26)).alloc (.cells #[.int .i64 0, .string ⟨#[]⟩, .string ⟨#[]⟩, .string ⟨#[]⟩, .slice none 0 0, .slice none 0 0] 26)).alloc (.cells (t.cells ++ u.cells).toArray 26) = W1 := ⟨_, rfl⟩
  have hb : Below w.heap.size w W1 := by rw [← hW1]; exact ((((Below.refl _ w).alloc (Nat.le_refl _) _).alloc (by simp) _).alloc (by simp; omega) _).alloc (by simp; omega) _
  obtain ⟨B0, B1, Bz, B2⟩ : Blk W1 w.heap.size t.cells.toArray 26 ∧ Blk W1 (w.heap.size + 1) u.cells.toArray 26 ∧ Blk W1 (w.heap.size + 2) #[.int .i64 0, .string ⟨#[]⟩, .string ⟨#[]⟩, .string ⟨#[]⟩, .slice none 0 0, .slice none 0 0] 26 ∧ Blk W1 (w.heap.size + 3) (t.cells ++ u.cells).toArray 26 := by rw [← hW1]; exact blk_fourth _ _ _ _ _ _ _ _ _
  have B3 : Blk W1 (w.heap.size + 3) ([t, u].flatMap CT.cells).toArray 26 := by simpa using B2
  have hs : W1.heap.size = w.heap.size + 4 := by rw [← hW1]; simp
  have hin1 : t.In W1 W1.heap.size := (hIn.below hb (Nat.le_refl _)).mono hb.size
  have hin2 : u.In W1 W1.heap.size := (hIn2.below hb (Nat.le_refl _)).mono hb.size
  have hN := normal_any (some ⟨w.heap.size + 1 + 1 + 1, 0, none⟩) 2 [t, u] 58 #[.pointer (some ⟨w.heap.size, 0, none⟩), .pointer (some ⟨w.heap.size + 1, 0, none⟩)] (fun n => t.holds n && !u.holds n) W1 (hG.later hb) (lin_row B3 (by omega) (by simp; unfold maxLen; omega) (by intro x hx; simp at hx; rcases hx with rfl | rfl; exact hin1; exact hin2)) (by intro x hx; simp at hx; rcases hx with rfl | rfl; exact ht; exact hu) (fun h => Nat.le_trans (parts_le (chk_all h)) (by simp))
    ⟨enters_of Tryz.func58 (by kernel_rfl) rfl, fun x W _ hbW => Minus1_any t u x w.heap.size (w.heap.size + 1) W (B0.below hbW) (B1.below hbW) ((hin1.below hbW (Nat.le_refl _)).mono hbW.size) ((hin2.below hbW (Nat.le_refl _)).mono hbW.size)⟩
  have hs1 : w.heap.size + 4 ≤ W1.heap.size := by omega
  rw [show [t, u].length = 2 from rfl] at hN
  rw [cells_two, CT.cells_eq, CT.cells_eq] at hW1
  rw [CT.val_eq, CT.val_eq]
  clear B0 B1 B2 B3 hs hin1 hin2
  unfold NormE
  go_enter Tryz.func22, Tryz.ntmps22
  go_wp2_with (go_at_call 52; refine hN.mono ?_)
  clear hN hW1
  rintro e W2 ⟨x, r, rfl, HX, hb2⟩
  have hs2 := hb2.size
  have hB2 : Below w.heap.size w W2 := hb.trans (hb2.mono hb.size)
  have hz2 := Bz.kept (below_grown hb2) (by simp)
  have f0 := hz2.frozen 0
  have f1 := hz2.frozen 1
  have f2 := hz2.frozen 2
  have f3 := hz2.frozen 3
  have f4 := hz2.frozen 4
  have f5 := hz2.frozen 5
  have g0 := hz2.cell 0
  have g1 := hz2.cell 1
  have g2 := hz2.cell 2
  have g3 := hz2.cell 3
  have g4 := hz2.cell 4
  have g5 := hz2.cell 5
  simp only [List.getElem?_toArray, List.getElem?_cons_zero, List.getElem?_cons_succ] at g0 g1 g2 g3 g4 g5
  have q := hz2.set6 (.int .i64 x.kind) (.string x.name.sp) (.string x.name.lc) (.string x.space) (.slice x.ea x.ex.length x.ec) (.slice x.aa x.ar.length x.ac)
  have q0 := q.cell 0
  have q1 := q.cell 1
  have q2 := q.cell 2
  have q3 := q.cell 3
  have q4 := q.cell 4
  have q5 := q.cell 5
  simp only [List.getElem?_toArray, List.getElem?_cons_zero, List.getElem?_cons_succ] at q0 q1 q2 q3 q4 q5
  rw [CT.val_eq x]
  go_wp2
  refine bodyPost_ret (v := .tuple #[.agg #[.int .i64 x.kind, .string x.name.sp, .string x.name.lc, .string x.space, .slice x.ea x.ex.length x.ec, .slice x.aa x.ar.length x.ac], .int .i64 r]) (by simp [results, Tryz.f22, go_sem, q0, q1, q2, q3, q4, q5]) rfl ⟨x, r, by rw [CT.val_eq], Lib.hid ⟨?_, HX.out.2.1, HX.out.2.2⟩, sixBelow hB2 (by omega) _ _ _ _ _ _⟩
  exact HX.out.1.keep (fun b hb => ⟨by have := hb.1; omega, by simp; exact hb.2⟩) (fun b hb => six_other (by have := hb.1; omega) _ _ _ _ _ _)
end Np
end Go.Proofs.YtohlhihhadbphaaGreatDoor

/- Witness. -/
namespace Go.Proofs.YtohlhihhadbphaaGreatDoor
open Go.RowKit Go.Shelf Go.Lib Go.Maps
attribute [local go_sem] Oper.semAt_some
namespace Np
/-- A list of names lies in a row, below block n. -/
structure NRow (W : World) (n : Nat) (a : Option Addr) (l : List Name) : Prop where
  len : l.length ≤ maxLen
  fit : ∀ x ∈ l, x.fit
  cells : l ≠ [] → ∃ b o, a = some ⟨b, o, none⟩ ∧ b < n ∧ ∀ j (h : j < l.length), W.cell? ⟨b, o + j * 2, none⟩ = some (.string l[j].sp) ∧ W.cell? ⟨b, o + j * 2 + 1, none⟩ = some (.string l[j].lc)
theorem NRow.below {W W' : World} {n m : Nat} {a : Option Addr} {l : List Name} (h : NRow W n a l) (hb : Below m W W') (hn : n ≤ m) : NRow W' n a l :=
  ⟨h.len, h.fit, fun hl => by
    obtain ⟨b, o, e, hlt, hc⟩ := h.cells hl
    exact ⟨b, o, e, hlt, fun j hj => ⟨(hb.cell (p := ⟨b, o + j * 2, none⟩) (show b < m by omega)).trans (hc j hj).1, (hb.cell (p := ⟨b, o + j * 2 + 1, none⟩) (show b < m by omega)).trans (hc j hj).2⟩⟩⟩
def noN : Name := ⟨⟨#[]⟩, ⟨#[]⟩⟩
/-- The first candidate that is in the class and not avoided. -/
def witC (t : CT) (av : List Name) : Option Name := (candsOf [t] av).find? fun n => t.holds n && !decide (n ∈ av)
def witN (t : CT) (av : List Name) : Name := if t.check = 0 then (witC t av).getD noN else noN
def witR (t : CT) (av : List Name) : Int := if t.check = 0 then (match witC t av with | some _ => 0 | none => 4) else t.check
/-- The state of Witness. -/
structure WSt (t : CT) (w : World) (n1 n2 : Nat) (av : List Name) (k : Nat) (W : World) : Prop where
  below : Below w.heap.size w W
  size : n2 ≤ W.heap.size
  box : Blk W w.heap.size t.cells.toArray 26
  res : Blk W (w.heap.size + 1) #[.string ⟨#[]⟩, .string ⟨#[]⟩] 23
  err : Blk W (w.heap.size + 2) #[.int .i64 0] 29
  var : Blk W (n1 + 1) #[.map (some n1)] 71
  map : NMap W n1 k (mN (av.take k))
theorem WSt.below' {t : CT} {w : World} {n1 n2 : Nat} {av : List Name} {k : Nat} {W W' : World} (h : WSt t w n1 n2 av k W) (hb : Below W.heap.size W W') : WSt t w n1 n2 av k W' :=
  ⟨h.below.trans (hb.mono h.below.size), Nat.le_trans h.size hb.size, h.box.below hb, h.res.below hb, h.err.below hb, h.var.below hb, BMap.below h.map hb (BMap.lt h.map)⟩
theorem WSt.alloc {t : CT} {w : World} {n1 n2 : Nat} {av : List Name} {k : Nat} {W : World} (h : WSt t w n1 n2 av k W) (_ : n2 ≤ n2) (o : Obj) : WSt t w n1 n2 av k (W.alloc o) := h.below' ((Below.refl _ _).alloc (Nat.le_refl _) _)
theorem WSt.grown {t : CT} {w : World} {n1 n2 : Nat} {av : List Name} {k : Nat} {W W' : World} (h : WSt t w n1 n2 av k W) (h1 : w.heap.size + 3 ≤ n1) (_ : n1 ≤ n1) (hg : W.grownBy W' (some n1)) (hm : NMap W' n1 (k + 1) (mN (av.take (k + 1)))) : WSt t w n1 n2 av (k + 1) W' :=
  ⟨h.below.trans (below_of_grown hg (by omega) h.below.size), Nat.le_trans h.size hg.size, h.box.kept hg (fun e => by injection e; omega), h.res.kept hg (fun e => by injection e; omega), h.err.kept hg (fun e => by injection e; omega), h.var.kept hg (fun e => by injection e; omega), hm⟩
theorem WSt.kept {t : CT} {w : World} {n1 n2 B : Nat} {av : List Name} {k : Nat} {W W' : World} {row : Option Nat} (h1 : w.heap.size + 3 ≤ n1) (hB : n1 + 2 ≤ B) (h : WSt t w n1 n2 av k W) (hg : W.grownBy W' row) (hr : ∀ r, row = some r → B ≤ r) : WSt t w n1 n2 av k W' :=
  ⟨⟨hg.os.trans h.below.os, hg.tape.trans h.below.tape, hg.output.trans h.below.output, Nat.le_trans h.below.size hg.size, fun k hk => (hg.block k (Nat.lt_of_lt_of_le hk h.below.size) (fun e => by have := hr k e.symm; omega)).trans (h.below.block k hk)⟩, Nat.le_trans h.size hg.size, h.box.kept hg (fun e => by have := hr _ e.symm; omega), h.res.kept hg (fun e => by have := hr _ e.symm; omega), h.err.kept hg (fun e => by have := hr _ e.symm; omega), h.var.kept hg (fun e => by have := hr _ e.symm; omega), BMap.kept h.map hg (fun e => by have := hr _ e.symm; omega)⟩
/-- What Witness leaves where it has found a name. -/
structure WEnd (w : World) (x : Name) (W : World) : Prop where
  below : Below w.heap.size w W
  res : Blk W (w.heap.size + 1) #[.string x.sp, .string x.lc] 23
  err : Blk W (w.heap.size + 2) #[.int .i64 0] 29
theorem WEnd.kept {w : World} {x : Name} {B : Nat} {W W' : World} {row : Option Nat} (hB : w.heap.size + 3 ≤ B) (h : WEnd w x W) (hg : W.grownBy W' row) (hr : ∀ r, row = some r → B ≤ r) : WEnd w x W' :=
  ⟨⟨hg.os.trans h.below.os, hg.tape.trans h.below.tape, hg.output.trans h.below.output, Nat.le_trans h.below.size hg.size, fun k hk => (hg.block k (Nat.lt_of_lt_of_le hk h.below.size) (fun e => by have := hr k e.symm; omega)).trans (h.below.block k hk)⟩, h.res.kept hg (fun e => by have := hr _ e.symm; omega), h.err.kept hg (fun e => by have := hr _ e.symm; omega)⟩
theorem find_first {α : Type} {p : α → Bool} {pre : List α} {x : α} {C : List α} (h : pre ++ [x] <+: C) (h1 : ∀ y ∈ pre, p y = false) (h2 : p x = true) : C.find? p = some x := by
  obtain ⟨r, rfl⟩ := h
  rw [List.append_assoc, List.find?_append, List.find?_eq_none.2 (fun y hy => by rw [h1 y hy]; simp)]
  simp [h2]
theorem wit_set {W : World} {s : Nat} {a b c : Value} (h1 : Blk W (s + 1) #[a, b] 23) (h2 : Blk W (s + 2) #[c] 29) (x y z : Value) :
    Blk (((W.setCell ⟨s + 1, 0, none⟩ x).setCell ⟨s + 1, 1, none⟩ y).setCell ⟨s + 2, 0, none⟩ z) (s + 1) #[x, y] 23 ∧ Blk (((W.setCell ⟨s + 1, 0, none⟩ x).setCell ⟨s + 1, 1, none⟩ y).setCell ⟨s + 2, 0, none⟩ z) (s + 2) #[z] 29 := by
  have q1 := (h1.set 0 (by simp) x).set 1 (by simp) y
  simp only [List.setIfInBounds_toArray, List.set_cons_zero, List.set_cons_succ] at q1
  have q2 : Blk ((W.setCell ⟨s + 1, 0, none⟩ x).setCell ⟨s + 1, 1, none⟩ y) (s + 2) #[c] 29 := by
    unfold Blk at h2 ⊢
    rw [sameMap_setCell (by omega), sameMap_setCell (by omega)]; exact h2
  have q3 := q2.set 0 (by simp) z
  simp only [List.setIfInBounds_toArray, List.set_cons_zero] at q3
  exact ⟨q1.other (B' := s + 2) (by omega) _, q3⟩
set_option maxRecDepth 100000 in
set_option maxHeartbeats 2000000 in
theorem Witness_any (t : CT) (a : Option Addr) (cap : Nat) (av : List Name) (w : World) (hG : G w) (ht : t.depth ≤ 1000) (hIn : t.In w w.heap.size) (hA : NRow w w.heap.size a av) (hal : av.length ≤ 1000) :
    Calls Tryz.prog 30 #[t.val, .slice a av.length cap] w fun e w' => e = .returned (.tuple #[(witN t av).val, .int .i64 (witR t av)]) ∧ Below w.heap.size w w' := by
  have hdd : ∀ k : Nat, (Fence.wide.depth.isSome = true → 1 ≤ k) := fun k h => by cases h
  have hmm := @run_makeMap Tryz.prog
  refine (callsIn_wide (n := 9)).1 ?_
  refine callsIn_of_wp_marks Tryz.func30 rfl trivial ?_ rfl
  simp only [Tryz.ntmps30, List.size_toArray, List.length_cons, List.length_nil, Nat.reduceAdd, Nat.reduceSub, Array.replicate_succ, Array.replicate_zero, List.push_toArray, List.append_toArray, List.nil_append, List.cons_append]
  obtain ⟨W0, hW0⟩ : ∃ W0, ((w.alloc (.cells t.cells.toArray 26)).alloc (.cells #[.string ⟨#[]⟩, .string ⟨#[]⟩] 23)).alloc (.cells #[.int .i64 0] 29) = W0 := ⟨_, rfl⟩
  have hb0 : Below w.heap.size w W0 := by rw [← hW0]; exact (((Below.refl _ w).alloc (Nat.le_refl _) _).alloc (by simp) _).alloc (by simp; omega) _
  obtain ⟨d0, d1, d2⟩ : Blk W0 w.heap.size t.cells.toArray 26 ∧ Blk W0 (w.heap.size + 1) #[.string ⟨#[]⟩, .string ⟨#[]⟩] 23 ∧ Blk W0 (w.heap.size + 2) #[.int .i64 0] 29 := by rw [← hW0]; exact blk_third _ _ _ _ _ _ _
  have hsz0 : W0.heap.size = w.heap.size + 3 := by rw [← hW0]; simp
  have hs0 : w.heap.size + 3 ≤ W0.heap.size := by omega
  have hin0 : t.In W0 W0.heap.size := (hIn.below hb0 (Nat.le_refl _)).mono hb0.size
  have hck := Check_any t ht W0 hin0
  rw [CT.cells_eq] at hW0
  obtain ⟨r, hr⟩ : ∃ r, t.check = r := ⟨_, rfl⟩
  rw [hr] at hck
  have Hr := Lib.hid hr
  clear hr hsz0
  rw [CT.val_eq] at hck ⊢
  obtain ⟨c0, c1, c2, c3, c4, c5⟩ := ct_cells d0
  gi_wp2
  refine ⟨trivial, (callsIn_wide.2 hck).mono ?_⟩
  clear hck hW0 c0 c1 c2 c3 c4 c5
  rintro e W1 ⟨rfl, hb1⟩
  simp only [Nat.add_assoc, Nat.reduceAdd]
  have hB1 : Below w.heap.size w W1 := hb0.trans (hb1.mono hb0.size)
  have hs1 := hb1.size
  have d0 := d0.kept (below_grown hb1) (by simp)
  have d1 := d1.kept (below_grown hb1) (by simp)
  have d2 := d2.kept (below_grown hb1) (by simp)
  by_cases h0 : r = 0
  · have H0 := Lib.hid (Hr.out.trans h0)
    clear Hr
    subst h0
    obtain ⟨W2, hW2⟩ : ∃ W2, (W1.alloc (.map #[] 0)).alloc (.cells #[.map (some W1.heap.size)] 71) = W2 := ⟨_, rfl⟩
    have hb2 : Below W1.heap.size W1 W2 := by rw [← hW2]; exact ((Below.refl _ _).alloc (Nat.le_refl _) _).alloc (by simp) _
    have hm2 : NMap W2 W1.heap.size 0 (mN (av.take 0)) := by
      rw [← hW2]
      exact BMap.alloc (BMap.ext (BMap.made (P := Tryz.prog) (k := 23) (e := 4) (lit := litN) (ok := Name.fit) W1) (fun _ _ => by simp [mN])) _
    have hx2 : Blk W2 (W1.heap.size + 1) #[.map (some W1.heap.size)] 71 := by
      rw [← hW2]
      have := Blk.new (W1.alloc (.map #[] 0)) #[.map (some W1.heap.size)] 71
      rw [World.size_alloc] at this; exact this
    have hs2 : W1.heap.size + 2 ≤ W2.heap.size := by have := hx2.lt; omega
    have HW2 := Lib.hid hW2
    clear hW2
    have hW : WSt t w W1.heap.size W2.heap.size av 0 W2 := ⟨hB1.trans (hb2.mono (by omega)), Nat.le_refl _, d0.kept (below_grown hb2) (by simp), d1.kept (below_grown hb2) (by simp), d2.kept (below_grown hb2) (by simp), hx2, hm2⟩
    clear d0 d1 d2 hx2 hm2
    gi_wp2
    rw [HW2.out]
    clear HW2
    refine wpIn_loop (fun a' w' => ∃ (k : Nat) (v9 v21 v22 v23 v24 v25 v26 : Value), k ≤ av.length ∧ WSt t w W1.heap.size W2.heap.size av k w' ∧ a' = { tmps := #[.agg #[.int .i64 t.kind, .string t.name.sp, .string t.name.lc, .string t.space, .slice t.ea t.ex.length t.ec, .slice t.aa t.ar.length t.ac], .slice a av.length cap, .pointer (some ⟨w.heap.size, 0, none⟩), undef, .pointer (some ⟨w.heap.size + 1, 0, none⟩), .pointer (some ⟨w.heap.size + 2, 0, none⟩), .int .i64 0, .pointer (some ⟨W1.heap.size + 1, 0, none⟩), undef, v9, undef, .agg #[.int .i64 t.kind, .string t.name.sp, .string t.name.lc, .string t.space, .slice t.ea t.ex.length t.ec, .slice t.aa t.ar.length t.ac], .int .i64 0, .int .i64 0, .bool false, undef, undef, .map (some W1.heap.size), .slice a av.length cap, .int .i64 (av.length : Int), .int .i64 (k : Int), v21, v22, v23, v24, v25, v26, undef, undef, undef, undef, undef, undef, undef, undef, undef, undef, undef, undef, undef, undef, undef, undef, undef], defers := [] }) (fun a' _ => av.length - (intOf (a'.tmps.getD 20 undef)).toNat) ?start ?round
    case start => exact ⟨0, undef, undef, undef, undef, undef, undef, undef, by omega, hW, rfl⟩
    case round =>
      rintro a' wr ⟨k, v9, v21, v22, v23, v24, v25, v26, hk, hS, rfl⟩
      by_cases hlt : k < av.length
      · obtain ⟨x, hx⟩ : ∃ x, av[k] = x := ⟨_, rfl⟩
        have hxf : x.fit := by rw [← hx]; exact hA.fit _ (List.getElem_mem hlt)
        obtain ⟨b, o, rfl, hbn, hcells⟩ := hA.cells (List.ne_nil_of_length_pos (by omega))
        have u0 := (hS.below.cell (p := ⟨b, o + k * 2, none⟩) hbn).trans (hcells k hlt).1
        have u1 := (hS.below.cell (p := ⟨b, o + k * 2 + 1, none⟩) hbn).trans (hcells k hlt).2
        rw [hx] at u0 u1
        have htk : av.take (k + 1) = av.take k ++ [x] := by rw [List.take_succ_eq_append_getElem hlt, hx]
        obtain ⟨W3, hW3⟩ : ∃ W3, wr.alloc (.cells #[.string x.sp, .string x.lc] 23) = W3 := ⟨_, rfl⟩
        have hS3 : WSt t w W1.heap.size W2.heap.size av k W3 := by rw [← hW3]; exact hS.alloc (by omega) _
        have bx : Blk W3 wr.heap.size #[.string x.sp, .string x.lc] 23 := by rw [← hW3]; exact Blk.new _ _ _
        obtain ⟨W4, hup, hm4, hg4⟩ := BMap.update keyEncN Tryz.underlying71 Tryz.underlying4 hS3.map (by unfold maxLen; omega) hxf true
        unfold Name.val at hup
        rw [mN_snoc, ← htk] at hm4
        have hS4 : WSt t w W1.heap.size W2.heap.size av (k + 1) W4 := hS3.grown (by omega) (by omega) hg4 hm4
        have m0 := hS3.var.cell 0
        have n0 := bx.cell 0
        have n1 := bx.cell 1
        simp only [List.getElem?_toArray, List.getElem?_cons_zero, List.getElem?_cons_succ] at m0 n0 n1
        have HS := Lib.hid hS4
        clear hm4 htk hx hS4 hcells
        gi_wp2
        have e3 : (k : Int) + 1 = ((k + 1 : Nat) : Int) := by omega
        rw [e3]
        refine ⟨⟨k + 1, ?_⟩, ?_⟩
        · exact ⟨_, _, _, _, _, _, _, by omega, HS.out, rfl⟩
        · simp [intOf]
          omega
      · obtain rfl : k = av.length := by omega
        have hnl : decide (av.length < av.length) = false := by simp
        obtain ⟨Wd, hWd⟩ : ∃ Wd, wr.drew = Wd := ⟨_, rfl⟩
        have hSd : WSt t w W1.heap.size W2.heap.size av av.length Wd := by rw [← hWd]; exact hS.below' ⟨rfl, rfl, rfl, Nat.le_refl _, fun _ _ => rfl⟩
        obtain ⟨W5, hW5⟩ : ∃ W5, Wd.alloc (.cells t.cells.toArray 26) = W5 := ⟨_, rfl⟩
        have hb5 : Below Wd.heap.size Wd W5 := by rw [← hW5]; exact (Below.refl _ _).alloc (Nat.le_refl _) _
        have hS5 := hSd.below' hb5
        have b5 : Blk W5 Wd.heap.size t.cells.toArray 26 := by rw [← hW5]; exact Blk.new _ _ _
        have hin5 : t.In W5 W5.heap.size := (hIn.below hS5.below (Nat.le_refl _)).mono hS5.below.size
        have hL5 : LIn W5 W5.heap.size (some ⟨Wd.heap.size, 0, none⟩) [t] := lin_row (b := Wd.heap.size) (by simpa using b5) b5.lt (by simp; unfold maxLen; omega) (by simpa using hin5)
        have hsm : (CT.partsL [t] 1).length ≤ 400000 := Nat.le_trans (parts_le (by simpa using H0.out)) (by simp)
        obtain ⟨P, hP⟩ : ∃ P, CT.partsL [t] 1 = P := ⟨_, rfl⟩
        have hmt := mentioned_h (some ⟨Wd.heap.size, 0, none⟩) 1 [t] W5 hL5 (by simpa using ht) (by omega)
        have hnf := nmsOf_fit hL5
        have hso := spsOf_ok hL5
        rw [hP] at hmt hnf hso hsm
        have hn1 := Nat.le_trans (nmsOf_len P) hsm
        have hn2 := Nat.le_trans (spsOf_len P) hsm
        obtain ⟨nms, hnms⟩ : ∃ x, nmsOf P = x := ⟨_, rfl⟩
        obtain ⟨sps, hsps⟩ : ∃ x, spsOf P = x := ⟨_, rfl⟩
        rw [hnms] at hmt hnf hn1
        rw [hsps] at hmt hso hn2
        have A2_def : ∃ A2 : World → Prop, A2 = fun W' => Below W5.heap.size W5 W' ∧ NMap W' (W5.heap.size + 1) 1000000 (mN nms) ∧ SMap W' (W5.heap.size + 2) 1000000 (mS sps) := ⟨_, rfl⟩
        obtain ⟨A2, hA2⟩ := A2_def
        have hmt2 : Calls Tryz.prog 65 #[.slice (some ⟨Wd.heap.size, 0, none⟩) 1 1] W5 fun e w' => e = .returned (.agg #[.map (some (W5.heap.size + 1)), .map (some (W5.heap.size + 2))]) ∧ A2 w' := by
          rw [hA2]; exact hmt.mono fun _ _ ⟨h1, h2⟩ => ⟨h1, h2.out⟩
        have hcells2 : ∀ W', A2 W' → W'.cell? ⟨W1.heap.size + 1, 0, none⟩ = some (.map (some W1.heap.size)) := by
          rw [hA2]; exact fun W' h => (hS5.below' h.1).var.cell 0
        have hcells1 : W5.cell? ⟨W1.heap.size + 1, 0, none⟩ = some (.map (some W1.heap.size)) := hS5.var.cell 0
        have hcells0 : Wd.cell? ⟨W1.heap.size + 1, 0, none⟩ = some (.map (some W1.heap.size)) := hSd.var.cell 0
        have A3_def : ∃ A3 : Value → World → Prop, A3 = fun v W' => ∃ W6, A2 W6 ∧ v = .func (.func 88) #[] #[.pointer (some ⟨W6.heap.size, 0, none⟩), .pointer (some ⟨W6.heap.size + 1, 0, none⟩)] ∧ W' = (W6.alloc (.cells #[.map (some (W5.heap.size + 1)), .map (some (W5.heap.size + 2))] 76)).alloc (.cells #[.map (some W1.heap.size)] 71) := ⟨_, rfl⟩
        obtain ⟨A3, hA3⟩ := A3_def
        have hca : ∀ W', A2 W' → Calls Tryz.prog 66 #[.agg #[.map (some (W5.heap.size + 1)), .map (some (W5.heap.size + 2))], .map (some W1.heap.size)] W' fun e w' => ∃ v, e = .returned v ∧ A3 v w' := by
          rw [hA3]; exact fun W' h => (candidates_any _ _ _ W').mono fun _ _ ⟨h1, h2⟩ => ⟨_, h1, W', h, rfl, h2⟩
        obtain ⟨c0, c1, c2, c3, c4, c5⟩ := ct_cells hSd.box
        have Hnf := Lib.hid hnf
        have Hso := Lib.hid hso
        have HP := Lib.hid hP
        have Hnms := Lib.hid hnms
        have Hsps := Lib.hid hsps
        rw [CT.cells_eq] at hW5
        clear hnms hsps hP hmt hnf hso hL5
        gi_wp2
        refine region_wide_inv (fun ls a' w' => ∃ (l0 l1 l2 l3 l4 : Bool) (t27 t28 t29 t30 t31 : Value), ls = [l0, l1, l2, l3, l4] ∧ a' = { tmps := #[.agg #[.int .i64 t.kind, .string t.name.sp, .string t.name.lc, .string t.space, .slice t.ea t.ex.length t.ec, .slice t.aa t.ar.length t.ac], .slice a av.length cap, .pointer (some ⟨w.heap.size, 0, none⟩), undef, .pointer (some ⟨w.heap.size + 1, 0, none⟩), .pointer (some ⟨w.heap.size + 2, 0, none⟩), .int .i64 0, .pointer (some ⟨W1.heap.size + 1, 0, none⟩), undef, v9, undef, .agg #[.int .i64 t.kind, .string t.name.sp, .string t.name.lc, .string t.space, .slice t.ea t.ex.length t.ec, .slice t.aa t.ar.length t.ac], .int .i64 0, .int .i64 0, .bool false, undef, undef, .map (some W1.heap.size), .slice a av.length cap, .int .i64 (av.length : Int), .int .i64 (av.length : Int), .bool false, v22, v23, v24, v25, v26, t27, t28, t29, t30, t31, undef, undef, undef, undef, undef, undef, undef, undef, undef, undef, undef, undef], defers := [] } ∧ (l0 = true → t27 = .agg #[.int .i64 t.kind, .string t.name.sp, .string t.name.lc, .string t.space, .slice t.ea t.ex.length t.ec, .slice t.aa t.ar.length t.ac]) ∧ (l1 = true → t28 = .slice (some ⟨Wd.heap.size, 0, none⟩) 1 1) ∧ (l2 = true → t29 = .agg #[.map (some (W5.heap.size + 1)), .map (some (W5.heap.size + 2))]) ∧ (l3 = true → t30 = .map (some W1.heap.size)) ∧ (l1 = false → w' = Wd) ∧ (l1 = true → l2 = false → w' = W5) ∧ (l2 = true → l4 = false → A2 w') ∧ (l4 = true → A3 t31 w')) (by kernel_rfl) (by kernel_rfl) ?rlen ?rdone ?rh0 ?rstep
        case rlen => rintro ls a' w' ⟨l0, l1, l2, l3, l4, t27, t28, t29, t30, t31, rfl, _⟩; rfl
        case rh0 => exact ⟨false, false, false, false, false, undef, undef, undef, undef, undef, rfl, rfl, by simp, by simp, by simp, by simp, fun _ => hWd, by simp, by simp, by simp⟩
        case rstep =>
          rintro i oo ho ls a' w' ⟨l0, l1, l2, l3, l4, t27, t28, t29, t30, t31, rfl, rfl, h27, h28, h29, h30, B0, B1, B2, B3⟩ hcl hu hd K hK
          rcases i with _ | _ | _ | _ | _ | i <;> simp only [List.getElem?_cons_zero, List.getElem?_cons_succ, List.getElem?_nil, Option.some.injEq, reduceCtorEq] at ho
          all_goals subst ho
          · have hu : l0 = false := hu
            have e1 : l1 = false := Bool.eq_false_iff.2 fun e => by have h : l0 = true := hcl 1 _ rfl e 0 (by decide +kernel); rw [hu] at h; cases h
            have e2 : l2 = false := Bool.eq_false_iff.2 fun e => by have h : l1 = true := hcl 2 _ rfl e 1 (by decide +kernel); rw [e1] at h; cases h
            have e4 : l4 = false := Bool.eq_false_iff.2 fun e => by have h : l2 = true := hcl 4 _ rfl e 2 (by decide +kernel); rw [e2] at h; cases h
            have y := B0 e1
            subst y e1 e2 e4
            clear hcl
            go_simp
            refine hK _ _ ⟨true, false, false, l3, false, _, t28, t29, t30, t31, rfl, rfl, fun _ => rfl, by simp, by simp, h30, fun _ => rfl, by simp, by simp, by simp⟩
          · have hu : l1 = false := hu
            have e2 : l2 = false := Bool.eq_false_iff.2 fun e => by have h : l1 = true := hcl 2 _ rfl e 1 (by decide +kernel); rw [hu] at h; cases h
            have e4 : l4 = false := Bool.eq_false_iff.2 fun e => by have h : l2 = true := hcl 4 _ rfl e 2 (by decide +kernel); rw [e2] at h; cases h
            have y := B0 hu
            have y27 := h27 (hd 0 (by decide +kernel))
            subst y hu e2 e4 y27
            clear hcl
            go_simp
            refine hK _ _ ⟨l0, true, false, l3, false, _, _, t29, t30, t31, rfl, rfl, fun _ => rfl, fun _ => rfl, by simp, h30, by simp, fun _ _ => rfl, by simp, by simp⟩
          · have hu : l2 = false := hu
            have e4 : l4 = false := Bool.eq_false_iff.2 fun e => by have h : l2 = true := hcl 4 _ rfl e 2 (by decide +kernel); rw [hu] at h; cases h
            have y1 : l1 = true := hd 1 (by decide +kernel)
            have y := B1 y1 hu
            have y28 := h28 y1
            subst y hu e4 y28 y1
            clear hcl
            go_simp
            refine ⟨trivial, (callsIn_wide.2 hmt2).mono ?_⟩
            rintro e w4 ⟨rfl, hA⟩
            refine hK _ _ ⟨l0, true, true, l3, false, t27, _, _, t30, t31, rfl, rfl, h27, fun _ => rfl, fun _ => rfl, h30, by simp, by simp, fun _ _ => hA, by simp⟩
          · have hu : l3 = false := hu
            have e4 : l4 = false := Bool.eq_false_iff.2 fun e => by have h : l3 = true := hcl 4 _ rfl e 3 (by decide +kernel); rw [hu] at h; cases h
            have hc : w'.cell? ⟨W1.heap.size + 1, 0, none⟩ = some (.map (some W1.heap.size)) := by
              cases l2
              · cases l1
                · rw [B0 rfl]; exact hcells0
                · rw [B1 rfl rfl]; exact hcells1
              · exact hcells2 _ (B2 rfl e4)
            clear hcl hcells0 hcells1 hcells2
            subst e4
            go_simp
            refine hK _ _ ⟨l0, l1, l2, true, false, t27, t28, t29, _, t31, rfl, rfl, h27, h28, h29, fun _ => rfl, B0, B1, B2, by simp⟩
          · have hu : l4 = false := hu
            have y2 : l2 = true := hd 2 (by decide +kernel)
            have y3 : l3 = true := hd 3 (by decide +kernel)
            have hA := B2 y2 hu
            have y29 := h29 y2
            have y30 := h30 y3
            have y1 : l1 = true := hcl 2 _ rfl y2 1 (by decide +kernel)
            have y0 : l0 = true := hcl 1 _ rfl y1 0 (by decide +kernel)
            subst hu y29 y30 y0 y1 y2 y3
            clear hcl
            go_simp
            refine ⟨trivial, (callsIn_wide.2 (hca _ hA)).mono ?_⟩
            rintro e w4 ⟨v, rfl, hA'⟩
            refine hK _ _ ⟨true, true, true, true, true, _, _, _, _, _, rfl, rfl, fun _ => rfl, fun _ => rfl, fun _ => rfl, fun _ => rfl, by simp, by simp, by simp, fun _ => hA'⟩
        case rdone =>
          rintro ls a' w' ⟨l0, l1, l2, l3, l4, t27, t28, t29, t30, t31, rfl, rfl, h27, h28, h29, h30, B0, B1, B2, B3⟩ hl
          have y0 : l0 = true := hl 0
          have y1 : l1 = true := hl 1
          have y2 : l2 = true := hl 2
          have y3 : l3 = true := hl 3
          have y4 : l4 = true := hl 4
          have y27 := h27 y0
          have y28 := h28 y1
          have y29 := h29 y2
          have y30 := h30 y3
          have hB := B3 y4
          rw [hA3, hA2] at hB
          obtain ⟨W6, ⟨hb6, hm1, hm2⟩, y31, hW7⟩ := hB
          subst y27 y28 y29 y30 y31
          clear h27 h28 h29 h30 B0 B1 B2 B3 hl y0 y1 y2 y3 y4 hcells0 hcells1 hcells2 hca hmt2 hA2 hA3 hWd hW5
          have hb7 : Below W6.heap.size W6 w' := by rw [hW7]; exact ((Below.refl _ _).alloc (Nat.le_refl _) _).alloc (by simp) _
          have hS6 := hS5.below' hb6
          have hS7 := hS6.below' hb7
          have hs5 := hb5.size
          have hs6 := hb6.size
          have hs7 : w'.heap.size = W6.heap.size + 2 := by rw [hW7]; simp
          have hsd := hSd.size
          have hC7 : Cs W6.heap.size (W6.heap.size + 1) (W5.heap.size + 1) (W5.heap.size + 2) (some W1.heap.size) nms sps av w' := by
            refine ⟨hG.later hS7.below, ?_, ?_, BMap.kept hm1 (below_grown hb7) (by simp), BMap.kept hm2 (below_grown hb7) (by simp), ⟨_, by have := hS7.map; rw [List.take_length] at this; exact this⟩⟩
            · rw [hW7]; exact (Blk.new _ _ _).alloc _
            · rw [hW7]
              have := Blk.new (W6.alloc (.cells #[.map (some (W5.heap.size + 1)), .map (some (W5.heap.size + 2))] 76)) #[.map (some W1.heap.size)] 71
              rw [World.size_alloc] at this; exact this
          clear hW7 hm1 hm2
          obtain ⟨C, hC⟩ : ∃ C, C = candL nms av sps := ⟨_, rfl⟩
          have HC : Hid (C = candsOf [t] av) := Lib.hid (by rw [hC]; unfold candsOf; rw [HP.out, Hnms.out, Hsps.out])
          have hCf : ∀ x ∈ C, x.fit := by rw [hC]; exact candL_fit (by omega) (by omega) Hnf.out Hso.out
          have hst := cand_stops 8 W6.heap.size (W6.heap.size + 1) (W5.heap.size + 1) (W5.heap.size + 2) w'.heap.size (some W1.heap.size) nms av sps (by omega) (by omega) Hnf.out Hso.out C hC w' (Nat.le_refl _) hC7
          obtain ⟨gd, hgd⟩ : ∃ gd : Name → Bool, gd = fun n => t.holds n && !decide (n ∈ av) := ⟨_, rfl⟩
          gi_wp2
          refine wpIn_rangeFunc_ownH rfl (by omega) (gf := 88) (lb := #[.pointer (some ⟨W6.heap.size, 0, none⟩), .pointer (some ⟨W6.heap.size + 1, 0, none⟩)]) rfl trivial (enters_of Tryz.func88 (by kernel_rfl) rfl)
            hst (fun h k => h.trans k) (kpC_b hC7 (Nat.le_refl _)) (Below.refl _ _) (fun _ => rfl)
            (fun (pre : List (CN C)) W => (WSt t w W1.heap.size W2.heap.size av av.length W ∧ ∀ y ∈ pre, gd y.1 = false) ∧ w'.heap.size ≤ W.heap.size)
            (fun c (pre : List (CN C)) W => (c = .ret ∧ ∃ (p : List (CN C)) (x : CN C), pre = p ++ [x] ∧ (∀ y ∈ p, gd y.1 = false) ∧ gd x.1 = true ∧ WEnd w x.1 W) ∧ w'.heap.size ≤ W.heap.size)
            (OwnFrom.and (fun _ _ _ _ hs hg hr => ⟨hs.1.kept (B := w'.heap.size) (by omega) (by omega) hg (fun r e => (hr r e).1), hs.2⟩) (fun _ _ _ _ hs hg _ => Nat.le_trans hs hg.size))
            (fun c => OwnFrom.and (fun _ _ _ _ hs hg hr => by obtain ⟨hc, p, x, h1, h2, h3, h4⟩ := hs; exact ⟨hc, p, x, h1, h2, h3, h4.kept (B := w'.heap.size) (by omega) hg (fun r e => (hr r e).1)⟩) (fun _ _ _ _ hs hg _ => Nat.le_trans hs hg.size))
            ⟨⟨hS7, by simp⟩, Nat.le_refl _⟩
            (fun x a' W => ∃ Bx, w'.heap.size ≤ Bx ∧ Blk W Bx #[.string x.1.sp, .string x.1.lc] 23 ∧ a' = { tmps := #[.agg #[.int .i64 t.kind, .string t.name.sp, .string t.name.lc, .string t.space, .slice t.ea t.ex.length t.ec, .slice t.aa t.ar.length t.ac], .slice a av.length cap, .pointer (some ⟨w.heap.size, 0, none⟩), undef, .pointer (some ⟨w.heap.size + 1, 0, none⟩), .pointer (some ⟨w.heap.size + 2, 0, none⟩), .int .i64 0, .pointer (some ⟨W1.heap.size + 1, 0, none⟩), undef, v9, .pointer (some ⟨Bx, 0, none⟩), .agg #[.int .i64 t.kind, .string t.name.sp, .string t.name.lc, .string t.space, .slice t.ea t.ex.length t.ec, .slice t.aa t.ar.length t.ac], .int .i64 0, .int .i64 0, .bool false, undef, undef, .map (some W1.heap.size), .slice a av.length cap, .int .i64 (av.length : Int), .int .i64 (av.length : Int), .bool false, v22, v23, v24, v25, v26, .agg #[.int .i64 t.kind, .string t.name.sp, .string t.name.lc, .string t.space, .slice t.ea t.ex.length t.ec, .slice t.aa t.ar.length t.ac], .slice (some ⟨Wd.heap.size, 0, none⟩) 1 1, .agg #[.map (some (W5.heap.size + 1)), .map (some (W5.heap.size + 2))], .map (some W1.heap.size), .func (.func 88) #[] #[.pointer (some ⟨W6.heap.size, 0, none⟩), .pointer (some ⟨W6.heap.size + 1, 0, none⟩)], .agg #[.string x.1.sp, .string x.1.lc], undef, undef, undef, undef, undef, undef, undef, undef, undef, undef, undef], defers := [] })
            (fun x a' => Own.from (fun _ A B row hs hg hr => by obtain ⟨Bx, h1, h2, h3⟩ := hs; exact ⟨Bx, h1, blk_own _ _ (fun _ : Unit => #[.string x.1.sp, .string x.1.lc]) () A B row h2 hg hr, h3⟩) _) ?assign ?body ?done ?stop
          case assign =>
            rintro l pre x W K ⟨⟨hS, hno⟩, hN⟩ hK
            simp only [encCN, encCd, Name.val]
            gi_wp2
            have hbx : Below W.heap.size W (W.alloc (.cells #[.string x.1.sp, .string x.1.lc] 23)) := (Below.refl _ _).alloc (Nat.le_refl _) _
            exact hK _ _ ((KeepsOthers.alloc _ _).from _) (KpC.of_below (Nat.le_trans hC7.g.2 hN) (fun k hk => Nat.lt_of_lt_of_le (hC7.lt k hk) hN) hbx) ⟨⟨hS.below' hbx, hno⟩, by simp; omega⟩ ⟨W.heap.size, hN, Blk.new _ _ _, rfl⟩
          case body =>
            rintro l pre x a' W hl ⟨r', hr'⟩ ⟨⟨hS, hno⟩, hN⟩ ⟨Bx, hBx, bx, rfl⟩ hlt
            have hws := hS.below.size
            have hh := holds_any t x.1 W ((hIn.below hS.below (Nat.le_refl _)).mono hws)
            obtain ⟨v, hv⟩ : ∃ v, t.holds x.1 = v := ⟨_, rfl⟩
            rw [hv, CT.val_eq] at hh
            unfold Name.val at hh
            have Hv := Lib.hid hv
            clear hv
            have hxf := hCf x.1 x.2
            have Hno := Lib.hid hno
            clear hno
            obtain ⟨c0, c1, c2, c3, c4, c5⟩ := ct_cells hS.box
            have n0 := bx.cell 0
            have n1 := bx.cell 1
            simp only [List.getElem?_toArray, List.getElem?_cons_zero, List.getElem?_cons_succ] at n0 n1
            gi_wp2
            refine ⟨trivial, (CallsIn.inRound l (callsIn_wide.2 hh)).mono ?_⟩
            clear hh c0 c1 c2 c3 c4 c5 n0 n1
            rintro e w4 ⟨rfl, hb4⟩
            have hS4 := hS.below' hb4
            have bx4 := bx.kept (below_grown hb4) (by simp)
            have hs4 := hb4.size
            have hend4 : KeepsFrom w'.heap.size W w4 ∧ KpC (csK W6.heap.size (W6.heap.size + 1) (W5.heap.size + 1) (W5.heap.size + 2) (some W1.heap.size)) w'.heap.size W w4 := ⟨(keepsOthers_below hb4).from _, KpC.of_below (Nat.le_trans hC7.g.2 hN) (fun k hk => Nat.lt_of_lt_of_le (hC7.lt k hk) hN) hb4⟩
            cases v
            · have Hend : Hid (KeepsFrom w'.heap.size W w4 ∧ KpC (csK W6.heap.size (W6.heap.size + 1) (W5.heap.size + 1) (W5.heap.size + 2) (some W1.heap.size)) w'.heap.size W w4 ∧ (WSt t w W1.heap.size W2.heap.size av av.length w4 ∧ ∀ y ∈ pre ++ [x], gd y.1 = false) ∧ w'.heap.size ≤ w4.heap.size) := Lib.hid ⟨hend4.1, hend4.2, ⟨hS4, fun y hy => by
                rcases List.mem_append.1 hy with hy | hy
                · exact Hno.out y hy
                · rw [List.mem_singleton.1 hy, hgd]; simp [Hv.out]⟩, by omega⟩
              clear hend4
              gi_wp2
              exact Hend.out
            · have r1 := look_n hS4.map x.1 hxf
              rw [List.take_length] at r1
              have m0 := hS4.var.cell 0
              have n0 := bx4.cell 0
              have n1 := bx4.cell 1
              simp only [List.getElem?_toArray, List.getElem?_cons_zero, List.getElem?_cons_succ] at m0 n0 n1
              by_cases hm : x.1 ∈ av
              · rw [decide_eq_true hm] at r1
                have Hend : Hid (KeepsFrom w'.heap.size W w4 ∧ KpC (csK W6.heap.size (W6.heap.size + 1) (W5.heap.size + 1) (W5.heap.size + 2) (some W1.heap.size)) w'.heap.size W w4 ∧ (WSt t w W1.heap.size W2.heap.size av av.length w4 ∧ ∀ y ∈ pre ++ [x], gd y.1 = false) ∧ w'.heap.size ≤ w4.heap.size) := Lib.hid ⟨hend4.1, hend4.2, ⟨hS4, fun y hy => by
                  rcases List.mem_append.1 hy with hy | hy
                  · exact Hno.out y hy
                  · rw [List.mem_singleton.1 hy, hgd]; simp [hm]⟩, by omega⟩
                clear hend4 hm
                gi_wp2
                exact Hend.out
              · rw [decide_eq_false hm] at r1
                have Hgd : Hid (gd x.1 = true) := Lib.hid (by rw [hgd]; simp [Hv.out, hm])
                have g10 := hS4.res.cell 0
                have g11 := hS4.res.cell 1
                have g20 := hS4.err.cell 0
                have f10 := hS4.res.frozen 0
                have f11 := hS4.res.frozen 1
                have f20 := hS4.err.frozen 0
                simp only [List.getElem?_toArray, List.getElem?_cons_zero, List.getElem?_cons_succ] at g10 g11 g20
                obtain ⟨W8, hW8⟩ : ∃ W8, ((w4.setCell ⟨w.heap.size + 1, 0, none⟩ (.string x.1.sp)).setCell ⟨w.heap.size + 1, 1, none⟩ (.string x.1.lc)).setCell ⟨w.heap.size + 2, 0, none⟩ (.int .i64 0) = W8 := ⟨_, rfl⟩
                have hE : WEnd w x.1 W8 := by
                  rw [← hW8]
                  have q1 := (hS4.res.set 0 (by simp) (.string x.1.sp)).set 1 (by simp) (.string x.1.lc)
                  simp only [List.setIfInBounds_toArray, List.set_cons_zero, List.set_cons_succ] at q1
                  have q2 : Blk ((w4.setCell ⟨w.heap.size + 1, 0, none⟩ (.string x.1.sp)).setCell ⟨w.heap.size + 1, 1, none⟩ (.string x.1.lc)) (w.heap.size + 2) #[.int .i64 0] 29 := by
                    have := hS4.err
                    unfold Blk at this ⊢
                    rw [sameMap_setCell (by omega), sameMap_setCell (by omega)]; exact this
                  have q3 := q2.set 0 (by simp) (.int .i64 0)
                  simp only [List.setIfInBounds_toArray, List.set_cons_zero] at q3
                  exact ⟨((hS4.below.setCell (p := ⟨w.heap.size + 1, 0, none⟩) (by simp) _).setCell (p := ⟨w.heap.size + 1, 1, none⟩) (by simp) _).setCell (p := ⟨w.heap.size + 2, 0, none⟩) (by simp) _, q1.other (B' := w.heap.size + 2) (by omega) _, q3⟩
                have hsz8 : W8.heap.size = w4.heap.size := by rw [← hW8]; simp
                have Hend : Hid (KeepsFrom w'.heap.size W W8 ∧ (∃ (p : List (CN C)) (x' : CN C), pre ++ [x] = p ++ [x'] ∧ (∀ y ∈ p, gd y.1 = false) ∧ gd x'.1 = true ∧ WEnd w x'.1 W8) ∧ w'.heap.size ≤ W8.heap.size) := Lib.hid ⟨hend4.1.trans (by rw [← hW8]; exact (((KeepsOthers.setCell _ _ _).trans (KeepsOthers.setCell _ _ _)).trans (KeepsOthers.setCell _ _ _)).from _), ⟨pre, x, rfl, Hno.out, Hgd.out, hE⟩, by omega⟩
                have HW8 := Lib.hid hW8
                clear hend4 hE hW8 hm hsz8
                gi_wp2
                rw [HW8.out]
                exact ⟨Hend.out.1, ⟨rfl, Hend.out.2.1⟩, Hend.out.2.2⟩
          case done =>
            rintro D ys W hD hys ⟨⟨hS, hno⟩, hN⟩ hK
            have Hno : Hid (witC t av = none) := Lib.hid (by
              unfold witC
              rw [← HC.out, ← hys, List.find?_eq_none]
              intro y hy
              obtain ⟨z, hz, rfl⟩ := List.mem_map.1 hy
              have := hno z hz
              rw [hgd] at this
              simpa using this)
            clear hno hys
            have g10 := hS.res.cell 0
            have g11 := hS.res.cell 1
            have g20 := hS.err.cell 0
            have f10 := hS.res.frozen 0
            have f11 := hS.res.frozen 1
            have f20 := hS.err.frozen 0
            simp only [List.getElem?_toArray, List.getElem?_cons_zero, List.getElem?_cons_succ] at g10 g11 g20
            gi_wp2
            obtain ⟨q1, q2⟩ := wit_set hS.res hS.err (.string ⟨#[]⟩) (.string ⟨#[]⟩) (.int .i64 4)
            have hbW := ((hS.below.setCell (p := ⟨w.heap.size + 1, 0, none⟩) (by simp) (.string ⟨#[]⟩)).setCell (p := ⟨w.heap.size + 1, 1, none⟩) (by simp) (.string ⟨#[]⟩)).setCell (p := ⟨w.heap.size + 2, 0, none⟩) (by simp) (.int .i64 4)
            have hK' : (((W.setCell ⟨w.heap.size + 1, 0, none⟩ (.string ⟨#[]⟩)).setCell ⟨w.heap.size + 1, 1, none⟩ (.string ⟨#[]⟩)).setCell ⟨w.heap.size + 2, 0, none⟩ (.int .i64 4)).heap[D]? = some (.deferred (some [])) := by
              rw [sameMap_setCell (by omega), sameMap_setCell (by omega), sameMap_setCell (by omega)]; exact hK
            generalize ((W.setCell ⟨w.heap.size + 1, 0, none⟩ (.string ⟨#[]⟩)).setCell ⟨w.heap.size + 1, 1, none⟩ (.string ⟨#[]⟩)).setCell ⟨w.heap.size + 2, 0, none⟩ (.int .i64 4) = W8 at q1 q2 hbW hK' ⊢
            refine ⟨by simp, .inl ⟨_, _, rfl, run_takeDeferred hK', ?_⟩⟩
            have z1 : Blk (W8.putObj D (.deferred none)) (w.heap.size + 1) #[.string ⟨#[]⟩, .string ⟨#[]⟩] 23 := (World.putObj_heap_other (by omega)).trans q1
            have z2 : Blk (W8.putObj D (.deferred none)) (w.heap.size + 2) #[.int .i64 4] 29 := (World.putObj_heap_other (by omega)).trans q2
            have y0 := z1.cell 0
            have y1 := z1.cell 1
            have y2 := z2.cell 0
            simp only [List.getElem?_toArray, List.getElem?_cons_zero, List.getElem?_cons_succ] at y0 y1 y2
            refine ⟨.tuple #[.agg #[.string ⟨#[]⟩, .string ⟨#[]⟩], .int .i64 4], by simp [results, Tryz.f30, go_sem, y0, y1, y2], ?_, hbW.trans (belowK_b (w := w) (Nat.le_refl _) _ D _ _ (by omega) hK' rfl rfl)⟩
            rw [witN, witR, if_pos H0.out, if_pos H0.out, Hno.out]; rfl
          case stop =>
            rintro D c pre W hD hpre ⟨⟨rfl, p, x, rfl, hp, hx, hE⟩, hN⟩ hK
            have Hfd : Hid (witC t av = some x.1) := Lib.hid (by
              unfold witC
              rw [← HC.out]
              refine find_first (pre := cvals p) (by simpa [cvals] using hpre) (fun y hy => ?_) ?_
              · obtain ⟨z, hz, rfl⟩ := List.mem_map.1 hy
                have := hp z hz
                rw [hgd] at this; exact this
              · rw [hgd] at hx; exact hx)
            clear hpre hp hx
            gi_wp2
            have hbW := hE.below
            refine ⟨by simp, .inl ⟨_, _, rfl, run_takeDeferred hK, ?_⟩⟩
            have z1 : Blk (W.putObj D (.deferred none)) (w.heap.size + 1) #[.string x.1.sp, .string x.1.lc] 23 := (World.putObj_heap_other (by omega)).trans hE.res
            have z2 : Blk (W.putObj D (.deferred none)) (w.heap.size + 2) #[.int .i64 0] 29 := (World.putObj_heap_other (by omega)).trans hE.err
            have y0 := z1.cell 0
            have y1 := z1.cell 1
            have y2 := z2.cell 0
            simp only [List.getElem?_toArray, List.getElem?_cons_zero, List.getElem?_cons_succ] at y0 y1 y2
            refine ⟨.tuple #[.agg #[.string x.1.sp, .string x.1.lc], .int .i64 0], by simp [results, Tryz.f30, go_sem, y0, y1, y2], ?_, hbW.trans (belowK_b (w := w) (Nat.le_refl _) _ D _ _ (by omega) hK rfl rfl)⟩
            rw [witN, witR, if_pos H0.out, if_pos H0.out, Hfd.out]; rfl
  · have H0 := Lib.hid h0
    have hne : (r == 0) = false := by simpa using h0
    have f10 := d1.frozen 0
    have f11 := d1.frozen 1
    have f20 := d2.frozen 0
    have g10 := d1.cell 0
    have g11 := d1.cell 1
    have g20 := d2.cell 0
    simp only [List.getElem?_toArray, List.getElem?_cons_zero, List.getElem?_cons_succ] at g10 g11 g20
    have q1 := (d1.set 0 (by simp) (.string ⟨#[]⟩)).set 1 (by simp) (.string ⟨#[]⟩)
    simp only [List.setIfInBounds_toArray, List.set_cons_zero, List.set_cons_succ] at q1
    clear h0
    gi_wp2
    have hk : ∀ b, b ≠ w.heap.size + 1 → ((W1.setCell ⟨w.heap.size + 1, 0, none⟩ (.string ⟨#[]⟩)).setCell ⟨w.heap.size + 1, 1, none⟩ (.string ⟨#[]⟩)).heap[b]? = W1.heap[b]? := fun b hb => by rw [sameMap_setCell hb, sameMap_setCell hb]
    have q2 : Blk ((W1.setCell ⟨w.heap.size + 1, 0, none⟩ (.string ⟨#[]⟩)).setCell ⟨w.heap.size + 1, 1, none⟩ (.string ⟨#[]⟩)) (w.heap.size + 2) #[.int .i64 0] 29 := (hk _ (by omega)).trans d2
    have q3 := q2.set 0 (by simp) (.int .i64 r)
    simp only [List.setIfInBounds_toArray, List.set_cons_zero] at q3
    have q4 := q1.other (B' := w.heap.size + 2) (by omega) (.int .i64 r)
    have z0 := q4.cell 0
    have z1 := q4.cell 1
    have z2 := q3.cell 0
    simp only [List.getElem?_toArray, List.getElem?_cons_zero, List.getElem?_cons_succ] at z0 z1 z2
    refine ⟨.tuple #[.agg #[.string ⟨#[]⟩, .string ⟨#[]⟩], .int .i64 r], by simp [results, Tryz.f30, go_sem, z0, z1, z2], ?_, ((hB1.setCell (p := ⟨w.heap.size + 1, 0, none⟩) (by simp) _).setCell (p := ⟨w.heap.size + 1, 1, none⟩) (by simp) _).setCell (p := ⟨w.heap.size + 2, 0, none⟩) (by simp) _⟩
    rw [witN, witR, if_neg (by rw [Hr.out]; exact H0.out), if_neg (by rw [Hr.out]; exact H0.out), Hr.out]; rfl
end Np
end Go.Proofs.YtohlhihhadbphaaGreatDoor
