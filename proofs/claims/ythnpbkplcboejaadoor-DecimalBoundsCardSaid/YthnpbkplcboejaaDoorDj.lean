/- Decimal: a region by an invariant; sort.Search; over's closure. -/
import Derived.Test.YthnpbkplcboejaaDoorDh
import Derived.Deep.LoopGhost
import Derived.Deep.MidRow
set_option linter.unusedSimpArgs false
set_option linter.unusedVariables false
namespace Go.Proofs.YthnpbkplcboejaaDoor
open Go.RowKit Go.Shelf
namespace Dc
theorem count_set_true : ∀ (l : List Bool) (i : Nat), l.getD i true = false → (l.set i true).count false + 1 = l.count false
  | [], i, h => by simp at h
  | b :: r, 0, h => by
    have : b = false := by simpa using h
    subst this
    simp
  | b :: r, i + 1, h => by
    have := count_set_true r i (by simpa using h)
    simp only [List.set_cons_succ, List.count_cons]
    omega
/-- Behind which operations this one comes. -/
def depsOf (md : Region.Mode) (o : Oper) : List Nat := (o.after.toList.filter (Region.binds md)).map (·.on)
def acyc (md : Region.Mode) (os : List Oper) : Bool := (List.range os.length).all fun i => match os[i]? with | some o => (depsOf md o).all fun j => decide (j < i) | none => true
theorem ready_deps {md : Region.Mode} {os : List Oper} {l : List Bool} {i : Nat} : i ∈ Region.ready md os.toArray l.toArray ↔ l.getD i true = false ∧ ∃ o, os[i]? = some o ∧ ∀ j ∈ depsOf md o, l.getD j false = true := by
  rw [mem_ready]
  have e : ∀ (i : Nat) (b : Bool), l.toArray.getD i b = l.getD i b := fun i b => by simp [Array.getD, List.getD]; split <;> simp_all
  rw [e]
  refine and_congr Iff.rfl ?_
  constructor
  · rintro ⟨o, ho, h⟩
    refine ⟨o, by simpa using ho, fun j hj => ?_⟩
    simp only [depsOf, List.mem_map, List.mem_filter] at hj
    obtain ⟨x, ⟨hx, hb⟩, rfl⟩ := hj
    rw [← e]; exact h x (by simpa using hx) hb
  · rintro ⟨o, ho, h⟩
    refine ⟨o, by simpa using ho, fun x hx hb => ?_⟩
    rw [e]; exact h _ (by simp only [depsOf, List.mem_map, List.mem_filter]; exact ⟨x, ⟨by simpa using hx, hb⟩, rfl⟩)
theorem all_listed {md : Region.Mode} {os : List Oper} {l : List Bool} (hac : acyc md os = true) (hl : l.length = os.length) (hr : Region.ready md os.toArray l.toArray = []) : ∀ i, l.getD i true = true := by
  intro i
  induction i using Nat.strongRecOn with
  | _ i ih =>
    rcases Nat.lt_or_ge i os.length with hi | hi
    · cases hv : l.getD i true with
      | true => rfl
      | false =>
        have ho : os[i]? = some os[i] := List.getElem?_eq_getElem hi
        have h1 : i ∈ Region.ready md os.toArray l.toArray := ready_deps.2 ⟨hv, _, ho, fun j hj => by
          unfold acyc at hac
          rw [List.all_eq_true] at hac
          have h2 := hac i (List.mem_range.2 hi)
          rw [ho] at h2
          have h3 := of_decide_eq_true (List.all_eq_true.1 h2 j hj)
          have h4 := ih j h3
          have hj' : j < l.length := by omega
          simpa [List.getD, List.getElem?_eq_getElem hj'] using h4⟩
        rw [hr] at h1; cases h1
    · simp [List.getD, List.getElem?_eq_none (show l.length ≤ i by omega)]
/-- What comes before a listed operation is listed. -/
def Closed (md : Region.Mode) (os : List Oper) (l : List Bool) : Prop := ∀ i o, os[i]? = some o → l.getD i false = true → ∀ j ∈ depsOf md o, l.getD j false = true
theorem getD_set_true {l : List Bool} {i k : Nat} (h : l.getD k false = true) : (l.set i true).getD k false = true := by
  simp only [List.getD, List.getElem?_set] at h ⊢
  split
  · split <;> simp_all
  · exact h
theorem Closed.set {md : Region.Mode} {os : List Oper} {l : List Bool} (h : Closed md os l) {i : Nat} {o : Oper} (ho : os[i]? = some o) (hd : ∀ j ∈ depsOf md o, l.getD j false = true) : Closed md os (l.set i true) := by
  intro k ok hk hl j hj
  refine getD_set_true ?_
  by_cases e : i = k
  · subst e
    rw [ho] at hk; injection hk with hk; subst hk
    exact hd j hj
  · refine h k ok hk ?_ j hj
    simpa [List.getD, List.getElem?_set, e] using hl
theorem Closed.start {md : Region.Mode} {os : List Oper} (n : Nat) : Closed md os (List.replicate n false) := by
  intro i o _ h
  simp only [List.getD, List.getElem?_replicate] at h
  split at h <;> simp at h
theorem wpAny_inv {P : Program} {md : Region.Mode} {os : List Oper} {Q : Exit → Act → World → Prop} (I : List Bool → Act → World → Prop) (hac : acyc md os = true)
    (hlen : ∀ l a w, I l a w → l.length = os.length)
    (hdone : ∀ l a w, I l a w → (∀ i, l.getD i true = true) → Q .normal a w)
    (hstep : ∀ i o, os[i]? = some o → ∀ l a w, I l a w → Closed md os l → l.getD i true = false → (∀ j ∈ depsOf md o, l.getD j false = true) → ∀ K : Act → World → Prop, (∀ a' w', I (l.set i true) a' w' → K a' w') →
      if Region.wanted o (yielded os.toArray a.tmps) = true then Oper.wp P o a w K Q else K (a.put o.dst undef) w) :
    ∀ (fuel : Nat) (l : List Bool) (a : Act) (w : World), I l a w → Closed md os l → l.count false ≤ fuel → wpAny P md os.toArray Q fuel l.toArray a w
  | 0, l, a, w, h, _, hc => by
    have hr : Region.ready md os.toArray l.toArray = [] := by
      cases e : Region.ready md os.toArray l.toArray with
      | nil => rfl
      | cons i r =>
        have hi : i ∈ Region.ready md os.toArray l.toArray := by rw [e]; simp
        have := count_set_true l i (ready_deps.1 hi).1
        omega
    exact ⟨hr, hdone _ _ _ h (all_listed hac (hlen _ _ _ h) hr)⟩
  | fuel + 1, l, a, w, h, hcl, hc => ⟨fun hr => hdone _ _ _ h (all_listed hac (hlen _ _ _ h) hr), fun i hi => by
      obtain ⟨hu, o, ho, hd⟩ := ready_deps.1 hi
      have hcs := count_set_true l i hu
      refine wpOp_step (o := o) (by simpa using ho) fun K' hK => hstep i o ho l a w h hcl hu hd K' fun a' w' h' => hK a' w' ?_
      rw [show l.toArray.setIfInBounds i true = (l.set i true).toArray from by simp]
      exact wpAny_inv I hac hlen hdone hstep fuel _ a' w' h' (hcl.set ho hd) (by omega)⟩
/-- A drawing region by an invariant on what is listed: one goal an operation. -/
theorem region_inv {id : Nat} {P : Program} {Q : Exit → Act → World → Prop} {a : Act} {w : World} {os : List Oper} (I : List Bool → Act → World → Prop) (hm : P.follows .mixedOrders = true) (hac : acyc .any os = true)
    (hlen : ∀ l a w, I l a w → l.length = os.length)
    (hdone : ∀ l a w, I l a w → (∀ i, l.getD i true = true) → Q .normal a w)
    (h0 : I (List.replicate os.length false) a w.drew)
    (hstep : ∀ i o, os[i]? = some o → ∀ l a w, I l a w → Closed .any os l → l.getD i true = false → (∀ j ∈ depsOf .any o, l.getD j false = true) → ∀ K : Act → World → Prop, (∀ a' w', I (l.set i true) a' w' → K a' w') →
      if Region.wanted o (yielded os.toArray a.tmps) = true then Oper.wp P o a w K Q else K (a.put o.dst undef) w) :
    (Code.region id os.toArray true).wp P Q a w := by
  refine wp_region_any hm ?_
  have := wpAny_inv I hac hlen hdone hstep os.toArray.size (List.replicate os.length false) a w.drew h0 (Closed.start _) (by simp)
  simpa using this

set_option maxHeartbeats 4000000 in
set_option maxRecDepth 1000000 in
/-- sort.Search, of a predicate that may lay blocks. -/
theorem Search_any (g : Nat) (cb : Array Value) (n : Nat) (p : Nat → Bool) (w : World) (eg : ∀ args w, (callFunc g args).run Tryd.prog w = .ok (.enter g args) w) (hsz : n < 4611686018427387904)
    (hf : ∀ (W : World) (i : Nat), i < n → Below w.heap.size w W → Calls Tryd.prog g (#[.int .i64 i] ++ cb) W fun e w' => e = .returned (.bool (p i)) ∧ Below W.heap.size W w')
    (cnt : Nat) (hc : cnt ≤ n) (h1 : ∀ t, t < cnt → p t = false) (h2 : ∀ t, cnt ≤ t → t < n → p t = true) :
    Calls Tryd.prog 53 #[.int .i64 n, .func (.func g) #[] cb] w fun e w' => e = .returned (.int .i64 (cnt : Int)) ∧ Below w.heap.size w w' := by
  have HF := Lib.hid hf
  have H1 := Lib.hid h1
  have H2 := Lib.hid h2
  have HB := Below.refl w.heap.size w
  clear hf h1 h2
  obtain ⟨w0, rfl⟩ : ∃ w0 : World, w0 = w := ⟨_, rfl⟩
  go_enter Tryd.func53, Tryd.ntmps53
  go_wp2
  go_loopw [5, 6] (fun s5 s6 wr => ∃ lo hi : Nat, s5 = .int .i64 lo ∧ s6 = .int .i64 hi ∧ lo ≤ cnt ∧ cnt ≤ hi ∧ hi ≤ n ∧ Below w0.heap.size w0 wr) (fun s5 s6 _ => (intOf s6 - intOf s5).toNat)
  case atStart => exact ⟨0, n, rfl, rfl, by omega, hc, Nat.le_refl _, HB⟩
  case round =>
    clear HB
    obtain ⟨lo, hi, rfl, rfl, hlo, hhi, hin, hB⟩ := hrel
    by_cases hlt : lo < hi
    · have hc := HF.out wr ((lo + hi) / 2) (by omega) hB
      rw [show (((lo + hi) / 2 : Nat) : Int) = ((lo : Int) + (hi : Int)) / 2 by omega] at hc
      cases hp : p ((lo + hi) / 2) <;> rw [hp] at hc
      · have hle : (lo + hi) / 2 < cnt := by
          rcases Nat.lt_or_ge ((lo + hi) / 2) cnt with h | h
          · exact h
          · have := H2.out _ h (by omega); rw [hp] at this; cases this
        clear hp
        go_wp2_with (go_at_fn g; refine hc.mono ?_; rintro e w' ⟨rfl, hb5⟩)
        go_roundw
        case rel => exact ⟨(lo + hi) / 2 + 1, hi, by rw [show ((lo : Int) + (hi : Int)) / 2 + 1 = (((lo + hi) / 2 + 1 : Nat) : Int) by omega], rfl, by omega, hhi, hin, b_step hb5 hB⟩
        case measure => simp [intOf]; omega
      · have hle : cnt ≤ (lo + hi) / 2 := by
          rcases Nat.lt_or_ge ((lo + hi) / 2) cnt with h | h
          · have := H1.out _ h; rw [hp] at this; cases this
          · exact h
        clear hp
        go_wp2_with (go_at_fn g; refine hc.mono ?_; rintro e w' ⟨rfl, hb5⟩)
        go_roundw
        case rel => exact ⟨lo, (lo + hi) / 2, rfl, by rw [show ((lo : Int) + (hi : Int)) / 2 = (((lo + hi) / 2 : Nat) : Int) by omega], hlo, hle, by omega, b_step hb5 hB⟩
        case measure => simp [intOf]; omega
    · obtain rfl : lo = cnt := by omega
      obtain rfl : hi = lo := by omega
      have HBh := Lib.hid hB
      clear hB
      go_wp2
      go_ret
      exact ⟨rfl, HBh.out⟩
theorem wp_build_eq {P : Program} {o : Oper} {a : Act} {w : World} {K : Act → World → Prop} {Q : Exit → Act → World → Prop} (t : TypeId) (parts : Array (Nat × Operand)) (ho : o.op = .build t parts) {cs : Array Value}
    (hf : P.built t (parts.map fun (i, x) => (i, a.eval x)).toList = some cs) (h : K (a.put o.dst (.agg cs)) w) : o.wp P a w K Q :=
  wp_build t parts ho (by rw [hf]; rfl) (by rw [hf]; exact h)
theorem one_num {m : Nat} (hm : m < 1000000000) : natF (one m) = numF m := by
  funext j
  unfold natF one numF
  by_cases h : j = 0
  · subst h; rw [if_pos rfl, lim_first hm]
  · rw [if_neg h, lim_small]
    obtain ⟨k, rfl⟩ : ∃ k, j = k + 1 := ⟨j - 1, by omega⟩
    rw [pw_succ]
    have := pw_pos k
    omega
theorem built_one (m : Int) : Tryd.prog.built 56 [(0, .int .i64 m)] = some (arr fun j => if j = 0 then m else 0) := by kernel_rfl
theorem built_nat (m : Nat) : Tryd.prog.built 56 [(0, .int .i64 (m : Int))] = some (arr (natF (one m))) := by
  rw [built_one]; congr 2
  funext j; unfold natF one; split <;> rfl
end Dc
end Go.Proofs.YthnpbkplcboejaaDoor
