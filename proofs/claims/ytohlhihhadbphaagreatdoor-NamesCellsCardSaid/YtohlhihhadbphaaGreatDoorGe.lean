/- Names: O P Q R S. -/
import Derived.Test.YtohlhihhadbphaaGreatDoorGd
import Derived.Shelf.SlIter.Nil
import Derived.Shelf.SortM.Plain
import Derived.Shelf.SortM.SortNone
import Derived.Sort.MapsRangeIn
import Derived.Maps.AppendAt
import Derived.RangeFuncWrites
import Derived.Shelf.SlSortCmp.NoneTotal
set_option linter.unusedSimpArgs false
set_option linter.unusedVariables false
/- slices.Sorted(maps.Keys(m)) of a map of spaces. -/
namespace Go.Proofs.YtohlhihhadbphaaGreatDoor
open Go.RowKit Go.Shelf Go.Lib
namespace Np
theorem cb_lt : ∀ {a b : List UInt8}, compareBytes a b < 0 ↔ a < b
  | [], [] => by simp [compareBytes]
  | [], _ :: _ => by simp [compareBytes]
  | _ :: _, [] => by simp [compareBytes]
  | a :: l, b :: m => by
    rw [compareBytes, List.cons_lt_cons_iff]
    by_cases h1 : a < b
    · rw [if_pos h1]; simp [h1]
    · rw [if_neg h1]
      by_cases h2 : b < a
      · rw [if_pos h2]
        simp only [h1, false_or]
        constructor
        · intro h; omega
        · rintro ⟨rfl, _⟩; rw [UInt8.lt_iff_toNat_lt] at h2; omega
      · rw [if_neg h2, cb_lt, u8_eq h1 h2]
        simp only [UInt8.lt_irrefl, false_or, true_and]
theorem cb_le {a b : List UInt8} : a ≤ b ↔ ¬ compareBytes b a < 0 := by
  rw [cb_lt, List.not_lt]
/-- The bytes as a string. -/
def bs (l : List UInt8) : ByteArray := ⟨l.toArray⟩
theorem bs_inj {a b : List UInt8} (h : bs a = bs b) : a = b := by
  unfold bs at h
  injection h with h
  exact congrArg Array.toList h
theorem bs_data (s : ByteArray) : bs s.data.toList = s := by cases s; rfl

theorem strKeys_asc {H : Type} {D : DataW H} {l : List ByteArray} (hE : ∃ es, D = .map es ∧ es.Pairwise (fun p q => p.1 ≠ q.1) ∧ ∀ p ∈ es, ∃ x, p.1 = .string x ∧ x.length ≤ maxLen) (hh : ∀ s, okS s → (Maps.has D (litS s) = true ↔ s ∈ l)) (hok : ∀ s ∈ l, okS s) {ss : List (List UInt8)} (hp : ss.Perm (strKeys D)) :
    (ss.mergeSort fun x y => decide (x ≤ y)).map bs = asc cmpS l := by
  obtain ⟨es, rfl, hpw, hk⟩ := hE
  have hmem : ∀ x, x ∈ ss ↔ ∃ p ∈ es, strOf p.1 = x := fun x => by rw [hp.mem_iff]; show x ∈ es.map (fun p => strOf p.1) ↔ _; rw [List.mem_map]
  have hnd : ss.Nodup := by
    refine (hp.nodup_iff).2 ?_
    show (es.map fun p => strOf p.1).Nodup
    refine List.pairwise_map.2 (hpw.imp_of_mem fun {p q} hp' hq' hne e => hne ?_)
    obtain ⟨a, ha, _⟩ := hk p hp'
    obtain ⟨b, hb, _⟩ := hk q hq'
    rw [ha, hb] at e ⊢
    exact congrArg _ e
  have hms := List.mergeSort_perm ss (fun x y => decide (x ≤ y))
  have tr : ∀ a b c : List UInt8, decide (a ≤ b) = true → decide (b ≤ c) = true → decide (a ≤ c) = true := fun a b c h1 h2 => by simp only [decide_eq_true_eq] at *; exact List.le_trans h1 h2
  have to : ∀ a b : List UInt8, (decide (a ≤ b) || decide (b ≤ a)) = true := fun a b => by simp only [Bool.or_eq_true, decide_eq_true_eq]; exact List.le_total a b
  have hpws := List.pairwise_mergeSort (le := fun x y : List UInt8 => decide (x ≤ y)) tr to ss
  refine asc_of_sorted linS ?_ ?_ ?_
  · exact List.Pairwise.map _ (fun a b h e => h (bs_inj e)) ((hms.nodup_iff).2 hnd)
  · refine List.Pairwise.map _ (fun a b h => ?_) hpws
    have h := of_decide_eq_true h
    exact cb_le.1 h
  · intro s
    rw [List.mem_map]
    constructor
    · rintro ⟨x, hx, rfl⟩
      rw [hms.mem_iff, hmem] at hx
      obtain ⟨p, hp', rfl⟩ := hx
      obtain ⟨a, ha, hal⟩ := hk p hp'
      have hoka : okS (bs a) := by unfold okS bs; simpa [ByteArray.size] using hal
      rw [ha]
      refine (hh _ hoka).1 ?_
      rw [Maps.has_eq, List.any_eq_true]
      refine ⟨p, hp', ?_⟩
      rw [ha]
      exact WideAt.sameKey_self trivial
    · intro hs
      have h1 := (hh s (hok s hs)).2 hs
      rw [Maps.has_eq, List.any_eq_true] at h1
      obtain ⟨p, hp', h2⟩ := h1
      have h3 := WideAt.sameKey_eq h2
      refine ⟨s.data.toList, hms.mem_iff.2 ((hmem _).2 ⟨p, hp', ?_⟩), bs_data s⟩
      rw [h3]; rfl

theorem sorts91 (m : Nat) : AnyZ.SortsIn Tryz.prog Tryz.sorted91_ren Fence.wide m :=
  ⟨fun blk off cap ss W hH hblk hsz => callsIn_wide.2 (AnyM.slices_Sort_string Tryz.sort106 blk off cap ss W hH hblk hsz),
   fun p cap W => callsIn_wide.2 (AnyM.slices_Sort_string_none Tryz.sort106 p cap W)⟩
theorem keysS_any (mb : Option Nat) (W : World) : CallsIn Fence.wide 5 Tryz.prog 92 #[.map mb] W fun e w' => e = .returned (.func (.func 107) #[] #[.pointer (some ⟨W.heap.size, 0, none⟩)]) ∧ w' = W.alloc (.cells #[.map mb] 74) :=
  AnyZ.keys_in Tryz.keys92 Fence.wide 5 trivial rfl mb W

set_option maxHeartbeats 1000000 in
theorem sortedS_any (b nn : Nat) (l : List ByteArray) (hok : ∀ s ∈ l, okS s) (hnn : nn ≤ 1000000) (w : World) (h : SMap w b nn (mS l)) :
    CallsIn Fence.wide 5 Tryz.prog 91 #[.func (.func 107) #[] #[.pointer (some ⟨w.heap.size, 0, none⟩)]] (w.alloc (.cells #[.map (some b)] 74)) fun e w' => ∃ (v : Value), e = .returned v ∧
      w'.ownsRow (w.heap.size + 1) 9 1 v (asc cmpS l).length ((asc cmpS l).map Value.string) ∧ Below (w.alloc (.cells #[.map (some b)] 74)).heap.size (w.alloc (.cells #[.map (some b)] 74)) w' := by
  obtain ⟨D0, hown, hh, _⟩ := h
  have hbl := hown.lt
  have hsz := hown.size_le
  have hE := hown.entries keyEncS.K
  have hK := hown.keysOf
  have hseq : SeqGives Fence.wide 2 Tryz.prog 107 #[.pointer (some ⟨w.heap.size, 0, none⟩)] encStr (fun ss => ss.Perm (strKeys D0)) (Maps.size D0) (w.alloc (.cells #[.map (some b)] 74)) :=
    AnyZ.keys_gives (ρ := Tryz.keys92_ren) { Tryz.keys92 with } Fence.wide _ trivial rfl (by omega) w.heap.size b nn D0 _ (by simp) (by simp) (by
      obtain ⟨es, clock, hb, Ft, hs, hD⟩ := hown
      exact ⟨es, clock, (Below.heap_alloc _ _ b hbl).trans hb, Ft, hs, hD⟩)
  have hmain := AnyZ.sorted_in Tryz.sorted91 Fence.wide 5 trivial trivial trivial trivial rfl (by omega) (sorts91 _) (enters_of Tryz.func106 (by kernel_rfl) rfl) 107 #[.pointer (some ⟨w.heap.size, 0, none⟩)] trivial (enters_of Tryz.func107 (by kernel_rfl) rfl) _ _ (by unfold maxLen; omega) (by omega) _ hseq
  refine hmain.mono ?_
  rintro e w' ⟨v, ss, he, hS, hrow, _, hb⟩
  refine ⟨v, he, ?_, hb⟩
  have e1 : (ss.mergeSort fun x y => decide (x ≤ y)).map bs = asc cmpS l := by
    refine strKeys_asc ?_ ?_ hok hS
    · obtain ⟨es, rfl, hpw, _⟩ := hE
      obtain ⟨es', e, hk⟩ := hK
      cases e
      refine ⟨es, rfl, hpw, fun p hp => ?_⟩
      obtain ⟨v, hv⟩ := hk p hp
      obtain ⟨x, _, h2, h3⟩ := Maps.keyOf_str Tryz.underlying9 hv
      exact ⟨x, h2, h3⟩
    · intro s hs
      rw [hh s hs]
      unfold mS
      cases e : hasS l s
      · simp [hasS_false.1 e]
      · simp [hasS_iff.1 e]
  have e2 : (ss.mergeSort fun x y => decide (x ≤ y)).map encStr = (asc cmpS l).map Value.string := by rw [← e1, List.map_map]; rfl
  have e3 : ss.length = (asc cmpS l).length := by rw [← e1, List.length_map, List.length_mergeSort]
  rw [e2, e3, World.size_alloc] at hrow
  exact hrow
end Np
end Go.Proofs.YtohlhihhadbphaaGreatDoor

/- maps.Keys of a map of names: its iterator. -/
namespace Go.Proofs.YtohlhihhadbphaaGreatDoor
open Go.RowKit Go.Shelf Go.Lib Go.Maps
attribute [local go_sem] Oper.semAt_some
namespace Np
/-- Names that fit. -/
abbrev FN := { x : Name // x.fit }
def encFN (x : FN) : Array Value := #[x.1.val]
abbrev nvals (l : List FN) : List Name := l.map Subtype.val

set_option maxRecDepth 100000 in
set_option maxHeartbeats 4000000 in
theorem keysN1_in (n : Nat) (hn : 1 ≤ n) (l Bm b nn B : Nat) (m : Name → Option Bool) (J Jx : List FN → World → Prop) (hJ : AbidesFrom B J)
    (hY : ∀ pre x W, J pre W → pre.length < nn → YieldAt Fence.wide (n - 1) Tryz.prog l (encFN x) W fun e W' =>
      (e = .returned (.bool true) ∧ J (pre ++ [x]) W' ∧ KeepsWalks W W') ∨ (e = .returned (.bool false) ∧ Jx (pre ++ [x]) W'))
    (W : World) (hB : B ≤ W.heap.size) (hm : W.cell? ⟨Bm, 0, none⟩ = some (.map (some b))) (hown : NMap W b nn m) (h0 : J [] W) :
    CallsIn Fence.wide n Tryz.prog 104 #[.func (.yield l) #[] #[], .pointer (some ⟨Bm, 0, none⟩)] W fun e W' => (∃ v, e = .returned v) ∧
      ((∃ ys, ((nvals ys).Nodup ∧ ∀ x : Name, x.fit → ((m x).isSome = true ↔ x ∈ nvals ys)) ∧ J ys W') ∨ (∃ pre, True ∧ Jx pre W')) := by
  have hdd : ∀ k : Nat, (Fence.wide.depth.isSome = true → 1 ≤ k) := fun k h => by cases h
  obtain ⟨D0, hown, hh, _⟩ := hown
  have hszD := hown.size_le
  refine callsIn_of_wp Tryz.func104 rfl trivial ?_ rfl
  simp only [Tryz.ntmps104, List.size_toArray, List.length_cons, List.length_nil, Nat.reduceAdd, Nat.reduceSub, Array.replicate_succ, Array.replicate_zero, List.push_toArray, List.append_toArray, List.nil_append, List.cons_append]
  gi_wp2_with (first
    | (gi_at_range; refine wpListIn_range_own _ rfl _ 71 rfl 23 4 keyedN Tryz.underlying71 _ b nn _ rfl hown ?_; intro w0 hrg0 hg0 hs0)
    | gi_in)
  go_frame
  gi_loopw [3] (fun _ wr => ∃ (left : Lit → Bool) (cnt : Nat) (ss : List FN), wr.ranges Tryz.prog 23 (plainElem Tryz.prog 4) b W.heap.size nn D0 left cnt ∧ ss.length + cnt ≤ Maps.size D0 ∧ Came litN Name.fit m left (nvals ss) ∧ J ss wr ∧ W.heap.size ≤ wr.heap.size)
    (fun _ wr => wr.rangeLeft b W.heap.size)
  case atStart =>
    exact ⟨_, _, [], hrg0, by simp, Came.start hh, hJ [] W w0 none h0 hg0 (fun r e => by cases e), by omega⟩
  case round =>
    obtain ⟨left, cnt, ss, hrg, hcs, hC, hJs, hws⟩ := hrel
    gi_wp2_with (first
      | (gi_at_next; refine wpListIn_next_ranges _ rfl _ rfl 23 keyedN (plainElem Tryz.prog 4) (fun x : FN => x.1.val) id (fun key kl hk => by obtain ⟨x, hx, h1, _⟩ := keyEncN.inv hk; exact ⟨⟨x, hx⟩, h1⟩) (fun v _ _ => ⟨v, rfl⟩) b W.heap.size nn _ _ _ rfl hrg ?_ ?_)
      | gi_in)
    · intro hc0 hl0
      have Hd := Lib.hid (hC.done hl0)
      have Hn := Lib.hid hC.nodup
      gi_wp2
      go_end0
      exact ⟨⟨_, rfl⟩, .inl ⟨ss, ⟨Hn.out, Hd.out⟩, hJs⟩⟩
    · intro x hx c kl yd yp w2 cnt2 hkey hlk hv hat hrg2 hlt hg2 hs2 hen
      have hkl : kl = litN x := by
        have := keyEncN.of hx
        rw [this] at hkey
        injection hkey with h
        exact h.symm
      subst hkl
      have hJ2 : J ss w2 := hJ ss wr w2 (some W.heap.size) hJs hg2 (fun r e => by cases e; exact ⟨hB, hrg.iter_walk⟩)
      have hks : W.heap.size ≤ w2.heap.size := by omega
      have hbn : Below w2.heap.size w2 (w2.alloc (.cells #[.string x.sp, .string x.lc] 23)) := (Below.refl _ _).alloc (Nat.le_refl _) _
      obtain ⟨fn, tmps, assign, body, hy, hR⟩ := hY ss ⟨x, hx⟩ _ (abides_below hJ hJ2 hbn) (by omega)
      simp only [encFN, Name.val] at hy
      unfold Name.val at *
      have hC2 := hC.step keyEncN hx hlk
      have HC := Lib.hid hC2
      clear hs2 hC hC2
      gi_wp2
      refine hR.mono ?_
      rintro e W3 (⟨rfl, hJ3, hk3⟩ | ⟨rfl, hJx⟩)
      · have hrg3 := (hrg2.alloc (.cells #[.string x.sp, .string x.lc] 23)).of_walks hk3
        have hsz3 := hk3.size
        gi_wp2
        go_roundw
        case rel =>
          have hr : ∃ (left : Lit → Bool) (cnt : Nat) (ss : List FN), W3.ranges Tryz.prog 23 (plainElem Tryz.prog 4) b W.heap.size nn D0 left cnt ∧ ss.length + cnt ≤ Maps.size D0 ∧ Came litN Name.fit m left (nvals ss) ∧ J ss W3 ∧ W.heap.size ≤ W3.heap.size :=
            ⟨_, cnt2, ss ++ [⟨x, hx⟩], hrg3, by simp; omega, by have := HC.out; simpa [nvals] using this, hJ3, by simp at hsz3; omega⟩
          first
            | exact hr
            | ((repeat apply Exists.intro); exact ⟨hr, rfl⟩)
        case measure => rw [hrg3.left_eq, hrg.left_eq]; exact hlt
      · gi_wp2
        refine bodyPost_ret (results_none rfl _ _ _) rfl ?_
        exact ⟨⟨_, rfl⟩, .inr ⟨_, trivial, hJx⟩⟩
theorem keysN_stops (n : Nat) (hn : 1 ≤ n) (Bm b nn : Nat) (m : Name → Option Bool) (w : World) (hBm : Bm < w.heap.size) (hm : w.cell? ⟨Bm, 0, none⟩ = some (.map (some b))) (hown : NMap w b nn m) :
    SeqStopsK Fence.wide n Tryz.prog 104 #[.pointer (some ⟨Bm, 0, none⟩)] encFN KeepsWalks (fun ys => (nvals ys).Nodup ∧ ∀ x : Name, x.fit → ((m x).isSome = true ↔ x ∈ nvals ys)) (fun _ => True) nn w := fun l J Jx W hW hJ _ hY h0 =>
  keysN1_in n hn l Bm b nn W.heap.size m J Jx hJ hY W (Nat.le_refl _) ((hW.cell (p := ⟨Bm, 0, none⟩) hBm).trans hm) (BMap.below hown hW hown.lt) h0
set_option maxHeartbeats 1000000 in
theorem keysN_any (mb : Option Nat) (w : World) :
    Calls Tryz.prog 90 #[.map mb] w fun e w' => e = .returned (.func (.func 104) #[] #[.pointer (some ⟨w.heap.size, 0, none⟩)]) ∧ w' = w.alloc (.cells #[.map mb] 71) := by
  go_enter Tryz.func90, Tryz.ntmps90
  go_wp2
  go_ret
  exact ⟨rfl, rfl⟩
end Np
end Go.Proofs.YtohlhihhadbphaaGreatDoor

/- slices.SortedFunc(maps.Keys(m), order) of a map of names. -/
namespace Go.Proofs.YtohlhihhadbphaaGreatDoor
open Go.RowKit Go.Shelf Go.Lib Go.Maps
attribute [local go_sem] Oper.semAt_some
namespace Np
theorem infoN : (Tryz.prog.info? 23).map (fun i => (i.zero, i.size, i.bytes)) = some (some (.agg #[.string ⟨#[]⟩, .string ⟨#[]⟩]), 2, 32) := by kernel_rfl
theorem cell_two_new (W : World) (u v : Value) (t : TypeId) : ∀ j x, [u, v][j]? = some x → (W.alloc (.cells #[u, v] t)).cell? ((⟨W.heap.size, 0, none⟩ : Addr).add j) = some x := by
  intro j x hx
  have hb := Blk.new W #[u, v] t
  match j, hx with
  | 0, hx => have := hb.cell 0; simp only [List.getElem?_cons_zero, Option.some.injEq] at hx; rw [← hx]; exact this
  | 1, hx => have := hb.cell 1; simp only [List.getElem?_cons_succ, List.getElem?_cons_zero, Option.some.injEq] at hx; rw [← hx]; exact this

set_option maxRecDepth 100000 in
set_option maxHeartbeats 4000000 in
theorem appendSeqN (Bm b nn : Nat) (m : Name → Option Bool) (hnn : nn ≤ 1000000) (w : World) (hBm : Bm < w.heap.size) (hm : w.cell? ⟨Bm, 0, none⟩ = some (.map (some b))) (hown : NMap w b nn m) :
    Calls Tryz.prog 115 #[.slice none 0 0, .func (.func 104) #[] #[.pointer (some ⟨Bm, 0, none⟩)]] w fun e w' => ∃ (v : Value) (ss : List FN), e = .returned v ∧
      ((nvals ss).Nodup ∧ ∀ x : Name, x.fit → ((m x).isSome = true ↔ x ∈ nvals ss)) ∧ ss.length ≤ nn ∧ w'.ownsRow w.heap.size 23 2 v ss.length ((nvals ss).flatMap encN) ∧ Below w.heap.size w w' := by
  obtain ⟨i0, hi, hz0, hz1, hz2⟩ := info_parts infoN
  refine (callsIn_wide (n := 9)).1 ?_
  refine callsIn_of_wp_marks Tryz.func115 rfl trivial ?_ rfl
  simp only [Tryz.ntmps115, List.size_toArray, List.length_cons, List.length_nil, Nat.reduceAdd, Nat.reduceSub, Array.replicate_succ, Array.replicate_zero, List.push_toArray, List.append_toArray, List.nil_append, List.cons_append]
  obtain ⟨W0, hW0⟩ : ∃ W0, w.alloc (.cells #[.slice none 0 0] 39) = W0 := ⟨_, rfl⟩
  have hB0 : Below w.heap.size w W0 := by rw [← hW0]; exact (Below.refl _ w).alloc (Nat.le_refl _) _
  have hsz0 : W0.heap.size = w.heap.size + 1 := by rw [← hW0]; simp
  have d0 : Boxed W0 w.heap.size 39 (.slice none 0 0) := by rw [← hW0]; exact Boxed.new _ _ _
  gi_wp2
  clear hW0
  refine wpIn_rangeFunc_ownH rfl (by omega) (gf := 104) (lb := #[.pointer (some ⟨Bm, 0, none⟩)]) rfl trivial (enters_of Tryz.func104 (by kernel_rfl) rfl)
    (keysN_stops _ (by omega) Bm b nn m W0 (by omega) ((hB0.cell (p := ⟨Bm, 0, none⟩) hBm).trans hm) (BMap.below hown hB0 hown.lt)) walksK_t walksK_b (Below.refl _ _) (fun _ => rfl)
    (fun (pre : List FN) W => (∃ v, Boxed W w.heap.size 39 v ∧ W.ownsRow w.heap.size 23 2 v pre.length ((nvals pre).flatMap encN) ∧ pre.length ≤ nn) ∧ Gz w W0.heap.size W)
    (fun _ _ _ => False)
    (OwnFrom.and (Own.from (holdsRow_own w.heap.size w.heap.size 39 23 2 (fun pre : List FN => pre.length) (fun pre => (nvals pre).flatMap encN) (fun pre _ => pre.length ≤ nn)) _) (Gz.own (by omega))) (fun _ _ _ _ _ hs _ _ => hs)
    ⟨⟨_, d0, World.ownsRow_nil _ _ _ _, by simp⟩, hB0, Nat.le_refl _⟩
    (fun x a' W => ∃ Bx, W0.heap.size ≤ Bx ∧ Blk W Bx #[.string x.1.sp, .string x.1.lc] 23 ∧ a' = { tmps := #[.slice none 0 0, .func (.func 104) #[] #[.pointer (some ⟨Bm, 0, none⟩)], .pointer (some ⟨w.heap.size, 0, none⟩), undef, .slice none 0 0, .pointer (some ⟨Bx, 0, none⟩), .func (.func 104) #[] #[.pointer (some ⟨Bm, 0, none⟩)], .agg #[.string x.1.sp, .string x.1.lc], undef, undef, undef, undef, undef], defers := [] })
    (fun x a' => Own.from (fun _ A B row hs hg hr => by obtain ⟨Bx, h1, h2, h3⟩ := hs; exact ⟨Bx, h1, blk_own _ _ (fun _ : Unit => #[.string x.1.sp, .string x.1.lc]) () A B row h2 hg hr, h3⟩) _) ?assign ?body ?done ?stop
  case stop => intro D c pre W _ _ h _; exact h.elim
  case assign =>
    rintro l pre x W K ⟨⟨v, h1, h2, h3⟩, hB, hN⟩ hK
    simp only [encFN, Name.val]
    gi_wp2
    exact hK _ _ ((KeepsOthers.alloc _ _).from _) (KeepsWalks.alloc _ _) ⟨⟨v, h1.alloc _, h2.alloc _, h3⟩, hB.alloc hB.size _, by simp; omega⟩ ⟨W.heap.size, hN, Blk.new _ _ _, rfl⟩
  case body =>
    rintro l pre x a' W hl ⟨r, hr⟩ ⟨⟨v, h1, h2, h3⟩, hB, hN⟩ ⟨Bx, hBx, bx, rfl⟩ hlt
    have c1 := h1.cell
    have n0 := bx.cell 0
    have n1 := bx.cell 1
    simp only [List.getElem?_toArray, List.getElem?_cons_zero, List.getElem?_cons_succ] at n0 n1
    have hws := hB.size
    gi_wp2_with (gi_at_builtin; refine wpListIn_append_own _ rfl _ _ 39 rfl w.heap.size 23 i0 (.agg #[.string ⟨#[]⟩, .string ⟨#[]⟩]) 2 32 Tryz.underlying39 hi hz0 hz1 hz2 rfl (by decide) _ _ _ rfl (h2.alloc _) ⟨W.heap.size, 0, none⟩ 1 1 [.string x.1.sp, .string x.1.lc] rfl rfl (cell_two_new _ _ _ _) (by simp [Value.oneCell']) (by unfold maxLen; omega) (by omega) (by simp; omega) ?_; intro v' w1 hown' hgrow _; obtain ⟨g', cap', rfl⟩ := ownsRow_succ hown'; obtain ⟨hv1, hv2, hr2, hk2, hb2⟩ := h1.appended (by decide) h2 hws (by omega) hown' hgrow; have hc1 := hv1.cell; have hf1 := hv1.frozen)
    have e1 : (nvals (pre ++ [x])).flatMap encN = (nvals pre).flatMap encN ++ [.string x.1.sp, .string x.1.lc] := by simp [nvals, encN]
    refine ⟨hk2.from _, hk2.walks, ⟨_, hv2, by rw [e1, List.length_append]; exact hr2, by simp; omega⟩, hB.trans hb2, by have := hk2.size; omega⟩
  case done =>
    rintro D ys W hD hys ⟨⟨v, h1, h2, h3⟩, hB, hN⟩ hK
    have c1 := h1.cell
    obtain ⟨ao, q, cap, rfl⟩ : ∃ ao q cap, v = .slice ao q cap := by
      rcases h2.2 with ⟨hv, _⟩ | ⟨g, cap, cur, hv, _⟩
      · exact ⟨_, _, _, hv⟩
      · exact ⟨_, _, _, hv⟩
    have Hy := Lib.hid hys
    clear hys
    gi_wp2
    refine ⟨by simp, .inl ⟨_, _, rfl, run_takeDeferred hK, ?_⟩⟩
    refine ⟨.slice ao q cap, ?_, _, ys, rfl, Hy.out, h3, ownsRow_putObj h2 _ hK rfl, hB.trans (belowK_b (w := w) (Nat.le_refl _) _ D _ _ (by omega) hK rfl rfl)⟩
    simp [results, Tryz.f115, go_sem]
set_option maxHeartbeats 1000000 in
theorem collectN (Bm b nn : Nat) (m : Name → Option Bool) (hnn : nn ≤ 1000000) (w : World) (hBm : Bm < w.heap.size) (hm : w.cell? ⟨Bm, 0, none⟩ = some (.map (some b))) (hown : NMap w b nn m) :
    Calls Tryz.prog 102 #[.func (.func 104) #[] #[.pointer (some ⟨Bm, 0, none⟩)]] w fun e w' => ∃ (v : Value) (ss : List FN), e = .returned v ∧
      ((nvals ss).Nodup ∧ ∀ x : Name, x.fit → ((m x).isSome = true ↔ x ∈ nvals ss)) ∧ ss.length ≤ nn ∧ w'.ownsRow w.heap.size 23 2 v ss.length ((nvals ss).flatMap encN) ∧ Below w.heap.size w w' := by
  have h := appendSeqN Bm b nn m hnn w hBm hm hown
  go_enter Tryz.func102, Tryz.ntmps102
  go_wp2_with (go_at_call 115; refine h.mono ?_)
  rintro e w' ⟨v, ss, rfl, hs, hl, hrow, hb⟩
  have Hs := Lib.hid hs
  clear hs
  go_wp2
  go_ret
  exact ⟨v, ss, rfl, Hs.out, hl, hrow, hb⟩
end Np
end Go.Proofs.YtohlhihhadbphaaGreatDoor

/- slices.SortedFunc(maps.Keys(m), order). -/
namespace Go.Proofs.YtohlhihhadbphaaGreatDoor
open Go.RowKit Go.Shelf Go.Lib Go.Maps Go.Sort
namespace Np
theorem swoN : SWO (ltOf cmpN) where
  irrefl x := by simp [ltOf, linN.self]
  trans x y z h1 h2 := by
    simp only [ltOf, decide_eq_true_eq] at *
    exact linN.lt_trans h1 h2
  ntrans x y z h1 h2 := by
    simp only [ltOf, decide_eq_false_iff_not] at *
    have a1 := linN.swap x y
    have a2 := linN.swap y z
    have a3 := linN.swap x z
    have := (linN.trans (a := z) (b := y) (c := x) (by omega) (by omega)).1
    omega
theorem totN (x y : Name) (h1 : ltOf cmpN x y = false) (h2 : ltOf cmpN y x = false) : x = y := by
  simp only [ltOf, decide_eq_false_iff_not] at *
  have a1 := linN.swap x y
  exact linN.eq (by omega)
theorem encN_get : ∀ (l : List Name) (t : Nat), t < 2 * l.length → (l.flatMap encN)[t]? = some ((encN l[t / 2]!)[t % 2]!)
  | [], t, h => by simp at h
  | x :: r, 0, _ => by simp [encN]
  | x :: r, 1, _ => by simp [encN]
  | x :: r, t + 2, h => by
    have e1 : (t + 2) / 2 = t / 2 + 1 := by omega
    have e2 : (t + 2) % 2 = t % 2 := by omega
    have ih := encN_get r t (by simp at h; omega)
    rw [e1, e2]
    simpa [encN] using ih
theorem encN_length (l : List Name) : (l.flatMap encN).length = 2 * l.length := by
  induction l with
  | nil => rfl
  | cons a r ih => rw [List.flatMap_cons, List.length_append, ih]; simp [encN]; omega
theorem flatK_toList (l : List Name) : (flatK encN 2 l.toArray).toList = l.flatMap encN := by
  apply List.ext_getElem?
  intro t
  by_cases h : t < 2 * l.length
  · rw [encN_get l t h]
    have hs : t < (flatK encN 2 l.toArray).size := by simp; omega
    rw [Array.getElem?_toList, Array.getElem?_eq_getElem hs]
    have := get_flatK encN 2 l.toArray t (by simp; omega)
    rw [getElem!_pos (flatK encN 2 l.toArray) t hs] at this
    rw [this]
    simp
  · rw [List.getElem?_eq_none (by simp; omega), List.getElem?_eq_none (by rw [encN_length]; omega)]
theorem holdsK_of_block {w : World} {g : Nat} {cur : Array Value} {e : TypeId} {l : List Name} (hb : w.heap[g]? = some (.cells cur e (0, 0))) (ht : cur.toList.take (l.length * 2) = l.flatMap encN) : HoldsK encN 2 w g 0 l.toArray := by
  intro j hj
  have hj' : j < 2 * l.length := by simp at hj; omega
  refine ⟨?_, by simp [World.frozen?, hb]⟩
  have h1 : (cur.toList.take (l.length * 2))[j]? = (l.flatMap encN)[j]? := by rw [ht]
  rw [List.getElem?_take_of_lt (by omega)] at h1
  simp only [World.cell?, hb, Nat.zero_add, Option.isSome_none, Bool.false_eq_true, if_false]
  rw [← Array.getElem?_toList, h1, ← flatK_toList, Array.getElem?_toList, Array.getElem?_eq_getElem hj, getElem!_pos (flatK encN 2 l.toArray) j hj]
  rfl
theorem ownsRow_sortedK {w : World} {base g cap n : Nat} {e : TypeId} {os : Array Obj} {cur : Array Value} {k : Nat} {ts : List Name} (hl : ts.length = k) (hbase : base ≤ g) (hb : w.heap[g]? = some (.cells cur e (0, 0)))
    (h1 : k ≤ cap) (h2 : cap ≤ maxLen) (h3 : cur.size = cap * 2) :
    (sortWorldK encN 2 w g 0 n ts.toArray os).ownsRow base e 2 (.slice (some ⟨g, 0, none⟩) k cap) k (ts.flatMap encN) := by
  have hg : g < w.heap.size := (Array.getElem?_eq_some_iff.1 hb).1
  refine ⟨by rw [encN_length]; omega, .inr ⟨g, cap, putCells id 0 (flatK encN 2 ts.toArray) cur, rfl, hbase, ?_, h1, h2, by simp [putCells, h3], ?_⟩⟩
  · unfold sortWorldK
    rw [heap_grow_old _ _ (by simpa [putRowK] using hg)]
    simp [putRowK, putRow, mapBlock, Sort.ahead, Array.getElem?_modify, hb, onCells]
  · apply List.ext_getElem?
    intro j
    by_cases hj : j < k * 2
    · rw [List.getElem?_take_of_lt hj, ← flatK_toList, Array.getElem?_toList, Array.getElem?_toList]
      have h4 : j < cur.size := by rw [h3]; have := Nat.mul_le_mul_right 2 h1; omega
      have h5 : j < (flatK encN 2 ts.toArray).size := by simp; omega
      have h6 : j < k * 2 := hj
      simp only [putCells]
      simp [h4, h5, hl, h6]
    · rw [List.getElem?_take_eq_none (by omega), List.getElem?_eq_none (by rw [encN_length]; omega)]
theorem grownBy_sortedK {w : World} {g n : Nat} {os : Array Obj} (d : Array Name) : w.grownBy (sortWorldK encN 2 w g 0 n d os) (some g) := by
  refine ⟨rfl, rfl, rfl, by simp [sortWorldK, putRowK, putRow, mapBlock, Sort.ahead], fun k hk hne => ?_⟩
  unfold sortWorldK
  rw [heap_grow_old _ _ (by simpa [putRowK, putRow, mapBlock, Sort.ahead] using hk)]
  have : g ≠ k := fun e => hne (by rw [e])
  simp [putRowK, putRow, mapBlock, Sort.ahead, Array.getElem?_modify, this]
theorem isAgg26 (w : World) : (isAgg 23).run Tryz.prog w = .ok true w := by kernel_rfl
theorem sizeOf26 (w : World) : (Go.sizeOf 23).run Tryz.prog w = .ok 2 w := by kernel_rfl
theorem cmpLaysN (blk off size : Nat) (w : World) : CmpLays Tryz.prog 51 #[] encN 2 cmpN blk off size w := by
  intro m os dk _ x y
  exact order_any x y _
theorem sortN_asc {l : List Name} {ss : List Name} (hn : ss.Nodup) (h : ∀ x, x ∈ ss ↔ x ∈ l) : (ss.mergeSort fun x y => !(ltOf cmpN) y x) = asc cmpN l := by
  have hms := List.mergeSort_perm ss (fun x y => !(ltOf cmpN) y x)
  refine asc_of_sorted linN ((hms.nodup_iff).2 hn) ?_ (fun x => (hms.mem_iff).trans (h x))
  have := List.pairwise_mergeSort (le := fun x y : Name => !(ltOf cmpN) y x) ?_ ?_ ss
  · refine this.imp ?_
    intro a b hab
    simpa [ltOf] using hab
  · intro a b c h1 h2
    simp only [Bool.not_eq_true'] at *
    exact swoN.ntrans c b a h2 h1
  · intro a b
    cases e : ltOf cmpN b a
    · simp
    · cases e' : ltOf cmpN a b
      · simp
      · have := swoN.trans _ _ _ e e'; rw [swoN.irrefl] at this; exact absurd this (by simp)
set_option maxHeartbeats 1000000 in
theorem sortedN_any (Bm b nn : Nat) (l : List Name) (hl : ∀ x ∈ l, x.fit) (hnn : nn ≤ 1000000) (w : World) (hBm : Bm < w.heap.size) (hm : w.cell? ⟨Bm, 0, none⟩ = some (.map (some b))) (hown : NMap w b nn (mN l)) :
    Calls Tryz.prog 89 #[.func (.func 104) #[] #[.pointer (some ⟨Bm, 0, none⟩)], .func (.func 51) #[] #[]] w fun e w' => ∃ (v : Value), e = .returned v ∧
      w'.ownsRow w.heap.size 23 2 v (asc cmpN l).length ((asc cmpN l).flatMap encN) ∧ Below w.heap.size w w' := by
  have h := collectN Bm b nn (mN l) hnn w hBm hm hown
  go_enter Tryz.func89, Tryz.ntmps89
  go_wp2_with (go_at_call 102; refine h.mono ?_)
  rintro e w' ⟨v, ss, rfl, hs, hle, hrow, hb⟩
  have e1 : ((nvals ss).mergeSort fun x y => !(ltOf cmpN) y x) = asc cmpN l := by
    refine sortN_asc hs.1 (fun x => ?_)
    by_cases hx : x.fit
    · rw [← hs.2 x hx]; unfold mN; by_cases e : x ∈ l <;> simp [e]
    · refine ⟨fun h => ?_, fun h => absurd (hl x h) hx⟩
      obtain ⟨y, _, rfl⟩ := List.mem_map.1 h
      exact absurd y.2 hx
  have e2 : (asc cmpN l).length = ss.length := by rw [← e1, List.length_mergeSort]; simp [nvals]
  clear hs
  rcases hrow.2 with ⟨rfl, hnil⟩ | ⟨g, cap, cur, rfl, hbase, hblk, h1, h2, h3, ht⟩
  · have e0 : ss = [] := by
      cases ss with
      | nil => rfl
      | cons a r => simp [nvals, encN] at hnil
    subst e0
    have e3 : asc cmpN l = [] := List.eq_nil_of_length_eq_zero e2
    have hS := fun W => AnyF.slices_SortFunc_none (P := Tryz.prog) (ρ := Tryz.sortN_ren) Tryz.sortN none 0 (.func (.func 51) #[] #[]) W
    go_wp2_with (go_at_call 103; refine (hS _).mono ?_)
    rintro e w2 ⟨rfl, rfl⟩
    go_wp2
    go_ret
    rw [e3]
    exact ⟨_, rfl, hrow, hb⟩
  · have hg : g < w'.heap.size := (Array.getElem?_eq_some_iff.1 hblk).1
    have hlen : (nvals ss).length = ss.length := by simp [nvals]
    have hH : HoldsK encN 2 w' g 0 (nvals ss).toArray := holdsK_of_block hblk (by rw [hlen]; exact ht)
    have hS := AnyQ.slices_SortFunc_total (P := Tryz.prog) (ρ := Tryz.sortN_ren) Tryz.sortN 2 isAgg26 sizeOf26 encN (fun _ => rfl) (fun x v hv => by simp [encN] at hv; rcases hv with rfl | rfl <;> rfl) cmpN swoN 51 #[] g 0 cap (nvals ss).toArray w' (enters_of Tryz.func51 (by kernel_rfl) rfl) (cmpLaysN _ _ _ _) hH hg (by simp [nvals]; unfold maxLen at h2; omega) totN
    simp only [List.size_toArray, hlen, e1] at hS
    go_wp2_with (go_at_call 103; refine hS.mono ?_)
    rintro e w2 ⟨rfl, n, os, rfl⟩
    go_wp2
    go_ret
    refine ⟨_, rfl, ?_, hb.grown (grownBy_sortedK _) (by have := hb.size; omega) (fun k hk => by cases hk; exact hbase)⟩
    rw [e2]
    exact ownsRow_sortedK (by rw [e2]) hbase hblk h1 h2 h3
end Np
end Go.Proofs.YtohlhihhadbphaaGreatDoor

/- The candidates: the iterator as a contract. -/
namespace Go.Proofs.YtohlhihhadbphaaGreatDoor
open Go.RowKit Go.Shelf Go.Lib
attribute [local go_sem] Oper.semAt_some
namespace Np
/-- What a consumer of candidates keeps: the lowest blocks, the iterator's own, and rows of names and of strings. -/
structure KpC (K : List Nat) (B0 : Nat) (W W' : World) : Prop where
  four : Below 4 W W'
  keep : ∀ k, k ∈ K → W'.heap[k]? = W.heap[k]?
  cells : ∀ (b : Nat) (c : Array Value) (t : TypeId) (fz : Nat × Nat), B0 ≤ b → W.heap[b]? = some (.cells c t fz) → (t = 23 ∨ t = 9) → W'.heap[b]? = some (.cells c t fz)
theorem KpC.refl (K : List Nat) (B0 : Nat) (W : World) : KpC K B0 W W := ⟨Below.refl _ _, fun _ _ => rfl, fun _ _ _ _ _ h _ => h⟩
theorem KpC.trans {K : List Nat} {B0 : Nat} {A B C : World} (h : KpC K B0 A B) (k : KpC K B0 B C) : KpC K B0 A C :=
  ⟨h.four.trans k.four, fun x hx => (k.keep x hx).trans (h.keep x hx), fun b c t fz hb ho ht => k.cells b c t fz hb (h.cells b c t fz hb ho ht) ht⟩
theorem KpC.size {K : List Nat} {B0 : Nat} {W W' : World} (h : KpC K B0 W W') : W.heap.size ≤ W'.heap.size := h.four.size
theorem KpC.of_below {K : List Nat} {B0 : Nat} {W W' : World} (h4 : 4 ≤ W.heap.size) (hK : ∀ k, k ∈ K → k < W.heap.size) (h : Below W.heap.size W W') : KpC K B0 W W' :=
  ⟨h.mono h4, fun k hk => h.block k (hK k hk), fun b _ _ _ _ ho _ => (h.block b (Array.getElem?_eq_some_iff.1 ho).1).trans ho⟩

/-- What the iterator finds captured. -/
structure Cs (Bm Ba b1 b2 : Nat) (mo : Option Nat) (nms : List Name) (sps : List ByteArray) (av : List Name) (W : World) : Prop where
  g : G W
  bm : Blk W Bm #[.map (some b1), .map (some b2)] 76
  ba : Blk W Ba #[.map mo] 71
  m1 : NMap W b1 1000000 (mN nms)
  m2 : SMap W b2 1000000 (mS sps)
  av : AvIn W mo av
def csK (Bm Ba b1 b2 : Nat) (mo : Option Nat) : List Nat := Bm :: Ba :: b1 :: b2 :: mo.toList
theorem Cs.keep {Bm Ba b1 b2 B0 : Nat} {mo : Option Nat} {nms av : List Name} {sps : List ByteArray} {W W' : World} (h : Cs Bm Ba b1 b2 mo nms sps av W) (k : KpC (csK Bm Ba b1 b2 mo) B0 W W') : Cs Bm Ba b1 b2 mo nms sps av W' where
  g := h.g.below (Nat.le_refl _) k.four
  bm := (k.keep _ (by simp [csK])).trans h.bm
  ba := (k.keep _ (by simp [csK])).trans h.ba
  m1 := BMap.same h.m1 (k.keep _ (by simp [csK]))
  m2 := BMap.same h.m2 (k.keep _ (by simp [csK]))
  av := by
    cases mo with
    | none => exact h.av
    | some ba => obtain ⟨n, h'⟩ := h.av; exact ⟨n, BMap.same h' (k.keep _ (by simp [csK]))⟩
theorem Cs.lt {Bm Ba b1 b2 : Nat} {mo : Option Nat} {nms av : List Name} {sps : List ByteArray} {W : World} (h : Cs Bm Ba b1 b2 mo nms sps av W) : ∀ k, k ∈ csK Bm Ba b1 b2 mo → k < W.heap.size := by
  intro k hk
  simp only [csK, List.mem_cons, Option.mem_toList] at hk
  rcases hk with rfl | rfl | rfl | rfl | hk
  · exact h.bm.lt
  · exact h.ba.lt
  · exact BMap.lt h.m1
  · exact BMap.lt h.m2
  · subst hk; exact h.av.lt
theorem Cs.kp {Bm Ba b1 b2 B0 : Nat} {mo : Option Nat} {nms av : List Name} {sps : List ByteArray} {W W' : World} (h : Cs Bm Ba b1 b2 mo nms sps av W) (hb : Below W.heap.size W W') : KpC (csK Bm Ba b1 b2 mo) B0 W W' :=
  KpC.of_below h.g.2 h.lt hb
theorem Cs.later {Bm Ba b1 b2 : Nat} {mo : Option Nat} {nms av : List Name} {sps : List ByteArray} {W W' : World} (h : Cs Bm Ba b1 b2 mo nms sps av W) (hb : Below W.heap.size W W') : Cs Bm Ba b1 b2 mo nms sps av W' :=
  h.keep (h.kp (B0 := 0) hb)

/-- A row of the iterator's own. -/
def RowN (W : World) (B0 : Nat) (a : Option Addr) (l : List Name) : Prop := l.length ≤ maxLen ∧ (l ≠ [] → ∃ g cur, a = some ⟨g, 0, none⟩ ∧ B0 ≤ g ∧ W.heap[g]? = some (.cells cur 23 (0, 0)) ∧ ∀ j (h : j < l.length), cur[j * 2]? = some (.string l[j].sp) ∧ cur[j * 2 + 1]? = some (.string l[j].lc))
def RowS (W : World) (B0 : Nat) (a : Option Addr) (l : List ByteArray) : Prop := l.length ≤ maxLen ∧ (l ≠ [] → ∃ g cur, a = some ⟨g, 0, none⟩ ∧ B0 ≤ g ∧ W.heap[g]? = some (.cells cur 9 (0, 0)) ∧ ∀ j (h : j < l.length), cur[j]? = some (.string l[j]))
theorem RowN.keep {W W' : World} {B0 : Nat} {K : List Nat} {a : Option Addr} {l : List Name} (h : RowN W B0 a l) (k : KpC K B0 W W') : RowN W' B0 a l :=
  ⟨h.1, fun hl => by obtain ⟨g, cur, h1, h2, h3, h4⟩ := h.2 hl; exact ⟨g, cur, h1, h2, k.cells _ _ _ _ h2 h3 (.inl rfl), h4⟩⟩
theorem RowS.keep {W W' : World} {B0 : Nat} {K : List Nat} {a : Option Addr} {l : List ByteArray} (h : RowS W B0 a l) (k : KpC K B0 W W') : RowS W' B0 a l :=
  ⟨h.1, fun hl => by obtain ⟨g, cur, h1, h2, h3, h4⟩ := h.2 hl; exact ⟨g, cur, h1, h2, k.cells _ _ _ _ h2 h3 (.inr rfl), h4⟩⟩
theorem rowN_of {W : World} {B0 base : Nat} {v : Value} {l : List Name} (hb : B0 ≤ base) (h : W.ownsRow base 23 2 v l.length (l.flatMap encN)) : ∃ a cap, v = .slice a l.length cap ∧ RowN W B0 a l := by
  rcases h.2 with ⟨rfl, h0⟩ | ⟨g, cap, cur, rfl, hbase, hblk, h1, h2, h3, ht⟩
  · rw [h0]
    exact ⟨none, 0, rfl, by rw [h0]; exact Nat.zero_le _, fun hl => absurd (List.eq_nil_of_length_eq_zero h0) hl⟩
  · refine ⟨_, _, rfl, by omega, fun _ => ⟨g, cur, rfl, by omega, hblk, fun j hj => ?_⟩⟩
    have e : ∀ t, t < 2 * l.length → cur[t]? = some ((encN l[t / 2]!)[t % 2]!) := fun t ht' => by
      rw [← encN_get l t ht', ← ht, List.getElem?_take_of_lt (by omega), Array.getElem?_toList]
    have e1 := e (j * 2) (by omega)
    have e2 := e (j * 2 + 1) (by omega)
    rw [show j * 2 / 2 = j by omega, show j * 2 % 2 = 0 by omega, getElem!_pos l j hj] at e1
    rw [show (j * 2 + 1) / 2 = j by omega, show (j * 2 + 1) % 2 = 1 by omega, getElem!_pos l j hj] at e2
    exact ⟨e1, e2⟩
theorem rowS_of {W : World} {B0 base : Nat} {v : Value} {l : List ByteArray} (hb : B0 ≤ base) (h : W.ownsRow base 9 1 v l.length (l.map Value.string)) : ∃ a cap, v = .slice a l.length cap ∧ RowS W B0 a l := by
  rcases h.2 with ⟨rfl, h0⟩ | ⟨g, cap, cur, rfl, hbase, hblk, h1, h2, h3, ht⟩
  · rw [h0]
    exact ⟨none, 0, rfl, by rw [h0]; exact Nat.zero_le _, fun hl => absurd (List.eq_nil_of_length_eq_zero h0) hl⟩
  · refine ⟨_, _, rfl, by omega, fun _ => ⟨g, cur, rfl, by omega, hblk, fun j hj => ?_⟩⟩
    have e : (cur.toList.take (l.length * 1))[j]? = (l.map Value.string)[j]? := by rw [ht]
    rw [List.getElem?_take_of_lt (by omega), Array.getElem?_toList, List.getElem?_map, List.getElem?_eq_getElem hj] at e
    exact e
theorem RowN.at {W : World} {B0 : Nat} {a : Option Addr} {l : List Name} (h : RowN W B0 a l) {j : Nat} (hj : j < l.length) : ∃ g, a = some ⟨g, 0, none⟩ ∧ W.cell? ⟨g, j * 2, none⟩ = some (.string l[j].sp) ∧ W.cell? ⟨g, j * 2 + 1, none⟩ = some (.string l[j].lc) := by
  obtain ⟨g, cur, h1, _, h3, h4⟩ := h.2 (List.ne_nil_of_length_pos (by omega))
  exact ⟨g, h1, by simp [World.cell?, h3, (h4 j hj).1], by simp [World.cell?, h3, (h4 j hj).2]⟩
theorem RowS.at {W : World} {B0 : Nat} {a : Option Addr} {l : List ByteArray} (h : RowS W B0 a l) {j : Nat} (hj : j < l.length) : ∃ g, a = some ⟨g, 0, none⟩ ∧ W.cell? ⟨g, j, none⟩ = some (.string l[j]) := by
  obtain ⟨g, cur, h1, _, h3, h4⟩ := h.2 (List.ne_nil_of_length_pos (by omega))
  exact ⟨g, h1, by simp [World.cell?, h3, h4 j hj]⟩
end Np
end Go.Proofs.YtohlhihhadbphaaGreatDoor
