/- The program's iterator over the characters of a text: its contract. -/
import Derived.Test.YthfmnhhennbjnaaDoorShelf
import Derived.Test.YthfmnhhennbjnaaDoorCkSort
import Derived.Test.YthfmnhhennbjnaaDoorCkDec
import Derived.RangeFuncNested
import Derived.RangeFuncBound
import Derived.RangeFuncCalls
import Derived.RangeFuncLeaves
import Derived.Shelf.Abstract
import Derived.Shelf.RegionOpen
import Derived.WalkKit
import Derived.OwnWalkIn
import Derived.TacticsInMore
import Derived.LoopNIn
import Derived.LoopIn
namespace Go.Proofs.YthfmnhhennbjnaaDoor
open Go.RowKit Go.Shelf
attribute [local go_sem] Oper.semAt_some
namespace Ck

theorem list_size (s : ByteArray) : s.size = s.data.toList.length := Lib.size_eq s
theorem ne_of_size {s : ByteArray} (h : s.data.toList ≠ []) : s.size ≠ 0 := by
  rw [list_size]; exact fun e => h (List.eq_nil_of_length_eq_zero e)

/-- G lives on what lies below 4 blocks. -/
theorem G.below {n : Nat} {w w' : World} (hn : 4 ≤ n) (h : G w) (hb : Below n w w') : G w' := by
  obtain ⟨⟨t, fr, hr⟩, hu, ⟨m, hm⟩, hs⟩ := h
  refine ⟨⟨t, fr, (hb.block _ (by omega)).trans hr⟩, ?_, ⟨m, (hb.cell (p := ⟨3, 0, none⟩) (show 3 < n by omega)).trans hm⟩, Nat.le_trans hs hb.size⟩
  exact ⟨fun i hi => (hb.cell (p := ⟨1, i, none⟩) (show 1 < n by omega)).trans (hu.1 i hi), fun i hi => ⟨(hb.cell (p := ⟨2, 2 * i, none⟩) (show 2 < n by omega)).trans (hu.2 i hi).1, (hb.cell (p := ⟨2, 2 * i + 1, none⟩) (show 2 < n by omega)).trans (hu.2 i hi).2⟩⟩

theorem Dec_good (s : ByteArray) (c : Int) (r : List UInt8) (hv : validB c = true) (hs : s.data.toList = enc1 c ++ r) (w : World) (hG : G w) :
    Calls Tryd.prog 47 #[.string s] w fun e w' => e = .returned (.tuple #[.int .i32 c, .int .i64 (enc1 c).length]) ∧ Below w.heap.size w w' := by
  have hne : s.data.toList ≠ [] := by
    rw [hs]; intro e
    have := enc1_len c
    rw [(List.append_eq_nil_iff.1 e).1] at this
    simp at this
  have e := decodeGo_list s (ne_of_size hne)
  rw [hs, dec_enc hv r] at e
  have h := Tryd.utf8_DecodeRuneInString s w hG.utf
  rw [e] at h
  refine h.mono ?_
  rintro e w' ⟨rfl, hb⟩
  have := valid_pos hv
  exact ⟨by simp only [Int.toNat_of_nonneg (show 0 ≤ c by omega)], hb⟩

/-- What the decoder says where no character stands. -/
theorem Dec_bad (s : ByteArray) (hne : s.data.toList ≠ []) (w : World) (hG : G w) :
    Calls Tryd.prog 47 #[.string s] w fun e w' => e = .returned (.tuple #[.int .i32 ((decL s.data.toList).1 : Nat), .int .i64 ((decL s.data.toList).2 : Nat)]) ∧ Below w.heap.size w w' := by
  have e := decodeGo_list s (ne_of_size hne)
  have h := Tryd.utf8_DecodeRuneInString s w hG.utf
  rw [e] at h
  exact h

/-- What a round must keep: what lies below n₀, and the box of the text. -/
def KpC (n₀ Bs : Nat) (W W' : World) : Prop := Below n₀ W W' ∧ W'.heap[Bs]? = W.heap[Bs]?
def encI (x : Nat × Int) : Array Value := #[Value.int .i64 (x.1 : Int), Value.int .i32 x.2]

theorem below_grown {w w' : World} (h : Below w.heap.size w w') : w.grownBy w' none := ⟨h.os, h.tape, h.output, h.size, fun k hk _ => h.block k hk⟩

theorem abides_below {β : Type} {B : Nat} {J : β → World → Prop} (hJ : AbidesFrom B J) {s : β} {w w' : World} (h : J s w) (hb : Below w.heap.size w w') : J s w' :=
  hJ s w w' none h (below_grown hb) (fun r e => by cases e)

theorem Valid_is (c : Int) (v : Bool) (hv : validB c = v) (w : World) (hG : G w) :
    Calls Tryd.prog 8 #[.int .i32 c] w fun e w' => e = .returned (.bool v) ∧ Below w.heap.size w w' := by
  rw [← hv]; exact Valid_any c w hG
theorem ext_drop (s : ByteArray) (p : Nat) : (s.extract p s.size).data.toList = s.data.toList.drop p := by
  rw [Lib.extract_data, List.take_of_length_le (by rw [List.length_drop, list_size]; omega)]
theorem KpC.trans {n₀ Bs : Nat} {A B C : World} (h : KpC n₀ Bs A B) (k : KpC n₀ Bs B C) : KpC n₀ Bs A C := ⟨h.1.trans k.1, k.2.trans h.2⟩
theorem KpC.below {n₀ Bs : Nat} {A B C : World} (h : KpC n₀ Bs A B) (hn : n₀ ≤ B.heap.size) (hBs : Bs < B.heap.size) (k : Below B.heap.size B C) : KpC n₀ Bs A C :=
  h.trans ⟨k.mono hn, k.block _ hBs⟩

set_option maxRecDepth 100000 in
set_option maxHeartbeats 4000000 in
theorem chars1_in (n : Nat) (hn : 1 ≤ n) (l Bs n₀ : Nat) (hn₀ : 4 ≤ n₀) (s : ByteArray) (hss : s.size ≤ 70368744177664) (cs : List Int) (rest : List UInt8) (hS : Split s.data.toList cs rest) (J Jx : List (Nat × Int) → World → Prop)
    (B : Nat) (hJa : AbidesFrom B J)
    (hY : ∀ (pre : List (Nat × Int)) (x : Nat × Int) W, (-2147483648 ≤ x.2 ∧ x.2 ≤ 2147483647) → J pre W → pre.length < (items cs rest).length → YieldAt Fence.wide (n - 1) Tryd.prog l (encI x) W fun e W' =>
      (e = .returned (.bool true) ∧ J (pre ++ [x]) W' ∧ KpC n₀ Bs W W') ∨ (e = .returned (.bool false) ∧ Jx (pre ++ [x]) W'))
    (W : World) (hG : G W) (fz : Nat × Nat) (hBs : W.heap[Bs]? = some (.cells #[.string s] 9 fz)) (hBn : n₀ ≤ W.heap.size) (h0 : J [] W) :
    CallsIn Fence.wide n Tryd.prog 46 #[.func (.yield l) #[] #[], .pointer (some ⟨Bs, 0, none⟩)] W fun e W' => (∃ v, e = .returned v) ∧
      ((∃ ys, ys = items cs rest ∧ J ys W') ∨ (∃ pre, pre <+: items cs rest ∧ Jx pre W')) := by
  refine callsIn_of_wp Tryd.func46 rfl trivial ?_ rfl
  simp only [Tryd.ntmps46, List.size_toArray, List.length_cons, List.length_nil, Nat.reduceAdd, Nat.reduceSub, Array.replicate_succ, Array.replicate_zero, List.push_toArray, List.append_toArray, List.nil_append, List.cons_append]
  gi_wp2
  gi_loopw [3] (fun i wr => ∃ k : Nat, k ≤ cs.length ∧ i = .int .i64 ((encL (cs.take k)).length : Nat) ∧ J (itemsFrom 0 (cs.take k)) wr ∧ KpC n₀ Bs W wr) (fun i _ => s.size - (intOf i).toNat)
  case atStart => exact ⟨0, Nat.zero_le _, rfl, h0, Below.refl _ _, rfl⟩
  case round =>
    obtain ⟨k, hk, rfl, hJs, hkp⟩ := hrel
    have hlen := hS.len
    have hle := take_len_le cs k
    rw [← list_size] at hlen
    have hdrop := hS.drop k
    have hBsl : Bs < wr.heap.size := by
      have := hkp.2
      rw [hBs] at this
      exact (Array.getElem?_eq_some_iff.1 this).1
    have hGr : G wr := hG.below hn₀ hkp.1
    have hnr : n₀ ≤ wr.heap.size := Nat.le_trans hBn hkp.1.size
    have hbx : wr.cell? ⟨Bs, 0, none⟩ = some (.string s) := by
      have := hkp.2
      rw [hBs] at this
      simp [World.cell?, this]
    have hil := itemsFrom_len 0 (cs.take k)
    have hitl : (items cs rest).length = cs.length + (tailItem (encL cs).length rest).length := by unfold items; rw [List.length_append, itemsFrom_len]
    by_cases hlt : k < cs.length
    · obtain ⟨c, hc⟩ : ∃ c, cs[k] = c := ⟨_, rfl⟩
      have hv : validB c = true := hS.valid c (by rw [← hc]; exact List.getElem_mem hlt)
      have hps := valid_pos hv
      have hel := enc1_len c
      have hdr := encL_drop cs k hlt
      rw [hc] at hdr
      rw [hdr, List.append_assoc] at hdrop
      have hnext : (encL (cs.take (k + 1))).length = (encL (cs.take k)).length + (enc1 c).length := by
        rw [encL_take_snoc cs k hlt, List.length_append, hc]
      have hle1 := take_len_le cs (k + 1)
      have hitems := items_take cs k hlt
      rw [hc] at hitems
      have h3 : c = 65533 → (enc1 c).length = 3 := by rintro rfl; rfl
      have Hn := Lib.hid hnext
      have Hi := Lib.hid hitems
      have HL : Hid ((itemsFrom 0 (cs.take k)).length < (items cs rest).length) := Lib.hid (by rw [hil, hitl, List.length_take]; omega)
      rw [hnext] at hle1
      obtain ⟨p, hp⟩ : ∃ p, (encL (cs.take k)).length = p := ⟨_, rfl⟩
      obtain ⟨z, hz⟩ : ∃ z, (enc1 c).length = z := ⟨_, rfl⟩
      rw [hp] at hdrop hle hle1 ⊢
      have Hp := Lib.hid hp
      have hpl : p < s.size := by omega
      have hpz : p + z ≤ s.size := by omega
      have hdata : (s.extract p s.size).data.toList = enc1 c ++ (encL (cs.drop (k + 1)) ++ rest) := by rw [ext_drop]; exact hdrop
      have Hd := Lib.hid hdata
      have Hz := Lib.hid hz
      have Hc := Lib.hid hc
      have H3 : Hid (c = 65533 → z = 3) := Lib.hid (by rw [← hz]; exact h3)
      clear hnext hitems hil hdata hdrop hdr h3 hlen hitl hle hc hp hz hle1
      have hle3 : 1 ≤ z := by rw [← Hz.out]; exact hel.1
      by_cases h65 : c = 65533
      · have g1 : ((c : Int) == 65533) = true := by rw [h65]; rfl
        have g2 : ((z : Int) == 1) = false := by rw [H3.out h65]; rfl
        clear h65
        gi_wp2_with (refine ⟨trivial, ?_⟩; gi_at_call 47; refine (callsIn_wide.2 (Dec_good _ c _ hv Hd.out _ hGr)).mono ?_)
        rintro e w1 ⟨rfl, hb1⟩
        rw [Hz.out]
        have hG1 := hGr.below hGr.size hb1
        have hk1 := hkp.below hnr hBsl hb1
        have hn1 : n₀ ≤ w1.heap.size := Nat.le_trans hnr hb1.size
        have hBs1 : Bs < w1.heap.size := Nat.lt_of_lt_of_le hBsl hb1.size
        have hJ1 := abides_below hJa hJs hb1
        clear hb1 hkp hJs hGr hbx hBsl hnr
        gi_wp2_with (refine ⟨trivial, ?_⟩; gi_at_call 8; refine (callsIn_wide.2 (Valid_is c true hv _ hG1)).mono ?_)
        rintro e w2 ⟨rfl, hb2⟩
        have hk2 := hk1.below hn1 hBs1 hb2
        have hJ2 := abides_below hJa hJ1 hb2
        obtain ⟨fn, tmps, assign, body, hy, hR⟩ := hY _ (p, c) w2 (by simp only; omega) hJ2 HL.out
        dsimp only [encI] at hy
        clear hb2 hk1 hJ1 hG1 hJ2 hn1 hBs1
        gi_wp2
        refine hR.mono ?_
        rintro e W3 (⟨rfl, hJ3, hk3⟩ | ⟨rfl, hJx3⟩)
        · gi_wp2
          go_roundw
          case rel => exact ⟨k + 1, by omega, by rw [Hn.out, Hp.out, Hz.out]; go_num, by rw [Hi.out, Hp.out]; exact hJ3, hk2.trans hk3⟩
          case measure =>
            have e3 : ((p : Int) + (z : Int)).toNat = p + z := by omega
            simp only [intOf, e3, Int.toNat_natCast]
            omega
        · gi_wp2
          refine bodyPost_ret (results_none rfl _ _ _) rfl ?_
          refine ⟨⟨_, rfl⟩, .inr ⟨_, ?_, hJx3⟩⟩
          have := Hi.out
          rw [Hp.out] at this
          rw [← this]
          unfold items
          refine List.IsPrefix.trans ?_ (List.prefix_append _ _)
          have e2 := itemsFrom_append 0 (cs.take (k + 1)) (cs.drop (k + 1))
          rw [List.take_append_drop] at e2
          rw [e2]
          exact List.prefix_append _ _
      · have g1 : ((c : Int) == 65533) = false := by rw [beq_eq_false_iff_ne]; exact h65
        clear h65
        gi_wp2_with (refine ⟨trivial, ?_⟩; gi_at_call 47; refine (callsIn_wide.2 (Dec_good _ c _ hv Hd.out _ hGr)).mono ?_)
        rintro e w1 ⟨rfl, hb1⟩
        rw [Hz.out]
        have hG1 := hGr.below hGr.size hb1
        have hk1 := hkp.below hnr hBsl hb1
        have hn1 : n₀ ≤ w1.heap.size := Nat.le_trans hnr hb1.size
        have hBs1 : Bs < w1.heap.size := Nat.lt_of_lt_of_le hBsl hb1.size
        have hJ1 := abides_below hJa hJs hb1
        clear hb1 hkp hJs hGr hbx hBsl hnr
        gi_wp2_with (refine ⟨trivial, ?_⟩; gi_at_call 8; refine (callsIn_wide.2 (Valid_is c true hv _ hG1)).mono ?_)
        rintro e w2 ⟨rfl, hb2⟩
        have hk2 := hk1.below hn1 hBs1 hb2
        have hJ2 := abides_below hJa hJ1 hb2
        obtain ⟨fn, tmps, assign, body, hy, hR⟩ := hY _ (p, c) w2 (by simp only; omega) hJ2 HL.out
        dsimp only [encI] at hy
        clear hb2 hk1 hJ1 hG1 hJ2 hn1 hBs1
        gi_wp2
        refine hR.mono ?_
        rintro e W3 (⟨rfl, hJ3, hk3⟩ | ⟨rfl, hJx3⟩)
        · gi_wp2
          go_roundw
          case rel => exact ⟨k + 1, by omega, by rw [Hn.out, Hp.out, Hz.out]; go_num, by rw [Hi.out, Hp.out]; exact hJ3, hk2.trans hk3⟩
          case measure =>
            have e3 : ((p : Int) + (z : Int)).toNat = p + z := by omega
            simp only [intOf, e3, Int.toNat_natCast]
            omega
        · gi_wp2
          refine bodyPost_ret (results_none rfl _ _ _) rfl ?_
          refine ⟨⟨_, rfl⟩, .inr ⟨_, ?_, hJx3⟩⟩
          have := Hi.out
          rw [Hp.out] at this
          rw [← this]
          unfold items
          refine List.IsPrefix.trans ?_ (List.prefix_append _ _)
          have e2 := itemsFrom_append 0 (cs.take (k + 1)) (cs.drop (k + 1))
          rw [List.take_append_drop] at e2
          rw [e2]
          exact List.prefix_append _ _
    · obtain rfl : k = cs.length := by omega
      have htk : cs.take cs.length = cs := List.take_length
      rw [htk] at hJs hdrop hil ⊢
      rw [List.drop_length] at hdrop
      by_cases hrest : rest = []
      · have hps : ¬ (encL cs).length < s.size := by rw [hlen, hrest]; simp
        have Hit : Hid (itemsFrom 0 cs = items cs rest) := Lib.hid (by unfold items tailItem; rw [if_pos hrest, List.append_nil])
        have hps2 : s.size ≤ (encL cs).length := by omega
        clear hrest hlen hdrop hil htk hitl hle hkp
        obtain ⟨p, hp⟩ : ∃ p, (encL cs).length = p := ⟨_, rfl⟩
        rw [hp] at hps hps2 ⊢
        clear hp
        gi_wp2
        go_end0
        exact ⟨⟨_, rfl⟩, .inl ⟨_, Hit.out, hJs⟩⟩
      · have hpl : (encL cs).length < s.size := by
          have : 0 < rest.length := List.length_pos_iff.2 hrest
          omega
        have hbad : bad (decL rest) = true := hS.stop.resolve_left hrest
        obtain ⟨r, hr⟩ : ∃ r, (decL rest).1 = r := ⟨_, rfl⟩
        obtain ⟨m, hm⟩ : ∃ m, (decL rest).2 = m := ⟨_, rfl⟩
        have hcase : (r = 65533 ∧ m = 1) ∨ (r ≠ 65533 ∧ validB (r : Int) = false) := by
          unfold bad at hbad
          rw [decide_eq_true_iff, hr, hm] at hbad
          rcases hbad with h | h
          · exact .inl h
          · refine .inr ⟨?_, h⟩
            rintro rfl
            exact absurd h (by decide)
        have Hit : Hid (itemsFrom 0 cs ++ [((encL cs).length, -1)] = items cs rest) := Lib.hid (by unfold items tailItem; rw [if_neg hrest])
        have HL : Hid ((itemsFrom 0 cs).length < (items cs rest).length) := Lib.hid (by
          have := Hit.out
          rw [← this, List.length_append]; simp)
        have hdata : (s.extract (encL cs).length s.size).data.toList = rest := by rw [ext_drop, hdrop]; rfl
        have Hne : Hid ((s.extract (encL cs).length s.size).data.toList ≠ []) := Lib.hid (by rw [hdata]; exact hrest)
        have Hr : Hid ((decL (s.extract (encL cs).length s.size).data.toList).1 = r) := Lib.hid (by rw [hdata]; exact hr)
        have Hm : Hid ((decL (s.extract (encL cs).length s.size).data.toList).2 = m) := Lib.hid (by rw [hdata]; exact hm)
        clear hrest hlen hdrop hil htk hitl hle hbad hr hm hdata
        obtain ⟨p, hp⟩ : ∃ p, (encL cs).length = p := ⟨_, rfl⟩
        rw [hp] at hpl Hne Hr Hm Hit ⊢
        clear hp
        rcases hcase with ⟨h1, h2⟩ | ⟨h1, h2⟩
        · have g1 : (((r : Nat) : Int) == 65533) = true := by rw [h1]; rfl
          have g2 : (((m : Nat) : Int) == 1) = true := by rw [h2]; rfl
          clear h1 h2
          gi_wp2_with (refine ⟨trivial, ?_⟩; gi_at_call 47; refine (callsIn_wide.2 (Dec_bad _ Hne.out _ hGr)).mono ?_)
          rintro e w1 ⟨rfl, hb1⟩
          rw [Hr.out, Hm.out]
          have hk1 := hkp.below hnr hBsl hb1
          have hn1 : n₀ ≤ w1.heap.size := Nat.le_trans hnr hb1.size
          have hBs1 : Bs < w1.heap.size := Nat.lt_of_lt_of_le hBsl hb1.size
          have hJ1 := abides_below hJa hJs hb1
          have hJ2 := hJ1
          obtain ⟨fn, tmps, assign, body, hy, hR⟩ := hY _ (p, -1) w1 (by simp) hJ1 HL.out
          dsimp only [encI] at hy
          clear hJ1 hJ2 hb1 hkp hJs hGr hbx hBsl hnr hk1 hn1 hBs1
          gi_wp2
          refine ⟨trivial, ?_⟩
          gi_wp2
          refine hR.mono ?_
          rintro e W3 (⟨rfl, hJ3, hk3⟩ | ⟨rfl, hJx3⟩)
          · gi_wp2
            refine bodyPost_ret (results_none rfl _ _ _) rfl ?_
            exact ⟨⟨_, rfl⟩, .inl ⟨_, Hit.out, hJ3⟩⟩
          · gi_wp2
            refine bodyPost_ret (results_none rfl _ _ _) rfl ?_
            exact ⟨⟨_, rfl⟩, .inr ⟨_, by rw [← Hit.out]; exact List.prefix_refl _, hJx3⟩⟩
        · have g1 : (((r : Nat) : Int) == 65533) = false := by rw [beq_eq_false_iff_ne]; omega
          clear h1
          gi_wp2_with (refine ⟨trivial, ?_⟩; gi_at_call 47; refine (callsIn_wide.2 (Dec_bad _ Hne.out _ hGr)).mono ?_)
          rintro e w1 ⟨rfl, hb1⟩
          rw [Hr.out, Hm.out]
          have hk1 := hkp.below hnr hBsl hb1
          have hn1 : n₀ ≤ w1.heap.size := Nat.le_trans hnr hb1.size
          have hBs1 : Bs < w1.heap.size := Nat.lt_of_lt_of_le hBsl hb1.size
          have hJ1 := abides_below hJa hJs hb1
          have hG1 := hGr.below hGr.size hb1
          clear hb1 hkp hJs hGr hbx hBsl hnr
          gi_wp2_with (refine ⟨trivial, ?_⟩; gi_at_call 8; refine (callsIn_wide.2 (Valid_is _ false h2 _ hG1)).mono ?_)
          rintro e w2 ⟨rfl, hb2⟩
          have hJ2 := abides_below hJa hJ1 hb2
          obtain ⟨fn, tmps, assign, body, hy, hR⟩ := hY _ (p, -1) w2 (by simp) hJ2 HL.out
          dsimp only [encI] at hy
          clear hb2 hk1 hJ1 hG1 hJ2 hn1 hBs1
          gi_wp2
          refine hR.mono ?_
          rintro e W3 (⟨rfl, hJ3, hk3⟩ | ⟨rfl, hJx3⟩)
          · gi_wp2
            refine bodyPost_ret (results_none rfl _ _ _) rfl ?_
            exact ⟨⟨_, rfl⟩, .inl ⟨_, Hit.out, hJ3⟩⟩
          · gi_wp2
            refine bodyPost_ret (results_none rfl _ _ _) rfl ?_
            exact ⟨⟨_, rfl⟩, .inr ⟨_, by rw [← Hit.out]; exact List.prefix_refl _, hJx3⟩⟩

/-- **The iterator that characters returns stops behind the characters, or behind the first place where none stands.** -/
theorem chars_stops (n : Nat) (hn : 1 ≤ n) (Bs n₀ : Nat) (hn₀ : 4 ≤ n₀) (s : ByteArray) (hss : s.size ≤ 70368744177664) (cs : List Int) (rest : List UInt8) (hS : Split s.data.toList cs rest)
    (w : World) (hG : G w) (fz : Nat × Nat) (hBs : w.heap[Bs]? = some (.cells #[.string s] 9 fz)) (hBn : n₀ ≤ w.heap.size) :
    SeqStopsK Fence.wide n Tryd.prog 46 #[.pointer (some ⟨Bs, 0, none⟩)] encI (KpC n₀ Bs) (fun ys => ys = items cs rest) (fun pre => pre <+: items cs rest) (items cs rest).length w := fun l J Jx W hW hJ _ hY h0 => by
  have hlt : Bs < w.heap.size := (Array.getElem?_eq_some_iff.1 hBs).1
  exact chars1_in n hn l Bs n₀ hn₀ s hss cs rest hS J Jx W.heap.size hJ (fun pre x W _ => hY pre x W) W (hG.below hn₀ (hW.mono hBn)) fz ((hW.block _ hlt).trans hBs) (Nat.le_trans hBn hW.size) h0

set_option maxHeartbeats 1000000 in
/-- characters(s): the text is boxed; the function value captures the box. -/
theorem characters_in (s : ByteArray) (w : World) :
    Calls Tryd.prog 31 #[.string s] w fun e w' => e = .returned (.func (.func 46) #[] #[.pointer (some ⟨w.heap.size, 0, none⟩)]) ∧ w' = w.alloc (.cells #[.string s] 9) := by
  go_enter Tryd.func31, Tryd.ntmps31
  go_wp2
  go_ret
  exact ⟨rfl, rfl⟩

theorem kpC_b {n₀ Bs : Nat} {w : World} (hn : n₀ ≤ w.heap.size) (hB : Bs < w.heap.size) (W : World) (l : Nat) (o o' : Obj) (hl : w.heap.size ≤ l) (h : W.heap[l]? = some o) (h1 : o.isCells = false) (h2 : o.isWalk = false) : KpC n₀ Bs W (W.putObj l o') :=
  ⟨belowK_b hn W l o o' hl h h1 h2, World.putObj_heap_other (by omega)⟩
theorem KpC.refl (n₀ Bs : Nat) (W : World) : KpC n₀ Bs W W := ⟨Below.refl _ _, rfl⟩
theorem KpC.of_below {n₀ Bs : Nat} {W W' : World} (hn : n₀ ≤ W.heap.size) (hB : Bs < W.heap.size) (h : Below W.heap.size W W') : KpC n₀ Bs W W' := ⟨h.mono hn, h.block _ hB⟩

/-- What lies below w's size stands; and there are more than k blocks beyond. -/
def Gr (w : World) (k : Nat) (W : World) : Prop := Below w.heap.size w W ∧ w.heap.size + k < W.heap.size
theorem Gr.own {β : Type} {w : World} {k B : Nat} (hB : w.heap.size ≤ B) : OwnFrom B (fun (_ : β) W => Gr w k W) := fun s W W' row hs hg hr =>
  ⟨ownFrom_below (β := β) (Nat.le_refl _) hB s W W' row hs.1 hg hr, Nat.lt_of_lt_of_le hs.2 hg.size⟩
theorem Gr.below {w : World} {k n : Nat} {W W' : World} (h : Gr w k W) (hn : w.heap.size ≤ n) (hb : Below n W W') : Gr w k W' := ⟨h.1.trans (hb.mono hn), Nat.lt_of_lt_of_le h.2 hb.size⟩

/-- A place and a number of 32 bits. -/
abbrev I32 := { x : Nat × Int // -2147483648 ≤ x.2 ∧ x.2 ≤ 2147483647 }
abbrev vals (l : List I32) : List (Nat × Int) := l.map Subtype.val
def encJ (x : I32) : Array Value := encI x.1
/-- The same, of numbers that are known to fit. -/
theorem chars_stops32 (n : Nat) (hn : 1 ≤ n) (Bs n₀ : Nat) (hn₀ : 4 ≤ n₀) (s : ByteArray) (hss : s.size ≤ 70368744177664) (cs : List Int) (rest : List UInt8) (hS : Split s.data.toList cs rest)
    (w : World) (hG : G w) (fz : Nat × Nat) (hBs : w.heap[Bs]? = some (.cells #[.string s] 9 fz)) (hBn : n₀ ≤ w.heap.size) :
    SeqStopsK Fence.wide n Tryd.prog 46 #[.pointer (some ⟨Bs, 0, none⟩)] encJ (KpC n₀ Bs) (fun ys => vals ys = items cs rest) (fun pre => vals pre <+: items cs rest) (items cs rest).length w := fun l J Jx W hW hJ _ hY h0 => by
  have hlt : Bs < w.heap.size := (Array.getElem?_eq_some_iff.1 hBs).1
  refine (chars1_in n hn l Bs n₀ hn₀ s hss cs rest hS (fun pre W => ∃ p : List I32, vals p = pre ∧ J p W) (fun pre W => ∃ p : List I32, vals p = pre ∧ Jx p W) W.heap.size ?_ ?_ W (hG.below hn₀ (hW.mono hBn)) fz ((hW.block _ hlt).trans hBs) (Nat.le_trans hBn hW.size) ⟨[], rfl, h0⟩).mono ?_
  · rintro pre A B row ⟨p, hp, hs⟩ hg hr
    exact ⟨p, hp, hJ p A B row hs hg hr⟩
  · rintro pre x A hx ⟨p, rfl, hp⟩ hl
    obtain ⟨fn, tmps, assign, body, hy, hR⟩ := hY p ⟨x, hx⟩ A hp (by rw [List.length_map] at hl; exact hl)
    refine ⟨fn, tmps, assign, body, hy, hR.mono ?_⟩
    rintro e B (⟨he, h1, h2⟩ | ⟨he, h1⟩)
    · exact .inl ⟨he, ⟨_, by simp [vals], h1⟩, h2⟩
    · exact .inr ⟨he, ⟨_, by simp [vals], h1⟩⟩
  · rintro e B ⟨he, ⟨ys, rfl, p, hp, h1⟩ | ⟨pre, hpre, p, rfl, h1⟩⟩
    · exact ⟨he, .inl ⟨p, hp, h1⟩⟩
    · exact ⟨he, .inr ⟨p, hpre, h1⟩⟩
end Ck
end Go.Proofs.YthfmnhhennbjnaaDoor
