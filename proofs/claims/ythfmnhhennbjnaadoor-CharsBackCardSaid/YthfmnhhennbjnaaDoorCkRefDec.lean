/- The reference: Decode, Text, Local. -/
import Derived.Test.YthfmnhhennbjnaaDoorCkRef
import Derived.RangeFuncBox
namespace Go.Proofs.YthfmnhhennbjnaaDoor
open Go.RowKit Go.Shelf
namespace Ck

theorem Next_good (s : ByteArray) (hs : s.size ≤ 70368744177664) (c : Int) (r : List UInt8) (hv : validB c = true) (hd : s.data.toList = enc1 c ++ r) (w : World) :
    Calls Tryd.prog 32 #[.string s] w fun e w' => e = .returned (.tuple #[.int .i32 c, .bool true]) ∧ Below w.heap.size w w' := by
  have h0 : 0 < s.size := by
    rw [list_size, hd, List.length_append]
    have := enc1_len c
    omega
  have h := Next_any s h0 hs w
  unfold NextSays at h
  rw [hd, nextR_good hv] at h
  exact h
theorem Next_bad (s : ByteArray) (hs : s.size ≤ 70368744177664) (hne : s.data.toList ≠ []) (hn : NoneAt s.data.toList) (w : World) :
    Calls Tryd.prog 32 #[.string s] w fun e w' => e = .returned (.tuple #[.int .i32 (nextR s.data.toList).1, .bool false]) ∧ Below w.heap.size w w' := by
  have h := Next_any s (Nat.pos_of_ne_zero (ne_of_size hne)) hs w
  unfold NextSays at h
  rw [nextR_bad hne hn] at h
  exact h

theorem infoI32 : (Tryd.prog.info? 21).map (fun i => (i.zero, i.size, i.bytes)) = some (some (.int .i32 0), 1, 4) := by kernel_rfl
abbrev Row32 (B : Nat) (v : Value) (cs : List Int) (w : World) : Prop := w.ownsRow B 21 1 v cs.length (cs.map (Value.int .i32))

/-- What Decode gives. -/
def DecSays (B : Nat) (cs : List Int) (rest : List UInt8) (e : Ending) (w' : World) : Prop :=
  (rest = [] ∧ ∃ v, e = .returned (.tuple #[v, .int .i64 0, .int .i64 0]) ∧ Row32 B v cs w') ∨
  (rest ≠ [] ∧ e = .returned (.tuple #[.slice none 0 0, .int .i64 ((encL cs).length : Nat), .int .i64 6]))

theorem ownsRow_below {n B : Nat} {e : TypeId} {z k : Nat} {v : Value} {xs : List Value} {w w' : World} (h : w.ownsRow B e z v k xs) (hb : Below w.heap.size w w') (_hn : n = n) : w'.ownsRow B e z v k xs :=
  h.kept (below_grown hb) (by cases h' : v.ownBlock <;> simp)

set_option maxRecDepth 100000 in
set_option maxHeartbeats 4000000 in
theorem refDecode_any (s : ByteArray) (hs : s.size ≤ 1048576) (cs : List Int) (rest : List UInt8) (hS : Split s.data.toList cs rest) (w : World) :
    Calls Tryd.prog 19 #[.string s] w fun e w' => DecSays w.heap.size cs rest e w' ∧ Below w.heap.size w w' := by
  obtain ⟨i0, hi, hz0, hz1, hz2⟩ := info_parts infoI32
  have hss : s.size ≤ 70368744177664 := by omega
  go_enter Tryd.func19, Tryd.ntmps19
  go_wp2
  go_loopw [5, 6] (fun v i wr => ∃ k : Nat, k ≤ cs.length ∧ i = .int .i64 ((encL (cs.take k)).length : Nat) ∧ wr.ownsRow w.heap.size 21 1 v k ((cs.take k).map (Value.int .i32)) ∧ Below w.heap.size w wr) (fun _ i _ => s.size - (intOf i).toNat)
  case atStart => exact ⟨0, Nat.zero_le _, rfl, World.ownsRow_nil _ _ _ _, Below.refl _ _⟩
  case round =>
    obtain ⟨k, hk, rfl, hown, hbw⟩ := hrel
    have hlen := hS.len
    have hle := take_len_le cs k
    rw [← list_size] at hlen
    have hdrop := hS.drop k
    have hcl := (encL_len cs).1
    by_cases hlt : k < cs.length
    · obtain ⟨c, hc⟩ : ∃ c, cs[k] = c := ⟨_, rfl⟩
      have hv : validB c = true := hS.valid c (by rw [← hc]; exact List.getElem_mem hlt)
      have hel := enc1_len c
      have hdr := encL_drop cs k hlt
      rw [hc] at hdr
      rw [hdr, List.append_assoc] at hdrop
      have hnext : (encL (cs.take (k + 1))).length = (encL (cs.take k)).length + (enc1 c).length := by
        rw [encL_take_snoc cs k hlt, List.length_append, hc]
      have hle1 := take_len_le cs (k + 1)
      have htk : (cs.take (k + 1)).map (Value.int .i32) = (cs.take k).map (Value.int .i32) ++ [.int .i32 c] := by
        rw [List.take_succ_eq_append_getElem hlt, hc, List.map_append]; rfl
      have Hn := Lib.hid hnext
      have Ht := Lib.hid htk
      rw [hnext] at hle1
      obtain ⟨p, hp⟩ : ∃ p, (encL (cs.take k)).length = p := ⟨_, rfl⟩
      obtain ⟨E, hE⟩ : ∃ E, enc1 c = E := ⟨_, rfl⟩
      obtain ⟨xs, hxs⟩ : ∃ xs, (cs.take k).map (Value.int .i32) = xs := ⟨_, rfl⟩
      rw [hp] at hdrop hle hle1 ⊢
      rw [hE] at hle1 hel
      rw [hxs] at hown
      have Hp := Lib.hid hp
      have HE := Lib.hid hE
      have Hxs := Lib.hid hxs
      have hpl : p < s.size := by omega
      have hpz : p + E.length ≤ s.size := by omega
      have hkb : k + 1 ≤ 1048576 := by omega
      have hdata : (s.extract p s.size).data.toList = enc1 c ++ (encL (cs.drop (k + 1)) ++ rest) := by rw [ext_drop]; exact hdrop
      have Hd := Lib.hid hdata
      have Hv := Lib.hid hv
      have hxl : (s.extract p s.size).size ≤ 70368744177664 := by rw [list_size, ext_drop, List.length_drop, ← list_size]; omega
      have Hx := Lib.hid hxl
      have hE1 : 1 ≤ E.length := hel.1
      have hEs : (⟨E.toArray⟩ : ByteArray).size = E.length := by rw [list_size]
      clear hnext htk hdata hdrop hdr hlen hle hc hp hE hle1 hcl hv hxl hel hxs
      go_wp2_with (go_at_call 32; refine (Next_good _ Hx.out c _ Hv.out Hd.out _).mono ?_)
      rintro e w1 ⟨rfl, hb1⟩
      have hown1 := ownsRow_below (n := 0) hown hb1 rfl
      have hbw1 := hbw.trans (hb1.mono hbw.size)
      have hsz1 := hbw1.size
      go_wp2_with (at_builtin; refine wpList_append_own _ rfl _ _ 26 rfl w.heap.size 21 i0 (.int .i32 0) 1 4 Tryd.underlying26 hi hz0 hz1 hz2 rfl (by decide) _ _ _ rfl (hown1.alloc _) ⟨w1.heap.size, 0, none⟩ 1 1 [.int .i32 c] rfl rfl ?c1 ?c2 ?c3 ?c4 ?c5 ?_)
      case c1 =>
        intro j u hj
        match j, hj with
        | 0, hj => simp at hj; subst hj; simp [Addr.add]
      case c2 => intro u hu; simp at hu; subst hu; rfl
      case c3 => unfold maxLen; omega
      case c4 => omega
      case c5 => simp; omega
      intro v' w2 hown' hgrow _
      have hbw2 : Below w.heap.size w w2 := (hbw1.alloc hsz1 _).grown hgrow (by simp; omega) (fun j hj => (hown1.lt j hj).1)
      clear hown hown1 hb1 hbw hbw1
      obtain ⟨g', cap', rfl⟩ := ownsRow_succ hown'
      go_wp2_with (go_at_call 33; refine (Bytes_is c E HE.out Hv.out _).mono ?_)
      rintro e w3 ⟨rfl, hb3⟩
      have hown3 := ownsRow_below (n := 0) hown' hb3 rfl
      have hbw3 := hbw2.trans (hb3.mono hbw2.size)
      clear hown' hgrow hbw2 hb3
      go_wp2
      go_roundw
      case rel => exact ⟨k + 1, by omega, by rw [Hn.out, Hp.out, HE.out]; go_num, by rw [Ht.out, Hxs.out]; exact hown3, hbw3⟩
      case measure =>
        have e3 : ((p : Int) + (E.length : Int)).toNat = p + E.length := by omega
        simp only [intOf, e3, Int.toNat_natCast]
        omega
    · obtain rfl : k = cs.length := by omega
      have htk : cs.take cs.length = cs := List.take_length
      rw [htk] at hown hdrop ⊢
      rw [List.drop_length] at hdrop
      by_cases hrest : rest = []
      · have hps : ¬ (encL cs).length < s.size := by rw [hlen, hrest]; simp
        clear hlen hdrop htk hle hlt
        obtain ⟨p, hp⟩ : ∃ p, (encL cs).length = p := ⟨_, rfl⟩
        rw [hp] at hps hcl ⊢
        clear hp
        obtain ⟨ao, q, cap, rfl⟩ : ∃ ao q cap, u5 = .slice ao q cap := by
          rcases hown.2 with ⟨hv, _⟩ | ⟨g, cap, cur, hv, _⟩
          · exact ⟨_, _, _, hv⟩
          · exact ⟨_, _, _, hv⟩
        go_wp2
        go_ret3
        exact ⟨.inl ⟨hrest, _, rfl, hown⟩, hbw⟩
      · have hpl : (encL cs).length < s.size := by
          have : 0 < rest.length := List.length_pos_iff.2 hrest
          omega
        have hdata : (s.extract (encL cs).length s.size).data.toList = rest := by rw [ext_drop, hdrop]; rfl
        have hxl : (s.extract (encL cs).length s.size).size ≤ 70368744177664 := by rw [list_size, ext_drop, List.length_drop, ← list_size]; omega
        have Hd := Lib.hid hdata
        have Hx := Lib.hid hxl
        have Hr := Lib.hid hrest
        obtain ⟨p, hp⟩ : ∃ p, (encL cs).length = p := ⟨_, rfl⟩
        rw [hp] at hpl Hd Hx ⊢
        have Hp := Lib.hid hp
        clear hlen hdrop htk hle hlt hdata hxl hcl hrest hp
        go_wp2_with (go_at_call 32; refine (Next_bad _ Hx.out (by rw [Hd.out]; exact Hr.out) (by rw [Hd.out]; exact hS.stop) _).mono ?_)
        rintro e w1 ⟨rfl, hb1⟩
        have hbw1 := hbw.trans (hb1.mono hbw.size)
        clear hown hbw hb1
        go_wp2
        go_ret3
        exact ⟨.inr ⟨Hr.out, by rw [Hp.out]; rfl⟩, hbw1⟩

/-- Is it a text? -/
theorem refText_any (s : ByteArray) (hs : s.size ≤ 1048576) (cs : List Int) (rest : List UInt8) (hS : Split s.data.toList cs rest) (w : World) :
    Calls Tryd.prog 38 #[.string s] w fun e w' => e = .returned (.bool (decide (rest = []))) ∧ Below w.heap.size w w' := by
  go_enter Tryd.func38, Tryd.ntmps38
  go_wp2_with (go_at_call 19; refine (refDecode_any _ hs cs rest hS _).mono ?_)
  rintro e w1 ⟨⟨hr, v, rfl, _⟩ | ⟨hr, rfl⟩, hb⟩
  · have Hr := Lib.hid hr
    clear hr
    go_wp2
    go_ret
    exact ⟨by rw [decide_eq_true Hr.out]; rfl, hb⟩
  · have Hr := Lib.hid hr
    clear hr
    go_wp2
    go_ret
    exact ⟨by rw [decide_eq_false Hr.out]; rfl, hb⟩

def localR (l : List UInt8) (cs : List Int) (rest : List UInt8) : Bool :=
  decide (rest = []) && decide (cs ≠ []) && decide (l.length ≤ 200) && (cs.head?.any firstB) && cs.all innerB

theorem items_pos (p : Nat) (hp : 0 < p) (cs : List Int) : (itemsFrom p cs).all okI = cs.all innerB := by
  induction cs generalizing p with
  | nil => rfl
  | cons c cs ih =>
    simp only [itemsFrom, List.all_cons, ih (p + (enc1 c).length) (by omega)]
    congr 1
    unfold okI
    rw [beq_eq_false_iff_ne.2 (show p ≠ 0 by omega)]; simp
theorem local_same {l : List UInt8} {cs : List Int} {rest : List UInt8} (h : Split l cs rest) : localB l cs rest = localR l cs rest := by
  unfold localB localR
  by_cases hr : rest = []
  · subst hr
    have hi : items cs [] = itemsFrom 0 cs := by unfold items tailItem; simp
    have hl : l = encL cs := by rw [h.eq, List.append_nil]
    rw [hi]
    cases cs with
    | nil => rw [hl]; simp [encL]
    | cons c cs =>
      have hne : l ≠ [] := by
        rw [hl]; intro e
        have := (encL_len (c :: cs)).1
        rw [e] at this; simp at this
      rw [decide_eq_true hne]
      simp only [itemsFrom, List.all_cons, Nat.zero_add, items_pos _ (show 0 < (enc1 c).length by have := enc1_len c; omega), decide_true, Bool.true_and, List.head?_cons, Option.any_some, okI]
      cases firstB c <;> cases innerB c <;> simp
  · rw [decide_eq_false hr]
    have : (items cs rest).all okI = false := by
      unfold items tailItem
      rw [if_neg hr, List.all_append]
      have : okI ((encL cs).length, -1) = false := by unfold okI; rw [show innerB (-1) = false by decide]; simp
      simp only [List.all_cons, this, Bool.false_and, Bool.and_false]
    rw [this]; simp

theorem refFirst_is (c : Int) (v : Bool) (hv : firstB c = v) (w : World) :
    Calls Tryd.prog 13 #[.int .i32 c] w fun e w' => e = .returned (.bool v) ∧ w = w' := by
  rw [← hv]; exact refFirst_any c w
theorem refInner_is (c : Int) (v : Bool) (hv : innerB c = v) (w : World) :
    Calls Tryd.prog 15 #[.int .i32 c] w fun e w' => e = .returned (.bool v) ∧ w = w' := by
  rw [← hv]; exact refInner_any c w

theorem all_prefix' {α : Type} {f : α → Bool} {a b : List α} (h : a <+: b) (ha : a.all f = false) : b.all f = false := by
  obtain ⟨r, rfl⟩ := h
  rw [List.all_append, ha]; rfl
/-- The list of characters behind Decode, as the walk reads it. -/
theorem row_open {B : Nat} {v : Value} {cs : List Int} {w : World} (h : Row32 B v cs w) (hne : cs ≠ []) : ∃ g cap, v = .slice (some ⟨g, 0, none⟩) cs.length cap ∧ B ≤ g ∧ ∀ j (hj : j < cs.length), w.cell? ⟨g, j, none⟩ = some (.int .i32 cs[j]) := by
  rcases h.2 with ⟨_, h0⟩ | ⟨g, cap, cur, rfl, hB, _⟩
  · exact absurd (List.eq_nil_of_length_eq_zero h0) hne
  · refine ⟨g, cap, rfl, hB, fun j hj => ?_⟩
    have := h.cellAt j (by omega)
    rw [this]
    simp [hj]

set_option maxRecDepth 100000 in
set_option maxHeartbeats 4000000 in
theorem refLocal_any (s : ByteArray) (hs : s.size ≤ 1048576) (cs : List Int) (rest : List UInt8) (hS : Split s.data.toList cs rest) (w : World) :
    Calls Tryd.prog 17 #[.string s] w fun e w' => e = .returned (.bool (localR s.data.toList cs rest)) ∧ Below w.heap.size w w' := by
  by_cases hr : rest = []
  · by_cases hc : cs = []
    · have Hn : Hid (localR s.data.toList cs rest = false) := Lib.hid (by unfold localR; rw [hc]; simp)
      go_enter Tryd.func17, Tryd.ntmps17
      go_wp2_with (go_at_call 19; refine (refDecode_any _ hs cs rest hS _).mono ?_)
      rintro e w1 ⟨⟨hr2, v, rfl, hown⟩ | ⟨h, _⟩, hb⟩
      · obtain ⟨ao, cap, rfl⟩ : ∃ ao cap, v = .slice ao 0 cap := by
          subst hc
          rcases hown.2 with ⟨hv, _⟩ | ⟨g, cap, cur, hv, _⟩
          · exact ⟨_, _, hv⟩
          · exact ⟨_, _, hv⟩
        clear hr hr2 hc hown hS
        go_wp2
        go_ret
        exact ⟨by rw [Hn.out]; rfl, hb⟩
      · exact absurd hr h
    · by_cases hsz : 200 < s.size
      · have Hn : Hid (localR s.data.toList cs rest = false) := Lib.hid (by unfold localR; rw [decide_eq_false (show ¬ s.data.toList.length ≤ 200 by rw [← list_size]; omega)]; simp)
        go_enter Tryd.func17, Tryd.ntmps17
        go_wp2_with (go_at_call 19; refine (refDecode_any _ hs cs rest hS _).mono ?_)
        rintro e w1 ⟨⟨hr2, v, rfl, hown⟩ | ⟨h, _⟩, hb⟩
        · obtain ⟨g, capv, rfl, hg, hcell⟩ := row_open hown hc
          have hz : ((cs.length : Int) == 0) = false := by rw [beq_eq_false_iff_ne]; have := List.length_pos_iff.2 hc; omega
          have hd : decide ((200 : Int) < s.size) = true := by rw [decide_eq_true_iff]; omega
          clear hr hr2 hc hown hS hcell
          go_wp2
          go_ret
          exact ⟨by rw [Hn.out]; rfl, hb⟩
        · exact absurd hr h
      · have hpos := List.length_pos_iff.2 hc
        have hcl := (encL_len cs).1
        have hlen := hS.len
        rw [← list_size] at hlen
        have hloc : localR s.data.toList cs rest = (firstB cs[0] && cs.all innerB) := by
          unfold localR
          rw [decide_eq_true hr, decide_eq_true hc, decide_eq_true (show s.data.toList.length ≤ 200 by rw [← list_size]; omega)]
          rw [List.head?_eq_getElem?, List.getElem?_eq_getElem hpos]; simp
        cases hf : firstB cs[0]
        · have Hn : Hid (localR s.data.toList cs rest = false) := Lib.hid (by rw [hloc, hf]; rfl)
          have Hf := Lib.hid hf
          clear hloc hf hlen
          go_enter Tryd.func17, Tryd.ntmps17
          go_wp2_with (go_at_call 19; refine (refDecode_any _ hs cs rest hS _).mono ?_)
          rintro e w1 ⟨⟨hr2, v, rfl, hown⟩ | ⟨h, _⟩, hb⟩
          · obtain ⟨g, capv, rfl, hg, hcell⟩ := row_open hown hc
            have hz : ((cs.length : Int) == 0) = false := by rw [beq_eq_false_iff_ne]; omega
            have hd : decide ((200 : Int) < s.size) = false := by rw [decide_eq_false_iff_not]; omega
            have hc0 := hcell 0 hpos
            clear hr hr2 hc hown hS hcell
            go_wp2_with (go_at_call 13; refine (refFirst_is _ false Hf.out _).mono ?_; rintro e w' ⟨rfl, rfl⟩)
            go_ret
            exact ⟨by rw [Hn.out]; rfl, hb⟩
          · exact absurd hr h
        · have Hn : Hid (localR s.data.toList cs rest = cs.all innerB) := Lib.hid (by rw [hloc, hf]; rfl)
          have Hf := Lib.hid hf
          clear hloc hf hlen
          go_enter Tryd.func17, Tryd.ntmps17
          go_wp2_with (go_at_call 19; refine (refDecode_any _ hs cs rest hS _).mono ?_)
          rintro e w1 ⟨⟨hr2, v, rfl, hown⟩ | ⟨h, _⟩, hb⟩
          · obtain ⟨g, capv, rfl, hg, hcell⟩ := row_open hown hc
            have hz : ((cs.length : Int) == 0) = false := by rw [beq_eq_false_iff_ne]; omega
            have hd : decide ((200 : Int) < s.size) = false := by rw [decide_eq_false_iff_not]; omega
            have hc0 := hcell 0 hpos
            have hl63 : cs.length ≤ 1048576 := by
              have := hS.len
              rw [← list_size] at this
              omega
            have Hcell := Lib.hid hcell
            clear hr hr2 hc hown hS hcell
            go_wp2_with (go_at_call 13; refine (refFirst_is _ true Hf.out _).mono ?_; rintro e w' ⟨rfl, rfl⟩)
            clear hc0
            go_loop [6] (fun i => ∃ k : Nat, k ≤ cs.length ∧ i = .int .i64 (k : Int) ∧ (cs.take k).all innerB = true) (fun i => cs.length - (intOf i).toNat)
            case atStart => exact ⟨0, Nat.zero_le _, rfl, rfl⟩
            case round =>
              obtain ⟨k, hk, rfl, hall⟩ := hrel
              have Hall := Lib.hid hall
              clear hall
              by_cases hlt : k < cs.length
              · have hck := Hcell.out k hlt
                cases hi : innerB cs[k]
                · have Hi := Lib.hid hi
                  clear hi
                  go_wp2_with (go_at_call 15; refine (refInner_is _ false Hi.out _).mono ?_; rintro e w' ⟨rfl, rfl⟩)
                  go_ret
                  refine ⟨?_, hb⟩
                  rw [Hn.out, show cs.all innerB = false from all_prefix' (List.take_prefix (k + 1) cs) (by rw [List.take_succ_eq_append_getElem hlt, List.all_append]; simp [Hi.out])]
                  rfl
                · have Hi := Lib.hid hi
                  clear hi
                  go_wp2_with (go_at_call 15; refine (refInner_is _ true Hi.out _).mono ?_; rintro e w' ⟨rfl, rfl⟩)
                  go_round
                  case rel => exact ⟨k + 1, by omega, by go_num, by rw [List.take_succ_eq_append_getElem hlt, List.all_append, Hall.out]; simp [Hi.out]⟩
                  case measure => simp [intOf]; omega
              · obtain rfl : k = cs.length := by omega
                go_wp2
                go_ret
                refine ⟨?_, hb⟩
                have := Hall.out
                rw [List.take_length] at this
                rw [Hn.out, this]; rfl
          · exact absurd hr h
  · have Hn : Hid (localR s.data.toList cs rest = false) := Lib.hid (by unfold localR; rw [decide_eq_false hr]; simp)
    go_enter Tryd.func17, Tryd.ntmps17
    go_wp2_with (go_at_call 19; refine (refDecode_any _ hs cs rest hS _).mono ?_)
    rintro e w1 ⟨⟨h, _⟩ | ⟨_, rfl⟩, hb⟩
    · exact absurd h hr
    · clear hr hS
      go_wp2
      go_ret
      exact ⟨by rw [Hn.out]; rfl, hb⟩
end Ck
end Go.Proofs.YthfmnhhennbjnaaDoor
