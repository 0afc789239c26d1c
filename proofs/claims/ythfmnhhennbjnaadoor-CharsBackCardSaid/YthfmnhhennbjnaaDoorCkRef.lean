/- The reference: Bytes, more, Next. -/
import Derived.Test.YthfmnhhennbjnaaDoorCkIter
import Derived.WalkSpells
import Derived.Deep.QuietTactic
import Derived.BigQuiet
namespace Go.Proofs.YthfmnhhennbjnaaDoor
open Go.RowKit Go.Shelf
namespace Ck

theorem isEmpty_no {s : ByteArray} (h : s.data.toList ≠ []) : s.toList.isEmpty = false := by
  rw [Lib.toList_data]
  cases h' : s.data.toList with
  | nil => exact absurd h' h
  | cons _ _ => rfl
theorem ret_str {a b : ByteArray} (h : a = b) : Ending.returned (.string a) = .returned (.string b) := by rw [h]

/-- string(b) of a new row of bytes. -/
theorem conv_ints (xs : List Int) (hx : ∀ x ∈ xs, 0 ≤ x ∧ x < 256) (w : World) :
    (convert 47 9 (.slice (some ⟨w.heap.size, 0, none⟩) xs.length xs.length)).run Tryd.prog (w.alloc (.cells (xs.map (Value.int .u8)).toArray 5)) = .ok (.string ⟨(xs.map u).toArray⟩) (w.alloc (.cells (xs.map (Value.int .u8)).toArray 5)) := by
  have h := run_convert_bytes_back (P := Tryd.prog) (w.alloc (.cells (xs.map (Value.int .u8)).toArray 5)) 47 9 5 ⟨w.heap.size, 0, none⟩ xs.length (xs.map u) Tryd.underlying47 Tryd.underlying5 Tryd.underlying9 ?_
  · rw [List.length_map] at h
    exact h
  · intro j hj
    rw [List.length_map] at hj
    have ha : (⟨w.heap.size, 0, none⟩ : Addr).add j = ⟨w.heap.size, j, none⟩ := by unfold Addr.add; split <;> simp_all
    rw [ha, World.cell?_alloc_mark]
    have hm := hx xs[j] (List.getElem_mem hj)
    simp [hj, u_nat hm.1 hm.2, Int.toNat_of_nonneg hm.1]

theorem ret_end {a b : List UInt8} (h : a = b) : Ending.returned (.string ⟨a.toArray⟩) = .returned (.string ⟨b.toArray⟩) := by rw [h]

set_option maxRecDepth 100000 in
set_option maxHeartbeats 4000000 in
theorem Bytes_any (c : Int) (hv : validB c = true) (w : World) :
    Calls Tryd.prog 33 #[.int .i32 c] w fun e w' => e = .returned (.string ⟨(enc1 c).toArray⟩) ∧ Below w.heap.size w w' := by
  have Hv := Lib.hid hv
  clear hv
  rcases valid_cases Hv.out with ⟨h0, h1⟩ | ⟨h0, h1⟩ | h0 | ⟨h0, h1⟩
  · have h2 : c < 128 := by omega
    have hcv := conv_ints [c] (by simp; omega) w
    simp only [List.length_cons, List.length_nil, Nat.zero_add, List.map_cons, List.map_nil] at hcv
    go_enter Tryd.func33, Tryd.ntmps33
    go_wp2
    go_ret
    exact ⟨by rw [enc1_one h0 h1]; rfl, (Below.refl _ _).alloc (Nat.le_refl _) _⟩
  · have a1 : 128 ≤ c := h0
    have a2 : c < 2048 := by omega
    have a0 : 0 ≤ c := by omega
    have hcv := conv_ints [192 + c / 64, 128 + c % 64] (by simp; omega) w
    simp only [List.length_cons, List.length_nil, Nat.zero_add, List.map_cons, List.map_nil, Nat.reduceAdd] at hcv
    go_enter Tryd.func33, Tryd.ntmps33
    go_wp2
    go_ret
    exact ⟨by rw [enc1_two h0 h1]; rfl, (Below.refl _ _).alloc (Nat.le_refl _) _⟩
  · have a1 : 2048 ≤ c := by omega
    have a2 : c < 65536 := by omega
    have a0 : 0 ≤ c := by omega
    have hcv := conv_ints [224 + c / 4096, 128 + c / 64 % 64, 128 + c % 64] (by simp; omega) w
    simp only [List.length_cons, List.length_nil, Nat.zero_add, List.map_cons, List.map_nil, Nat.reduceAdd] at hcv
    go_enter Tryd.func33, Tryd.ntmps33
    go_wp2
    go_ret
    exact ⟨by rw [enc1_three h0]; rfl, (Below.refl _ _).alloc (Nat.le_refl _) _⟩
  · have a1 : 65536 ≤ c := h0
    have a0 : 0 ≤ c := by omega
    have hcv := conv_ints [240 + c / 262144, 128 + c / 4096 % 64, 128 + c / 64 % 64, 128 + c % 64] (by simp; omega) w
    simp only [List.length_cons, List.length_nil, Nat.zero_add, List.map_cons, List.map_nil, Nat.reduceAdd] at hcv
    go_enter Tryd.func33, Tryd.ntmps33
    go_wp2
    go_ret
    exact ⟨by rw [enc1_four h0 h1]; rfl, (Below.refl _ _).alloc (Nat.le_refl _) _⟩

def moreV : Option Int → Value
  | some c => .tuple #[.int .i32 c, .bool true]
  | none => .tuple #[.int .i32 0, .bool false]

theorem drop_cons (s : ByteArray) (k : Nat) (h : k < s.size) : s.data.toList.drop k = s[k] :: s.data.toList.drop (k + 1) := by
  rw [List.drop_eq_getElem_cons (by rw [← list_size]; exact h)]; rfl

set_option maxRecDepth 100000 in
set_option maxHeartbeats 4000000 in
theorem more_any (n : Int) (s : ByteArray) (many : Nat) (hm : 1 ≤ many ∧ many ≤ 3) (hn : 0 ≤ n ∧ n < 32) (hs : s.size ≤ 70368744177664) (w : World) :
    Calls Tryd.prog 48 #[.int .i32 n, .string s, .int .i64 (many : Int)] w fun e w' => e = .returned (moreV (moreL n (s.data.toList.drop 1) many)) ∧ w = w' := by
  obtain ⟨hm1, hm3⟩ := hm
  by_cases hsh : s.size < many + 1
  · have e : moreL n (s.data.toList.drop 1) many = none := moreL_short _ _ _ (by rw [List.length_drop, ← list_size]; omega)
    rw [e]
    clear e
    go_enter Tryd.func48, Tryd.ntmps48
    go_wp2
    go_ret2
    exact ⟨rfl, rfl⟩
  · have hsh' : many + 1 ≤ s.size := by omega
    clear hsh
    obtain ⟨R, hR⟩ : ∃ R, moreL n (s.data.toList.drop 1) many = R := ⟨_, rfl⟩
    rw [hR]
    have HR := Lib.hid hR
    clear hR
    go_enter Tryd.func48, Tryd.ntmps48
    go_wp2
    go_loop [0, 8] (fun x i => ∃ (k : Nat) (m : Int), 1 ≤ k ∧ k ≤ many + 1 ∧ i = .int .i64 (k : Int) ∧ x = .int .i32 m ∧ 0 ≤ m ∧ m < cap k ∧ moreL m (s.data.toList.drop k) (many + 1 - k) = R) (fun _ i => many + 1 - (intOf i).toNat)
    case atStart => exact ⟨1, n, by omega, by omega, rfl, rfl, hn.1, by have : cap 1 = 32 := rfl; omega, by rw [show many + 1 - 1 = many by omega]; exact HR.out⟩
    case round =>
      obtain ⟨k, m, hk1, hk2, rfl, rfl, hm0, hmc, hml⟩ := hrel
      by_cases hlt : k ≤ many
      · have hks : k < s.size := by omega
        obtain ⟨j, hj⟩ : ∃ j, many + 1 - k = j + 1 := ⟨many - k, by omega⟩
        rw [drop_cons s k hks, hj, moreL_cons] at hml
        have hcl := cap_le (k := k) (by omega)
        have hstep := fun x hx => cap_step (m := m) (x := x) hk1 (by omega) hmc hx
        have Hst := Lib.hid hstep
        have B := s[k].toNat_lt
        have Hml := Lib.hid hml
        have hj2 : many + 1 - (k + 1) = j := by omega
        have Hj := Lib.hid hj2
        have hnew : m ≤ 131072 := by omega
        clear hml hstep hmc hj hj2
        by_cases h1 : 128 ≤ s[k].toNat
        · by_cases h2 : s[k].toNat ≤ 191
          · go_wp2
            exact ⟨⟨k + 1, m * 64 + ((s[k].toNat : Int) - 128), by omega, by omega, by go_num, rfl, by omega, Hst.out _ (by omega), by
              have := Hml.out
              rw [if_pos ⟨h1, h2⟩] at this
              rw [Hj.out]; exact this⟩, by
              have e3 : ((k : Int) + 1).toNat = k + 1 := by omega
              simp only [intOf, e3, Int.toNat_natCast]
              omega⟩
          · go_wp2
            go_ret2
            exact ⟨by rw [← Hml.out, if_neg (by omega)]; rfl, rfl⟩
        · go_wp2
          go_ret2
          exact ⟨by rw [← Hml.out, if_neg (by omega)]; rfl, rfl⟩
      · obtain rfl : k = many + 1 := by omega
        rw [Nat.sub_self, moreL_zero] at hml
        have Hml := Lib.hid hml
        clear hml
        go_wp2
        go_ret2
        exact ⟨by rw [← Hml.out]; rfl, rfl⟩

/-! Next -/
theorem toList_ne (s : ByteArray) (h : 0 < s.size) : s.toList.isEmpty = false := by
  refine isEmpty_no ?_
  intro e
  rw [list_size, e] at h
  exact absurd h (by decide)
theorem more_is (n : Int) (s : ByteArray) (many : Nat) (hm : 1 ≤ many ∧ many ≤ 3) (hn : 0 ≤ n ∧ n < 32) (hs : s.size ≤ 70368744177664) (R : Option Int) (hR : moreL n (s.data.toList.drop 1) many = R) (w : World) :
    Calls Tryd.prog 48 #[.int .i32 n, .string s, .int .i64 (many : Int)] w fun e w' => e = .returned (moreV R) ∧ w = w' := by
  rw [← hR]; exact more_any n s many hm hn hs w
theorem refValid_is (c : Int) (v : Bool) (hv : validB c = v) (w : World) :
    Calls Tryd.prog 9 #[.int .i32 c] w fun e w' => e = .returned (.bool v) ∧ w = w' := by
  rw [← hv]; exact refValid_any c w
theorem Bytes_is (c : Int) (E : List UInt8) (hE : enc1 c = E) (hv : validB c = true) (w : World) :
    Calls Tryd.prog 33 #[.int .i32 c] w fun e w' => e = .returned (.string ⟨E.toArray⟩) ∧ Below w.heap.size w w' := by
  rw [← hE]; exact Bytes_any c hv w
theorem below_drewN {n : Nat} {w w' : World} (h : Below n w w') (k : Nat) : Below n w (w'.drewN k) := ⟨h.os, h.tape, h.output, h.size, h.block⟩
def NextSays (s : ByteArray) (w : World) : Prop :=
  Calls Tryd.prog 32 #[.string s] w fun e w' => e = .returned (.tuple #[.int .i32 (nextR s.data.toList).1, .bool (nextR s.data.toList).2]) ∧ Below w.heap.size w w'

set_option maxRecDepth 100000 in
set_option maxHeartbeats 4000000 in
theorem Next_A (s : ByteArray) (h0 : 0 < s.size) (hs : s.size ≤ 70368744177664) (hb : s[0].toNat < 128) (w : World) : NextSays s w := by
  have hne := toList_ne s h0
  have hcons := drop_cons s 0 h0
  rw [List.drop_zero] at hcons
  have h0' : (0 : Int) < (s.size : Int) := by omega
  have B := s[0].toNat_lt
  have hcand : cand s.data.toList = some (s[0].toNat : Int) := by rw [hcons]; simp only [cand]; rw [if_pos hb]
  cases hv : validB (s[0].toNat : Int)
  · have Hn : Hid (nextR s.data.toList = (0, false)) := Lib.hid (by unfold nextR; rw [hcand]; simp [hv])
    have Hv := Lib.hid hv
    clear hcand hv
    go_enter Tryd.func32, Tryd.ntmps32
    go_wp2_with (go_at_call 9; refine (refValid_is _ false Hv.out _).mono ?_; rintro e w' ⟨rfl, rfl⟩)
    go_wp2
    go_ret2
    exact ⟨by rw [Hn.out]; rfl, Below.refl _ _⟩
  · have hnx : nextR s.data.toList = ((s[0].toNat : Int), nextB s.data.toList (s[0].toNat : Int)) := by unfold nextR; rw [hcand]; simp [hv]
    have hel := enc1_len (s[0].toNat : Int)
    have Hv := Lib.hid hv
    clear hcand hv
    obtain ⟨E, hE⟩ : ∃ E, enc1 (s[0].toNat : Int) = E := ⟨_, rfl⟩
    have hEs : (⟨E.toArray⟩ : ByteArray).size = E.length := by rw [list_size]
    by_cases hle : E.length ≤ s.size
    · cases heq : (s.data.toList.take E.length == E)
      · have Hn : Hid (nextR s.data.toList = ((s[0].toNat : Int), false)) := Lib.hid (by
          rw [hnx]; unfold nextB; rw [hE, decide_eq_true (show E.length ≤ s.data.toList.length by rw [← list_size]; exact hle)]; first | rfl | (rw [heq]; rfl))
        have g1 : decide (E.length ≤ s.size) = true := decide_eq_true hle
        have g2 : ((s.extract 0 E.length).toList == E) = false := by rw [Lib.extract_toList]; simpa using heq
        clear heq
        have HE := Lib.hid hE
        clear hnx hE
        go_enter Tryd.func32, Tryd.ntmps32
        go_wp2_with (go_at_call 9; refine (refValid_is _ true Hv.out _).mono ?_; rintro e w' ⟨rfl, rfl⟩)
        go_wp2_with (go_at_call 33; refine (Bytes_is _ E HE.out Hv.out _).mono ?_)
        rintro e w1 ⟨rfl, hb1⟩
        go_wp2
        go_quiet (fail)
        go_wp2
        go_ret2
        exact ⟨by rw [Hn.out]; rfl, below_drewN hb1 _⟩
      · have Hn : Hid (nextR s.data.toList = ((s[0].toNat : Int), true)) := Lib.hid (by
          rw [hnx]; unfold nextB; rw [hE, decide_eq_true (show E.length ≤ s.data.toList.length by rw [← list_size]; exact hle)]; first | rfl | (rw [heq]; rfl))
        have g1 : decide (E.length ≤ s.size) = true := decide_eq_true hle
        have g2 : ((s.extract 0 E.length).toList == E) = true := by rw [Lib.extract_toList]; simpa using heq
        clear heq
        have HE := Lib.hid hE
        clear hnx hE
        go_enter Tryd.func32, Tryd.ntmps32
        go_wp2_with (go_at_call 9; refine (refValid_is _ true Hv.out _).mono ?_; rintro e w' ⟨rfl, rfl⟩)
        go_wp2_with (go_at_call 33; refine (Bytes_is _ E HE.out Hv.out _).mono ?_)
        rintro e w1 ⟨rfl, hb1⟩
        go_wp2
        go_quiet (fail)
        go_wp2
        go_ret2
        exact ⟨by rw [Hn.out]; rfl, below_drewN hb1 _⟩
    · have Hn : Hid (nextR s.data.toList = ((s[0].toNat : Int), false)) := Lib.hid (by
        rw [hnx]; unfold nextB; rw [hE, decide_eq_false (show ¬ E.length ≤ s.data.toList.length by rw [← list_size]; exact hle)]; first | rfl | (rw [heq]; rfl))
      have g1 : decide (E.length ≤ s.size) = false := decide_eq_false hle
      have HE := Lib.hid hE
      clear hnx hE
      go_enter Tryd.func32, Tryd.ntmps32
      go_wp2_with (go_at_call 9; refine (refValid_is _ true Hv.out _).mono ?_; rintro e w' ⟨rfl, rfl⟩)
      go_wp2_with (go_at_call 33; refine (Bytes_is _ E HE.out Hv.out _).mono ?_)
      rintro e w1 ⟨rfl, hb1⟩
      go_wp2
      go_quiet (fail)
      go_wp2
      go_ret2
      exact ⟨by rw [Hn.out]; rfl, below_drewN hb1 _⟩

set_option maxRecDepth 100000 in
set_option maxHeartbeats 4000000 in
theorem Next_C (s : ByteArray) (h0 : 0 < s.size) (hs : s.size ≤ 70368744177664) (hb : 192 ≤ s[0].toNat ∧ s[0].toNat < 224) (w : World) : NextSays s w := by
  have hne := toList_ne s h0
  have hcons := drop_cons s 0 h0
  rw [List.drop_zero] at hcons
  have h0' : (0 : Int) < (s.size : Int) := by omega
  have B := s[0].toNat_lt
  cases hR : moreL ((s[0].toNat : Int) - 192) (s.data.toList.drop 1) 1 with
  | none =>
    have hcand : cand s.data.toList = none := by rw [hcons]; simp only [cand]; rw [if_neg (by omega)]; rw [if_neg (by omega)]; rw [if_pos (by omega)]; exact hR
    have Hn : Hid (nextR s.data.toList = (0, false)) := Lib.hid (by unfold nextR; rw [hcand])
    have HR := Lib.hid hR
    clear hcand hcons hR
    go_enter Tryd.func32, Tryd.ntmps32
    go_wp2_with (go_at_call 48; refine (more_is _ _ 1 (by omega) (by omega) hs _ HR.out _).mono ?_; rintro e w' ⟨rfl, rfl⟩; dsimp only [moreV])
    go_wp2
    go_ret2
    exact ⟨by rw [Hn.out]; rfl, Below.refl _ _⟩
  | some c =>
    have hcand : cand s.data.toList = some c := by rw [hcons]; simp only [cand]; rw [if_neg (by omega)]; rw [if_neg (by omega)]; rw [if_pos (by omega)]; exact hR
    have HR := Lib.hid hR
    clear hcons hR
    cases hv : validB c
    · have Hn : Hid (nextR s.data.toList = (0, false)) := Lib.hid (by unfold nextR; rw [hcand]; simp [hv])
      have Hv := Lib.hid hv
      clear hcand hv
      go_enter Tryd.func32, Tryd.ntmps32
      go_wp2_with (go_at_call 48; refine (more_is _ _ 1 (by omega) (by omega) hs _ HR.out _).mono ?_; rintro e w' ⟨rfl, rfl⟩; dsimp only [moreV])
      go_wp2_with (go_at_call 9; refine (refValid_is _ false Hv.out _).mono ?_; rintro e w' ⟨rfl, rfl⟩)
      go_wp2
      go_ret2
      exact ⟨by rw [Hn.out]; rfl, Below.refl _ _⟩
    · have hnx : nextR s.data.toList = (c, nextB s.data.toList c) := by unfold nextR; rw [hcand]; simp [hv]
      have hel := enc1_len c
      have Hv := Lib.hid hv
      clear hcand hv
      obtain ⟨E, hE⟩ : ∃ E, enc1 c = E := ⟨_, rfl⟩
      have hEs : (⟨E.toArray⟩ : ByteArray).size = E.length := by rw [list_size]
      by_cases hle : E.length ≤ s.size
      · cases heq : (s.data.toList.take E.length == E)
        · have Hn : Hid (nextR s.data.toList = (c, false)) := Lib.hid (by
            rw [hnx]; unfold nextB; rw [hE, decide_eq_true (show E.length ≤ s.data.toList.length by rw [← list_size]; exact hle)]; first | rfl | (rw [heq]; rfl))
          have g1 : decide (E.length ≤ s.size) = true := decide_eq_true hle
          have g2 : ((s.extract 0 E.length).toList == E) = false := by rw [Lib.extract_toList]; simpa using heq
          clear heq
          have HE := Lib.hid hE
          clear hnx hE
          go_enter Tryd.func32, Tryd.ntmps32
          go_wp2_with (go_at_call 48; refine (more_is _ _ 1 (by omega) (by omega) hs _ HR.out _).mono ?_; rintro e w' ⟨rfl, rfl⟩; dsimp only [moreV])
          go_wp2_with (go_at_call 9; refine (refValid_is _ true Hv.out _).mono ?_; rintro e w' ⟨rfl, rfl⟩)
          go_wp2_with (go_at_call 33; refine (Bytes_is _ E HE.out Hv.out _).mono ?_)
          rintro e w1 ⟨rfl, hb1⟩
          go_wp2
          go_quiet (fail)
          go_wp2
          go_ret2
          exact ⟨by rw [Hn.out]; rfl, below_drewN hb1 _⟩
        · have Hn : Hid (nextR s.data.toList = (c, true)) := Lib.hid (by
            rw [hnx]; unfold nextB; rw [hE, decide_eq_true (show E.length ≤ s.data.toList.length by rw [← list_size]; exact hle)]; first | rfl | (rw [heq]; rfl))
          have g1 : decide (E.length ≤ s.size) = true := decide_eq_true hle
          have g2 : ((s.extract 0 E.length).toList == E) = true := by rw [Lib.extract_toList]; simpa using heq
          clear heq
          have HE := Lib.hid hE
          clear hnx hE
          go_enter Tryd.func32, Tryd.ntmps32
          go_wp2_with (go_at_call 48; refine (more_is _ _ 1 (by omega) (by omega) hs _ HR.out _).mono ?_; rintro e w' ⟨rfl, rfl⟩; dsimp only [moreV])
          go_wp2_with (go_at_call 9; refine (refValid_is _ true Hv.out _).mono ?_; rintro e w' ⟨rfl, rfl⟩)
          go_wp2_with (go_at_call 33; refine (Bytes_is _ E HE.out Hv.out _).mono ?_)
          rintro e w1 ⟨rfl, hb1⟩
          go_wp2
          go_quiet (fail)
          go_wp2
          go_ret2
          exact ⟨by rw [Hn.out]; rfl, below_drewN hb1 _⟩
      · have Hn : Hid (nextR s.data.toList = (c, false)) := Lib.hid (by
          rw [hnx]; unfold nextB; rw [hE, decide_eq_false (show ¬ E.length ≤ s.data.toList.length by rw [← list_size]; exact hle)]; first | rfl | (rw [heq]; rfl))
        have g1 : decide (E.length ≤ s.size) = false := decide_eq_false hle
        have HE := Lib.hid hE
        clear hnx hE
        go_enter Tryd.func32, Tryd.ntmps32
        go_wp2_with (go_at_call 48; refine (more_is _ _ 1 (by omega) (by omega) hs _ HR.out _).mono ?_; rintro e w' ⟨rfl, rfl⟩; dsimp only [moreV])
        go_wp2_with (go_at_call 9; refine (refValid_is _ true Hv.out _).mono ?_; rintro e w' ⟨rfl, rfl⟩)
        go_wp2_with (go_at_call 33; refine (Bytes_is _ E HE.out Hv.out _).mono ?_)
        rintro e w1 ⟨rfl, hb1⟩
        go_wp2
        go_quiet (fail)
        go_wp2
        go_ret2
        exact ⟨by rw [Hn.out]; rfl, below_drewN hb1 _⟩

set_option maxRecDepth 100000 in
set_option maxHeartbeats 4000000 in
theorem Next_D (s : ByteArray) (h0 : 0 < s.size) (hs : s.size ≤ 70368744177664) (hb : 224 ≤ s[0].toNat ∧ s[0].toNat < 240) (w : World) : NextSays s w := by
  have hne := toList_ne s h0
  have hcons := drop_cons s 0 h0
  rw [List.drop_zero] at hcons
  have h0' : (0 : Int) < (s.size : Int) := by omega
  have B := s[0].toNat_lt
  cases hR : moreL ((s[0].toNat : Int) - 224) (s.data.toList.drop 1) 2 with
  | none =>
    have hcand : cand s.data.toList = none := by rw [hcons]; simp only [cand]; rw [if_neg (by omega)]; rw [if_neg (by omega)]; rw [if_neg (by omega)]; rw [if_pos (by omega)]; exact hR
    have Hn : Hid (nextR s.data.toList = (0, false)) := Lib.hid (by unfold nextR; rw [hcand])
    have HR := Lib.hid hR
    clear hcand hcons hR
    go_enter Tryd.func32, Tryd.ntmps32
    go_wp2_with (go_at_call 48; refine (more_is _ _ 2 (by omega) (by omega) hs _ HR.out _).mono ?_; rintro e w' ⟨rfl, rfl⟩; dsimp only [moreV])
    go_wp2
    go_ret2
    exact ⟨by rw [Hn.out]; rfl, Below.refl _ _⟩
  | some c =>
    have hcand : cand s.data.toList = some c := by rw [hcons]; simp only [cand]; rw [if_neg (by omega)]; rw [if_neg (by omega)]; rw [if_neg (by omega)]; rw [if_pos (by omega)]; exact hR
    have HR := Lib.hid hR
    clear hcons hR
    cases hv : validB c
    · have Hn : Hid (nextR s.data.toList = (0, false)) := Lib.hid (by unfold nextR; rw [hcand]; simp [hv])
      have Hv := Lib.hid hv
      clear hcand hv
      go_enter Tryd.func32, Tryd.ntmps32
      go_wp2_with (go_at_call 48; refine (more_is _ _ 2 (by omega) (by omega) hs _ HR.out _).mono ?_; rintro e w' ⟨rfl, rfl⟩; dsimp only [moreV])
      go_wp2_with (go_at_call 9; refine (refValid_is _ false Hv.out _).mono ?_; rintro e w' ⟨rfl, rfl⟩)
      go_wp2
      go_ret2
      exact ⟨by rw [Hn.out]; rfl, Below.refl _ _⟩
    · have hnx : nextR s.data.toList = (c, nextB s.data.toList c) := by unfold nextR; rw [hcand]; simp [hv]
      have hel := enc1_len c
      have Hv := Lib.hid hv
      clear hcand hv
      obtain ⟨E, hE⟩ : ∃ E, enc1 c = E := ⟨_, rfl⟩
      have hEs : (⟨E.toArray⟩ : ByteArray).size = E.length := by rw [list_size]
      by_cases hle : E.length ≤ s.size
      · cases heq : (s.data.toList.take E.length == E)
        · have Hn : Hid (nextR s.data.toList = (c, false)) := Lib.hid (by
            rw [hnx]; unfold nextB; rw [hE, decide_eq_true (show E.length ≤ s.data.toList.length by rw [← list_size]; exact hle)]; first | rfl | (rw [heq]; rfl))
          have g1 : decide (E.length ≤ s.size) = true := decide_eq_true hle
          have g2 : ((s.extract 0 E.length).toList == E) = false := by rw [Lib.extract_toList]; simpa using heq
          clear heq
          have HE := Lib.hid hE
          clear hnx hE
          go_enter Tryd.func32, Tryd.ntmps32
          go_wp2_with (go_at_call 48; refine (more_is _ _ 2 (by omega) (by omega) hs _ HR.out _).mono ?_; rintro e w' ⟨rfl, rfl⟩; dsimp only [moreV])
          go_wp2_with (go_at_call 9; refine (refValid_is _ true Hv.out _).mono ?_; rintro e w' ⟨rfl, rfl⟩)
          go_wp2_with (go_at_call 33; refine (Bytes_is _ E HE.out Hv.out _).mono ?_)
          rintro e w1 ⟨rfl, hb1⟩
          go_wp2
          go_quiet (fail)
          go_wp2
          go_ret2
          exact ⟨by rw [Hn.out]; rfl, below_drewN hb1 _⟩
        · have Hn : Hid (nextR s.data.toList = (c, true)) := Lib.hid (by
            rw [hnx]; unfold nextB; rw [hE, decide_eq_true (show E.length ≤ s.data.toList.length by rw [← list_size]; exact hle)]; first | rfl | (rw [heq]; rfl))
          have g1 : decide (E.length ≤ s.size) = true := decide_eq_true hle
          have g2 : ((s.extract 0 E.length).toList == E) = true := by rw [Lib.extract_toList]; simpa using heq
          clear heq
          have HE := Lib.hid hE
          clear hnx hE
          go_enter Tryd.func32, Tryd.ntmps32
          go_wp2_with (go_at_call 48; refine (more_is _ _ 2 (by omega) (by omega) hs _ HR.out _).mono ?_; rintro e w' ⟨rfl, rfl⟩; dsimp only [moreV])
          go_wp2_with (go_at_call 9; refine (refValid_is _ true Hv.out _).mono ?_; rintro e w' ⟨rfl, rfl⟩)
          go_wp2_with (go_at_call 33; refine (Bytes_is _ E HE.out Hv.out _).mono ?_)
          rintro e w1 ⟨rfl, hb1⟩
          go_wp2
          go_quiet (fail)
          go_wp2
          go_ret2
          exact ⟨by rw [Hn.out]; rfl, below_drewN hb1 _⟩
      · have Hn : Hid (nextR s.data.toList = (c, false)) := Lib.hid (by
          rw [hnx]; unfold nextB; rw [hE, decide_eq_false (show ¬ E.length ≤ s.data.toList.length by rw [← list_size]; exact hle)]; first | rfl | (rw [heq]; rfl))
        have g1 : decide (E.length ≤ s.size) = false := decide_eq_false hle
        have HE := Lib.hid hE
        clear hnx hE
        go_enter Tryd.func32, Tryd.ntmps32
        go_wp2_with (go_at_call 48; refine (more_is _ _ 2 (by omega) (by omega) hs _ HR.out _).mono ?_; rintro e w' ⟨rfl, rfl⟩; dsimp only [moreV])
        go_wp2_with (go_at_call 9; refine (refValid_is _ true Hv.out _).mono ?_; rintro e w' ⟨rfl, rfl⟩)
        go_wp2_with (go_at_call 33; refine (Bytes_is _ E HE.out Hv.out _).mono ?_)
        rintro e w1 ⟨rfl, hb1⟩
        go_wp2
        go_quiet (fail)
        go_wp2
        go_ret2
        exact ⟨by rw [Hn.out]; rfl, below_drewN hb1 _⟩

set_option maxRecDepth 100000 in
set_option maxHeartbeats 4000000 in
theorem Next_E (s : ByteArray) (h0 : 0 < s.size) (hs : s.size ≤ 70368744177664) (hb : 240 ≤ s[0].toNat ∧ s[0].toNat < 248) (w : World) : NextSays s w := by
  have hne := toList_ne s h0
  have hcons := drop_cons s 0 h0
  rw [List.drop_zero] at hcons
  have h0' : (0 : Int) < (s.size : Int) := by omega
  have B := s[0].toNat_lt
  cases hR : moreL ((s[0].toNat : Int) - 240) (s.data.toList.drop 1) 3 with
  | none =>
    have hcand : cand s.data.toList = none := by rw [hcons]; simp only [cand]; rw [if_neg (by omega)]; rw [if_neg (by omega)]; rw [if_neg (by omega)]; rw [if_neg (by omega)]; rw [if_pos (by omega)]; exact hR
    have Hn : Hid (nextR s.data.toList = (0, false)) := Lib.hid (by unfold nextR; rw [hcand])
    have HR := Lib.hid hR
    clear hcand hcons hR
    go_enter Tryd.func32, Tryd.ntmps32
    go_wp2_with (go_at_call 48; refine (more_is _ _ 3 (by omega) (by omega) hs _ HR.out _).mono ?_; rintro e w' ⟨rfl, rfl⟩; dsimp only [moreV])
    go_wp2
    go_ret2
    exact ⟨by rw [Hn.out]; rfl, Below.refl _ _⟩
  | some c =>
    have hcand : cand s.data.toList = some c := by rw [hcons]; simp only [cand]; rw [if_neg (by omega)]; rw [if_neg (by omega)]; rw [if_neg (by omega)]; rw [if_neg (by omega)]; rw [if_pos (by omega)]; exact hR
    have HR := Lib.hid hR
    clear hcons hR
    cases hv : validB c
    · have Hn : Hid (nextR s.data.toList = (0, false)) := Lib.hid (by unfold nextR; rw [hcand]; simp [hv])
      have Hv := Lib.hid hv
      clear hcand hv
      go_enter Tryd.func32, Tryd.ntmps32
      go_wp2_with (go_at_call 48; refine (more_is _ _ 3 (by omega) (by omega) hs _ HR.out _).mono ?_; rintro e w' ⟨rfl, rfl⟩; dsimp only [moreV])
      go_wp2_with (go_at_call 9; refine (refValid_is _ false Hv.out _).mono ?_; rintro e w' ⟨rfl, rfl⟩)
      go_wp2
      go_ret2
      exact ⟨by rw [Hn.out]; rfl, Below.refl _ _⟩
    · have hnx : nextR s.data.toList = (c, nextB s.data.toList c) := by unfold nextR; rw [hcand]; simp [hv]
      have hel := enc1_len c
      have Hv := Lib.hid hv
      clear hcand hv
      obtain ⟨E, hE⟩ : ∃ E, enc1 c = E := ⟨_, rfl⟩
      have hEs : (⟨E.toArray⟩ : ByteArray).size = E.length := by rw [list_size]
      by_cases hle : E.length ≤ s.size
      · cases heq : (s.data.toList.take E.length == E)
        · have Hn : Hid (nextR s.data.toList = (c, false)) := Lib.hid (by
            rw [hnx]; unfold nextB; rw [hE, decide_eq_true (show E.length ≤ s.data.toList.length by rw [← list_size]; exact hle)]; first | rfl | (rw [heq]; rfl))
          have g1 : decide (E.length ≤ s.size) = true := decide_eq_true hle
          have g2 : ((s.extract 0 E.length).toList == E) = false := by rw [Lib.extract_toList]; simpa using heq
          clear heq
          have HE := Lib.hid hE
          clear hnx hE
          go_enter Tryd.func32, Tryd.ntmps32
          go_wp2_with (go_at_call 48; refine (more_is _ _ 3 (by omega) (by omega) hs _ HR.out _).mono ?_; rintro e w' ⟨rfl, rfl⟩; dsimp only [moreV])
          go_wp2_with (go_at_call 9; refine (refValid_is _ true Hv.out _).mono ?_; rintro e w' ⟨rfl, rfl⟩)
          go_wp2_with (go_at_call 33; refine (Bytes_is _ E HE.out Hv.out _).mono ?_)
          rintro e w1 ⟨rfl, hb1⟩
          go_wp2
          go_quiet (fail)
          go_wp2
          go_ret2
          exact ⟨by rw [Hn.out]; rfl, below_drewN hb1 _⟩
        · have Hn : Hid (nextR s.data.toList = (c, true)) := Lib.hid (by
            rw [hnx]; unfold nextB; rw [hE, decide_eq_true (show E.length ≤ s.data.toList.length by rw [← list_size]; exact hle)]; first | rfl | (rw [heq]; rfl))
          have g1 : decide (E.length ≤ s.size) = true := decide_eq_true hle
          have g2 : ((s.extract 0 E.length).toList == E) = true := by rw [Lib.extract_toList]; simpa using heq
          clear heq
          have HE := Lib.hid hE
          clear hnx hE
          go_enter Tryd.func32, Tryd.ntmps32
          go_wp2_with (go_at_call 48; refine (more_is _ _ 3 (by omega) (by omega) hs _ HR.out _).mono ?_; rintro e w' ⟨rfl, rfl⟩; dsimp only [moreV])
          go_wp2_with (go_at_call 9; refine (refValid_is _ true Hv.out _).mono ?_; rintro e w' ⟨rfl, rfl⟩)
          go_wp2_with (go_at_call 33; refine (Bytes_is _ E HE.out Hv.out _).mono ?_)
          rintro e w1 ⟨rfl, hb1⟩
          go_wp2
          go_quiet (fail)
          go_wp2
          go_ret2
          exact ⟨by rw [Hn.out]; rfl, below_drewN hb1 _⟩
      · have Hn : Hid (nextR s.data.toList = (c, false)) := Lib.hid (by
          rw [hnx]; unfold nextB; rw [hE, decide_eq_false (show ¬ E.length ≤ s.data.toList.length by rw [← list_size]; exact hle)]; first | rfl | (rw [heq]; rfl))
        have g1 : decide (E.length ≤ s.size) = false := decide_eq_false hle
        have HE := Lib.hid hE
        clear hnx hE
        go_enter Tryd.func32, Tryd.ntmps32
        go_wp2_with (go_at_call 48; refine (more_is _ _ 3 (by omega) (by omega) hs _ HR.out _).mono ?_; rintro e w' ⟨rfl, rfl⟩; dsimp only [moreV])
        go_wp2_with (go_at_call 9; refine (refValid_is _ true Hv.out _).mono ?_; rintro e w' ⟨rfl, rfl⟩)
        go_wp2_with (go_at_call 33; refine (Bytes_is _ E HE.out Hv.out _).mono ?_)
        rintro e w1 ⟨rfl, hb1⟩
        go_wp2
        go_quiet (fail)
        go_wp2
        go_ret2
        exact ⟨by rw [Hn.out]; rfl, below_drewN hb1 _⟩

set_option maxRecDepth 100000 in
set_option maxHeartbeats 4000000 in
theorem Next_B (s : ByteArray) (h0 : 0 < s.size) (_hs : s.size ≤ 70368744177664) (hb : 128 ≤ s[0].toNat ∧ s[0].toNat < 192) (w : World) : NextSays s w := by
  have hne := toList_ne s h0
  have hcons := drop_cons s 0 h0
  rw [List.drop_zero] at hcons
  have h0' : (0 : Int) < (s.size : Int) := by omega
  have B := s[0].toNat_lt
  have hcand : cand s.data.toList = none := by rw [hcons]; simp only [cand]; rw [if_neg (by omega), if_pos (by omega)]
  have Hn : Hid (nextR s.data.toList = (0, false)) := Lib.hid (by unfold nextR; rw [hcand])
  clear hcand hcons
  go_enter Tryd.func32, Tryd.ntmps32
  go_wp2
  go_ret2
  exact ⟨by rw [Hn.out]; rfl, Below.refl _ _⟩

set_option maxRecDepth 100000 in
set_option maxHeartbeats 4000000 in
theorem Next_F (s : ByteArray) (h0 : 0 < s.size) (_hs : s.size ≤ 70368744177664) (hb : 248 ≤ s[0].toNat) (w : World) : NextSays s w := by
  have hne := toList_ne s h0
  have hcons := drop_cons s 0 h0
  rw [List.drop_zero] at hcons
  have h0' : (0 : Int) < (s.size : Int) := by omega
  have B := s[0].toNat_lt
  have hcand : cand s.data.toList = none := by rw [hcons]; simp only [cand]; rw [if_neg (by omega), if_neg (by omega), if_neg (by omega), if_neg (by omega), if_neg (by omega)]
  have Hn : Hid (nextR s.data.toList = (0, false)) := Lib.hid (by unfold nextR; rw [hcand])
  clear hcand hcons
  go_enter Tryd.func32, Tryd.ntmps32
  go_wp2
  go_ret2
  exact ⟨by rw [Hn.out]; rfl, Below.refl _ _⟩

theorem Next_any (s : ByteArray) (h0 : 0 < s.size) (hs : s.size ≤ 70368744177664) (w : World) : NextSays s w := by
  by_cases a : s[0].toNat < 128
  · exact Next_A s h0 hs a w
  · by_cases b : s[0].toNat < 192
    · exact Next_B s h0 hs ⟨by omega, b⟩ w
    · by_cases c : s[0].toNat < 224
      · exact Next_C s h0 hs ⟨by omega, c⟩ w
      · by_cases d : s[0].toNat < 240
        · exact Next_D s h0 hs ⟨by omega, d⟩ w
        · by_cases e : s[0].toNat < 248
          · exact Next_E s h0 hs ⟨by omega, e⟩ w
          · exact Next_F s h0 hs (by omega) w
end Ck
end Go.Proofs.YthfmnhhennbjnaaDoor
