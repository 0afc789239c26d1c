/- The contracts of chars.sort, Valid, Blank, First, Inner, and of the reference's like. -/
import Derived.Test.YthfmnhhennbjnaaDoorProg
import Derived.Test.YthfmnhhennbjnaaDoorCkPlain
import Derived.WalkKit
import Derived.WalkLawsBesides
import Derived.Lib.Hide
import Derived.KernelRfl
import Derived.Shelf.Unicode.DecodeSlow
namespace Go.Proofs.YthfmnhhennbjnaaDoor
open Go.RowKit
namespace Ck

theorem ret_int {k : IntKind} {a b : Int} (h : a = b) : Ending.returned (.int k a) = .returned (.int k b) := by rw [h]
/-- The table's cells, one behind the other. -/
def tabL : List Value := tab.flatMap fun r => [.int .i32 r.1, .int .i32 r.2.1, .int .i32 r.2.2]
def tabV : Array Value := tabL.toArray

theorem idx (k : Nat) (h : k < 23) (w : World) : (Instr.index 68 (.agg tabV) (.int .i64 k)).run Tryd.prog w = .ok (.agg #[.int .i32 (lo k), .int .i32 (hi k), .int .i32 (st k)]) w := by
  have i0 : (Instr.index 68 (.agg tabV) (.int .i64 0)).run Tryd.prog w = .ok (.agg #[.int .i32 (lo 0), .int .i32 (hi 0), .int .i32 (st 0)]) w := by kernel_rfl
  have i1 : (Instr.index 68 (.agg tabV) (.int .i64 1)).run Tryd.prog w = .ok (.agg #[.int .i32 (lo 1), .int .i32 (hi 1), .int .i32 (st 1)]) w := by kernel_rfl
  have i2 : (Instr.index 68 (.agg tabV) (.int .i64 2)).run Tryd.prog w = .ok (.agg #[.int .i32 (lo 2), .int .i32 (hi 2), .int .i32 (st 2)]) w := by kernel_rfl
  have i3 : (Instr.index 68 (.agg tabV) (.int .i64 3)).run Tryd.prog w = .ok (.agg #[.int .i32 (lo 3), .int .i32 (hi 3), .int .i32 (st 3)]) w := by kernel_rfl
  have i4 : (Instr.index 68 (.agg tabV) (.int .i64 4)).run Tryd.prog w = .ok (.agg #[.int .i32 (lo 4), .int .i32 (hi 4), .int .i32 (st 4)]) w := by kernel_rfl
  have i5 : (Instr.index 68 (.agg tabV) (.int .i64 5)).run Tryd.prog w = .ok (.agg #[.int .i32 (lo 5), .int .i32 (hi 5), .int .i32 (st 5)]) w := by kernel_rfl
  have i6 : (Instr.index 68 (.agg tabV) (.int .i64 6)).run Tryd.prog w = .ok (.agg #[.int .i32 (lo 6), .int .i32 (hi 6), .int .i32 (st 6)]) w := by kernel_rfl
  have i7 : (Instr.index 68 (.agg tabV) (.int .i64 7)).run Tryd.prog w = .ok (.agg #[.int .i32 (lo 7), .int .i32 (hi 7), .int .i32 (st 7)]) w := by kernel_rfl
  have i8 : (Instr.index 68 (.agg tabV) (.int .i64 8)).run Tryd.prog w = .ok (.agg #[.int .i32 (lo 8), .int .i32 (hi 8), .int .i32 (st 8)]) w := by kernel_rfl
  have i9 : (Instr.index 68 (.agg tabV) (.int .i64 9)).run Tryd.prog w = .ok (.agg #[.int .i32 (lo 9), .int .i32 (hi 9), .int .i32 (st 9)]) w := by kernel_rfl
  have i10 : (Instr.index 68 (.agg tabV) (.int .i64 10)).run Tryd.prog w = .ok (.agg #[.int .i32 (lo 10), .int .i32 (hi 10), .int .i32 (st 10)]) w := by kernel_rfl
  have i11 : (Instr.index 68 (.agg tabV) (.int .i64 11)).run Tryd.prog w = .ok (.agg #[.int .i32 (lo 11), .int .i32 (hi 11), .int .i32 (st 11)]) w := by kernel_rfl
  have i12 : (Instr.index 68 (.agg tabV) (.int .i64 12)).run Tryd.prog w = .ok (.agg #[.int .i32 (lo 12), .int .i32 (hi 12), .int .i32 (st 12)]) w := by kernel_rfl
  have i13 : (Instr.index 68 (.agg tabV) (.int .i64 13)).run Tryd.prog w = .ok (.agg #[.int .i32 (lo 13), .int .i32 (hi 13), .int .i32 (st 13)]) w := by kernel_rfl
  have i14 : (Instr.index 68 (.agg tabV) (.int .i64 14)).run Tryd.prog w = .ok (.agg #[.int .i32 (lo 14), .int .i32 (hi 14), .int .i32 (st 14)]) w := by kernel_rfl
  have i15 : (Instr.index 68 (.agg tabV) (.int .i64 15)).run Tryd.prog w = .ok (.agg #[.int .i32 (lo 15), .int .i32 (hi 15), .int .i32 (st 15)]) w := by kernel_rfl
  have i16 : (Instr.index 68 (.agg tabV) (.int .i64 16)).run Tryd.prog w = .ok (.agg #[.int .i32 (lo 16), .int .i32 (hi 16), .int .i32 (st 16)]) w := by kernel_rfl
  have i17 : (Instr.index 68 (.agg tabV) (.int .i64 17)).run Tryd.prog w = .ok (.agg #[.int .i32 (lo 17), .int .i32 (hi 17), .int .i32 (st 17)]) w := by kernel_rfl
  have i18 : (Instr.index 68 (.agg tabV) (.int .i64 18)).run Tryd.prog w = .ok (.agg #[.int .i32 (lo 18), .int .i32 (hi 18), .int .i32 (st 18)]) w := by kernel_rfl
  have i19 : (Instr.index 68 (.agg tabV) (.int .i64 19)).run Tryd.prog w = .ok (.agg #[.int .i32 (lo 19), .int .i32 (hi 19), .int .i32 (st 19)]) w := by kernel_rfl
  have i20 : (Instr.index 68 (.agg tabV) (.int .i64 20)).run Tryd.prog w = .ok (.agg #[.int .i32 (lo 20), .int .i32 (hi 20), .int .i32 (st 20)]) w := by kernel_rfl
  have i21 : (Instr.index 68 (.agg tabV) (.int .i64 21)).run Tryd.prog w = .ok (.agg #[.int .i32 (lo 21), .int .i32 (hi 21), .int .i32 (st 21)]) w := by kernel_rfl
  have i22 : (Instr.index 68 (.agg tabV) (.int .i64 22)).run Tryd.prog w = .ok (.agg #[.int .i32 (lo 22), .int .i32 (hi 22), .int .i32 (st 22)]) w := by kernel_rfl
  match k, h with
  | 0, _ => exact i0
  | 1, _ => exact i1
  | 2, _ => exact i2
  | 3, _ => exact i3
  | 4, _ => exact i4
  | 5, _ => exact i5
  | 6, _ => exact i6
  | 7, _ => exact i7
  | 8, _ => exact i8
  | 9, _ => exact i9
  | 10, _ => exact i10
  | 11, _ => exact i11
  | 12, _ => exact i12
  | 13, _ => exact i13
  | 14, _ => exact i14
  | 15, _ => exact i15
  | 16, _ => exact i16
  | 17, _ => exact i17
  | 18, _ => exact i18
  | 19, _ => exact i19
  | 20, _ => exact i20
  | 21, _ => exact i21
  | 22, _ => exact i22
  | n + 23, h => exact absurd h (by omega)

/-- What the walks want of the package-level variables: the program's table, the library's two, and the library's bound. -/
structure G (w : World) : Prop where
  rng : ∃ t fr, w.heap[0]? = some (.cells tabV t fr)
  utf : Lib.Utf8Tabs 1 2 w
  max : ∃ m, w.cell? ⟨3, 0, none⟩ = some (.int .i64 m)
  size : 4 ≤ w.heap.size

set_option maxHeartbeats 1000000 in
set_option maxRecDepth 100000 in
theorem sort_any (c : Int) (w : World) (hG : G w) :
    Calls Tryd.prog 30 #[.int .i32 c] w fun e w' => e = .returned (.int .i32 (sortI c)) ∧ Below w.heap.size w w' := by
  obtain ⟨t, fr, hr⟩ := hG.rng
  have hr0 := hG.size
  clear hG
  go_enter Tryd.func30, Tryd.ntmps30
  go_wp2_with (refine wpList_load_row rfl 68 _ rfl 0 rfl t tabV fr _ hr Tryd.underlying68 rfl (by kernel_rfl) ?_)
  go_loopw [6] (fun i wr => ∃ k : Nat, k ≤ 23 ∧ i = .int .i64 k ∧ sortFrom c (23 - k) k = sortI c ∧ Below w.heap.size w wr) (fun i _ => 23 - (intOf i).toNat)
  case atStart => exact ⟨0, by omega, rfl, rfl, Below.refl _ _⟩
  case round =>
    obtain ⟨k, hk, rfl, hs, hb⟩ := hrel
    by_cases hlt : k < 23
    · have hx := fun W => idx k hlt W
      have hfs : sortFrom c (23 - k) k = if c ≤ hi k then (if c < lo k then 0 else st k) else sortFrom c (23 - (k + 1)) (k + 1) := by
        obtain ⟨m, hm⟩ : ∃ m, 23 - k = m + 1 := ⟨22 - k, by omega⟩
        rw [hm, show 23 - (k + 1) = m by omega]; rfl
      have hz := hb.size
      rw [hfs] at hs
      have Hs := Lib.hid hs
      clear hs hfs
      by_cases h1 : c ≤ hi k
      · by_cases h2 : c < lo k
        · go_wp2
          go_ret
          exact ⟨ret_int (by rw [← Hs.out, if_pos h1, if_pos h2]), (hb.alloc hz _)⟩
        · go_wp2
          go_ret
          exact ⟨ret_int (by rw [← Hs.out, if_pos h1, if_neg (by omega)]), (hb.alloc hz _)⟩
      · go_wp2
        go_roundw
        case rel => exact ⟨k + 1, by omega, by go_num, by rw [← Hs.out, if_neg (by omega)], (hb.alloc hz _)⟩
        case measure => simp [intOf]; omega
    · go_wp2
      go_ret
      have e : k = 23 := by omega
      subst e
      exact ⟨ret_int (by rw [← hs]; rfl), hb⟩

theorem ret_bool {a b : Bool} (h : a = b) : Ending.returned (.bool a) = .returned (.bool b) := by rw [h]

theorem Valid_any (c : Int) (w : World) (hG : G w) :
    Calls Tryd.prog 8 #[.int .i32 c] w fun e w' => e = .returned (.bool (validB c)) ∧ Below w.heap.size w w' := by
  go_enter Tryd.func8, Tryd.ntmps8
  go_wp2_with (go_at_call 30; refine (sort_any _ _ hG).mono ?_; rintro e w' ⟨rfl, hb⟩)
  go_ret
  exact ⟨ret_bool (sort_valid c), hb⟩
theorem Blank_any (c : Int) (w : World) (hG : G w) :
    Calls Tryd.prog 10 #[.int .i32 c] w fun e w' => e = .returned (.bool (blankB c)) ∧ Below w.heap.size w w' := by
  go_enter Tryd.func10, Tryd.ntmps10
  go_wp2_with (go_at_call 30; refine (sort_any _ _ hG).mono ?_; rintro e w' ⟨rfl, hb⟩)
  go_ret
  exact ⟨ret_bool (sort_blank c), hb⟩
theorem First_any (c : Int) (w : World) (hG : G w) :
    Calls Tryd.prog 12 #[.int .i32 c] w fun e w' => e = .returned (.bool (firstB c)) ∧ Below w.heap.size w w' := by
  go_enter Tryd.func12, Tryd.ntmps12
  go_wp2_with (go_at_call 30; refine (sort_any _ _ hG).mono ?_; rintro e w' ⟨rfl, hb⟩)
  go_ret
  exact ⟨ret_bool (sort_first c), hb⟩
theorem Inner_any (c : Int) (w : World) (hG : G w) :
    Calls Tryd.prog 14 #[.int .i32 c] w fun e w' => e = .returned (.bool (innerB c)) ∧ Below w.heap.size w w' := by
  have hi := sort_inner c
  by_cases h3 : (sortI c == 3) = true
  · have H := Lib.hid hi
    clear hi
    go_enter Tryd.func14, Tryd.ntmps14
    go_wp2_with (go_at_call 30; refine (sort_any _ _ hG).mono ?_; rintro e w' ⟨rfl, hb⟩)
    go_ret
    exact ⟨ret_bool (by rw [← H.out, h3]; rfl), hb⟩
  · have h3' : (sortI c == 3) = false := by simpa using h3
    have H := Lib.hid hi
    clear hi h3
    go_enter Tryd.func14, Tryd.ntmps14
    go_wp2_with (go_at_call 30; refine (sort_any _ _ hG).mono ?_; rintro e w' ⟨rfl, hb⟩)
    go_ret
    exact ⟨ret_bool (by rw [← H.out, h3']; rfl), hb⟩

set_option maxHeartbeats 2000000 in
theorem refBlank_any (c : Int) (w : World) :
    Calls Tryd.prog 11 #[.int .i32 c] w fun e w' => e = .returned (.bool (blankB c)) ∧ w = w' := by
  go_enter Tryd.func11, Tryd.ntmps11
  go_wp2
  all_goals
    go_ret
    refine ⟨ret_bool ?_, rfl⟩
    unfold blankB
    rw [Bool.eq_iff_iff]
    first | (simp; done) | (simp; omega) | omega

set_option maxHeartbeats 2000000 in
theorem refValid_any (c : Int) (w : World) :
    Calls Tryd.prog 9 #[.int .i32 c] w fun e w' => e = .returned (.bool (validB c)) ∧ w = w' := by
  go_enter Tryd.func9, Tryd.ntmps9
  go_wp2
  all_goals
    go_ret
    refine ⟨ret_bool ?_, rfl⟩
    unfold validB
    rw [Bool.eq_iff_iff]
    first | (simp; done) | (simp; omega) | omega

set_option maxHeartbeats 4000000 in
theorem refFirst_any (c : Int) (w : World) :
    Calls Tryd.prog 13 #[.int .i32 c] w fun e w' => e = .returned (.bool (firstB c)) ∧ w = w' := by
  go_enter Tryd.func13, Tryd.ntmps13
  go_wp2_with (go_at_call 9; refine (refValid_any _ _).mono ?_; rintro e w' ⟨rfl, rfl⟩)
  all_goals
    go_ret
    refine ⟨ret_bool ?_, rfl⟩
    unfold firstB
    rw [Bool.eq_iff_iff]
    cases hv : validB c <;> first | (simp; done) | (simp; omega) | omega | (simp [hv]; done) | (simp [hv]; omega)

set_option maxHeartbeats 4000000 in
theorem refInner_any (c : Int) (w : World) :
    Calls Tryd.prog 15 #[.int .i32 c] w fun e w' => e = .returned (.bool (innerB c)) ∧ w = w' := by
  by_cases hf : firstB c = true
  · go_enter Tryd.func15, Tryd.ntmps15
    go_wp2_with (go_at_call 13; refine (refFirst_any _ _).mono ?_; rintro e w' ⟨rfl, rfl⟩)
    go_ret
    exact ⟨ret_bool (by unfold innerB; rw [hf]; simp), rfl⟩
  · have hf' : firstB c = false := by simpa using hf
    clear hf
    go_enter Tryd.func15, Tryd.ntmps15
    go_wp2_with (go_at_call 13; refine (refFirst_any _ _).mono ?_; rintro e w' ⟨rfl, rfl⟩)
    all_goals
      go_ret
      refine ⟨ret_bool ?_, rfl⟩
      unfold innerB
      try rw [hf']
      rw [Bool.eq_iff_iff]
      first | (simp; done) | (simp; omega) | omega

end Ck
end Go.Proofs.YthfmnhhennbjnaaDoor
