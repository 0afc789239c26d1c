/- Unescape: the named escapes, digits and numbers. -/
import Derived.Test.YthfmnhhennbjnaaDoorCkMap
import Derived.Test.YthfmnhhennbjnaaDoorCkUnPlain
import Derived.Test.YthfmnhhennbjnaaDoorCkRef
namespace Go.Proofs.YthfmnhhennbjnaaDoor
open Go.RowKit Go.Shelf
namespace Ck

def nmEs : Array MapEntry := #[⟨.string ⟨#[108, 116]⟩, .int .i32 60, 0⟩, ⟨.string ⟨#[103, 116]⟩, .int .i32 62, 1⟩, ⟨.string ⟨#[97, 109, 112]⟩, .int .i32 38, 2⟩, ⟨.string ⟨#[113, 117, 111, 116]⟩, .int .i32 34, 3⟩, ⟨.string ⟨#[97, 112, 111, 115]⟩, .int .i32 39, 4⟩]
set_option maxRecDepth 100000 in
set_option maxHeartbeats 2000000 in
theorem named_any (w : World) :
    Calls Tryd.prog 40 #[] w fun e w' => e = .returned (.map (some w.heap.size)) ∧ w' = w.alloc (.map nmEs 5) := by
  have hmm := @run_makeMap Tryd.prog
  have n0 : (Instr.mapUpdate 60 (.map (some w.heap.size)) (.string ⟨#[108, 116]⟩) (.int .i32 60)).run Tryd.prog (w.alloc (.map #[] 0)) = .ok () (w.alloc (.map #[⟨.string ⟨#[108, 116]⟩, .int .i32 60, 0⟩] 1)) := run_insert w _ 9 21 0 _ _ _ .string Tryd.underlying60 Tryd.underlying9 (by simp [MapKept.IsKey]) (by kernel_rfl)
  have n1 : (Instr.mapUpdate 60 (.map (some w.heap.size)) (.string ⟨#[103, 116]⟩) (.int .i32 62)).run Tryd.prog (w.alloc (.map #[⟨.string ⟨#[108, 116]⟩, .int .i32 60, 0⟩] 1)) = .ok () (w.alloc (.map #[⟨.string ⟨#[108, 116]⟩, .int .i32 60, 0⟩, ⟨.string ⟨#[103, 116]⟩, .int .i32 62, 1⟩] 2)) := run_insert w _ 9 21 1 _ _ _ .string Tryd.underlying60 Tryd.underlying9 (by simp [MapKept.IsKey]) (by kernel_rfl)
  have n2 : (Instr.mapUpdate 60 (.map (some w.heap.size)) (.string ⟨#[97, 109, 112]⟩) (.int .i32 38)).run Tryd.prog (w.alloc (.map #[⟨.string ⟨#[108, 116]⟩, .int .i32 60, 0⟩, ⟨.string ⟨#[103, 116]⟩, .int .i32 62, 1⟩] 2)) = .ok () (w.alloc (.map #[⟨.string ⟨#[108, 116]⟩, .int .i32 60, 0⟩, ⟨.string ⟨#[103, 116]⟩, .int .i32 62, 1⟩, ⟨.string ⟨#[97, 109, 112]⟩, .int .i32 38, 2⟩] 3)) := run_insert w _ 9 21 2 _ _ _ .string Tryd.underlying60 Tryd.underlying9 (by simp [MapKept.IsKey]) (by kernel_rfl)
  have n3 : (Instr.mapUpdate 60 (.map (some w.heap.size)) (.string ⟨#[113, 117, 111, 116]⟩) (.int .i32 34)).run Tryd.prog (w.alloc (.map #[⟨.string ⟨#[108, 116]⟩, .int .i32 60, 0⟩, ⟨.string ⟨#[103, 116]⟩, .int .i32 62, 1⟩, ⟨.string ⟨#[97, 109, 112]⟩, .int .i32 38, 2⟩] 3)) = .ok () (w.alloc (.map #[⟨.string ⟨#[108, 116]⟩, .int .i32 60, 0⟩, ⟨.string ⟨#[103, 116]⟩, .int .i32 62, 1⟩, ⟨.string ⟨#[97, 109, 112]⟩, .int .i32 38, 2⟩, ⟨.string ⟨#[113, 117, 111, 116]⟩, .int .i32 34, 3⟩] 4)) := run_insert w _ 9 21 3 _ _ _ .string Tryd.underlying60 Tryd.underlying9 (by simp [MapKept.IsKey]) (by kernel_rfl)
  have n4 : (Instr.mapUpdate 60 (.map (some w.heap.size)) (.string ⟨#[97, 112, 111, 115]⟩) (.int .i32 39)).run Tryd.prog (w.alloc (.map #[⟨.string ⟨#[108, 116]⟩, .int .i32 60, 0⟩, ⟨.string ⟨#[103, 116]⟩, .int .i32 62, 1⟩, ⟨.string ⟨#[97, 109, 112]⟩, .int .i32 38, 2⟩, ⟨.string ⟨#[113, 117, 111, 116]⟩, .int .i32 34, 3⟩] 4)) = .ok () (w.alloc (.map #[⟨.string ⟨#[108, 116]⟩, .int .i32 60, 0⟩, ⟨.string ⟨#[103, 116]⟩, .int .i32 62, 1⟩, ⟨.string ⟨#[97, 109, 112]⟩, .int .i32 38, 2⟩, ⟨.string ⟨#[113, 117, 111, 116]⟩, .int .i32 34, 3⟩, ⟨.string ⟨#[97, 112, 111, 115]⟩, .int .i32 39, 4⟩] 5)) := run_insert w _ 9 21 4 _ _ _ .string Tryd.underlying60 Tryd.underlying9 (by simp [MapKept.IsKey]) (by kernel_rfl)
  go_enter Tryd.func40, Tryd.ntmps40
  go_wp2
  go_ret
  exact ⟨rfl, rfl⟩
def nmV (l : List UInt8) : Option Int := if l = [108, 116] then some 60 else if l = [103, 116] then some 62 else if l = [97, 109, 112] then some 38 else if l = [113, 117, 111, 116] then some 34 else if l = [97, 112, 111, 115] then some 39 else none
theorem beq_list (a b : List UInt8) : ((⟨a.toArray⟩ : ByteArray) == ⟨b.toArray⟩) = decide (a = b) := by
  rw [Bool.eq_iff_iff, decide_eq_true_iff, MapKept.bytes_beq]
  constructor
  · intro h
    have := congrArg (fun s : ByteArray => s.data.toList) h
    simpa using this
  · rintro rfl; rfl
theorem look_name (l : List UInt8) (w : World) (b : Nat) (hb : w.heap[b]? = some (.map nmEs 5)) :
    (Instr.lookup 60 (.map (some b)) (.string ⟨l.toArray⟩) true).run Tryd.prog w = .ok (.tuple #[.int .i32 ((nmV l).getD 0), .bool (nmV l).isSome]) w := by
  have key : ∀ (k : ByteArray), k = ⟨l.toArray⟩ → ∃ r, Instr.findNow .string (.string k) nmEs.toList 0 = some r ∧ (match r with | some x => x.2 | none => Value.int .i32 0) = .int .i32 ((nmV l).getD 0) ∧ r.isSome = (nmV l).isSome := by
    rintro k rfl
    unfold nmV
    by_cases g0 : l = [108, 116]
    · rw [if_pos g0]
      refine ⟨some (0, .int .i32 60), ?_, rfl, rfl⟩
      simp [Instr.findNow, Instr.sameNow, nmEs, beq_list, g0]
    rw [if_neg g0]
    by_cases g1 : l = [103, 116]
    · rw [if_pos g1]
      refine ⟨some (1, .int .i32 62), ?_, rfl, rfl⟩
      simp [Instr.findNow, Instr.sameNow, nmEs, beq_list, g1]
    rw [if_neg g1]
    by_cases g2 : l = [97, 109, 112]
    · rw [if_pos g2]
      refine ⟨some (2, .int .i32 38), ?_, rfl, rfl⟩
      simp [Instr.findNow, Instr.sameNow, nmEs, beq_list, g2]
    rw [if_neg g2]
    by_cases g3 : l = [113, 117, 111, 116]
    · rw [if_pos g3]
      refine ⟨some (3, .int .i32 34), ?_, rfl, rfl⟩
      simp [Instr.findNow, Instr.sameNow, nmEs, beq_list, g3]
    rw [if_neg g3]
    by_cases g4 : l = [97, 112, 111, 115]
    · rw [if_pos g4]
      refine ⟨some (4, .int .i32 39), ?_, rfl, rfl⟩
      simp [Instr.findNow, Instr.sameNow, nmEs, beq_list, g4]
    rw [if_neg g4]
    refine ⟨none, ?_, rfl, rfl⟩
    simp [Instr.findNow, Instr.sameNow, nmEs, beq_list, g0, g1, g2, g3, g4]
  obtain ⟨r, h1, h2, h3⟩ := key _ rfl
  have := run_look (P := Tryd.prog) w 60 9 21 b 5 nmEs (.string ⟨l.toArray⟩) (.int .i32 0) .string Tryd.underlying60 Tryd.underlying9 (by simp [MapKept.IsKey]) r h1 hb (Tryd.zeroValue21 w)
  rw [this]
  cases r with
  | none =>
    simp only at h2
    simp only [h2, h3]
  | some x =>
    simp only at h2
    simp only [h2, h3]

set_option maxRecDepth 100000 in
set_option maxHeartbeats 1000000 in
theorem digit_any (b : UInt8) (w : World) :
    Calls Tryd.prog 60 #[.int .u8 (b.toNat : Int)] w fun e w' => e = .returned (.int .i32 (digV b)) ∧ w = w' := by
  have B := b.toNat_lt
  obtain ⟨R, hR⟩ : ∃ R, digV b = R := ⟨_, rfl⟩
  rw [hR]
  have HR := Lib.hid hR
  clear hR
  go_enter Tryd.func60, Tryd.ntmps60
  go_wp2
  all_goals
    go_ret
    refine ⟨ret_int ?_, rfl⟩
    rw [← HR.out]
    unfold digV
    repeat' split
    all_goals first | rfl | omega

theorem numV_none {base : Int} {l : List UInt8} (hl : l ≠ []) (h20 : l.length ≤ 20) (h : vld (numP base 0 l) = none) : numV base l = none := by
  unfold numV
  rw [if_neg (by rintro (h | h); · exact hl h
                 · omega)]
  exact h
theorem numV_some {base : Int} {l : List UInt8} (hl : l ≠ []) (h20 : l.length ≤ 20) : numV base l = vld (numP base 0 l) := by
  unfold numV
  rw [if_neg (by rintro (h | h); · exact hl h
                 · omega)]

set_option maxRecDepth 100000 in
set_option maxHeartbeats 4000000 in
theorem numbered_any (s : ByteArray) (base : Int) (hb : base = 10 ∨ base = 16) (w : World) (hG : G w) :
    Calls Tryd.prog 53 #[.string s, .int .i32 base] w fun e w' => e = .returned (.int .i32 ((numV base s.data.toList).getD (-1))) ∧ Below w.heap.size w w' := by
  by_cases hne : s.data.toList = []
  · have hv : numV base s.data.toList = none := by unfold numV; rw [if_pos (.inl hne)]
    have e2 : s.toList.isEmpty = true := by rw [Lib.toList_data, hne]; rfl
    rw [hv]
    clear hne hv hb
    go_enter Tryd.func53, Tryd.ntmps53
    go_wp2
    go_ret
    exact ⟨rfl, Below.refl _ _⟩
  · have e2 := isEmpty_no hne
    by_cases hsz : 20 < s.size
    · have hv : numV base s.data.toList = none := by unfold numV; rw [if_pos (.inr (by rw [← list_size]; exact hsz))]
      have hd : decide ((20 : Int) < s.size) = true := by rw [decide_eq_true_iff]; omega
      rw [hv]
      clear hne hv hb hsz
      go_enter Tryd.func53, Tryd.ntmps53
      go_wp2
      go_ret
      exact ⟨rfl, Below.refl _ _⟩
    · have hd : decide ((20 : Int) < s.size) = false := by rw [decide_eq_false_iff_not]; omega
      have hs20 : s.size ≤ 20 := by omega
      have hv : numV base s.data.toList = vld (numP base 0 s.data.toList) := numV_some hne (by rw [← list_size]; exact hs20)
      rw [hv]
      obtain ⟨R, hR⟩ : ∃ R, numP base 0 s.data.toList = R := ⟨_, rfl⟩
      rw [hR]
      have HR := Lib.hid hR
      clear hR hv hsz hne
      rcases hb with rfl | rfl
      · go_enter Tryd.func53, Tryd.ntmps53
        go_wp2
        go_loop [5, 17] (fun x i => ∃ (k : Nat) (c : Int), k ≤ s.size ∧ i = .int .i64 (k : Int) ∧ x = .int .i32 c ∧ 0 ≤ c ∧ c ≤ 1114111 ∧ numP _ c (s.data.toList.drop k) = R) (fun _ i => s.size - (intOf i).toNat)
        case atStart => exact ⟨0, 0, Nat.zero_le _, rfl, rfl, by omega, by omega, HR.out⟩
        case round =>
          obtain ⟨k, c, hk, rfl, rfl, hc0, hc1, hn⟩ := hrel
          by_cases hlt : k < s.size
          · rw [drop_cons s k hlt] at hn
            unfold numP at hn
            have hdr := digV_range s[k]
            obtain ⟨d, hdd⟩ : ∃ d, digV s[k] = d := ⟨_, rfl⟩
            have HD := Lib.hid (digit_any s[k] w)
            rw [hdd] at hn hdr HD
            clear hdd
            by_cases hlow : d < 0 ∨ 10 ≤ d
            · rw [if_pos hlow] at hn
              have Hn := Lib.hid hn
              clear hn
              rcases hlow with hlow | hlow
              all_goals try (exfalso; omega)
              all_goals
                go_wp2_with (go_at_call 60; refine HD.out.mono ?_; rintro e w' ⟨rfl, rfl⟩)
                go_ret
                exact ⟨by rw [← Hn.out]; rfl, Below.refl _ _⟩
            · rw [if_neg hlow] at hn
              have hd0 : 0 ≤ d := by omega
              have hd1 : d < 10 := by omega
              by_cases hbig : 1114111 < c * 10 + d
              · rw [if_pos hbig] at hn
                have Hn := Lib.hid hn
                clear hn hlow
                go_wp2_with (go_at_call 60; refine HD.out.mono ?_; rintro e w' ⟨rfl, rfl⟩)
                go_ret
                exact ⟨by rw [← Hn.out]; rfl, Below.refl _ _⟩
              · rw [if_neg hbig] at hn
                have hsm : c * 10 + d ≤ 1114111 := by omega
                have Hn := Lib.hid hn
                clear hn hlow hbig
                go_wp2_with (go_at_call 60; refine HD.out.mono ?_; rintro e w' ⟨rfl, rfl⟩)
                go_round
                case rel => exact ⟨k + 1, c * 10 + d, by omega, by go_num, rfl, by omega, hsm, Hn.out⟩
                case measure => simp [intOf]; omega
          · obtain rfl : k = s.size := by omega
            have hdr0 : s.data.toList.drop s.size = [] := List.drop_of_length_le (by rw [← list_size]; exact Nat.le_refl _)
            rw [hdr0] at hn
            have hn' : R = some c := by rw [← hn]; rfl
            have Hn := Lib.hid hn'
            clear hn hn' hdr0
            cases hv : validB c
            · have Hv := Lib.hid hv
              clear hv
              go_wp2_with (go_at_call 8; refine (Valid_is _ false Hv.out _ hG).mono ?_; rintro e w' ⟨rfl, hb⟩)
              go_ret
              exact ⟨by rw [Hn.out]; simp [vld, Hv.out], hb⟩
            · have Hv := Lib.hid hv
              clear hv
              go_wp2_with (go_at_call 8; refine (Valid_is _ true Hv.out _ hG).mono ?_; rintro e w' ⟨rfl, hb⟩)
              go_ret
              exact ⟨by rw [Hn.out]; simp [vld, Hv.out], hb⟩
      · go_enter Tryd.func53, Tryd.ntmps53
        go_wp2
        go_loop [5, 17] (fun x i => ∃ (k : Nat) (c : Int), k ≤ s.size ∧ i = .int .i64 (k : Int) ∧ x = .int .i32 c ∧ 0 ≤ c ∧ c ≤ 1114111 ∧ numP _ c (s.data.toList.drop k) = R) (fun _ i => s.size - (intOf i).toNat)
        case atStart => exact ⟨0, 0, Nat.zero_le _, rfl, rfl, by omega, by omega, HR.out⟩
        case round =>
          obtain ⟨k, c, hk, rfl, rfl, hc0, hc1, hn⟩ := hrel
          by_cases hlt : k < s.size
          · rw [drop_cons s k hlt] at hn
            unfold numP at hn
            have hdr := digV_range s[k]
            obtain ⟨d, hdd⟩ : ∃ d, digV s[k] = d := ⟨_, rfl⟩
            have HD := Lib.hid (digit_any s[k] w)
            rw [hdd] at hn hdr HD
            clear hdd
            by_cases hlow : d < 0 ∨ 16 ≤ d
            · rw [if_pos hlow] at hn
              have Hn := Lib.hid hn
              clear hn
              rcases hlow with hlow | hlow
              all_goals try (exfalso; omega)
              all_goals
                go_wp2_with (go_at_call 60; refine HD.out.mono ?_; rintro e w' ⟨rfl, rfl⟩)
                go_ret
                exact ⟨by rw [← Hn.out]; rfl, Below.refl _ _⟩
            · rw [if_neg hlow] at hn
              have hd0 : 0 ≤ d := by omega
              have hd1 : d < 16 := by omega
              by_cases hbig : 1114111 < c * 16 + d
              · rw [if_pos hbig] at hn
                have Hn := Lib.hid hn
                clear hn hlow
                go_wp2_with (go_at_call 60; refine HD.out.mono ?_; rintro e w' ⟨rfl, rfl⟩)
                go_ret
                exact ⟨by rw [← Hn.out]; rfl, Below.refl _ _⟩
              · rw [if_neg hbig] at hn
                have hsm : c * 16 + d ≤ 1114111 := by omega
                have Hn := Lib.hid hn
                clear hn hlow hbig
                go_wp2_with (go_at_call 60; refine HD.out.mono ?_; rintro e w' ⟨rfl, rfl⟩)
                go_round
                case rel => exact ⟨k + 1, c * 16 + d, by omega, by go_num, rfl, by omega, hsm, Hn.out⟩
                case measure => simp [intOf]; omega
          · obtain rfl : k = s.size := by omega
            have hdr0 : s.data.toList.drop s.size = [] := List.drop_of_length_le (by rw [← list_size]; exact Nat.le_refl _)
            rw [hdr0] at hn
            have hn' : R = some c := by rw [← hn]; rfl
            have Hn := Lib.hid hn'
            clear hn hn' hdr0
            cases hv : validB c
            · have Hv := Lib.hid hv
              clear hv
              go_wp2_with (go_at_call 8; refine (Valid_is _ false Hv.out _ hG).mono ?_; rintro e w' ⟨rfl, hb⟩)
              go_ret
              exact ⟨by rw [Hn.out]; simp [vld, Hv.out], hb⟩
            · have Hv := Lib.hid hv
              clear hv
              go_wp2_with (go_at_call 8; refine (Valid_is _ true Hv.out _ hG).mono ?_; rintro e w' ⟨rfl, hb⟩)
              go_ret
              exact ⟨by rw [Hn.out]; simp [vld, Hv.out], hb⟩
end Ck
end Go.Proofs.YthfmnhhennbjnaaDoor
