/- Unescape: what an escape means. -/
import Derived.Test.YthfmnhhennbjnaaDoorCkMeant
import Derived.Test.YthfmnhhennbjnaaDoorShelf
namespace Go.Proofs.YthfmnhhennbjnaaDoor
open Go.RowKit Go.Shelf
namespace Ck

def escN (l : List UInt8) : Option Int := match l with
    | 35 :: 120 :: t => numV 16 t
    | 35 :: t => numV 10 t
    | _ => none
theorem escV_or (l : List UInt8) : escV l = match nmV l with | some c => some c | none => escN l := by
  unfold escV nmV
  by_cases h1 : l = [108, 116]
  · simp [h1]
  by_cases h2 : l = [103, 116]
  · simp [h2]
  by_cases h3 : l = [97, 109, 112]
  · simp [h3]
  by_cases h4 : l = [113, 117, 111, 116]
  · simp [h4]
  by_cases h5 : l = [97, 112, 111, 115]
  · simp [h5]
  simp only [if_neg h1, if_neg h2, if_neg h3, if_neg h4, if_neg h5]
  rfl
theorem mk_list (s : ByteArray) : (⟨s.data.toList.toArray⟩ : ByteArray) = s := Lib.mk_data s

set_option maxRecDepth 100000 in
set_option maxHeartbeats 2000000 in
theorem meant_any (s : ByteArray) (b : Nat) (w : World) (hG : G w) (hb : w.heap[b]? = some (.map nmEs 5)) :
    Calls Tryd.prog 42 #[.string s, .map (some b)] w fun e w' => e = .returned (.int .i32 ((escV s.data.toList).getD (-1))) ∧ Below w.heap.size w w' := by
  have hlk := look_name s.data.toList w b hb
  rw [mk_list] at hlk
  rw [escV_or]
  cases hn : nmV s.data.toList with
  | some c =>
    rw [hn] at hlk
    simp only [Option.getD_some, Option.isSome_some] at hlk ⊢
    clear hn
    go_enter Tryd.func42, Tryd.ntmps42
    go_wp2
    go_ret
    exact ⟨rfl, Below.refl _ _⟩
  | none =>
    rw [hn] at hlk
    simp only [Option.getD_none, Option.isSome_none] at hlk ⊢
    clear hn hb
    have p2 := fun W => Tryd.strings_CutPrefix s ⟨#[35, 120]⟩ W
    have p1 := fun W => Tryd.strings_CutPrefix s ⟨#[35]⟩ W
    by_cases h2 : ∃ t, s.data.toList = 35 :: 120 :: t
    · obtain ⟨t, ht⟩ := h2
      have e1 : escN s.data.toList = numV 16 t := by rw [ht]; rfl
      rw [e1]
      have e2 : Lib.hasPrefix s.data.toList [35, 120] = true := by rw [ht]; rfl
      have e3 : Lib.trimPrefix s.data.toList [35, 120] = t := by unfold Lib.trimPrefix; rw [e2, ht]; rfl
      have P2 : ∀ W, Calls Tryd.prog 52 #[.string s, .string ⟨#[35, 120]⟩] W fun e w' => e = .returned (.tuple #[.string ⟨t.toArray⟩, .bool true]) ∧ w' = W := by
        intro W
        have := p2 W
        simp only [e2, e3] at this
        exact this
      have H2 := Lib.hid P2
      have hN := numbered_any ⟨t.toArray⟩ 16 (.inr rfl) w hG
      simp only at hN
      have HN := Lib.hid hN
      clear P2 e1 e2 e3 hN ht p1 p2
      go_enter Tryd.func42, Tryd.ntmps42
      go_wp2_with (first | (go_at_call 52; refine (H2.out _).mono ?_; rintro e w' ⟨rfl, rfl⟩) | (go_at_call 53; refine HN.out.mono ?_; rintro e w' ⟨rfl, hb⟩))
      go_ret
      exact ⟨rfl, hb⟩
    · have e2 : Lib.hasPrefix s.data.toList [35, 120] = false := by
        unfold Lib.hasPrefix
        cases hp : List.isPrefixOf [35, 120] s.data.toList with
        | false => rfl
        | true =>
          obtain ⟨t, ht⟩ := List.isPrefixOf_iff_prefix.1 hp
          exact absurd ⟨t, ht.symm⟩ h2
      have e3 : Lib.trimPrefix s.data.toList [35, 120] = s.data.toList := by unfold Lib.trimPrefix; rw [e2]; rfl
      have P2 : ∀ W, Calls Tryd.prog 52 #[.string s, .string ⟨#[35, 120]⟩] W fun e w' => e = .returned (.tuple #[.string s, .bool false]) ∧ w' = W := by
        intro W
        have := p2 W
        simp only [e2, e3] at this
        exact this
      have H2 := Lib.hid P2
      by_cases h1 : ∃ t, s.data.toList = 35 :: t
      · obtain ⟨t, ht⟩ := h1
        have e1 : escN s.data.toList = numV 10 t := by
          rw [ht]
          unfold escN
          split
          · rename_i t' heq
            exact absurd ⟨t', by rw [ht, heq]⟩ h2
          · rename_i t' heq
            cases heq; rfl
          · rename_i heq1 heq2
            exact absurd rfl (heq2 t)
        rw [e1]
        have f2 : Lib.hasPrefix s.data.toList [35] = true := by rw [ht]; rfl
        have f3 : Lib.trimPrefix s.data.toList [35] = t := by unfold Lib.trimPrefix; rw [f2, ht]; rfl
        have P1 : ∀ W, Calls Tryd.prog 52 #[.string s, .string ⟨#[35]⟩] W fun e w' => e = .returned (.tuple #[.string ⟨t.toArray⟩, .bool true]) ∧ w' = W := by
          intro W
          have := p1 W
          simp only [f2, f3] at this
          exact this
        have H1 := Lib.hid P1
        have hN := numbered_any ⟨t.toArray⟩ 10 (.inl rfl) w hG
        simp only at hN
        have HN := Lib.hid hN
        clear P2 P1 e1 e2 e3 f2 f3 hN ht h2 p1 p2
        go_enter Tryd.func42, Tryd.ntmps42
        go_wp2_with (go_at_call 52; refine (H2.out _).mono ?_)
        rintro e w' ⟨rfl, rfl⟩
        go_wp2_with (first | (go_at_call 52; refine (H1.out _).mono ?_; rintro e w' ⟨rfl, rfl⟩) | (go_at_call 53; refine HN.out.mono ?_; rintro e w' ⟨rfl, hb⟩))
        go_ret
        exact ⟨rfl, hb⟩
      · have e1 : escN s.data.toList = none := by
          unfold escN
          split
          · rename_i t' heq
            exact absurd ⟨_, heq⟩ h1
          · rename_i t' heq
            exact absurd ⟨_, heq⟩ h1
          · rfl
        rw [e1]
        have f2 : Lib.hasPrefix s.data.toList [35] = false := by
          unfold Lib.hasPrefix
          cases hp : List.isPrefixOf [35] s.data.toList with
          | false => rfl
          | true =>
            obtain ⟨t, ht⟩ := List.isPrefixOf_iff_prefix.1 hp
            exact absurd ⟨t, ht.symm⟩ h1
        have f3 : Lib.trimPrefix s.data.toList [35] = s.data.toList := by unfold Lib.trimPrefix; rw [f2]; rfl
        have P1 : ∀ W, Calls Tryd.prog 52 #[.string s, .string ⟨#[35]⟩] W fun e w' => e = .returned (.tuple #[.string s, .bool false]) ∧ w' = W := by
          intro W
          have := p1 W
          simp only [f2, f3] at this
          exact this
        have H1 := Lib.hid P1
        clear P2 P1 e1 e2 e3 f2 f3 h1 h2 p1 p2
        go_enter Tryd.func42, Tryd.ntmps42
        go_wp2_with (go_at_call 52; refine (H2.out _).mono ?_)
        rintro e w' ⟨rfl, rfl⟩
        go_wp2_with (go_at_call 52; refine (H1.out _).mono ?_; rintro e w' ⟨rfl, rfl⟩)
        go_ret
        exact ⟨rfl, Below.refl _ _⟩
end Ck
end Go.Proofs.YthfmnhhennbjnaaDoor
