/- shown(): the calls at constants. -/
import Derived.Test.YthfmnhhennbjnaaDoorCkRefUn
namespace Go.Proofs.YthfmnhhennbjnaaDoor
open Go.RowKit Go.Shelf
namespace Ck

theorem split_d1 : Split [97, 195, 164] [97, 228] [] := ⟨by decide, by decide, .inl rfl⟩
theorem split_d2 : Split [97, 192, 128] [97] [192, 128] := ⟨by decide, by decide, .inr (by decide)⟩
theorem split_u1 : Split [38, 108, 116, 59, 38, 35, 54, 53, 59, 38, 35, 120, 52, 50, 59] [38, 108, 116, 59, 38, 35, 54, 53, 59, 38, 35, 120, 52, 50, 59] [] := ⟨by decide, by decide, .inl rfl⟩
theorem split_u2 : Split [97, 38, 98, 59] [97, 38, 98, 59] [] := ⟨by decide, by decide, .inl rfl⟩
theorem split_x1 : Split [97, 60, 98, 34, 99] [97, 60, 98, 34, 99] [] := ⟨by decide, by decide, .inl rfl⟩
theorem split_q1 : Split [32, 32, 97, 9, 98] [32, 32, 97, 9, 98] [] := ⟨by decide, by decide, .inl rfl⟩
theorem split_l1 : Split [97, 45, 49] [97, 45, 49] [] := ⟨by decide, by decide, .inl rfl⟩
theorem split_l2 : Split [45, 97] [45, 97] [] := ⟨by decide, by decide, .inl rfl⟩
theorem un_u1 : Un 0 [38, 108, 116, 59, 38, 35, 54, 53, 59, 38, 35, 120, 52, 50, 59] (.ok [60, 65, 66]) := by
  have h3 : Un 9 (([] : List UInt8) ++ 38 :: ([35, 120, 52, 50] ++ 59 :: [])) _ := .step (by decide) (by decide) (c := 66) (by decide) (.done (by decide))
  have h2 : Un 4 (([] : List UInt8) ++ 38 :: ([35, 54, 53] ++ 59 :: (([] : List UInt8) ++ 38 :: ([35, 120, 52, 50] ++ 59 :: [])))) _ := .step (by decide) (by decide) (c := 65) (by decide) (by exact h3)
  have h1 : Un 0 (([] : List UInt8) ++ 38 :: ([108, 116] ++ 59 :: (([] : List UInt8) ++ 38 :: ([35, 54, 53] ++ 59 :: (([] : List UInt8) ++ 38 :: ([35, 120, 52, 50] ++ 59 :: [])))))) _ := .step (by decide) (by decide) (c := 60) (by decide) (by exact h2)
  exact h1
theorem un_u2 : Un 0 [97, 38, 98, 59] (.error 1) := by
  have h1 : Un 0 ([97] ++ 38 :: ([98] ++ 59 :: [])) _ := .none_ (by decide) (by decide) (by decide)
  exact h1
theorem sq_q1 : (psq 2 [32, 32, 97, 9, 98]).1 = [97, 32, 98] := by decide
theorem esc_x1 : escL true [97, 60, 98, 34, 99] = [97, 38, 108, 116, 59, 98, 38, 113, 117, 111, 116, 59, 99] := by decide
theorem loc_l1 : localB [97, 45, 49] [97, 45, 49] [] = true := by decide
theorem loc_l2 : localB [45, 97] [45, 97] [] = false := by decide

theorem dec_d1 (w : World) (hG : G w) : Calls Tryd.prog 18 #[.string ⟨#[97, 195, 164]⟩] w fun e w' => (∃ v, e = .returned (.tuple #[v, .int .i64 0, .int .i64 0]) ∧ Reads32 w' v [97, 228]) ∧ Below w.heap.size w w' := by
  refine (Decode_any _ (by decide) _ _ split_d1 w hG).mono ?_
  rintro e w' ⟨⟨_, v, he, hv⟩ | ⟨h, _⟩, hb⟩
  · exact ⟨⟨v, he, reads_of_row hv⟩, hb⟩
  · exact absurd rfl h
theorem dec_d2 (w : World) (hG : G w) : Calls Tryd.prog 18 #[.string ⟨#[97, 192, 128]⟩] w fun e w' => e = .returned (.tuple #[.slice none 0 0, .int .i64 1, .int .i64 6]) ∧ Below w.heap.size w w' := by
  refine (Decode_any _ (by decide) _ _ split_d2 w hG).mono ?_
  rintro e w' ⟨⟨h, _⟩ | ⟨_, he⟩, hb⟩
  · cases h
  · exact ⟨he, hb⟩
theorem unes_u1 (w : World) (hG : G w) : Calls Tryd.prog 25 #[.string ⟨#[38, 108, 116, 59, 38, 35, 54, 53, 59, 38, 35, 120, 52, 50, 59]⟩] w fun e w' => e = .returned (.tuple #[.string ⟨#[60, 65, 66]⟩, .int .i64 0, .int .i64 0]) ∧ Below w.heap.size w w' := by
  refine (Unescape_any _ (by decide) _ _ split_u1 _ un_u1 w hG).mono ?_
  rintro e w' ⟨⟨_, he⟩ | ⟨h, _⟩, hb⟩
  · exact ⟨he, hb⟩
  · exact absurd rfl h
theorem unes_u2 (w : World) (hG : G w) : Calls Tryd.prog 25 #[.string ⟨#[97, 38, 98, 59]⟩] w fun e w' => e = .returned (.tuple #[.string ⟨#[]⟩, .int .i64 1, .int .i64 6]) ∧ Below w.heap.size w w' := by
  refine (Unescape_any _ (by decide) _ _ split_u2 _ un_u2 w hG).mono ?_
  rintro e w' ⟨⟨_, he⟩ | ⟨h, _⟩, hb⟩
  · exact ⟨he, hb⟩
  · exact absurd rfl h
theorem esc_c (w : World) (hG : G w) : Calls Tryd.prog 23 #[.string ⟨#[97, 60, 98, 34, 99]⟩, .bool true] w fun e w' => e = .returned (.tuple #[.string ⟨#[97, 38, 108, 116, 59, 98, 38, 113, 117, 111, 116, 59, 99]⟩, .int .i64 0]) ∧ Below w.heap.size w w' := by
  refine (Escape_any _ true (by decide) _ _ split_x1 w hG).mono ?_
  rintro e w' ⟨⟨_, he⟩ | ⟨h, _⟩, hb⟩
  · rw [esc_x1] at he; exact ⟨he, hb⟩
  · exact absurd rfl h
theorem sq_c (w : World) (hG : G w) : Calls Tryd.prog 27 #[.string ⟨#[32, 32, 97, 9, 98]⟩, .int .i64 2] w fun e w' => e = .returned (.tuple #[.string ⟨#[97, 32, 98]⟩, .int .i64 0]) ∧ Below w.heap.size w w' := by
  refine (Squeeze_any _ 2 (by decide) (by decide) _ _ split_q1 w hG).mono ?_
  rintro e w' ⟨⟨_, he⟩ | ⟨h, _⟩, hb⟩
  · rw [sq_q1] at he; exact ⟨he, hb⟩
  · exact absurd rfl h
theorem loc_c1 (w : World) (hG : G w) : Calls Tryd.prog 16 #[.string ⟨#[97, 45, 49]⟩] w fun e w' => e = .returned (.bool true) ∧ Below w.heap.size w w' := by
  have := Local_any ⟨#[97, 45, 49]⟩ _ _ split_l1 w hG (by decide)
  rwa [loc_l1] at this
theorem loc_c2 (w : World) (hG : G w) : Calls Tryd.prog 16 #[.string ⟨#[45, 97]⟩] w fun e w' => e = .returned (.bool false) ∧ Below w.heap.size w w' := by
  have := Local_any ⟨#[45, 97]⟩ _ _ split_l2 w hG (by decide)
  rwa [loc_l2] at this
end Ck
end Go.Proofs.YthfmnhhennbjnaaDoor
