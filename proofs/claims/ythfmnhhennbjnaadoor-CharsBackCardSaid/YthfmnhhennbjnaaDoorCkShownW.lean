/- shown() is true. -/
import Derived.Test.YthfmnhhennbjnaaDoorCkShown
namespace Go.Proofs.YthfmnhhennbjnaaDoor
open Go.RowKit Go.Shelf
namespace Ck

theorem reads_two (W : World) (t : TypeId) (a b : Int) : Reads32 (W.alloc (.cells #[.int .i32 a, .int .i32 b] t)) (.slice (some ⟨W.heap.size, 0, none⟩) 2 2) [a, b] := by
  refine ⟨_, 2, rfl, fun j hj => ⟨W.heap.size, 0, rfl, ?_⟩⟩
  simp only [List.length_cons, List.length_nil] at hj
  match j, hj with
  | 0, _ => unfold World.cell?; rw [World.alloc_heap_new]; rfl
  | 1, _ => unfold World.cell?; rw [World.alloc_heap_new]; rfl
theorem reads_alloc {W : World} {v : Value} {xs : List Int} (h : Reads32 W v xs) (o : Obj) : Reads32 (W.alloc o) v xs := reads_below h ((Below.refl _ W).alloc (Nat.le_refl _) _)

set_option maxRecDepth 100000 in
set_option maxHeartbeats 4000000 in
theorem shown_any (w : World) (hG : G w) :
    Calls Tryd.prog 7 #[] w fun e w' => e = .returned (.bool true) ∧ Below w.heap.size w w' := by
  go_enter Tryd.func7, Tryd.ntmps7
  go_wp2_with (go_at_call 18; refine (dec_d1 _ hG).mono ?_)
  rintro e w1 ⟨⟨l, rfl, hl⟩, hb⟩
  have hG1 := hG.below hG.size hb
  have hsz1 := hb.size
  go_wp2_with (go_at_call 18; refine (dec_d2 _ hG1).mono ?_)
  first | rintro e w2 rfl hbn | rintro e w2 ⟨rfl, hbn⟩
  have hG2 := hG1.below hG1.size hbn
  have hl := reads_below hl hbn
  have hb := hb.trans (hbn.mono hb.size)
  clear hbn
  go_wp2_with (go_at_call 25; refine (unes_u1 _ hG2).mono ?_)
  first | rintro e w3 rfl hbn | rintro e w3 ⟨rfl, hbn⟩
  have hG3 := hG2.below hG2.size hbn
  have hl := reads_below hl hbn
  have hb := hb.trans (hbn.mono hb.size)
  clear hbn
  go_wp2_with (go_at_call 25; refine (unes_u2 _ hG3).mono ?_)
  first | rintro e w4 rfl hbn | rintro e w4 ⟨rfl, hbn⟩
  have hG4 := hG3.below hG3.size hbn
  have hl := reads_below hl hbn
  have hb := hb.trans (hbn.mono hb.size)
  clear hbn
  go_wp2_with (go_at_call 23; refine (esc_c _ hG4).mono ?_)
  first | rintro e w5 rfl hbn | rintro e w5 ⟨rfl, hbn⟩
  have hG5 := hG4.below hG4.size hbn
  have hl := reads_below hl hbn
  have hb := hb.trans (hbn.mono hb.size)
  clear hbn
  go_wp2_with (go_at_call 27; refine (sq_c _ hG5).mono ?_)
  first | rintro e w6 rfl hbn | rintro e w6 ⟨rfl, hbn⟩
  have hG6 := hG5.below hG5.size hbn
  have hl := reads_below hl hbn
  have hb := hb.trans (hbn.mono hb.size)
  clear hbn
  go_wp2_with (go_at_call 22; refine (SameChars_any _ _ [97, 228] [97, 228] (by decide) (by decide) _ (reads_alloc hl _) (reads_two _ _ _ _)).mono ?_)
  rintro e w7 rfl n hw7
  have hb7 : Below w.heap.size w w7 := by rw [hw7]; exact below_drewN (hb.alloc hb.size _) n
  have hG7 := hG.below hG.size hb7
  clear hw7 hl hb hG1 hG2 hG3 hG4 hG5 hG6
  go_wp2_with (go_at_call 16; refine (loc_c1 _ hG7).mono ?_)
  first | rintro e w8 rfl hbn | rintro e w8 ⟨rfl, hbn⟩
  have hG8 := hG7.below hG7.size hbn
  have hb8 := hb7.trans (hbn.mono hb7.size)
  clear hbn hb7 hG7
  go_wp2_with (go_at_call 16; refine (loc_c2 _ hG8).mono ?_)
  first | rintro e w9 rfl hbn | rintro e w9 ⟨rfl, hbn⟩
  have hb9 := hb8.trans (hbn.mono hb8.size)
  clear hbn hb8 hG8
  go_wp2
  go_ret
  exact ⟨rfl, hb9⟩
end Ck
end Go.Proofs.YthfmnhhennbjnaaDoor
