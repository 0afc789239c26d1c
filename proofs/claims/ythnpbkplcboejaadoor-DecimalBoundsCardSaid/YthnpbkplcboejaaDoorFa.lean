/- Decimal, the law's helpers: read, text. -/
import Derived.Test.YthnpbkplcboejaaDoorEc
import Derived.Test.YthnpbkplcboejaaDoorDp
set_option linter.unusedSimpArgs false
set_option linter.unusedVariables false
namespace Go.Proofs.YthnpbkplcboejaaDoor
open Go.RowKit Go.Shelf Go.Lib Go.Sort
namespace Dc
set_option maxRecDepth 100000 in
set_option maxHeartbeats 2000000 in
theorem lread_any (s : ByteArray) (hs : s.size ≤ 1000) (w : World) :
    Calls Tryd.prog 19 #[.string s] w fun e w' => e = .returned (readS s.data.toList).d.val ∧ RowKit.Below w.heap.size w w' := by
  obtain ⟨W0, hW0⟩ : ∃ W0, w.alloc (.cells #[.bool false, .string ⟨#[]⟩, .int .i64 0] 23) = W0 := ⟨_, rfl⟩
  have hb0 : RowKit.Below w.heap.size w W0 := by rw [← hW0]; exact (Below.refl _ w).alloc (Nat.le_refl _) _
  have hB0 : Blk W0 w.heap.size #[.bool false, .string ⟨#[]⟩, .int .i64 0] 23 := by rw [← hW0]; exact Blk.new w _ _
  have hR := rRead_any s hs W0
  obtain ⟨r, hr⟩ : ∃ r, readS s.data.toList = r := ⟨_, rfl⟩
  rw [hr] at hR ⊢
  rw [R.val_eq] at hR
  clear hr
  have HB0 := Lib.hid hb0
  have HBl := Lib.hid hB0
  clear hb0 hB0
  go_enter Tryd.func19, Tryd.ntmps19
  go_wp2_with (go_at_call 37; refine hR.mono ?_)
  first | rintro e5 w5 rfl hb5 | rintro e5 w5 ⟨rfl, hb5⟩
  have hB5 := HBl.out.below HBl.out.lt hb5
  have hbw := b_step hb5 HB0.out
  have hB6 := hB5.alloc (.cells #[.bool r.d.neg, .string r.d.s, .int .i64 r.d.sc] 23)
  have hb6 := b_alloc (o := .cells #[.bool r.d.neg, .string r.d.s, .int .i64 r.d.sc] 23) hbw
  have hn6 := Blk.new w5 #[.bool r.d.neg, .string r.d.s, .int .i64 r.d.sc] 23
  obtain ⟨W6, hW6⟩ : ∃ W6, w5.alloc (.cells #[.bool r.d.neg, .string r.d.s, .int .i64 r.d.sc] 23) = W6 := ⟨_, rfl⟩
  rw [hW6] at hB6 hb6 hn6
  obtain ⟨c0, c1, c2, f0, f1, f2⟩ := hB6.three
  obtain ⟨d0, d1, d2, _, _, _⟩ := hn6.three
  have HB6 := Lib.hid hb6
  have HBl6 := Lib.hid hB6
  clear hR hB5 hB6 hb6 hn6 hbw hb5 hW0
  go_wp2
  refine bodyPost_ret (v := r.d.val) (results_cell_row (by rfl) _ _ _ _ _ _ _ (by rfl) (HBl6.out.set3 _ _ _) Tryd.underlying23 rfl sizeDec) rfl ⟨rfl, b_set3 HB6.out (Nat.le_refl _) _ _ _⟩
/-- The text of a decimal that is right. -/
theorem ltext_ok (v : V) (hv : v.ok) (w : World) :
    Calls Tryd.prog 21 #[v.d.val, .int .i64 0] w fun e w' => e = .returned (.string ⟨(textL v).toArray⟩) ∧ RowKit.Below w.heap.size w w' := by
  have hT := fun W => Text_ok v hv W
  rw [V.d_val] at hT ⊢
  obtain ⟨W1, hW1⟩ : ∃ W1, w.alloc (.cells #[.bool v.neg, .string (decB v.n), .int .i64 (v.s : Int)] 23) = W1 := ⟨_, rfl⟩
  have hb1 : RowKit.Below w.heap.size w W1 := by rw [← hW1]; exact (Below.refl _ w).alloc (Nat.le_refl _) _
  have hB1 : Blk W1 w.heap.size #[.bool v.neg, .string (decB v.n), .int .i64 (v.s : Int)] 23 := by rw [← hW1]; exact Blk.new w _ _
  obtain ⟨d0, d1, d2, _, _, _⟩ := hB1.three
  obtain ⟨x, hx⟩ : ∃ x : ByteArray, (⟨(textL v).toArray⟩ : ByteArray) = x := ⟨_, rfl⟩
  rw [hx] at hT ⊢
  have HB1 := Lib.hid hb1
  clear hb1 hB1 hx
  go_enter Tryd.func21, Tryd.ntmps21
  go_wp2_with (go_at_call 7; refine (hT _).mono ?_)
  first | rintro e5 w5 rfl hb5 | rintro e5 w5 ⟨rfl, hb5⟩
  have hbw := Lib.hid (b_step hb5 HB1.out)
  clear hb5 hT
  go_wp2
  go_ret
  exact ⟨rfl, hbw.out⟩
end Dc
end Go.Proofs.YthnpbkplcboejaaDoor
