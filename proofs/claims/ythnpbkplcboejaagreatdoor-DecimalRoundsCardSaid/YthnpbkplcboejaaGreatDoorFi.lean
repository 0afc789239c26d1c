/- Decimal: Neg. -/
import Derived.Test.YthnpbkplcboejaaGreatDoorDx
set_option linter.unusedSimpArgs false
set_option linter.unusedVariables false
namespace Go.Proofs.YthnpbkplcboejaaGreatDoor
open Go.RowKit Go.Shelf Go.Lib Go.Sort
namespace Dc
theorem neg_start (w : World) (A0 A1 A2 : Value) : ∃ W1, ((w.alloc (.cells #[A0, A1, A2] 23)).alloc (.cells #[.bool false, .string ⟨#[]⟩, .int .i64 0] 23)).alloc (.cells #[A0, A1, A2] 23) = W1 ∧ RowKit.Below w.heap.size w W1 ∧
    Blk W1 w.heap.size #[A0, A1, A2] 23 ∧ Blk W1 (w.heap.size + 1) #[.bool false, .string ⟨#[]⟩, .int .i64 0] 23 ∧ Blk W1 (w.heap.size + 2) #[A0, A1, A2] 23 := by
  obtain ⟨h0, h1, h2, h3⟩ := two_start w A0 A1 A2 (.bool false) (.string ⟨#[]⟩) (.int .i64 0) |> fun h => (⟨h.1, h.2.1, h.2.2, trivial⟩ : _ ∧ _ ∧ _ ∧ True)
  refine ⟨_, rfl, b_alloc h0, h1.alloc _, h2.alloc _, ?_⟩
  have := Blk.new ((w.alloc (.cells #[A0, A1, A2] 23)).alloc (.cells #[.bool false, .string ⟨#[]⟩, .int .i64 0] 23)) #[A0, A1, A2] 23
  simp only [World.size_alloc, Nat.add_assoc, Nat.reduceAdd] at this
  exact this
set_option maxRecDepth 100000 in
set_option maxHeartbeats 2000000 in
theorem Neg_no (d : D) (hs : d.s.size ≤ maxLen) (hc : d.check = false) (w : World) :
    Calls Tryz.prog 21 #[d.val] w fun e w' => e = .returned (R.err 2).val ∧ RowKit.Below w.heap.size w w' := by
  obtain ⟨W1, hW1, hb1, h1, h2, h3⟩ := neg_start w (.bool d.neg) (.string d.s) (.int .i64 d.sc)
  have hV := valid1_any d hs _ W1 h3
  rw [hc] at hV
  rw [d_box]
  have HB := Lib.hid hb1
  have HN := Lib.hid h2
  clear hc hs h1 h2 h3 hb1
  go_enter Tryz.func21, Tryz.ntmps21
  go_wp2_with (go_at_call 39; refine hV.mono ?_)
  first | rintro e5 w5 rfl hb5 | rintro e5 w5 ⟨rfl, hb5⟩
  have hB5 := HN.out.below HN.out.lt hb5
  obtain ⟨c0, c1, c2, f0, f1, f2⟩ := hB5.three
  have HB5 := Lib.hid (b_step hb5 HB.out)
  clear hb5 hW1 hV
  go_wp2
  refine bodyPost_ret (v := (R.err 2).val) (results_row_slot (by rfl) _ _ _ _ _ _ (by rfl) (hB5.set3 _ _ _) (by rfl)) rfl ⟨rfl, b_set3 HB5.out (by omega) _ _ _⟩
set_option maxRecDepth 100000 in
set_option maxHeartbeats 2000000 in
theorem Neg_ok (a : V) (ha : a.ok) (w : World) :
    Calls Tryz.prog 21 #[a.d.val] w fun e w' => e = .returned (mk (!a.neg) a.n a.s).val ∧ RowKit.Below w.heap.size w w' := by
  obtain ⟨W1, hW1, hb1, h1, h2, h3⟩ := neg_start w (.bool a.neg) (.string (decB a.n)) (.int .i64 (a.s : Int))
  have hl := ha.len
  have hV := valid1_any a.d (by show (decB a.n).size ≤ _; unfold maxLen; omega) _ W1 h3
  rw [V.check ha] at hV
  have hM := fun W => made_any (!a.neg) (decB a.n) a.s (digs_dec a.n) (by omega) (by have := ha.s; omega) W
  rw [show dv (decB a.n).data.toList = a.n from dv_dec a.n] at hM
  obtain ⟨r, hr⟩ : ∃ r, mk (!a.neg) a.n a.s = r := ⟨_, rfl⟩
  rw [hr] at hM ⊢
  rw [R.val_eq] at hM
  rw [V.d_val]
  have HB := Lib.hid hb1
  have HX := Lib.hid h1
  have HN := Lib.hid h2
  clear ha h1 h2 h3 hb1 hr hl
  go_enter Tryz.func21, Tryz.ntmps21
  go_wp2_with (go_at_call 39; refine hV.mono ?_)
  first | rintro e5 w5 rfl hb5 | rintro e5 w5 ⟨rfl, hb5⟩
  have hB5 := HN.out.below HN.out.lt hb5
  have hX5 := HX.out.below HX.out.lt hb5
  obtain ⟨d0, d1, d2, _, _, _⟩ := hX5.three
  have HB5 := Lib.hid (b_step hb5 HB.out)
  have HN5 := Lib.hid hB5
  clear hb5 hW1 hV HX HN hX5 hB5
  go_wp2_with (go_at_call 36; refine (hM _).mono ?_)
  first | rintro e6 w6 rfl hb6 | rintro e6 w6 ⟨rfl, hb6⟩
  have hB6 := HN5.out.below HN5.out.lt hb6
  obtain ⟨c0, c1, c2, f0, f1, f2⟩ := hB6.three
  have HB6 := Lib.hid (b_step hb6 HB5.out)
  clear hb6 d0 d1 d2 hM HN5
  go_wp2
  refine bodyPost_ret (v := r.val) (results_row_slot (by rfl) _ _ _ _ _ _ (by rfl) (hB6.set3 _ _ _) (by rfl)) rfl ⟨rfl, b_set3 HB6.out (by omega) _ _ _⟩
end Dc
end Go.Proofs.YthnpbkplcboejaaGreatDoor
