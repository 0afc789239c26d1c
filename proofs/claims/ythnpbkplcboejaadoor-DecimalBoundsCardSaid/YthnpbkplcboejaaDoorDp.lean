/- Decimal: Text, Digits, Neg. -/
import Derived.Test.YthnpbkplcboejaaDoorDo
import Derived.Lib.MinMax
set_option linter.unusedSimpArgs false
set_option linter.unusedVariables false
namespace Go.Proofs.YthnpbkplcboejaaDoor
open Go.RowKit Go.Shelf Go.Lib Go.Sort
namespace Dc
theorem V.d_val (v : V) : v.d.val = .agg #[.bool v.neg, .string (decB v.n), .int .i64 (v.s : Int)] := rfl
theorem decB_size (n : Nat) : (decB n).size = (dec n).length := by show (dec n).toArray.size = _; simp
theorem V.ok.len {v : V} (h : v.ok) : (decB v.n).size ≤ 60 := by rw [decB_size]; exact (dec_len (by decide)).2 h.n
theorem check_size {d : D} (h : d.check = true) : d.s.size ≤ 60 := by
  unfold D.check at h
  simp only [Bool.and_eq_true, decide_eq_true_eq] at h
  rw [← size_list']; exact h.1.1.1.1.2
/-- What a box of a decimal holds. -/
abbrev D.cells (d : D) : Array Value := #[.bool d.neg, .string d.s, .int .i64 d.sc]
/-- The digits with the zeros that are wanted in front. -/
def wide (v : V) : List UInt8 := List.replicate (v.s + 1 - (dec v.n).length) 48 ++ dec v.n
def textL (v : V) : List UInt8 := (if v.neg = true then [45] else []) ++ ((wide v).take ((wide v).length - v.s) ++ (if 0 < v.s then 46 :: (wide v).drop ((wide v).length - v.s) else []))
theorem app_list (a b : ByteArray) : (a ++ b).data.toList = a.data.toList ++ b.data.toList := by simp
theorem held_start {W : World} {b : Nat} {a1 a2 : Value} (h1 : W.cell? ⟨b, 1, none⟩ = some a1) (h2 : W.cell? ⟨b, 2, none⟩ = some a2) : W.drew.cell? ⟨b, 1, none⟩ = some a1 ∧ W.drew.cell? ⟨b, 2, none⟩ = some a2 ∧ RowKit.Below W.heap.size W W.drew := ⟨h1, h2, b_drew (Below.refl _ _)⟩
theorem held_step {W V V' : World} {b : Nat} {a1 a2 : Value} (h : V.cell? ⟨b, 1, none⟩ = some a1 ∧ V.cell? ⟨b, 2, none⟩ = some a2 ∧ RowKit.Below W.heap.size W V) (hb : RowKit.Below V.heap.size V V') : V'.cell? ⟨b, 1, none⟩ = some a1 ∧ V'.cell? ⟨b, 2, none⟩ = some a2 ∧ RowKit.Below W.heap.size W V' :=
  ⟨(hb.cell (p := ⟨b, 1, none⟩) (block_lt_of_cell h.1)).trans h.1, (hb.cell (p := ⟨b, 2, none⟩) (block_lt_of_cell h.2.1)).trans h.2.1, b_step hb h.2.2⟩
theorem str_eq {a b : ByteArray} {k : Int} (h : a.data.toList = b.data.toList) : Ending.returned (.tuple #[.string a, .int .i64 k]) = .returned (.tuple #[.string b, .int .i64 k]) := by
  rw [show a = b from by rw [← mk_toList a, h, mk_toList]]
theorem rep_list (k : Nat) : Lib.repeatL [48] k = List.replicate k 48 := by
  induction k with
  | zero => rfl
  | succ k ih => rw [Lib.repeatL, ih]; rfl
theorem Repeat_any (k : Nat) (hk : k ≤ 1000) (w : World) : Calls Tryd.prog 24 #[.string ⟨#[48]⟩, .int .i64 k] w fun e w' => e = .returned (.string ⟨(List.replicate k (48 : UInt8)).toArray⟩) ∧ Below w.heap.size w w' := by
  have h := Tryd.strings_Repeat ⟨#[48]⟩ k w (by omega) (by show 1 * k ≤ _; omega)
  rw [show (⟨#[48]⟩ : ByteArray).data.toList = [48] from rfl, rep_list] at h
  exact h
set_option maxRecDepth 100000 in
set_option maxHeartbeats 2000000 in
theorem Text_no (d : D) (hs : d.s.size ≤ maxLen) (hc : d.check = false) (w : World) :
    Calls Tryd.prog 7 #[d.val] w fun e w' => e = .returned (.tuple #[.string ⟨#[]⟩, .int .i64 2]) ∧ Below w.heap.size w w' := by
  obtain ⟨W1, hW1⟩ : ∃ W1, (w.alloc (.cells #[.bool d.neg, .string d.s, .int .i64 d.sc] 23)).alloc (.cells #[.bool d.neg, .string d.s, .int .i64 d.sc] 23) = W1 := ⟨_, rfl⟩
  have hb1 : Below w.heap.size w W1 := by rw [← hW1]; exact b_alloc ((Below.refl _ w).alloc (Nat.le_refl _) _)
  have hB1 : Blk W1 (w.heap.size + 1) #[.bool d.neg, .string d.s, .int .i64 d.sc] 23 := by
    rw [← hW1]
    have := Blk.new (w.alloc (.cells #[.bool d.neg, .string d.s, .int .i64 d.sc] 23)) #[.bool d.neg, .string d.s, .int .i64 d.sc] 23
    rw [World.size_alloc] at this; exact this
  have hV := valid1_any d hs _ W1 hB1
  rw [hc] at hV
  rw [d_box]
  have HB := Lib.hid hb1
  clear hc hs hB1 hb1
  go_enter Tryd.func7, Tryd.ntmps7
  go_wp2_with (go_at_call 23; refine hV.mono ?_; first | rintro e5 w5 rfl hb5 | rintro e5 w5 ⟨rfl, hb5⟩)
  go_ret2
  exact ⟨rfl, b_step hb5 HB.out⟩
set_option maxRecDepth 100000 in
set_option maxHeartbeats 4000000 in
theorem Text_ok (v : V) (hv : v.ok) (w : World) :
    Calls Tryd.prog 7 #[v.d.val] w fun e w' => e = .returned (.tuple #[.string ⟨(textL v).toArray⟩, .int .i64 0]) ∧ Below w.heap.size w w' := by
  have hlen := hv.len
  obtain ⟨W1, hW1⟩ : ∃ W1, (w.alloc (.cells #[.bool v.neg, .string (decB v.n), .int .i64 (v.s : Int)] 23)).alloc (.cells #[.bool v.neg, .string (decB v.n), .int .i64 (v.s : Int)] 23) = W1 := ⟨_, rfl⟩
  have hb1 : Below w.heap.size w W1 := by rw [← hW1]; exact b_alloc ((Below.refl _ w).alloc (Nat.le_refl _) _)
  have hB0 : Blk W1 w.heap.size #[.bool v.neg, .string (decB v.n), .int .i64 (v.s : Int)] 23 := by rw [← hW1]; exact (Blk.new w _ _).alloc _
  have hB1 : Blk W1 (w.heap.size + 1) #[.bool v.neg, .string (decB v.n), .int .i64 (v.s : Int)] 23 := by
    rw [← hW1]
    have := Blk.new (w.alloc (.cells #[.bool v.neg, .string (decB v.n), .int .i64 (v.s : Int)] 23)) #[.bool v.neg, .string (decB v.n), .int .i64 (v.s : Int)] 23
    rw [World.size_alloc] at this; exact this
  have hV := valid1_any v.d (by show (decB v.n).size ≤ _; unfold maxLen; omega) _ W1 hB1
  rw [V.check hv] at hV
  rw [V.d_val]
  obtain ⟨neg, n, s⟩ := v
  simp only at hV hW1 hb1 hB0 hB1 hlen ⊢
  have hs60 : s ≤ 60 := hv.s
  obtain ⟨dg, hdg⟩ : ∃ dg, decB n = dg := ⟨_, rfl⟩
  have hdgl : dg.data.toList = dec n := by rw [← hdg]
  rw [hdg] at hW1 hB0 hB1 hlen ⊢
  obtain ⟨k, hk⟩ : ∃ k, s + 1 - dg.size = k := ⟨_, rfl⟩
  have hR := fun W => Repeat_any k (by omega) W
  obtain ⟨z, hz⟩ : ∃ z : ByteArray, (⟨(List.replicate k (48 : UInt8)).toArray⟩ : ByteArray) = z := ⟨_, rfl⟩
  have hzl : z.data.toList = List.replicate k 48 := by rw [← hz]
  have hzs : z.size = k := by rw [← size_list', hzl, List.length_replicate]
  rw [hz] at hR
  have hmax : max (0 : Int) ((s : Int) + 1 - (dg.size : Int)) = (k : Int) := by omega
  have hw1 : IntKind.i64.wrap ((s : Int) + 1) = (s : Int) + 1 := IntWalk.i64_in _ (by omega)
  have hw2 : IntKind.i64.wrap ((s : Int) + 1 - (dg.size : Int)) = (s : Int) + 1 - (dg.size : Int) := IntWalk.i64_in _ (by omega)
  obtain ⟨x, hx⟩ : ∃ x, z ++ dg = x := ⟨_, rfl⟩
  have hxl : x.data.toList = wide ⟨neg, n, s⟩ := by
    rw [← hx, app_list, hzl, hdgl]; unfold wide
    rw [← hk, ← hdg, decB_size]
  have hxs : x.size = k + dg.size := by rw [← size_list', ← hx, app_list, List.length_append, size_list', size_list', hzs]
  have hsum : ¬ 9223372036854775807 < z.size + dg.size := by omega
  obtain ⟨p, hp⟩ : ∃ p, x.size - s = p := ⟨_, rfl⟩
  have hp' : (x.size : Int) - (s : Int) = (p : Int) := by omega
  have hpx : p ≤ x.size := by omega
  have hx121 : x.size ≤ 200 := by omega
  obtain ⟨fr, hfr⟩ : ∃ fr, x.extract 0 p = fr := ⟨_, rfl⟩
  obtain ⟨bk, hbk⟩ : ∃ bk, x.extract p x.size = bk := ⟨_, rfl⟩
  have hfl : fr.data.toList = (wide ⟨neg, n, s⟩).take p := by rw [← hfr, Lib.extract_data, List.drop_zero, hxl]; simp
  have hbl : bk.data.toList = (wide ⟨neg, n, s⟩).drop p := by rw [← hbk, Lib.extract_to_end, hxl]
  have HB := Lib.hid hb1
  have HBl := Lib.hid hB0
  have HV := Lib.hid hV
  have hwl : (wide ⟨neg, n, s⟩).length = x.size := by rw [← hxl, size_list']
  have HL : Hid ((wide ⟨neg, n, s⟩).length - s = p) := by show _ = _; rw [hwl]; exact hp
  have HFL := Lib.hid hfl
  have HXL := Lib.hid hxl
  have HWL := Lib.hid hwl
  have HP := Lib.hid hp
  have HBLL := Lib.hid hbl
  have hfs : fr.size ≤ 200 := by rw [← size_list', hfl, List.length_take]; omega
  have hbs : bk.size ≤ 200 := by rw [← size_list', hbl, List.length_drop]; omega
  clear hv hlen hB1 hb1 hB0 hV hdg hdgl hk hz hzl hxl hp hfl hbl hwl hzs hxs
  go_enter Tryd.func7, Tryd.ntmps7
  go_wp2_with (go_at_call 23; refine HV.out.mono ?_)
  first | rintro e5 w5 rfl hb5 | rintro e5 w5 ⟨rfl, hb5⟩
  have hB5 := HBl.out.below HBl.out.lt hb5
  obtain ⟨c0, c1, c2, f0, f1, f2⟩ := hB5.three
  have HB5 := Lib.hid (b_step hb5 HB.out)
  clear hb5 hW1
  cases neg with
  | true =>
    go_wp2
    go_region_held3 (fun W' => W'.cell? ⟨w.heap.size, 1, none⟩ = some (.string dg) ∧ W'.cell? ⟨w.heap.size, 2, none⟩ = some (.int .i64 (s : Int)) ∧ RowKit.Below w5.heap.size w5 W') (first | exact held_start c1 c2 | exact held_step (held_start c1 c2) hb6) ((go_at_call 24; refine (hR _).mono ?_; first | rintro e6 w6 rfl hb6 | rintro e6 w6 ⟨rfl, hb6⟩))
    all_goals
      obtain ⟨d1, d2, d3⟩ := held_step (held_start c1 c2) hb6
      clear c0 c1 c2 f0 f1 f2 hw1 hw2 hmax hx hsum hR
      have HB6 := Lib.hid (b_step d3 HB5.out)
      clear d3 hb6
      by_cases h0 : 0 < s
      · go_wp2
        all_goals first
          | (exfalso; have := HB6; simp only [ByteArray.size_append] at *; omega)
          | (go_ret2
             exact ⟨str_eq (by
              unfold textL
              simp only [app_list, HFL.out, HBLL.out, HL.out]
              simp [h0]), HB6.out⟩)
      · obtain rfl : s = 0 := by omega
        go_wp2
        all_goals first
          | (exfalso; have := HB6; simp only [ByteArray.size_append] at *; omega)
          | (go_ret2
             exact ⟨str_eq (by
              unfold textL
              simp only [app_list, HFL.out, HBLL.out, HL.out]
              simp
              rw [HXL.out, List.take_of_length_le (by rw [HWL.out]; have := HP.out; omega)]), HB6.out⟩)
  | false =>
    go_wp2
    go_region_held3 (fun W' => W'.cell? ⟨w.heap.size, 1, none⟩ = some (.string dg) ∧ W'.cell? ⟨w.heap.size, 2, none⟩ = some (.int .i64 (s : Int)) ∧ RowKit.Below w5.heap.size w5 W') (first | exact held_start c1 c2 | exact held_step (held_start c1 c2) hb6) ((go_at_call 24; refine (hR _).mono ?_; first | rintro e6 w6 rfl hb6 | rintro e6 w6 ⟨rfl, hb6⟩))
    all_goals
      obtain ⟨d1, d2, d3⟩ := held_step (held_start c1 c2) hb6
      clear c0 c1 c2 f0 f1 f2 hw1 hw2 hmax hx hsum hR
      have HB6 := Lib.hid (b_step d3 HB5.out)
      clear d3 hb6
      by_cases h0 : 0 < s
      · go_wp2
        all_goals first
          | (exfalso; have := HB6; simp only [ByteArray.size_append] at *; omega)
          | (go_ret2
             exact ⟨str_eq (by
              unfold textL
              simp only [app_list, HFL.out, HBLL.out, HL.out]
              simp [h0]), HB6.out⟩)
      · obtain rfl : s = 0 := by omega
        go_wp2
        all_goals first
          | (exfalso; have := HB6; simp only [ByteArray.size_append] at *; omega)
          | (go_ret2
             exact ⟨str_eq (by
              unfold textL
              simp only [app_list, HFL.out, HBLL.out, HL.out]
              simp
              rw [HXL.out, List.take_of_length_le (by rw [HWL.out]; have := HP.out; omega)]), HB6.out⟩)
end Dc
end Go.Proofs.YthnpbkplcboejaaDoor
