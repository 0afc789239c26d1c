/- Decimal: numberOf, power, compare. -/
import Derived.Test.YthnpbkplcboejaaDoorDe
import Derived.IntWalk
set_option linter.unusedSimpArgs false
set_option linter.unusedVariables false
namespace Go.Proofs.YthnpbkplcboejaaDoor
open Go.RowKit Go.Shelf
namespace Dc
/-- Two boxes: the result's (zero still), the number's. -/
structure NSt (w : World) (f : Nat → Int) (W : World) : Prop where
  below : Below w.heap.size w W
  z : Blk W w.heap.size (arr fun _ => 0) 56
  x : Blk W (w.heap.size + 1) (arr f) 56
theorem NSt.start2 (w : World) (f : Nat → Int) : NSt w f ((w.alloc (.cells (arr fun _ => 0) 56)).alloc (.cells (arr f) 56)) := by
  have h2 := Blk.new (w.alloc (.cells (arr fun _ => 0) 56)) (arr f) 56
  simp only [World.size_alloc] at h2
  exact ⟨b_alloc ((Below.refl _ w).alloc (Nat.le_refl _) _), (Blk.new w _ _).alloc _, h2⟩
theorem NSt.start (w : World) : NSt w (fun _ => 0) ((w.alloc (.cells (arr fun _ => 0) 56)).alloc (.cells (arr fun _ => 0) 56)) := NSt.start2 w _
theorem NSt.set {w : World} {f : Nat → Int} {W : World} (h : NSt w f W) (v : Int) {k : Nat} (hk : k < 20) : NSt w (fun j => if j = k then v else f j) (W.setCell ⟨w.heap.size + 1, k, none⟩ (.int .i64 v)) :=
  ⟨h.below.setCell (p := ⟨w.heap.size + 1, k, none⟩) (show w.heap.size ≤ w.heap.size + 1 by omega) _, h.z.other (by omega) _, by have := h.x.set k (.int .i64 v); rw [arr_set _ hk] at this; exact this⟩
theorem NSt.drew {w : World} {f : Nat → Int} {W : World} (h : NSt w f W) : NSt w f W.drew := ⟨b_drew h.below, h.z, h.x⟩
theorem take_snoc (l : List UInt8) (k : Nat) (h : k < l.length) : l.take (k + 1) = l.take k ++ [l[k]] := by
  rw [List.take_succ_eq_append_getElem h]
theorem size_list (s : ByteArray) : s.data.toList.length = s.size := by rw [Array.length_toList]; rfl
theorem get_list (s : ByteArray) (k : Nat) (h : k < s.size) : s.data.toList[k]'(by rw [size_list]; exact h) = s[k] := rfl
set_option maxRecDepth 100000 in
set_option maxHeartbeats 1000000 in
theorem numberOf_any (s : ByteArray) (hd : digs s.data.toList = true) (hs : s.size ≤ 180) (w : World) :
    Calls Tryd.prog 29 #[.string s] w fun e w' => e = .returned (.agg (arr (numF (dv s.data.toList)))) ∧ Below w.heap.size w w' := by
  have hz := zeroNum
  go_enter Tryd.func29, Tryd.ntmps29
  go_wp2
  obtain ⟨W0, hW0⟩ : ∃ W0, ((w.alloc (.cells (arr fun _ => 0) 56)).alloc (.cells (arr fun _ => 0) 56)) = W0 := ⟨_, rfl⟩
  have HS := NSt.start w
  rw [hW0] at HS
  simp only [hW0]
  have HD := Lib.hid hd
  clear hW0 hz hd
  go_loopw [8] (fun i wr => ∃ k : Nat, k ≤ s.size ∧ i = .int .i64 k ∧ NSt w (fun j => (pt (dv (s.data.toList.take k)) (s.size - k) j : Int)) wr) (fun i _ => s.size - (intOf i).toNat)
  case atStart => exact ⟨0, by omega, rfl, by simpa [dv_nil, pt_zero] using HS⟩
  case round =>
    obtain ⟨k, hk, rfl, hS⟩ := hrel
    by_cases hlt : k < s.size
    · obtain ⟨r, hr⟩ : ∃ r, s.size - k = r + 1 := ⟨s.size - k - 1, by omega⟩
      rw [hr] at hS
      obtain ⟨m, hm⟩ : ∃ m, dv (s.data.toList.take k) = m := ⟨_, rfl⟩
      rw [hm] at hS
      have hq : ((s.size : Int) - 1 - (k : Int)) / 9 = ((r / 9 : Nat) : Int) := by omega
      have hq2 : ((s.size : Int) - 1 - (k : Int)).tdiv 9 = ((r / 9 : Nat) : Int) := by rw [Int.tdiv_eq_ediv_of_nonneg (by omega)]; exact hq
      have hq20 : r / 9 < 20 := by omega
      have c1 := hS.x.cell (r / 9)
      rw [arr_get _ hq20] at c1
      have f1 := hS.x.frozen (r / 9)
      obtain ⟨v, hv⟩ : ∃ v, pt m (r + 1) (r / 9) = v := ⟨_, rfl⟩
      have hvb : v < 100000000 := by rw [← hv]; exact pt_small
      rw [hv] at c1
      obtain ⟨c, hc⟩ : ∃ c, s[k] = c := ⟨_, rfl⟩
      have hcb : 48 ≤ c.toNat ∧ c.toNat ≤ 57 := by
        rw [← hc, ← get_list s k hlt]
        exact digs_iff.1 HD.out _ (List.getElem_mem _)
      have hi : k < s.size := hlt
      have hw1 : IntKind.i64.wrap ((v : Int) * 10) = (v : Int) * 10 := IntWalk.i64_in _ (by omega)
      have hw2 : IntKind.u8.wrap ((c.toNat : Int) - 48) = (c.toNat : Int) - 48 := IntWalk.u8_in _ (by omega)
      have hw3 : IntKind.i64.wrap ((c.toNat : Int) - 48) = (c.toNat : Int) - 48 := IntWalk.i64_in _ (by omega)
      have hw4 : IntKind.i64.wrap ((v : Int) * 10 + ((c.toNat : Int) - 48)) = (v : Int) * 10 + ((c.toNat : Int) - 48) := IntWalk.i64_in _ (by omega)
      go_wp2
      go_region
      all_goals
        clear hw1 hw2 hw3 hw4 hq hq2
        go_wp2
        refine ⟨⟨k + 1, by omega, by go_num, ?_⟩, by simp [intOf]; omega⟩
        have h := (hS.set ((v : Int) * 10 + ((c.toNat : Int) - 48)) hq20).drew
        have e : (fun j => if j = r / 9 then (v : Int) * 10 + ((c.toNat : Int) - 48) else (pt m (r + 1) j : Int)) = fun j => (pt (dv (s.data.toList.take (k + 1))) (s.size - (k + 1)) j : Int) := by
          funext j
          rw [take_snoc _ _ (by rw [size_list]; exact hlt), dv_snoc, hm, get_list s k hlt, hc, show s.size - (k + 1) = r by omega]
          by_cases hj : j = r / 9
          · subst hj
            rw [if_pos rfl, pt_this (by omega), hv]
            omega
          · rw [if_neg hj, pt_other (by omega) (fun e => hj e.symm)]
        rw [e] at h
        exact h
    · obtain rfl : k = s.size := by omega
      have hx := hS.x
      have hb := hS.below
      have hz := hS.z
      have ea : arr (fun j => (pt (dv (s.data.toList.take s.size)) (s.size - s.size) j : Int)) = arr (numF (dv s.data.toList)) := by
        refine arr_ext fun j _ => ?_
        rw [List.take_of_length_le (by rw [size_list]; exact Nat.le_refl _), Nat.sub_self, pt_end]; rfl
      rw [ea] at hx
      clear hS HS HD ea
      go_wp2_with (first | refine wpList_load_row rfl _ _ rfl _ rfl _ _ _ _ hx underNum rfl (sizeNum _) ?_ | refine wpList_store_row rfl _ _ _ rfl _ _ rfl rfl _ _ hz (sizeNum _) (by rw [arr_size, arr_size]) (arr_one _) ?_)
      refine bodyPost_ret (v := .agg (arr (numF (dv s.data.toList)))) (results_cell_row (by rfl) _ _ _ _ _ _ _ (by rfl) (hz.row _) underNum rfl (sizeNum _)) rfl ⟨rfl, ?_⟩
      exact b_row hb (by omega)
theorem pow10_le {k : Nat} (h : k ≤ 8) : 10 ^ k ≤ 100000000 := by
  have := Nat.pow_le_pow_right (n := 10) (by decide) h
  exact this
set_option maxRecDepth 100000 in
set_option maxHeartbeats 1000000 in
theorem power_any (n : Nat) (hn : n < 180) (w : World) :
    Calls Tryd.prog 34 #[.int .i64 n] w fun e w' => e = .returned (.agg (arr (numF (10 ^ n)))) ∧ Below w.heap.size w w' := by
  have hz := zeroNum
  have hq20 : n / 9 < 20 := by omega
  have c1 := (NSt.start w).x.cell (n / 9)
  rw [arr_get _ hq20] at c1
  have f1 := (NSt.start w).x.frozen (n / 9)
  go_enter Tryd.func34, Tryd.ntmps34
  go_wp2
  have HS := NSt.start2 w (fun j => if j = n / 9 then 1 else 0)
  rw [← arr_set (fun _ => 0) hq20] at HS
  obtain ⟨W0, hW0⟩ : ∃ W0, ((w.alloc (.cells (arr fun _ => 0) 56)).alloc (.cells ((arr fun _ => 0).setIfInBounds (n / 9) (.int .i64 1)) 56)) = W0 := ⟨_, rfl⟩
  rw [hW0] at HS
  simp only [hW0]
  clear hW0 hz c1 f1
  go_loopw [9] (fun i wr => ∃ k : Nat, k ≤ n % 9 ∧ i = .int .i64 k ∧ NSt w (fun j => if j = n / 9 then ((10 ^ k : Nat) : Int) else 0) wr) (fun i _ => n % 9 - (intOf i).toNat)
  case atStart => exact ⟨0, by omega, rfl, HS⟩
  case round =>
    obtain ⟨k, hk, rfl, hS⟩ := hrel
    by_cases hlt : k < n % 9
    · obtain ⟨m, hm⟩ : ∃ m, 10 ^ k = m := ⟨_, rfl⟩
      have hmb : m ≤ 100000000 := by rw [← hm]; exact pow10_le (by omega)
      have c1 := hS.x.cell (n / 9)
      rw [arr_get _ hq20, if_pos rfl, hm] at c1
      have f1 := hS.x.frozen (n / 9)
      have Hm := Lib.hid hm
      clear hm
      go_wp2
      go_roundw
      case rel =>
        have h := hS.set ((m : Int) * 10) hq20
        have e : (fun j => if j = n / 9 then (m : Int) * 10 else if j = n / 9 then ((10 ^ k : Nat) : Int) else 0) = fun j => if j = n / 9 then ((10 ^ (k + 1) : Nat) : Int) else 0 := by
          funext j
          by_cases hj : j = n / 9
          · rw [if_pos hj, if_pos hj, Nat.pow_succ, Hm.out]; omega
          · rw [if_neg hj, if_neg hj, if_neg hj]
        rw [e] at h
        exact ⟨k + 1, by omega, by go_num, h⟩
      case measure => simp [intOf]; omega
    · obtain rfl : k = n % 9 := by omega
      have hx := hS.x
      have hb := hS.below
      have hz := hS.z
      have ea : arr (fun j => if j = n / 9 then ((10 ^ (n % 9) : Nat) : Int) else 0) = arr (numF (10 ^ n)) := by
        refine arr_ext fun j _ => ?_
        unfold numF
        rw [lim_pow]
        by_cases hj : j = n / 9
        · rw [if_pos hj, if_pos hj]
        · rw [if_neg hj, if_neg hj]; rfl
      rw [ea] at hx
      clear hS HS ea
      go_wp2_with (first | refine wpList_load_row rfl _ _ rfl _ rfl _ _ _ _ hx underNum rfl (sizeNum _) ?_ | refine wpList_store_row rfl _ _ _ rfl _ _ rfl rfl _ _ hz (sizeNum _) (by rw [arr_size, arr_size]) (arr_one _) ?_)
      refine bodyPost_ret (v := .agg (arr (numF (10 ^ n)))) (results_cell_row (by rfl) _ _ _ _ _ _ _ (by rfl) (hz.row _) underNum rfl (sizeNum _)) rfl ⟨rfl, ?_⟩
      exact b_row hb (by omega)
/-- The order of numbers. -/
def ord (a b : Nat) : Int := if a < b then -1 else if b < a then 1 else 0
theorem ord_lim {a b i : Nat} (h : a / pw (i + 1) = b / pw (i + 1)) (hne : lim a i ≠ lim b i) : ord (lim a i) (lim b i) = ord a b := by
  have h1 := div_split a i
  have h2 := div_split b i
  have ha : a < b ↔ lim a i < lim b i := by
    constructor
    · intro hlt
      have := Nat.div_le_div_right (c := pw i) (Nat.le_of_lt hlt)
      omega
    · intro hlt
      rcases Nat.lt_or_ge a b with h3 | h3
      · exact h3
      · have := Nat.div_le_div_right (c := pw i) h3; omega
  have hb : b < a ↔ lim b i < lim a i := by
    constructor
    · intro hlt
      have := Nat.div_le_div_right (c := pw i) (Nat.le_of_lt hlt)
      omega
    · intro hlt
      rcases Nat.lt_or_ge b a with h3 | h3
      · exact h3
      · have := Nat.div_le_div_right (c := pw i) h3; omega
  unfold ord
  simp only [ha, hb]
theorem ord_compare (a b : Nat) : Lib.compareInt (a : Int) (b : Int) = ord a b := by
  unfold Lib.compareInt ord
  by_cases h : a < b
  · rw [if_pos h, if_pos (by omega)]
  · rw [if_neg h, if_neg (by omega)]
    by_cases h2 : b < a
    · rw [if_pos h2, if_pos (by omega)]
    · rw [if_neg h2, if_neg (by omega)]
set_option maxRecDepth 100000 in
set_option maxHeartbeats 1000000 in
theorem isNaN_any (x : Int) (w : World) : Calls Tryd.prog 73 #[.int .i64 x] w fun e w' => e = .returned (.bool false) ∧ w' = w := by
  go_enter Tryd.func73, Tryd.ntmps73
  go_wp2
  go_ret
  exact ⟨by simp, rfl⟩
set_option maxHeartbeats 1000000 in
theorem cmpCompare_any (x y : Int) (w : World) : Calls Tryd.prog 52 #[.int .i64 x, .int .i64 y] w fun e w' => e = .returned (.int .i64 (Lib.compareInt x y)) ∧ w' = w := by
  go_enter Tryd.func52, Tryd.ntmps52
  go_wp2_with (go_at_call 73; refine (isNaN_any _ _).mono ?_; rintro e w' ⟨rfl, hw⟩; rw [hw])
  all_goals (go_ret; refine ⟨?_, rfl⟩; unfold Lib.compareInt; (repeat' split) <;> first | rfl | (exfalso; omega))
set_option maxRecDepth 100000 in
set_option maxHeartbeats 1000000 in
theorem compare_any (a b : Nat) (ha : a < pw 20) (hb : b < pw 20) (w : World) :
    Calls Tryd.prog 33 #[.agg (arr (numF a)), .agg (arr (numF b))] w fun e w' => e = .returned (.int .i64 (ord a b)) ∧ Below w.heap.size w w' := by
  go_enter Tryd.func33, Tryd.ntmps33
  go_wp2
  have h1 := Blk.new w (arr (numF a)) 56
  have h2 := Blk.new (w.alloc (.cells (arr (numF a)) 56)) (arr (numF b)) 56
  simp only [World.size_alloc] at h2
  have h1 := h1.alloc (.cells (arr (numF b)) 56)
  have hB := b_alloc (o := .cells (arr (numF b)) 56) ((Below.refl w.heap.size w).alloc (Nat.le_refl _) (.cells (arr (numF a)) 56))
  obtain ⟨W0, hW0⟩ : ∃ W0, ((w.alloc (.cells (arr (numF a)) 56)).alloc (.cells (arr (numF b)) 56)) = W0 := ⟨_, rfl⟩
  rw [hW0] at h1 h2 hB
  simp only [hW0]
  clear hW0
  go_loopw [5] (fun i wr => ∃ k : Nat, k ≤ 20 ∧ i = .int .i64 ((k : Int) - 1) ∧ a / pw k = b / pw k ∧ Below w.heap.size w wr ∧ Blk wr w.heap.size (arr (numF a)) 56 ∧ Blk wr (w.heap.size + 1) (arr (numF b)) 56) (fun i _ => (intOf i + 1).toNat)
  case atStart => exact ⟨20, by omega, rfl, by rw [Nat.div_eq_of_lt ha, Nat.div_eq_of_lt hb], hB, h1, h2⟩
  case round =>
    clear hB h1 h2
    obtain ⟨k, hk, rfl, hq, hB, h1, h2⟩ := hrel
    by_cases h0 : k = 0
    · subst h0
      have : a = b := by rw [pw_zero, Nat.div_one, Nat.div_one] at hq; exact hq
      subst this
      have Hh := Lib.hid hB
      clear h1 h2 hq hB
      go_wp2
      go_ret
      exact ⟨ret_int (by unfold ord; rw [if_neg (by omega), if_neg (by omega)]), Hh.out⟩
    · obtain ⟨i, rfl⟩ : ∃ i, k = i + 1 := ⟨k - 1, by omega⟩
      have hi : i < 20 := by omega
      have e1 : (((i + 1 : Nat) : Int) - 1) = (i : Int) := by omega
      rw [e1]
      have c1 := h1.cell i
      rw [arr_get _ hi] at c1
      have c2 := h2.cell i
      rw [arr_get _ hi] at c2
      have HQ := Lib.hid hq
      clear hq e1 hk
      by_cases he : lim a i = lim b i
      · have g1 : (numF a i != numF b i) = false := by unfold numF; simp [he]
        have g2 : (numF a i == numF b i) = true := by unfold numF; simp [he]
        have HE := Lib.hid he
        clear he
        go_wp2
        go_region
        all_goals
          go_wp2
          refine ⟨⟨i, by omega, rfl, ?_, b_drew hB, h1, h2⟩, by simp [intOf]⟩
          rw [div_split a i, div_split b i, HQ.out, HE.out]
      · have g1 : (numF a i != numF b i) = true := by unfold numF; rw [bne_iff_ne]; omega
        have g2 : (numF a i == numF b i) = false := by unfold numF; rw [beq_eq_false_iff_ne]; omega
        have HE := Lib.hid he
        clear he
        go_wp2
        go_region
        all_goals
          have cd1 := h1.drew.cell i
          rw [arr_get _ hi] at cd1
          have cd2 := h2.drew.cell i
          rw [arr_get _ hi] at cd2
          go_wp2
          go_region_with (go_at_call 52; refine (cmpCompare_any _ _ _).mono ?_; rintro e w5 ⟨rfl, rfl⟩)
          all_goals
            go_wp2
            go_ret
            exact ⟨ret_int (by rw [show numF a i = ((lim a i : Nat) : Int) from rfl, show numF b i = ((lim b i : Nat) : Int) from rfl, ord_compare, ord_lim HQ.out HE.out]), b_drew (b_drew hB)⟩
end Dc
end Go.Proofs.YthnpbkplcboejaaDoor
