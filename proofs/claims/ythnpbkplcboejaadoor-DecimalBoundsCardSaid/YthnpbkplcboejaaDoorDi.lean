/- Decimal: digits. -/
import Derived.Test.YthnpbkplcboejaaDoorDg
import Derived.Lib.SlBytesRow
set_option linter.unusedSimpArgs false
set_option linter.unusedVariables false
namespace Go.Proofs.YthnpbkplcboejaaDoor
open Go.RowKit Go.Shelf
namespace Dc
/-- Cells of a text of 180 bytes. -/
def arrT (g : Nat → Int) : Array Value := ((List.range 180).map fun i => Value.int .u8 (g i)).toArray
theorem arrT_size (g : Nat → Int) : (arrT g).size = 180 := by simp [arrT]
theorem arrT_get (g : Nat → Int) {i : Nat} (h : i < 180) : (arrT g)[i]? = some (.int .u8 (g i)) := by
  unfold arrT; simp [List.getElem?_range, h]
theorem arrT_ext {f g : Nat → Int} (h : ∀ i, i < 180 → f i = g i) : arrT f = arrT g := by
  unfold arrT
  congr 1
  exact List.map_congr_left fun i hi => by rw [h i (List.mem_range.1 hi)]
theorem arrT_set (g : Nat → Int) {i : Nat} (h : i < 180) (v : Int) : (arrT g).setIfInBounds i (.int .u8 v) = arrT (fun j => if j = i then v else g j) := by
  apply Array.ext_getElem?
  intro j
  rw [Array.getElem?_setIfInBounds]
  by_cases hj : i = j
  · subst hj
    rw [if_pos rfl, if_pos (by rw [arrT_size]; exact h), arrT_get _ h, if_pos rfl]
  · rw [if_neg hj]
    by_cases hj2 : j < 180
    · rw [arrT_get _ hj2, arrT_get _ hj2, if_neg (fun e => hj e.symm)]
    · rw [Array.getElem?_eq_none (by rw [arrT_size]; omega), Array.getElem?_eq_none (by rw [arrT_size]; omega)]
theorem infoTxt : (Tryd.prog.info? 87).map (fun i => (i.zero, i.size)) = some (some (.agg (arrT fun _ => 0)), 180) := by kernel_rfl
theorem zeroTxt : ∀ w, (zeroValue 87).run Tryd.prog w = .ok (.agg (arrT fun _ => 0)) w := (zero_of_info infoTxt).1
def dgt (n i : Nat) : Nat := n / 10 ^ i % 10
/-- The text when i digits are written. -/
def wrote (n i p : Nat) : Int := if 180 ≤ i + p then (48 + dgt n (179 - p) : Nat) else 0
structure GSt (w : World) (n i : Nat) (W : World) : Prop where
  below : Below w.heap.size w W
  x : Blk W w.heap.size (arr fun j => (rest n i j : Int)) 56
  t : Blk W (w.heap.size + 1) (arrT (wrote n i)) 87
theorem GSt.start (w : World) (n : Nat) : GSt w n 0 ((w.alloc (.cells (arr (numF n)) 56)).alloc (.cells (arrT fun _ => 0) 87)) := by
  have h1 := Blk.new w (arr (numF n)) 56
  have h2 := Blk.new (w.alloc (.cells (arr (numF n)) 56)) (arrT fun _ => 0) 87
  simp only [World.size_alloc] at h2
  refine ⟨b_alloc ((Below.refl _ w).alloc (Nat.le_refl _) _), ?_, ?_⟩
  · rw [show arr (fun j => (rest n 0 j : Int)) = arr (numF n) from arr_ext fun j _ => by rw [rest_zero]; rfl]
    exact h1.alloc _
  · rw [show arrT (wrote n 0) = arrT fun _ => 0 from arrT_ext fun p hp => by unfold wrote; rw [if_neg (by omega)]]
    exact h2
theorem GSt.step {w : World} {n i : Nat} {W : World} (h : GSt w n i W) (hi : i < 180) :
    GSt w n (i + 1) ((W.setCell ⟨w.heap.size + 1, 179 - i, none⟩ (.int .u8 ((48 + dgt n i : Nat) : Int))).setCell ⟨w.heap.size, i / 9, none⟩ (.int .i64 ((rest n i (i / 9) / 10 : Nat) : Int))) := by
  refine ⟨(h.below.setCell (p := ⟨w.heap.size + 1, 179 - i, none⟩) (show w.heap.size ≤ w.heap.size + 1 by omega) _).setCell (p := ⟨w.heap.size, i / 9, none⟩) (Nat.le_refl _) _, ?_, ?_⟩
  · have := (h.x.other (i := 179 - i) (show w.heap.size ≠ w.heap.size + 1 by omega) (.int .u8 ((48 + dgt n i : Nat) : Int))).set (i / 9) (.int .i64 ((rest n i (i / 9) / 10 : Nat) : Int))
    rw [arr_set _ (show i / 9 < 20 by omega)] at this
    rw [show arr (fun j => (rest n (i + 1) j : Int)) = _ from arr_ext fun j _ => ?_]
    · exact this
    · by_cases hj : j = i / 9
      · subst hj; rw [if_pos rfl, rest_this]
      · rw [if_neg hj, rest_other (fun e => hj e.symm)]
  · have := (h.t.set (179 - i) (.int .u8 ((48 + dgt n i : Nat) : Int))).other (i := i / 9) (show w.heap.size + 1 ≠ w.heap.size by omega) (.int .i64 ((rest n i (i / 9) / 10 : Nat) : Int))
    rw [arrT_set _ (show 179 - i < 180 by omega)] at this
    rw [show arrT (wrote n (i + 1)) = _ from arrT_ext fun p hp => ?_]
    · exact this
    · unfold wrote
      by_cases hp2 : p = 179 - i
      · rw [if_pos hp2, if_pos (by omega), show 179 - p = i by omega]
      · rw [if_neg hp2]
        by_cases h3 : 180 ≤ i + p
        · rw [if_pos h3, if_pos (by omega)]
        · rw [if_neg h3, if_neg (by omega)]
abbrev txtB (n : Nat) : ByteArray := ⟨(txt n 180).toArray⟩
theorem txtB_size (n : Nat) : (txtB n).size = 180 := by
  show (txt n 180).toArray.size = 180
  rw [List.size_toArray, txt_len]
theorem dgt_lt (n i : Nat) : dgt n i < 10 := Nat.mod_lt _ (by decide)
set_option maxRecDepth 100000 in
set_option maxHeartbeats 2000000 in
theorem digits_any (n : Nat) (w : World) :
    Calls Tryd.prog 31 #[.agg (arr (numF n))] w fun e w' => e = .returned (.string (txtB n)) ∧ Below w.heap.size w w' := by
  have hz := zeroNum
  have hz2 := zeroTxt
  go_enter Tryd.func31, Tryd.ntmps31
  go_wp2
  have HS := GSt.start w n
  obtain ⟨W0, hW0⟩ : ∃ W0, ((w.alloc (.cells (arr (numF n)) 56)).alloc (.cells (arrT fun _ => 0) 87)) = W0 := ⟨_, rfl⟩
  rw [hW0] at HS
  simp only [hW0]
  clear hW0 hz hz2
  go_loopw [6] (fun s wr => ∃ i : Nat, i ≤ 180 ∧ s = .int .i64 i ∧ GSt w n i wr) (fun s _ => 180 - (intOf s).toNat)
  case atStart => exact ⟨0, by omega, rfl, HS⟩
  case round =>
    clear HS
    obtain ⟨i, hi, rfl, hS⟩ := hrel
    by_cases hlt : i < 180
    · have hj20 : i / 9 < 20 := by omega
      have c1 := hS.x.cell (i / 9)
      rw [arr_get _ hj20] at c1
      have f1 := hS.x.frozen (i / 9)
      have c2 := hS.t.cell (179 - i)
      rw [arrT_get _ (by omega)] at c2
      have f2 := hS.t.frozen (179 - i)
      obtain ⟨v, hv⟩ : ∃ v, rest n i (i / 9) = v := ⟨_, rfl⟩
      have hvb : v < 1000000000 := by rw [← hv]; exact rest_lt _ _ _
      have hvd : v % 10 = dgt n i := by rw [← hv]; exact rest_dig n i
      have hdl := dgt_lt n i
      obtain ⟨q, hq⟩ : ∃ q, 179 - i = q := ⟨_, rfl⟩
      have hqi : (179 : Int) - (i : Int) = (q : Int) := by omega
      have hq180 : q < 180 := by omega
      rw [hv] at c1
      rw [hq] at c2 f2
      have HV := Lib.hid hv
      have HVD := Lib.hid hvd
      have HQ := Lib.hid hq
      clear hv hvd hq
      go_wp2
      refine ⟨⟨i + 1, by omega, by go_num, ?_⟩, by simp [intOf]; omega⟩
      have h := hS.step hlt
      rw [HQ.out, ← HVD.out, HV.out] at h
      rw [show (48 : Int) + (v : Int) % 10 = ((48 + v % 10 : Nat) : Int) by omega, show (v : Int) / 10 = ((v / 10 : Nat) : Int) by omega]
      exact h
    · obtain rfl : i = 180 := by omega
      have hb := hS.below
      have hcv := Lib.run_convert_whole wr 73 5 9 Tryd.underlying73 Tryd.underlying5 Tryd.underlying9 (w.heap.size + 1) 0 (txtB n) (fun p hp => by
        rw [txtB_size] at hp
        rw [Nat.zero_add, hS.t.cell p, arrT_get _ hp]
        unfold wrote
        rw [if_pos (by omega)]
        have hg := txt_get n 180 p (by rw [txt_len]; exact hp)
        have hb : (txtB n)[p]'(by rw [txtB_size]; exact hp) = UInt8.ofNat (48 + n / 10 ^ (180 - 1 - p) % 10) := by
          rw [← hg]; rfl
        rw [hb, ofNat_dig (Nat.mod_lt _ (by decide)), show 180 - 1 - p = 179 - p by omega]; rfl) 180
      rw [txtB_size] at hcv
      clear hS
      go_wp2
      go_ret
      exact ⟨rfl, hb⟩
end Dc
end Go.Proofs.YthnpbkplcboejaaDoor
