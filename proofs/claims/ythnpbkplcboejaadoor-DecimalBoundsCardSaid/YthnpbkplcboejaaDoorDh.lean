/- Decimal: times, digits. -/
import Derived.Test.YthnpbkplcboejaaDoorDf
import Derived.Test.YthnpbkplcboejaaDoorDg
import Derived.Lib.SlBytesRow
set_option linter.unusedSimpArgs false
set_option linter.unusedVariables false
namespace Go.Proofs.YthnpbkplcboejaaDoor
open Go.RowKit Go.Shelf
namespace Dc
theorem index_arr (F : Nat → Int) {k : Nat} (hk : k < 20) (w : World) : (Instr.index 56 (.agg (arr F)) (.int .i64 (k : Int))).run Tryd.prog w = .ok (.int .i64 (F k)) w := by
  have hs : ∀ w, (sizeOf 2).run Tryd.prog w = .ok 1 w := fun _ => by kernel_rfl
  have ha : ∀ w, (isAgg 2).run Tryd.prog w = .ok false w := fun _ => by kernel_rfl
  have h1 : (0 : Int) ≤ (k : Int) ∧ (k : Int) < ((20 : Nat) : Int) := by omega
  simp [Instr.index, asIntOf, Sem.run_bind, run_underlying underNum, h1, hs, part, ha, arr_get F hk]
  intro h; omega
/-- The number that parts say. -/
def sm (f : Nat → Nat) : Nat → Nat
  | 0 => 0
  | i + 1 => sm f i + f i * pw i
theorem sm_lim (a : Nat) : ∀ i, sm (lim a) i = a % pw i
  | 0 => by rw [mod_zero]; rfl
  | i + 1 => by show sm (lim a) i + _ = _; rw [sm_lim a i, mod_succ]
theorem sm_mono (f : Nat → Nat) : ∀ i d, sm f i ≤ sm f (i + d)
  | i, 0 => Nat.le_refl _
  | i, d + 1 => Nat.le_trans (sm_mono f i d) (by show _ ≤ sm f (i + d) + _; omega)
/-- A single part. -/
def one (m : Nat) (j : Nat) : Nat := if j = 0 then m else 0
theorem sm_one (m : Nat) : ∀ i, sm (one m) (i + 1) = m
  | 0 => by show 0 + one m 0 * pw 0 = m; unfold one; rw [if_pos rfl, pw_zero]; omega
  | i + 1 => by show sm (one m) (i + 1) + one m (i + 1) * _ = m; rw [sm_one m i]; unfold one; rw [if_neg (by omega)]; omega
abbrev natF (f : Nat → Nat) (j : Nat) : Int := (f j : Int)
/-- What lies boxed while two numbers are multiplied. -/
structure TSt (w : World) (f : Nat → Nat) (b : Nat) (F : Nat → Int) (W : World) : Prop where
  below : Below w.heap.size w W
  y : Blk W (w.heap.size + 1) (arr (numF b)) 56
  z : Blk W (w.heap.size + 2) (arr fun _ => 0) 56
  p : Blk W (w.heap.size + 3) (arr F) 56
theorem TSt.start (w : World) (f : Nat → Nat) (b : Nat) : TSt w f b (fun _ => 0) ((((w.alloc (.cells (arr (natF f)) 56)).alloc (.cells (arr (numF b)) 56)).alloc (.cells (arr fun _ => 0) 56)).alloc (.cells (arr fun _ => 0) 56)) ∧
    Blk ((((w.alloc (.cells (arr (natF f)) 56)).alloc (.cells (arr (numF b)) 56)).alloc (.cells (arr fun _ => 0) 56)).alloc (.cells (arr fun _ => 0) 56)) w.heap.size (arr (natF f)) 56 := by
  have h1 := Blk.new w (arr (natF f)) 56
  have h2 := Blk.new (w.alloc (.cells (arr (natF f)) 56)) (arr (numF b)) 56
  have h3 := Blk.new ((w.alloc (.cells (arr (natF f)) 56)).alloc (.cells (arr (numF b)) 56)) (arr fun _ => 0) 56
  have h4 := Blk.new (((w.alloc (.cells (arr (natF f)) 56)).alloc (.cells (arr (numF b)) 56)).alloc (.cells (arr fun _ => 0) 56)) (arr fun _ => 0) 56
  simp only [World.size_alloc, Nat.add_assoc, Nat.reduceAdd] at h2 h3 h4
  exact ⟨⟨b_alloc (b_alloc (b_alloc ((Below.refl _ w).alloc (Nat.le_refl _) _))), (h2.alloc _).alloc _, h3.alloc _, h4⟩, ((h1.alloc _).alloc _).alloc _⟩
theorem TSt.alloc {w : World} {f : Nat → Nat} {b : Nat} {F : Nat → Int} {W : World} (h : TSt w f b F W) (o : Obj) : TSt w f b F (W.alloc o) := ⟨b_alloc h.below, h.y.alloc _, h.z.alloc _, h.p.alloc _⟩
theorem TSt.drew {w : World} {f : Nat → Nat} {b : Nat} {F : Nat → Int} {W : World} (h : TSt w f b F W) : TSt w f b F W.drew := ⟨b_drew h.below, h.y, h.z, h.p⟩
theorem TSt.step {w : World} {f : Nat → Nat} {b : Nat} {F : Nat → Int} {W : World} {B : Nat} (h : TSt w f b F W) (hB : w.heap.size + 4 ≤ B) (c' v : Int) {k : Nat} (hk : k < 20) :
    TSt w f b (fun j => if j = k then v else F j) ((W.setCell ⟨B, 0, none⟩ (.int .i64 c')).setCell ⟨w.heap.size + 3, k, none⟩ (.int .i64 v)) :=
  ⟨(h.below.setCell (p := ⟨B, 0, none⟩) (show w.heap.size ≤ B by omega) _).setCell (p := ⟨w.heap.size + 3, k, none⟩) (show w.heap.size ≤ w.heap.size + 3 by omega) _,
   (h.y.other (by omega) _).other (by omega) _, (h.z.other (by omega) _).other (by omega) _,
   by have := (h.p.other (i := 0) (show w.heap.size + 3 ≠ B by omega) (.int .i64 c')).set k (.int .i64 v); rw [arr_set _ hk] at this; exact this⟩
theorem TSt.congr {w : World} {f : Nat → Nat} {b : Nat} {F G : Nat → Int} {W : World} (h : TSt w f b F W) (e : arr F = arr G) : TSt w f b G W := ⟨h.below, h.y, h.z, e ▸ h.p⟩
/-- The carry of a round is not greater than its part. -/
theorem raw_carry (p m b i d : Nat) : 0 ≤ tot (raw p m b i) (i + d) / (pw (i + d) : Int) ∧ tot (raw p m b i) (i + d) / (pw (i + d) : Int) ≤ (m : Int) := by
  rw [tot_raw, ← Int.natCast_ediv]
  have hp := pw_pos (i + d)
  refine ⟨Int.natCast_nonneg _, ?_⟩
  have h1 := Nat.mod_lt p hp
  have h2 : m * (b % pw d) * pw i ≤ m * (pw (i + d)) := by
    rw [Nat.mul_assoc]
    refine Nat.mul_le_mul_left _ ?_
    rw [pw_add, Nat.mul_comm (pw i)]
    exact Nat.mul_le_mul_right _ (Nat.le_of_lt (Nat.mod_lt _ (pw_pos d)))
  have : (p % pw (i + d) + m * (b % pw d) * pw i) / pw (i + d) < m + 1 := (Nat.div_lt_iff_lt_mul hp).2 (by rw [Nat.add_mul]; omega)
  omega
theorem numF_low {p q i j : Nat} (h : j < i) : numF (p + q * pw i) j = numF p j := by unfold numF; rw [lim_keep h]
theorem mix_low (p q i : Nat) : mix i (numF (p + q * pw i)) (numF p) = numF p := by
  funext j; unfold mix
  by_cases h : j < i
  · rw [if_pos h, numF_low h]
  · rw [if_neg h]
set_option maxRecDepth 100000 in
set_option maxHeartbeats 4000000 in
theorem times_any (f : Nat → Nat) (b : Nat) (hf : ∀ j, f j ≤ 1000000000) (hab : sm f 20 * b < pw 20) (w : World) :
    Calls Tryd.prog 30 #[.agg (arr (natF f)), .agg (arr (numF b))] w fun e w' => e = .returned (.agg (arr (numF (sm f 20 * b)))) ∧ Below w.heap.size w w' := by
  have hz := zeroNum
  have HF := Lib.hid hf
  have HAB := Lib.hid hab
  clear hf hab
  obtain ⟨HS, HX⟩ := TSt.start w f b
  go_enter Tryd.func30, Tryd.ntmps30
  go_wp2_with (refine wpList_load_row rfl _ _ rfl _ rfl _ _ _ _ HX underNum rfl (sizeNum _) ?_)
  simp only [Nat.add_assoc, Nat.reduceAdd]
  obtain ⟨W0, hW0⟩ : ∃ W0, ((((w.alloc (.cells (arr (natF f)) 56)).alloc (.cells (arr (numF b)) 56)).alloc (.cells (arr fun _ => 0) 56)).alloc (.cells (arr fun _ => 0) 56)) = W0 := ⟨_, rfl⟩
  rw [hW0] at HS HX
  simp only [hW0]
  clear hW0 hz HX
  go_loopw [11] (fun i wr => ∃ k : Nat, k ≤ 20 ∧ i = .int .i64 k ∧ TSt w f b (numF (sm f k * b)) wr) (fun i _ => 20 - (intOf i).toNat)
  case atStart => exact ⟨0, by omega, rfl, by rw [show sm f 0 * b = 0 from Nat.zero_mul b, show numF 0 = fun _ => 0 from funext fun j => by unfold numF; rw [lim_zero]; rfl]; exact HS⟩
  case round =>
    clear HS
    obtain ⟨i, hi, rfl, hS⟩ := hrel
    by_cases hlt : i < 20
    · have hidx : ∀ w : World, (Instr.index 56 (.agg (arr (natF f))) (.int .i64 (i : Int))).run Tryd.prog w = .ok (.int .i64 (natF f i)) w := fun w => index_arr (natF f) hlt w
      obtain ⟨m, hm⟩ : ∃ m, f i = m := ⟨_, rfl⟩
      rw [show natF f i = (m : Int) by unfold natF; rw [hm]] at hidx
      have hmb : m ≤ 1000000000 := by rw [← hm]; exact HF.out i
      have hsm : sm f (i + 1) * b = sm f i * b + m * b * pw i := by
        show (sm f i + f i * pw i) * b = _
        rw [hm, Nat.add_mul, Nat.mul_assoc, Nat.mul_comm (pw i), ← Nat.mul_assoc]
      have HSM := Lib.hid hsm
      clear hsm hm
      obtain ⟨p, hp⟩ : ∃ p, sm f i * b = p := ⟨_, rfl⟩
      rw [hp] at hS HSM
      clear hp
      by_cases h0 : m = 0
      · subst h0
        go_wp2
        refine ⟨⟨i + 1, by omega, by go_num, ?_⟩, by simp [intOf]; omega⟩
        rw [HSM.out, Nat.zero_mul, Nat.zero_mul, Nat.add_zero]
        exact hS
      · have g0 : ((m : Int) == 0) = false := by rw [beq_eq_false_iff_ne]; omega
        have hPS : p + m * b * pw i < pw 20 := by
          rw [← HSM.out]
          obtain ⟨d, hd⟩ : ∃ d, i + 1 + d = 20 := ⟨19 - i, by omega⟩
          exact Nat.lt_of_le_of_lt (Nat.mul_le_mul_right _ (hd ▸ sm_mono f (i + 1) d)) HAB.out
        have htot : tot (raw p m b i) 20 = ((p + m * b * pw i : Nat) : Int) := tot_raw_all (by omega) (by omega) hPS
        have hcl := carry_low p m b i
        obtain ⟨q, hq⟩ : ∃ q, p + m * b * pw i = q := ⟨_, rfl⟩
        have hml := mix_low p (m * b) i
        rw [hq] at htot HSM hml
        obtain ⟨T, hT⟩ : ∃ T, raw p m b i = T := ⟨_, rfl⟩
        have htk : ∀ d, T (i + d) = numF p (i + d) + (m : Int) * numF b d := fun d => by
          rw [← hT]; unfold raw
          rw [if_neg (by omega), show i + d - i = d by omega]; rfl
        have hcb : ∀ d, 0 ≤ tot T (i + d) / (pw (i + d) : Int) ∧ tot T (i + d) / (pw (i + d) : Int) ≤ (m : Int) := fun d => by rw [← hT]; exact raw_carry p m b i d
        rw [hT] at htot hcl
        have HTK := Lib.hid htk
        have HTOT := Lib.hid htot
        have HCB := Lib.hid hcb
        have HCL := Lib.hid hcl
        have HML := Lib.hid hml
        clear hT htk htot hcb hcl hml hq hPS
        obtain ⟨B, hB⟩ : ∃ B, wr.heap.size = B := ⟨_, rfl⟩
        have hBp : w.heap.size + 4 ≤ B := by have := hS.p.lt; omega
        have hC := Blk.new wr #[.int .i64 0] 2
        rw [hB] at hC
        have hS1 := hS.alloc (.cells #[.int .i64 0] 2)
        go_wp2_with (go_at_call 51; refine (carrier_any _).mono ?_; rintro e w' ⟨rfl, rfl⟩)
        clear hidx g0
        obtain ⟨W1, hW1⟩ : ∃ W1, wr.alloc (.cells #[.int .i64 0] 2) = W1 := ⟨_, rfl⟩
        rw [hW1] at hC hS1
        simp only [hW1, hB]
        clear hW1 hB hS
        go_loopw [9] (fun s9 W => ∃ d : Nat, i + d ≤ 20 ∧ s9 = .int .i64 ((i + d : Nat) : Int) ∧ TSt w f b (mix (i + d) (numF q) (numF p)) W ∧ Blk W B #[.int .i64 (tot T (i + d) / (pw (i + d) : Int))] 2) (fun s9 _ => 20 - (intOf s9).toNat)
        case atStart => exact ⟨0, by omega, rfl, by rw [Nat.add_zero, HML.out]; exact hS1, by rw [Nat.add_zero, HCL.out]; exact hC⟩
        case round =>
          clear hS1 hC
          obtain ⟨d, hd, rfl, hS, hC⟩ := hrel
          obtain ⟨k, hk⟩ : ∃ k, i + d = k := ⟨_, rfl⟩
          rw [hk] at hS hC hd
          rw [hk]
          by_cases hlt2 : k < 20
          · have c1 := hS.p.cell k
            rw [arr_get _ hlt2, mix_at] at c1
            have c2 := hS.y.cell d
            rw [arr_get _ (by omega)] at c2
            have f1 := hS.p.frozen k
            have b1 := numF_bd p k
            have b2 := numF_bd b d
            have b3 := HCB.out d
            rw [hk] at b3
            obtain ⟨y, hy⟩ : ∃ y, numF b d = y := ⟨_, rfl⟩
            rw [hy] at c2 b2
            have b4 : 0 ≤ (m : Int) * y ∧ (m : Int) * y ≤ 1000000000000000000 := by
              constructor
              · exact Int.mul_nonneg (by omega) b2.1
              · exact Int.le_trans (Int.mul_le_mul (show (m : Int) ≤ 1000000000 by omega) (show y ≤ 1000000000 by omega) b2.1 (by omega)) (by omega)
            have hK := carried_any (numF p k + (m : Int) * y) (tot T k / (pw k : Int)) B wr.drew hC (by omega) (by omega) (by omega) (by omega)
            obtain ⟨c', hc'⟩ : ∃ c', (numF p k + (m : Int) * y + tot T k / (pw k : Int)) / 1000000000 = c' := ⟨_, rfl⟩
            obtain ⟨v', hv'⟩ : ∃ v', (numF p k + (m : Int) * y + tot T k / (pw k : Int)) % 1000000000 = v' := ⟨_, rfl⟩
            rw [hc', hv'] at hK
            have hx := (hS.p.other (i := 0) (show w.heap.size + 3 ≠ B by omega) (.int .i64 c')).cell k
            rw [arr_get _ hlt2] at hx
            have hfx := (hS.p.other (i := 0) (show w.heap.size + 3 ≠ B by omega) (.int .i64 c')).frozen k
            have hd20 : d < 20 := by omega
            have Hc := Lib.hid hc'
            have Hv := Lib.hid hv'
            have Hk := Lib.hid hk
            have Hy := Lib.hid hy
            have hw0 : IntKind.i64.wrap ((k : Int) - (i : Int)) = (d : Int) := by rw [IntWalk.i64_in _ (by omega)]; omega
            have hw1 : IntKind.i64.wrap ((m : Int) * y) = (m : Int) * y := IntWalk.i64_in _ (by omega)
            have hw2 : IntKind.i64.wrap (numF p k + (m : Int) * y) = numF p k + (m : Int) * y := IntWalk.i64_in _ (by omega)
            clear hc' hv' hk hy
            go_wp2
            go_region_with (go_at_call 72; refine hK.mono ?_; rintro e w5 ⟨rfl, rfl⟩)
            all_goals
              clear hw0 hw1 hw2
              go_wp2
              refine ⟨⟨d + 1, by have := Hk.out; omega, by have := Hk.out; rw [show i + (d + 1) = k + 1 by omega]; go_num, ?_, ?_⟩, by simp [intOf]; omega⟩
              · have hdg : numF q k = v' := by
                  rw [← Hv.out, ← Hy.out, ← Hk.out, ← HTK.out, Hk.out]
                  exact (part_is HTOT.out hlt2).symm
                have h := (hS.drew).step hBp c' v' hlt2
                rw [← hdg, mix_step, hdg] at h
                rw [show i + (d + 1) = k + 1 by have := Hk.out; omega]
                exact h
              · have hn : tot T (k + 1) / (pw (k + 1) : Int) = c' := by
                  rw [← carry_next, ← Hk.out, HTK.out, Hk.out, Hy.out]; exact Hc.out
                rw [show i + (d + 1) = k + 1 by have := Hk.out; omega, hn]
                exact ((hC.drew).set 0 _).other (by omega) _
          · obtain rfl : k = 20 := by omega
            have hS := hS.congr (mix_all _ _)
            have Hk := Lib.hid hk
            clear hk hC
            go_wp2
            refine ⟨⟨i + 1, by omega, by go_num, ?_⟩, by simp [intOf]; omega⟩
            rw [HSM.out]; exact hS
    · obtain rfl : i = 20 := by omega
      have hx := hS.p
      have hz := hS.z
      have hb := hS.below
      clear hS HF HAB
      go_wp2_with (first | refine wpList_load_row rfl _ _ rfl _ rfl _ _ _ _ hx underNum rfl (sizeNum _) ?_ | refine wpList_store_row rfl _ _ _ rfl _ _ rfl rfl _ _ hz (sizeNum _) (by rw [arr_size, arr_size]) (arr_one _) ?_)
      refine bodyPost_ret (v := .agg (arr (numF (sm f 20 * b)))) (results_cell_row (by rfl) _ _ _ _ _ _ _ (by rfl) (hz.row _) underNum rfl (sizeNum _)) rfl ⟨rfl, ?_⟩
      exact b_row hb (by omega)
/-- A product of two numbers. -/
theorem times_num (a b : Nat) (ha : a < pw 20) (hab : a * b < pw 20) (w : World) :
    Calls Tryd.prog 30 #[.agg (arr (numF a)), .agg (arr (numF b))] w fun e w' => e = .returned (.agg (arr (numF (a * b)))) ∧ Below w.heap.size w w' := by
  have h := times_any (lim a) b (fun j => Nat.le_of_lt (lim_lt a j)) (by rw [sm_lim, Nat.mod_eq_of_lt ha]; exact hab) w
  rw [sm_lim, Nat.mod_eq_of_lt ha] at h
  exact h
/-- A product of one part and a number. -/
theorem times_one (m b : Nat) (hm : m ≤ 1000000000) (hab : m * b < pw 20) (w : World) :
    Calls Tryd.prog 30 #[.agg (arr (natF (one m))), .agg (arr (numF b))] w fun e w' => e = .returned (.agg (arr (numF (m * b)))) ∧ Below w.heap.size w w' := by
  have h := times_any (one m) b (fun j => by unfold one; split <;> omega) (by rw [sm_one]; exact hab) w
  rw [sm_one] at h
  exact h
end Dc
end Go.Proofs.YthnpbkplcboejaaDoor
