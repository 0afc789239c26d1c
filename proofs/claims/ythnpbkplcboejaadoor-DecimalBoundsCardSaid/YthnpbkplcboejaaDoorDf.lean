/- Decimal: plus, minus. -/
import Derived.Test.YthnpbkplcboejaaDoorDe
import Derived.IntWalk
set_option linter.unusedSimpArgs false
set_option linter.unusedVariables false
namespace Go.Proofs.YthnpbkplcboejaaDoor
open Go.RowKit Go.Shelf
namespace Dc
/-- Up to the k-th part g, from there on f. -/
def mix (k : Nat) (g f : Nat → Int) (j : Nat) : Int := if j < k then g j else f j
theorem mix_at (k : Nat) (g f : Nat → Int) : mix k g f k = f k := by unfold mix; rw [if_neg (by omega)]
theorem mix_zero (g f : Nat → Int) : mix 0 g f = f := by funext j; unfold mix; rw [if_neg (by omega)]
theorem mix_step (k : Nat) (g f : Nat → Int) : (fun j => if j = k then g k else mix k g f j) = mix (k + 1) g f := by
  funext j; unfold mix
  by_cases h : j = k
  · subst h; rw [if_pos rfl, if_pos (by omega)]
  · rw [if_neg h]
    by_cases h2 : j < k
    · rw [if_pos h2, if_pos (by omega)]
    · rw [if_neg h2, if_neg (by omega)]
theorem mix_all (g f : Nat → Int) : arr (mix 20 g f) = arr g := arr_ext fun i hi => by unfold mix; rw [if_pos hi]
/-- What lies boxed while two numbers are added. -/
structure PSt (w : World) (f : Nat → Int) (b : Nat) (c : Int) (W : World) : Prop where
  below : Below w.heap.size w W
  x : Blk W w.heap.size (arr f) 56
  y : Blk W (w.heap.size + 1) (arr (numF b)) 56
  z : Blk W (w.heap.size + 2) (arr fun _ => 0) 56
  c : Blk W (w.heap.size + 3) #[.int .i64 c] 2
theorem PSt.start (w : World) (f : Nat → Int) (b : Nat) : PSt w f b 0 ((((w.alloc (.cells (arr f) 56)).alloc (.cells (arr (numF b)) 56)).alloc (.cells (arr fun _ => 0) 56)).alloc (.cells #[.int .i64 0] 2)) := by
  have h1 := Blk.new w (arr f) 56
  have h2 := Blk.new (w.alloc (.cells (arr f) 56)) (arr (numF b)) 56
  have h3 := Blk.new ((w.alloc (.cells (arr f) 56)).alloc (.cells (arr (numF b)) 56)) (arr fun _ => 0) 56
  have h4 := Blk.new (((w.alloc (.cells (arr f) 56)).alloc (.cells (arr (numF b)) 56)).alloc (.cells (arr fun _ => 0) 56)) #[.int .i64 0] 2
  simp only [World.size_alloc, Nat.add_assoc, Nat.reduceAdd] at h2 h3 h4
  exact ⟨b_alloc (b_alloc (b_alloc ((Below.refl _ w).alloc (Nat.le_refl _) _))), ((h1.alloc _).alloc _).alloc _, (h2.alloc _).alloc _, h3.alloc _, h4⟩
theorem PSt.step {w : World} {f : Nat → Int} {b : Nat} {c : Int} {W : World} (h : PSt w f b c W) (c' v : Int) {k : Nat} (hk : k < 20) :
    PSt w (fun j => if j = k then v else f j) b c' ((W.setCell ⟨w.heap.size + 3, 0, none⟩ (.int .i64 c')).setCell ⟨w.heap.size, k, none⟩ (.int .i64 v)) :=
  ⟨(h.below.setCell (p := ⟨w.heap.size + 3, 0, none⟩) (show w.heap.size ≤ w.heap.size + 3 by omega) _).setCell (p := ⟨w.heap.size, k, none⟩) (Nat.le_refl _) _,
   by have := (h.x.other (i := 0) (show w.heap.size ≠ w.heap.size + 3 by omega) (.int .i64 c')).set k (.int .i64 v); rw [arr_set _ hk] at this; exact this,
   (h.y.other (by omega) _).other (by omega) _, (h.z.other (by omega) _).other (by omega) _, (h.c.set 0 _).other (by omega) _⟩
theorem PSt.drew {w : World} {f : Nat → Int} {b : Nat} {c : Int} {W : World} (h : PSt w f b c W) : PSt w f b c W.drew := ⟨b_drew h.below, h.x, h.y, h.z, h.c⟩
set_option maxRecDepth 100000 in
set_option maxHeartbeats 4000000 in
theorem plus_any (a b : Nat) (hab : a + b < pw 20) (w : World) :
    Calls Tryd.prog 36 #[.agg (arr (numF a)), .agg (arr (numF b))] w fun e w' => e = .returned (.agg (arr (numF (a + b)))) ∧ Below w.heap.size w w' := by
  have hz := zeroNum
  go_enter Tryd.func36, Tryd.ntmps36
  go_wp2_with (go_at_call 51; refine (carrier_any _).mono ?_; rintro e w' ⟨rfl, rfl⟩)
  simp only [Nat.add_assoc, Nat.reduceAdd]
  obtain ⟨T, hT⟩ : ∃ t : Nat → Int, (fun j => (lim a j : Int) + lim b j) = t := ⟨_, rfl⟩
  have htk : ∀ k, T k = numF a k + numF b k := fun k => by rw [← hT]; rfl
  have htot : tot T 20 = ((a + b : Nat) : Int) := by rw [← hT, tot_plus, Nat.mod_eq_of_lt (by omega), Nat.mod_eq_of_lt (by omega)]; simp
  have hcb : ∀ k, 0 ≤ tot T k / (pw k : Int) ∧ tot T k / (pw k : Int) ≤ 1 := fun k => by
    have hp := pw_pos k
    have h1 := Nat.mod_lt a hp
    have h2 := Nat.mod_lt b hp
    rw [← hT, tot_plus]
    rw [← Int.natCast_add, ← Int.natCast_ediv]
    have : (a % pw k + b % pw k) / pw k < 2 := (Nat.div_lt_iff_lt_mul hp).2 (by omega)
    constructor
    · exact Int.natCast_nonneg _
    · omega
  have HTK := Lib.hid htk
  have HTOT := Lib.hid htot
  have HCB := Lib.hid hcb
  clear hT htk htot hcb hz
  obtain ⟨W0, hW0⟩ : ∃ W0, ((((w.alloc (.cells (arr (numF a)) 56)).alloc (.cells (arr (numF b)) 56)).alloc (.cells (arr fun _ => 0) 56)).alloc (.cells #[.int .i64 0] 2)) = W0 := ⟨_, rfl⟩
  have HS := PSt.start w (numF a) b
  rw [hW0] at HS
  simp only [hW0]
  clear hW0
  go_loopw [8] (fun i wr => ∃ k : Nat, k ≤ 20 ∧ i = .int .i64 k ∧ PSt w (mix k (numF (a + b)) (numF a)) b (tot T k / (pw k : Int)) wr) (fun i _ => 20 - (intOf i).toNat)
  case atStart => exact ⟨0, by omega, rfl, by rw [mix_zero]; simpa [tot, pw_zero] using HS⟩
  case round =>
    obtain ⟨k, hk, rfl, hS⟩ := hrel
    by_cases hlt : k < 20
    · have c1 := hS.x.cell k
      rw [arr_get _ hlt, mix_at] at c1
      have c2 := hS.y.cell k
      rw [arr_get _ hlt] at c2
      have f1 := hS.x.frozen k
      have b1 := numF_bd a k
      have b2 := numF_bd b k
      have b3 := HCB.out k
      have hK := carried_any (numF a k + numF b k) (tot T k / (pw k : Int)) (w.heap.size + 3) wr.drew hS.c (by omega) (by omega) (by omega) (by omega)
      obtain ⟨c', hc'⟩ : ∃ c', (numF a k + numF b k + tot T k / (pw k : Int)) / 1000000000 = c' := ⟨_, rfl⟩
      obtain ⟨v', hv'⟩ : ∃ v', (numF a k + numF b k + tot T k / (pw k : Int)) % 1000000000 = v' := ⟨_, rfl⟩
      rw [hc', hv'] at hK
      have hx := (hS.x.other (i := 0) (show w.heap.size ≠ w.heap.size + 3 by omega) (.int .i64 c')).cell k
      rw [arr_get _ hlt] at hx
      have hfx := (hS.x.other (i := 0) (show w.heap.size ≠ w.heap.size + 3 by omega) (.int .i64 c')).frozen k
      have Hc := Lib.hid hc'
      have Hv := Lib.hid hv'
      clear hc' hv'
      have hw : IntKind.i64.wrap (numF a k + numF b k) = numF a k + numF b k := IntWalk.i64_in _ (by omega)
      go_wp2
      go_region_with (go_at_call 72; refine hK.mono ?_; rintro e w5 ⟨rfl, rfl⟩)
      all_goals
        clear hw
        go_wp2
        go_roundw
        case rel =>
          have hn : tot T (k + 1) / (pw (k + 1) : Int) = c' := by rw [← carry_next, HTK.out]; exact Hc.out
          have hd : numF (a + b) k = v' := by
            rw [← Hv.out, ← HTK.out]
            exact (part_is HTOT.out hlt).symm
          have := (hS.drew).step c' v' hlt
          rw [← hd, mix_step, hd] at this
          exact ⟨k + 1, by omega, by go_num, by rw [hn]; exact this⟩
        case measure => simp [intOf]; omega
    · obtain rfl : k = 20 := by omega
      have hx := hS.x
      rw [mix_all] at hx
      have hb := hS.below
      have hz := hS.z
      clear hS HS HTK HTOT HCB
      go_wp2_with (first | refine wpList_load_row rfl _ _ rfl _ rfl _ _ _ _ hx underNum rfl (sizeNum _) ?_ | refine wpList_store_row rfl _ _ _ rfl _ _ rfl rfl _ _ hz (sizeNum _) (by rw [arr_size, arr_size]) (arr_one _) ?_)
      refine bodyPost_ret (v := .agg (arr (numF (a + b)))) (results_cell_row (by rfl) _ _ _ _ _ _ _ (by rfl) (hz.row _) underNum rfl (sizeNum _)) rfl ⟨rfl, ?_⟩
      exact b_row hb (by omega)
set_option maxRecDepth 100000 in
set_option maxHeartbeats 4000000 in
theorem minus_any (a b : Nat) (hab : b ≤ a) (ha : a < pw 20) (w : World) :
    Calls Tryd.prog 50 #[.agg (arr (numF a)), .agg (arr (numF b))] w fun e w' => e = .returned (.agg (arr (numF (a - b)))) ∧ Below w.heap.size w w' := by
  have hz := zeroNum
  go_enter Tryd.func50, Tryd.ntmps50
  go_wp2_with (go_at_call 51; refine (carrier_any _).mono ?_; rintro e w' ⟨rfl, rfl⟩)
  simp only [Nat.add_assoc, Nat.reduceAdd]
  obtain ⟨T, hT⟩ : ∃ t : Nat → Int, (fun j => (lim a j : Int) - lim b j) = t := ⟨_, rfl⟩
  have htk : ∀ k, T k = numF a k - numF b k := fun k => by rw [← hT]; rfl
  have htot : tot T 20 = ((a - b : Nat) : Int) := by rw [← hT, tot_minus, Nat.mod_eq_of_lt ha, Nat.mod_eq_of_lt (by omega)]; omega
  have hcb : ∀ k, -1 ≤ tot T k / (pw k : Int) ∧ tot T k / (pw k : Int) ≤ 0 := fun k => by
    have hp := pw_pos k
    have h1 := Nat.mod_lt a hp
    have h2 := Nat.mod_lt b hp
    rw [← hT, tot_minus]
    have h0 := pwi k
    constructor
    · exact Int.le_ediv_of_mul_le h0 (by omega)
    · exact Int.le_of_lt_add_one (Int.ediv_lt_of_lt_mul h0 (by omega))
  have HTK := Lib.hid htk
  have HTOT := Lib.hid htot
  have HCB := Lib.hid hcb
  clear hT htk htot hcb hz
  obtain ⟨W0, hW0⟩ : ∃ W0, ((((w.alloc (.cells (arr (numF a)) 56)).alloc (.cells (arr (numF b)) 56)).alloc (.cells (arr fun _ => 0) 56)).alloc (.cells #[.int .i64 0] 2)) = W0 := ⟨_, rfl⟩
  have HS := PSt.start w (numF a) b
  rw [hW0] at HS
  simp only [hW0]
  clear hW0
  go_loopw [8] (fun i wr => ∃ k : Nat, k ≤ 20 ∧ i = .int .i64 k ∧ PSt w (mix k (numF (a - b)) (numF a)) b (tot T k / (pw k : Int)) wr) (fun i _ => 20 - (intOf i).toNat)
  case atStart => exact ⟨0, by omega, rfl, by rw [mix_zero]; simpa [tot, pw_zero] using HS⟩
  case round =>
    obtain ⟨k, hk, rfl, hS⟩ := hrel
    by_cases hlt : k < 20
    · have c1 := hS.x.cell k
      rw [arr_get _ hlt, mix_at] at c1
      have c2 := hS.y.cell k
      rw [arr_get _ hlt] at c2
      have f1 := hS.x.frozen k
      have b1 := numF_bd a k
      have b2 := numF_bd b k
      have b3 := HCB.out k
      have hK := carried_any (numF a k - numF b k) (tot T k / (pw k : Int)) (w.heap.size + 3) wr.drew hS.c (by omega) (by omega) (by omega) (by omega)
      obtain ⟨c', hc'⟩ : ∃ c', (numF a k - numF b k + tot T k / (pw k : Int)) / 1000000000 = c' := ⟨_, rfl⟩
      obtain ⟨v', hv'⟩ : ∃ v', (numF a k - numF b k + tot T k / (pw k : Int)) % 1000000000 = v' := ⟨_, rfl⟩
      rw [hc', hv'] at hK
      have hx := (hS.x.other (i := 0) (show w.heap.size ≠ w.heap.size + 3 by omega) (.int .i64 c')).cell k
      rw [arr_get _ hlt] at hx
      have hfx := (hS.x.other (i := 0) (show w.heap.size ≠ w.heap.size + 3 by omega) (.int .i64 c')).frozen k
      have Hc := Lib.hid hc'
      have Hv := Lib.hid hv'
      clear hc' hv'
      have hw : IntKind.i64.wrap (numF a k - numF b k) = numF a k - numF b k := IntWalk.i64_in _ (by omega)
      go_wp2
      go_region_with (go_at_call 72; refine hK.mono ?_; rintro e w5 ⟨rfl, rfl⟩)
      all_goals
        clear hw
        go_wp2
        go_roundw
        case rel =>
          have hn : tot T (k + 1) / (pw (k + 1) : Int) = c' := by rw [← carry_next, HTK.out]; exact Hc.out
          have hd : numF (a - b) k = v' := by
            rw [← Hv.out, ← HTK.out]
            exact (part_is HTOT.out hlt).symm
          have := (hS.drew).step c' v' hlt
          rw [← hd, mix_step, hd] at this
          exact ⟨k + 1, by omega, by go_num, by rw [hn]; exact this⟩
        case measure => simp [intOf]; omega
    · obtain rfl : k = 20 := by omega
      have hx := hS.x
      rw [mix_all] at hx
      have hb := hS.below
      have hz := hS.z
      clear hS HS HTK HTOT HCB
      go_wp2_with (first | refine wpList_load_row rfl _ _ rfl _ rfl _ _ _ _ hx underNum rfl (sizeNum _) ?_ | refine wpList_store_row rfl _ _ _ rfl _ _ rfl rfl _ _ hz (sizeNum _) (by rw [arr_size, arr_size]) (arr_one _) ?_)
      refine bodyPost_ret (v := .agg (arr (numF (a - b)))) (results_cell_row (by rfl) _ _ _ _ _ _ _ (by rfl) (hz.row _) underNum rfl (sizeNum _)) rfl ⟨rfl, ?_⟩
      exact b_row hb (by omega)
end Dc
end Go.Proofs.YthnpbkplcboejaaDoor
