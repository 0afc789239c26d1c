/- Decimal: over. -/
import Derived.Test.YthnpbkplcboejaaDoorDk
set_option linter.unusedSimpArgs false
set_option linter.unusedVariables false
namespace Go.Proofs.YthnpbkplcboejaaDoor
open Go.RowKit Go.Shelf
namespace Dc
theorem over_step (a b i : Nat) (hb : 0 < b) : ((a / pw (i + 1)) % b * 1000000000 + lim a i) / b = lim (a / b) i ∧ ((a / pw (i + 1)) % b * 1000000000 + lim a i) % b = (a / pw i) % b ∧ (a / pw (i + 1)) % b * 1000000000 + lim a i < 1000000000 * b := by
  have hs := div_split a i
  have hl := lim_lt a i
  have hd : lim (a / b) i = a / pw i / b % 1000000000 := by
    unfold lim; rw [Nat.div_div_eq_div_mul a b, Nat.mul_comm b (pw i), ← Nat.div_div_eq_div_mul]
  rw [hd]
  obtain ⟨A, hA⟩ : ∃ A, a / pw (i + 1) = A := ⟨_, rfl⟩
  obtain ⟨m, hm⟩ : ∃ m, lim a i = m := ⟨_, rfl⟩
  rw [hA, hm] at hs
  rw [hm] at hl
  rw [hA, hm]
  have hmb := Nat.mod_lt A hb
  have hlt : A % b * 1000000000 + m < 1000000000 * b := by
    have : (A % b + 1) * 1000000000 ≤ b * 1000000000 := Nat.mul_le_mul_right _ hmb
    rw [Nat.add_mul] at this; omega
  have he : a / pw i = b * (A / b * 1000000000) + (A % b * 1000000000 + m) := by
    rw [hs]
    have := Nat.div_add_mod A b
    have h2 : A * 1000000000 = (b * (A / b) + A % b) * 1000000000 := by rw [this]
    rw [h2, Nat.add_mul, Nat.mul_assoc]; omega
  refine ⟨?_, ?_, hlt⟩
  · rw [he, Nat.mul_add_div hb]
    have hq : (A % b * 1000000000 + m) / b < 1000000000 := (Nat.div_lt_iff_lt_mul hb).2 hlt
    obtain ⟨q, hq'⟩ : ∃ q, (A % b * 1000000000 + m) / b = q := ⟨_, rfl⟩
    rw [hq'] at hq ⊢
    omega
  · rw [he, Nat.mul_add_mod]
theorem pw_big : 1000000000 < pw 20 := by
  have h : pw 1 < pw 20 := Nat.pow_lt_pow_right (by decide) (by decide)
  exact h
theorem mix_down (k : Nat) (g f : Nat → Int) : (fun j => if j = k then f k else mix (k + 1) g f j) = mix k g f := by
  funext j; unfold mix
  by_cases h : j = k
  · subst h; rw [if_pos rfl, if_neg (by omega)]
  · rw [if_neg h]
    by_cases h2 : j < k
    · rw [if_pos h2, if_pos (by omega)]
    · rw [if_neg h2, if_neg (by omega)]
theorem results_two_rows {fn : Func} {p q : Tmp} {t1 t2 : TypeId} (h : fn.results = #[.cell p t1, .cell q t2]) (tmps : Array Value) (w : World) (v1 v2 : Value) (a1 a2 : Addr)
    (hp : tmps.getD p undef = .pointer (some a1)) (hq : tmps.getD q undef = .pointer (some a2)) (h1 : (loadVar t1 a1).run Tryd.prog w = .ok v1 w) (h2 : (loadVar t2 a2).run Tryd.prog w = .ok v2 w) :
    (results fn tmps).run Tryd.prog w = .ok (.tuple #[v1, v2]) w := by
  have hp' : tmps[p]?.getD undef = .pointer (some a1) := by simpa using hp
  have hq' : tmps[q]?.getD undef = .pointer (some a2) := by simpa using hq
  simp [results, h, hp', hq', asAddr, h1, h2]
/-- What lies boxed while a number is divided. -/
structure OSt (w : World) (a b : Nat) (F : Nat → Int) (l : Nat) (W : World) : Prop where
  below : Below w.heap.size w W
  x : Blk W w.heap.size (arr (numF a)) 56
  y : Blk W (w.heap.size + 1) (arr (numF b)) 56
  q : Blk W (w.heap.size + 2) (arr F) 56
  l : Blk W (w.heap.size + 3) (arr (numF l)) 56
theorem numF_zero : numF 0 = fun _ => 0 := funext fun j => by unfold numF; rw [lim_zero]; rfl
theorem OSt.start (w : World) (a b : Nat) : OSt w a b (fun _ => 0) 0 ((((w.alloc (.cells (arr (numF a)) 56)).alloc (.cells (arr (numF b)) 56)).alloc (.cells (arr fun _ => 0) 56)).alloc (.cells (arr fun _ => 0) 56)) := by
  obtain ⟨h, hx⟩ := TSt.start w (lim a) b
  exact ⟨h.below, hx, h.y, h.z, by rw [numF_zero]; exact h.p⟩
theorem OSt.step {w : World} {a b : Nat} {F : Nat → Int} {l : Nat} {W W' : World} (h : OSt w a b F l W) (hb : Below W.heap.size W W') : OSt w a b F l W' :=
  ⟨b_step hb h.below, h.x.below h.x.lt hb, h.y.below h.y.lt hb, h.q.below h.q.lt hb, h.l.below h.l.lt hb⟩
theorem OSt.drew {w : World} {a b : Nat} {F : Nat → Int} {l : Nat} {W : World} (h : OSt w a b F l W) : OSt w a b F l W.drew := ⟨b_drew h.below, h.x, h.y, h.q, h.l⟩
theorem OSt.congr {w : World} {a b : Nat} {F G : Nat → Int} {l : Nat} {W : World} (h : OSt w a b F l W) (e : arr F = arr G) : OSt w a b G l W := ⟨h.below, h.x, h.y, e ▸ h.q, h.l⟩
theorem OSt.quo {w : World} {a b : Nat} {F : Nat → Int} {l : Nat} {W : World} (h : OSt w a b F l W) (G : Nat → Int) : OSt w a b G l (W.setRow (w.heap.size + 2) (arr G)) :=
  ⟨b_row h.below (by omega), h.x.row_other (by omega), h.y.row_other (by omega), h.q.row _, h.l.row_other (by omega)⟩
theorem OSt.left {w : World} {a b : Nat} {F : Nat → Int} {l : Nat} {W : World} (h : OSt w a b F l W) (l' : Nat) : OSt w a b F l' (W.setRow (w.heap.size + 3) (arr (numF l'))) :=
  ⟨b_row h.below (by omega), h.x.row_other (by omega), h.y.row_other (by omega), h.q.row_other (by omega), h.l.row _⟩
theorem OSt.digit {w : World} {a b : Nat} {F : Nat → Int} {l : Nat} {W : World} (h : OSt w a b F l W) (v : Int) {k : Nat} (hk : k < 20) : OSt w a b (fun j => if j = k then v else F j) l (W.setCell ⟨w.heap.size + 2, k, none⟩ (.int .i64 v)) :=
  ⟨h.below.setCell (p := ⟨w.heap.size + 2, k, none⟩) (show w.heap.size ≤ w.heap.size + 2 by omega) _, h.x.other (by omega) _, h.y.other (by omega) _, by have := h.q.set k (.int .i64 v); rw [arr_set _ hk] at this; exact this, h.l.other (by omega) _⟩
set_option maxRecDepth 100000 in
set_option maxHeartbeats 4000000 in
theorem over_any (a b : Nat) (ha : a < pw 20) (hb0 : 0 < b) (hb : 1000000000 * b < pw 20) (w : World) :
    Calls Tryd.prog 35 #[.agg (arr (numF a)), .agg (arr (numF b))] w fun e w' => e = .returned (.tuple #[.agg (arr (numF (a / b))), .agg (arr (numF (a % b)))]) ∧ Below w.heap.size w w' := by
  have hz := zeroNum
  have HA := Lib.hid ha
  have HB0 := Lib.hid hb0
  have HB := Lib.hid hb
  clear ha hb0 hb
  go_enter Tryd.func35, Tryd.ntmps35
  go_wp2
  simp only [Nat.add_assoc, Nat.reduceAdd]
  have HS := OSt.start w a b
  obtain ⟨W0, hW0⟩ : ∃ W0, ((((w.alloc (.cells (arr (numF a)) 56)).alloc (.cells (arr (numF b)) 56)).alloc (.cells (arr fun _ => 0) 56)).alloc (.cells (arr fun _ => 0) 56)) = W0 := ⟨_, rfl⟩
  rw [hW0] at HS
  simp only [hW0]
  clear hW0 hz
  go_loopw [6] (fun i wr => ∃ k : Nat, k ≤ 20 ∧ i = .int .i64 ((k : Int) - 1) ∧ OSt w a b (mix k (fun _ => 0) (numF (a / b))) (a / pw k % b) wr) (fun i _ => (intOf i + 1).toNat)
  case atStart => exact ⟨20, by omega, rfl, by rw [Nat.div_eq_of_lt HA.out, Nat.zero_mod]; exact HS.congr (mix_all _ _).symm⟩
  case round =>
    clear HS
    obtain ⟨k, hk, rfl, hS⟩ := hrel
    by_cases h0 : k = 0
    · subst h0
      rw [mix_zero, pw_zero, Nat.div_one] at hS
      go_wp2
      have hC0 := hS.drew
      refine region_inv (fun ls a' w' => ∃ (l0 l1 l2 l3 : Bool) (t31 t32 : Value), ls = [l0, l1, l2, l3] ∧ a' = { tmps := #[.agg (arr (numF a)), .agg (arr (numF b)), .pointer (some ⟨w.heap.size, 0, none⟩), .pointer (some ⟨w.heap.size + 1, 0, none⟩), .pointer (some ⟨w.heap.size + 2, 0, none⟩), .pointer (some ⟨w.heap.size + 3, 0, none⟩), .int .i64 (((0 : Nat) : Int) - 1), .int .i64 (((0 : Nat) : Int) - 1), .bool false, u9, u10, u11, u12, u13, u14, u15, u16, u17, u18, u19, u20, u21, u22, u23, u24, u25, u26, u27, u28, u29, u30, t31, t32], defers := [] } ∧ (l0 = true → t31 = Value.agg (arr (numF (a / b)))) ∧ (l1 = true → t32 = Value.agg (arr (numF (a % b)))) ∧ (OSt w a b (numF (a / b)) (a % b) w')) (by kernel_rfl) (by kernel_rfl) ?rlen7 ?rdone7 ?rh07 ?rstep7
      case rlen7 => rintro ls a' w' ⟨l0, l1, l2, l3, t31, t32, rfl, _⟩; rfl
      case rh07 => exact ⟨false, false, false, false, undef, undef, rfl, rfl, by simp, by simp, hC0⟩
      case rdone7 =>
        rintro ls a' w' ⟨l0, l1, l2, l3, t31, t32, rfl, rfl, h31, h32, hC⟩ hl
        clear h31 h32 hl
        go_wp2
        refine bodyPost_ret (v := .tuple #[.agg (arr (numF (a / b))), .agg (arr (numF (a % b)))]) (results_two_rows (by rfl) _ _ _ _ _ _ (by rfl) (by rfl) (run_loadVar_row _ _ _ _ _ _ _ hC.q underNum rfl (sizeNum _)) (run_loadVar_row _ _ _ _ _ _ _ hC.l underNum rfl (sizeNum _))) rfl ⟨rfl, hC.below⟩
      case rstep7 =>
        rintro i o ho ls a' w' ⟨l0, l1, l2, l3, t31, t32, rfl, rfl, h31, h32, hC⟩ hcl hu hd K hK
        rcases i with _ | _ | _ | _ | i <;> simp only [List.getElem?_cons_zero, List.getElem?_cons_succ, List.getElem?_nil, Option.some.injEq, reduceCtorEq] at ho
        all_goals subst ho
        · have hu : l0 = false := hu
          clear hcl
          rw [if_pos (by rfl)]
          refine wp_load_row _ _ rfl _ rfl _ _ _ _ hC.q underNum rfl (sizeNum _) ?_
          exact hK _ _ ⟨true, l1, l2, l3, _, t32, rfl, rfl, fun _ => rfl, h32, hC⟩
        · have hu : l1 = false := hu
          clear hcl
          rw [if_pos (by rfl)]
          refine wp_load_row _ _ rfl _ rfl _ _ _ _ hC.l underNum rfl (sizeNum _) ?_
          exact hK _ _ ⟨l0, true, l2, l3, t31, _, rfl, rfl, h31, fun _ => rfl, hC⟩
        · have hu : l2 = false := hu
          clear hcl
          have y31 := h31 (hd 0 (by decide +kernel))
          subst y31
          rw [if_pos (by rfl)]
          refine wp_store_row _ _ _ rfl _ _ rfl rfl _ _ hC.q (sizeNum _) (by simp only [arr_size]) (arr_one _) ?_
          exact hK _ _ ⟨l0, l1, true, l3, _, t32, rfl, rfl, fun _ => rfl, h32, (hC.quo _)⟩
        · have hu : l3 = false := hu
          clear hcl
          have y32 := h32 (hd 1 (by decide +kernel))
          subst y32
          rw [if_pos (by rfl)]
          refine wp_store_row _ _ _ rfl _ _ rfl rfl _ _ hC.l (sizeNum _) (by simp only [arr_size]) (arr_one _) ?_
          exact hK _ _ ⟨l0, l1, l2, true, t31, _, rfl, rfl, h31, fun _ => rfl, (hC.left _)⟩
    · obtain ⟨i, rfl⟩ : ∃ i, k = i + 1 := ⟨k - 1, by omega⟩
      have hi : i < 20 := by omega
      have e1 : (((i + 1 : Nat) : Int) - 1) = (i : Int) := by omega
      rw [e1]
      clear e1 hk h0
      obtain ⟨hd1, hd2, hd3⟩ := over_step a b i HB0.out
      obtain ⟨F, hF⟩ : ∃ F, mix (i + 1) (fun _ => 0) (numF (a / b)) = F := ⟨_, rfl⟩
      have hll : a / pw (i + 1) % b < b := Nat.mod_lt _ HB0.out
      obtain ⟨l, hl⟩ : ∃ l, a / pw (i + 1) % b = l := ⟨_, rfl⟩
      obtain ⟨m, hm⟩ : ∃ m, lim a i = m := ⟨_, rfl⟩
      have hmb : m < 1000000000 := by rw [← hm]; exact lim_lt _ _
      have hm2 : numF a i = (m : Int) := by unfold numF; rw [hm]
      rw [hl] at hS hd1 hd2 hd3 hll
      rw [hF] at hS
      rw [hm] at hd1 hd2 hd3
      obtain ⟨t, ht⟩ : ∃ t, l * 1000000000 + m = t := ⟨_, rfl⟩
      rw [ht] at hd1 hd2 hd3
      obtain ⟨g, hg⟩ : ∃ g : Nat, 10 ^ 9 = g := ⟨_, rfl⟩
      have hg9 : g = 1000000000 := by rw [← hg]
      obtain ⟨p, hp⟩ : ∃ p, g * l = p := ⟨_, rfl⟩
      have hpt : p + m = t := by rw [← hp, hg9, Nat.mul_comm]; exact ht
      have hb20 := HB.out
      have h1 := fun W => power_any 9 (by decide) W
      rw [hg] at h1
      have h2 := fun W => times_num g l (by rw [hg9]; exact pw_big) (by rw [hp]; omega) W
      rw [hp] at h2
      have h3 := fun W => plus_any p m (by omega) W
      rw [hpt, ← one_num hmb] at h3
      obtain ⟨d, hd⟩ : ∃ d, t / b = d := ⟨_, rfl⟩
      have hdb : d < 1000000000 := by rw [← hd]; exact (Nat.div_lt_iff_lt_mul HB0.out).2 hd3
      obtain ⟨e0, he0⟩ : ∃ e0, d * b = e0 := ⟨_, rfl⟩
      have het : e0 ≤ t := by rw [← he0, ← hd]; exact Nat.div_mul_le_self t b
      have h4 := fun W => times_one d b (by omega) (by rw [he0]; omega) W
      rw [he0] at h4
      obtain ⟨r, hr⟩ : ∃ r, t - e0 = r := ⟨_, rfl⟩
      have h5 := fun W => minus_any t e0 het (by omega) W
      rw [hr] at h5
      have hrb : a / pw i % b = r := by
        rw [← hd2, ← hr, ← he0, ← hd]
        have := Nat.div_add_mod t b
        rw [Nat.mul_comm] at this
        omega
      have hdn : numF (a / b) i = (d : Int) := by unfold numF; rw [← hd1, hd]
      have HP := Lib.hid h1
      have HT := Lib.hid h2
      have HL := Lib.hid h3
      have HT2 := Lib.hid h4
      have HM := Lib.hid h5
      have Hm := Lib.hid hm2
      have HF := Lib.hid hF
      have HDn := Lib.hid hdn
      have HRb := Lib.hid hrb
      have HD := Lib.hid hd
      have HD3 := Lib.hid hd3
      clear hd1 hd2 hd3 hF hll hl hm hmb hm2 ht hg hg9 hp hpt hb20 h1 h2 h3 h4 h5 he0 het hr hrb hdn hd
      go_wp2
      have hC0 := hS.drew
      refine region_inv (fun ls a' w' => ∃ (l0 l1 l2 l3 l4 l5 l6 l7 l8 : Bool) (t11 t12 t13 t14 t15 t16 t17 t18 : Value), ls = [l0, l1, l2, l3, l4, l5, l6, l7, l8] ∧ a' = { tmps := #[.agg (arr (numF a)), .agg (arr (numF b)), .pointer (some ⟨w.heap.size, 0, none⟩), .pointer (some ⟨w.heap.size + 1, 0, none⟩), .pointer (some ⟨w.heap.size + 2, 0, none⟩), .pointer (some ⟨w.heap.size + 3, 0, none⟩), .int .i64 (i : Int), .int .i64 (i : Int), .bool true, u9, u10, t11, t12, t13, t14, t15, t16, t17, t18, u19, u20, u21, u22, u23, u24, u25, u26, u27, u28, u29, u30, undef, undef], defers := [] } ∧ (l0 = true → t11 = Value.agg (arr (numF g))) ∧ (l1 = true → t12 = Value.agg (arr (numF l))) ∧ (l2 = true → t13 = Value.agg (arr (numF p))) ∧ (l3 = true → t14 = Value.int .i64 (i : Int)) ∧ (l4 = true → t15 = Value.pointer (some ⟨w.heap.size, i, none⟩)) ∧ (l5 = true → t16 = Value.int .i64 (m : Int)) ∧ (l6 = true → t17 = Value.agg (arr (natF (one m)))) ∧ (l7 = true → t18 = Value.agg (arr (numF t))) ∧ (l8 = false → OSt w a b F l w') ∧ (l8 = true → OSt w a b F t w')) (by kernel_rfl) (by kernel_rfl) ?rlen4 ?rdone4 ?rh04 ?rstep4
      case rlen4 => rintro ls a' w' ⟨l0, l1, l2, l3, l4, l5, l6, l7, l8, t11, t12, t13, t14, t15, t16, t17, t18, rfl, _⟩; rfl
      case rh04 => exact ⟨false, false, false, false, false, false, false, false, false, u11, u12, u13, u14, u15, u16, u17, u18, rfl, rfl, by simp, by simp, by simp, by simp, by simp, by simp, by simp, by simp, fun _ => hC0, by simp⟩
      case rdone4 =>
        rintro ls a' w' ⟨l0, l1, l2, l3, l4, l5, l6, l7, l8, t11, t12, t13, t14, t15, t16, t17, t18, rfl, rfl, h11, h12, h13, h14, h15, h16, h17, h18, hC, hP⟩ hl
        have hP := hP (by simpa using hl 8)
        clear h11 h12 h13 h14 h15 h16 h17 h18 hl hC
        have hSe := Search_any 54 #[.pointer (some ⟨w.heap.size + 3, 0, none⟩), .pointer (some ⟨w.heap.size + 1, 0, none⟩)] 1000000000 (fun n => decide (t < (n + 1) * b)) w' (enters_of Tryd.func54 (by kernel_rfl) rfl) (by omega)
          (fun W n hn hB => overP_any n t b (w.heap.size + 3) (w.heap.size + 1) hn (by have := HD3.out; have := HB.out; omega) HB.out W w' ⟨hB, hP.l.below hP.l.lt hB, hP.y.below hP.y.lt hB⟩) d (by omega)
          (fun n hn => by
            have h1 : (n + 1) * b ≤ d * b := Nat.mul_le_mul_right b hn
            have h2 : d * b ≤ t := by rw [← HD.out]; exact Nat.div_mul_le_self t b
            exact decide_eq_false (by omega))
          (fun n hn _ => by
            have h1 : (d + 1) * b ≤ (n + 1) * b := Nat.mul_le_mul_right b (by omega)
            have h2 := Nat.lt_div_mul_add (a := t) HB0.out
            rw [HD.out] at h2
            rw [Nat.add_mul] at h1
            exact decide_eq_true (by omega))
        go_wp2_with (go_at_call 53; refine hSe.mono ?_)
        clear hSe
        rintro e w5 ⟨rfl, hb5⟩
        have hS5 := hP.step hb5
        have c0 := hS5.q.cell i
        rw [arr_get _ hi] at c0
        have f0 := hS5.q.frozen i
        have hS6 := hS5.digit (d : Int) hi
        clear hP
        go_wp2
        clear c0 f0
        have hC0 := hS6.drew
        refine region_inv (fun ls a' w' => ∃ (l0 l1 l2 l3 l4 l5 l6 l7 l8 : Bool) (t23 t24 t25 t26 t27 t28 t29 t30 : Value), ls = [l0, l1, l2, l3, l4, l5, l6, l7, l8] ∧ a' = { tmps := #[.agg (arr (numF a)), .agg (arr (numF b)), .pointer (some ⟨w.heap.size, 0, none⟩), .pointer (some ⟨w.heap.size + 1, 0, none⟩), .pointer (some ⟨w.heap.size + 2, 0, none⟩), .pointer (some ⟨w.heap.size + 3, 0, none⟩), .int .i64 (i : Int), .int .i64 (i : Int), .bool true, u9, u10, t11, t12, t13, t14, t15, t16, t17, t18, .int .i64 (i : Int), .func (.func 54) #[] #[.pointer (some ⟨w.heap.size + 3, 0, none⟩), .pointer (some ⟨w.heap.size + 1, 0, none⟩)], .int .i64 (d : Int), .pointer (some ⟨w.heap.size + 2, i, none⟩), t23, t24, t25, t26, t27, t28, t29, t30, undef, undef], defers := [] } ∧ (l0 = true → t23 = Value.agg (arr (numF t))) ∧ (l1 = true → t24 = Value.int .i64 (i : Int)) ∧ (l2 = true → t25 = Value.pointer (some ⟨w.heap.size + 2, i, none⟩)) ∧ (l3 = true → t26 = Value.int .i64 (d : Int)) ∧ (l4 = true → t27 = Value.agg (arr (natF (one d)))) ∧ (l5 = true → t28 = Value.agg (arr (numF b))) ∧ (l6 = true → t29 = Value.agg (arr (numF e0))) ∧ (l7 = true → t30 = Value.agg (arr (numF r))) ∧ (l8 = false → OSt w a b (fun j => if j = i then (d : Int) else F j) t w') ∧ (l8 = true → OSt w a b (fun j => if j = i then (d : Int) else F j) r w')) (by kernel_rfl) (by kernel_rfl) ?rlen6 ?rdone6 ?rh06 ?rstep6
        case rlen6 => rintro ls a' w' ⟨l0, l1, l2, l3, l4, l5, l6, l7, l8, t23, t24, t25, t26, t27, t28, t29, t30, rfl, _⟩; rfl
        case rh06 => exact ⟨false, false, false, false, false, false, false, false, false, u23, u24, u25, u26, u27, u28, u29, u30, rfl, rfl, by simp, by simp, by simp, by simp, by simp, by simp, by simp, by simp, fun _ => hC0, by simp⟩
        case rdone6 =>
          rintro ls a' w' ⟨l0, l1, l2, l3, l4, l5, l6, l7, l8, t23, t24, t25, t26, t27, t28, t29, t30, rfl, rfl, h23, h24, h25, h26, h27, h28, h29, h30, hC, hP⟩ hl
          have hP := hP (by simpa using hl 8)
          clear h23 h24 h25 h26 h27 h28 h29 h30 hl hC
          go_wp2
          refine ⟨⟨i, by omega, rfl, ?_⟩, by simp [intOf]⟩
          rw [HRb.out, ← mix_down, HDn.out, HF.out]
          exact hP
        case rstep6 =>
          rintro i o ho ls a' w' ⟨l0, l1, l2, l3, l4, l5, l6, l7, l8, t23, t24, t25, t26, t27, t28, t29, t30, rfl, rfl, h23, h24, h25, h26, h27, h28, h29, h30, hC, hP⟩ hcl hu hd K hK
          rcases i with _ | _ | _ | _ | _ | _ | _ | _ | _ | i <;> simp only [List.getElem?_cons_zero, List.getElem?_cons_succ, List.getElem?_nil, Option.some.injEq, reduceCtorEq] at ho
          all_goals subst ho
          · have hu : l0 = false := hu
            have hls : l8 = false := Bool.eq_false_iff.2 fun e => by have h : l0 = true := hcl 8 _ rfl e 0 (by decide +kernel); rw [hu] at h; cases h
            subst hls
            have hC := hC rfl
            clear hcl
            rw [if_pos (by rfl)]
            refine wp_load_row _ _ rfl _ rfl _ _ _ _ hC.l underNum rfl (sizeNum _) ?_
            exact hK _ _ ⟨true, l1, l2, l3, l4, l5, l6, l7, false, _, t24, t25, t26, t27, t28, t29, t30, rfl, rfl, fun _ => rfl, h24, h25, h26, h27, h28, h29, h30, fun _ => hC, by simp⟩
          · have hu : l1 = false := hu
            have hls : l8 = false := Bool.eq_false_iff.2 fun e => by have h : l1 = true := hcl 8 _ rfl e 1 (by decide +kernel); rw [hu] at h; cases h
            subst hls
            have hC := hC rfl
            clear hcl
            go_simp
            exact hK _ _ ⟨l0, true, l2, l3, l4, l5, l6, l7, false, t23, _, t25, t26, t27, t28, t29, t30, rfl, rfl, h23, fun _ => rfl, h25, h26, h27, h28, h29, h30, fun _ => hC, by simp⟩
          · have hu : l2 = false := hu
            have hls : l8 = false := Bool.eq_false_iff.2 fun e => by have h : l2 = true := hcl 8 _ rfl e 2 (by decide +kernel); rw [hu] at h; cases h
            subst hls
            have hC := hC rfl
            clear hcl
            have y24 := h24 (hd 1 (by decide +kernel))
            subst y24
            have hi3 : (i : Int) < 20 := by omega
            go_simp
            exact hK _ _ ⟨l0, l1, true, l3, l4, l5, l6, l7, false, t23, _, _, t26, t27, t28, t29, t30, rfl, rfl, h23, fun _ => rfl, fun _ => rfl, h26, h27, h28, h29, h30, fun _ => hC, by simp⟩
          · have hu : l3 = false := hu
            have hls : l8 = false := Bool.eq_false_iff.2 fun e => by have h : l3 = true := hcl 8 _ rfl e 3 (by decide +kernel); rw [hu] at h; cases h
            subst hls
            have hC := hC rfl
            clear hcl
            have y25 := h25 (hd 2 (by decide +kernel))
            subst y25
            have c0 := hC.q.cell i
            rw [arr_get _ hi] at c0
            rw [if_pos rfl] at c0
            go_simp
            exact hK _ _ ⟨l0, l1, l2, true, l4, l5, l6, l7, false, t23, t24, _, _, t27, t28, t29, t30, rfl, rfl, h23, h24, fun _ => rfl, fun _ => rfl, h27, h28, h29, h30, fun _ => hC, by simp⟩
          · have hu : l4 = false := hu
            have hls : l8 = false := Bool.eq_false_iff.2 fun e => by have h : l4 = true := hcl 8 _ rfl e 4 (by decide +kernel); rw [hu] at h; cases h
            subst hls
            have hC := hC rfl
            clear hcl
            have y26 := h26 (hd 3 (by decide +kernel))
            subst y26
            rw [if_pos (by rfl)]
            refine wp_build_eq _ _ rfl (by simp only [List.map_toArray, List.map_cons, List.map_nil]; exact (built_nat d)) ?_
            exact hK _ _ ⟨l0, l1, l2, l3, true, l5, l6, l7, false, t23, t24, t25, _, _, t28, t29, t30, rfl, rfl, h23, h24, h25, fun _ => rfl, fun _ => rfl, h28, h29, h30, fun _ => hC, by simp⟩
          · have hu : l5 = false := hu
            have hls : l8 = false := Bool.eq_false_iff.2 fun e => by have h : l5 = true := hcl 8 _ rfl e 5 (by decide +kernel); rw [hu] at h; cases h
            subst hls
            have hC := hC rfl
            clear hcl
            rw [if_pos (by rfl)]
            refine wp_load_row _ _ rfl _ rfl _ _ _ _ hC.y underNum rfl (sizeNum _) ?_
            exact hK _ _ ⟨l0, l1, l2, l3, l4, true, l6, l7, false, t23, t24, t25, t26, t27, _, t29, t30, rfl, rfl, h23, h24, h25, h26, h27, fun _ => rfl, h29, h30, fun _ => hC, by simp⟩
          · have hu : l6 = false := hu
            have hls : l8 = false := Bool.eq_false_iff.2 fun e => by have h : l6 = true := hcl 8 _ rfl e 6 (by decide +kernel); rw [hu] at h; cases h
            subst hls
            have hC := hC rfl
            clear hcl
            have y27 := h27 (hd 4 (by decide +kernel))
            subst y27
            have y28 := h28 (hd 5 (by decide +kernel))
            subst y28
            have hK5 := HT2.out w'
            go_simp
            refine hK5.mono ?_
            rintro e w5 ⟨rfl, hb5⟩
            exact hK _ _ ⟨l0, l1, l2, l3, l4, l5, true, l7, false, t23, t24, t25, t26, _, _, _, t30, rfl, rfl, h23, h24, h25, h26, fun _ => rfl, fun _ => rfl, fun _ => rfl, h30, fun _ => (hC.step hb5), by simp⟩
          · have hu : l7 = false := hu
            have hls : l8 = false := Bool.eq_false_iff.2 fun e => by have h : l7 = true := hcl 8 _ rfl e 7 (by decide +kernel); rw [hu] at h; cases h
            subst hls
            have hC := hC rfl
            clear hcl
            have y23 := h23 (hd 0 (by decide +kernel))
            subst y23
            have y29 := h29 (hd 6 (by decide +kernel))
            subst y29
            have hK5 := HM.out w'
            go_simp
            refine hK5.mono ?_
            rintro e w5 ⟨rfl, hb5⟩
            exact hK _ _ ⟨l0, l1, l2, l3, l4, l5, l6, true, false, _, t24, t25, t26, t27, t28, _, _, rfl, rfl, fun _ => rfl, h24, h25, h26, h27, h28, fun _ => rfl, fun _ => rfl, fun _ => (hC.step hb5), by simp⟩
          · have hu : l8 = false := hu
            subst hu
            have hC := hC rfl
            clear hcl
            have y30 := h30 (hd 7 (by decide +kernel))
            subst y30
            rw [if_pos (by rfl)]
            refine wp_store_row _ _ _ rfl _ _ rfl rfl _ _ hC.l (sizeNum _) (by simp only [arr_size]) (arr_one _) ?_
            exact hK _ _ ⟨l0, l1, l2, l3, l4, l5, l6, l7, true, t23, t24, t25, t26, t27, t28, t29, _, rfl, rfl, h23, h24, h25, h26, h27, h28, h29, fun _ => rfl, by simp, fun _ => hC.left r⟩
      case rstep4 =>
        rintro i o ho ls a' w' ⟨l0, l1, l2, l3, l4, l5, l6, l7, l8, t11, t12, t13, t14, t15, t16, t17, t18, rfl, rfl, h11, h12, h13, h14, h15, h16, h17, h18, hC, hP⟩ hcl hu hd K hK
        rcases i with _ | _ | _ | _ | _ | _ | _ | _ | _ | i <;> simp only [List.getElem?_cons_zero, List.getElem?_cons_succ, List.getElem?_nil, Option.some.injEq, reduceCtorEq] at ho
        all_goals subst ho
        · have hu : l0 = false := hu
          have hls : l8 = false := Bool.eq_false_iff.2 fun e => by have h : l0 = true := hcl 8 _ rfl e 0 (by decide +kernel); rw [hu] at h; cases h
          subst hls
          have hC := hC rfl
          clear hcl
          have hK5 := HP.out w'
          go_simp
          refine hK5.mono ?_
          rintro e w5 ⟨rfl, hb5⟩
          exact hK _ _ ⟨true, l1, l2, l3, l4, l5, l6, l7, false, _, t12, t13, t14, t15, t16, t17, t18, rfl, rfl, fun _ => rfl, h12, h13, h14, h15, h16, h17, h18, fun _ => (hC.step hb5), by simp⟩
        · have hu : l1 = false := hu
          have hls : l8 = false := Bool.eq_false_iff.2 fun e => by have h : l1 = true := hcl 8 _ rfl e 1 (by decide +kernel); rw [hu] at h; cases h
          subst hls
          have hC := hC rfl
          clear hcl
          rw [if_pos (by rfl)]
          refine wp_load_row _ _ rfl _ rfl _ _ _ _ hC.l underNum rfl (sizeNum _) ?_
          exact hK _ _ ⟨l0, true, l2, l3, l4, l5, l6, l7, false, t11, _, t13, t14, t15, t16, t17, t18, rfl, rfl, h11, fun _ => rfl, h13, h14, h15, h16, h17, h18, fun _ => hC, by simp⟩
        · have hu : l2 = false := hu
          have hls : l8 = false := Bool.eq_false_iff.2 fun e => by have h : l2 = true := hcl 8 _ rfl e 2 (by decide +kernel); rw [hu] at h; cases h
          subst hls
          have hC := hC rfl
          clear hcl
          have y11 := h11 (hd 0 (by decide +kernel))
          subst y11
          have y12 := h12 (hd 1 (by decide +kernel))
          subst y12
          have hK5 := HT.out w'
          go_simp
          refine hK5.mono ?_
          rintro e w5 ⟨rfl, hb5⟩
          exact hK _ _ ⟨l0, l1, true, l3, l4, l5, l6, l7, false, _, _, _, t14, t15, t16, t17, t18, rfl, rfl, fun _ => rfl, fun _ => rfl, fun _ => rfl, h14, h15, h16, h17, h18, fun _ => (hC.step hb5), by simp⟩
        · have hu : l3 = false := hu
          have hls : l8 = false := Bool.eq_false_iff.2 fun e => by have h : l3 = true := hcl 8 _ rfl e 3 (by decide +kernel); rw [hu] at h; cases h
          subst hls
          have hC := hC rfl
          clear hcl
          go_simp
          exact hK _ _ ⟨l0, l1, l2, true, l4, l5, l6, l7, false, t11, t12, t13, _, t15, t16, t17, t18, rfl, rfl, h11, h12, h13, fun _ => rfl, h15, h16, h17, h18, fun _ => hC, by simp⟩
        · have hu : l4 = false := hu
          have hls : l8 = false := Bool.eq_false_iff.2 fun e => by have h : l4 = true := hcl 8 _ rfl e 4 (by decide +kernel); rw [hu] at h; cases h
          subst hls
          have hC := hC rfl
          clear hcl
          have y14 := h14 (hd 3 (by decide +kernel))
          subst y14
          have hi3 : (i : Int) < 20 := by omega
          go_simp
          exact hK _ _ ⟨l0, l1, l2, l3, true, l5, l6, l7, false, t11, t12, t13, _, _, t16, t17, t18, rfl, rfl, h11, h12, h13, fun _ => rfl, fun _ => rfl, h16, h17, h18, fun _ => hC, by simp⟩
        · have hu : l5 = false := hu
          have hls : l8 = false := Bool.eq_false_iff.2 fun e => by have h : l5 = true := hcl 8 _ rfl e 5 (by decide +kernel); rw [hu] at h; cases h
          subst hls
          have hC := hC rfl
          clear hcl
          have y15 := h15 (hd 4 (by decide +kernel))
          subst y15
          have c0 := hC.x.cell i
          rw [arr_get _ hi] at c0
          rw [show numF a i = (m : Int) from Hm.out] at c0
          go_simp
          exact hK _ _ ⟨l0, l1, l2, l3, l4, true, l6, l7, false, t11, t12, t13, t14, _, _, t17, t18, rfl, rfl, h11, h12, h13, h14, fun _ => rfl, fun _ => rfl, h17, h18, fun _ => hC, by simp⟩
        · have hu : l6 = false := hu
          have hls : l8 = false := Bool.eq_false_iff.2 fun e => by have h : l6 = true := hcl 8 _ rfl e 6 (by decide +kernel); rw [hu] at h; cases h
          subst hls
          have hC := hC rfl
          clear hcl
          have y16 := h16 (hd 5 (by decide +kernel))
          subst y16
          rw [if_pos (by rfl)]
          refine wp_build_eq _ _ rfl (by simp only [List.map_toArray, List.map_cons, List.map_nil]; exact (built_nat m)) ?_
          exact hK _ _ ⟨l0, l1, l2, l3, l4, l5, true, l7, false, t11, t12, t13, t14, t15, _, _, t18, rfl, rfl, h11, h12, h13, h14, h15, fun _ => rfl, fun _ => rfl, h18, fun _ => hC, by simp⟩
        · have hu : l7 = false := hu
          have hls : l8 = false := Bool.eq_false_iff.2 fun e => by have h : l7 = true := hcl 8 _ rfl e 7 (by decide +kernel); rw [hu] at h; cases h
          subst hls
          have hC := hC rfl
          clear hcl
          have y13 := h13 (hd 2 (by decide +kernel))
          subst y13
          have y17 := h17 (hd 6 (by decide +kernel))
          subst y17
          have hK5 := HL.out w'
          go_simp
          refine hK5.mono ?_
          rintro e w5 ⟨rfl, hb5⟩
          exact hK _ _ ⟨l0, l1, l2, l3, l4, l5, l6, true, false, t11, t12, _, t14, t15, t16, _, _, rfl, rfl, h11, h12, fun _ => rfl, h14, h15, h16, fun _ => rfl, fun _ => rfl, fun _ => (hC.step hb5), by simp⟩
        · have hu : l8 = false := hu
          subst hu
          have hC := hC rfl
          clear hcl
          have y18 := h18 (hd 7 (by decide +kernel))
          subst y18
          rw [if_pos (by rfl)]
          refine wp_store_row _ _ _ rfl _ _ rfl rfl _ _ hC.l (sizeNum _) (by simp only [arr_size]) (arr_one _) ?_
          exact hK _ _ ⟨l0, l1, l2, l3, l4, l5, l6, l7, true, t11, t12, t13, t14, t15, t16, t17, _, rfl, rfl, h11, h12, h13, h14, h15, h16, h17, fun _ => rfl, by simp, fun _ => hC.left t⟩
end Dc
end Go.Proofs.YthnpbkplcboejaaDoor
