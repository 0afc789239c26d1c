/- Decimal: aligned. -/
import Derived.Test.YthnpbkplcboejaaDoorDl
import Derived.Test.YthnpbkplcboejaaDoorDp
set_option linter.unusedSimpArgs false
set_option linter.unusedVariables false
namespace Go.Proofs.YthnpbkplcboejaaDoor
open Go.RowKit Go.Shelf Go.Lib Go.Sort
namespace Dc
theorem pw20 : pw 20 = 10 ^ 180 := pw_ten 20
theorem lt_pow {n a b : Nat} (h : n < 10 ^ a) (hab : a ≤ b) : n < 10 ^ b := Nat.lt_of_lt_of_le h (Nat.pow_le_pow_right (by decide) hab)
theorem mul_lt_pow {n m a b : Nat} (hn : n < 10 ^ a) (hm : m ≤ 10 ^ b) : n * m < 10 ^ (a + b) := by
  rw [Nat.pow_add]
  exact Nat.lt_of_le_of_lt (Nat.mul_le_mul_left n hm) (Nat.mul_lt_mul_of_pos_right hn (Nat.pow_pos (by decide)))
theorem numberOf_dec (n : Nat) (hn : n < 10 ^ 60) (w : World) : Calls Tryd.prog 29 #[.string (decB n)] w fun e w' => e = .returned (.agg (arr (numF n))) ∧ Below w.heap.size w w' := by
  have h := numberOf_any (decB n) (digs_dec n) (by rw [decB_size]; have := (dec_len (n := n) (k := 60) (by decide)).2 hn; omega) w
  rw [show (decB n).data.toList = dec n from rfl, dv_dec] at h
  exact h
/-- What lies boxed in aligned. -/
structure ASt (w : World) (a b : V) (x y : Nat) (W : World) : Prop where
  below : RowKit.Below w.heap.size w W
  a : Blk W w.heap.size #[.bool a.neg, .string (decB a.n), .int .i64 (a.s : Int)] 23
  b : Blk W (w.heap.size + 1) #[.bool b.neg, .string (decB b.n), .int .i64 (b.s : Int)] 23
  x : Blk W (w.heap.size + 2) (arr (numF x)) 56
  y : Blk W (w.heap.size + 3) (arr (numF y)) 56
theorem ASt.step {w : World} {a b : V} {x y : Nat} {W W' : World} (h : ASt w a b x y W) (hb : RowKit.Below W.heap.size W W') : ASt w a b x y W' :=
  ⟨b_step hb h.below, h.a.below h.a.lt hb, h.b.below h.b.lt hb, h.x.below h.x.lt hb, h.y.below h.y.lt hb⟩
theorem ASt.drew {w : World} {a b : V} {x y : Nat} {W : World} (h : ASt w a b x y W) : ASt w a b x y W.drew := ⟨b_drew h.below, h.a, h.b, h.x, h.y⟩
theorem ASt.setx {w : World} {a b : V} {x y : Nat} {W : World} (h : ASt w a b x y W) (x' : Nat) : ASt w a b x' y (W.setRow (w.heap.size + 2) (arr (numF x'))) :=
  ⟨b_row h.below (by omega), h.a.row_other (by omega), h.b.row_other (by omega), h.x.row _, h.y.row_other (by omega)⟩
theorem ASt.sety {w : World} {a b : V} {x y : Nat} {W : World} (h : ASt w a b x y W) (y' : Nat) : ASt w a b x y' (W.setRow (w.heap.size + 3) (arr (numF y'))) :=
  ⟨b_row h.below (by omega), h.a.row_other (by omega), h.b.row_other (by omega), h.x.row_other (by omega), h.y.row _⟩
theorem ASt.start (w : World) (a b : V) : ASt w a b 0 0 ((((w.alloc (.cells #[.bool a.neg, .string (decB a.n), .int .i64 (a.s : Int)] 23)).alloc (.cells #[.bool b.neg, .string (decB b.n), .int .i64 (b.s : Int)] 23)).alloc (.cells (arr fun _ => 0) 56)).alloc (.cells (arr fun _ => 0) 56)) := by
  have h1 := Blk.new w #[.bool a.neg, .string (decB a.n), .int .i64 (a.s : Int)] 23
  have h2 := Blk.new (w.alloc (.cells #[.bool a.neg, .string (decB a.n), .int .i64 (a.s : Int)] 23)) #[.bool b.neg, .string (decB b.n), .int .i64 (b.s : Int)] 23
  have h3 := Blk.new ((w.alloc (.cells #[.bool a.neg, .string (decB a.n), .int .i64 (a.s : Int)] 23)).alloc (.cells #[.bool b.neg, .string (decB b.n), .int .i64 (b.s : Int)] 23)) (arr fun _ => 0) 56
  have h4 := Blk.new (((w.alloc (.cells #[.bool a.neg, .string (decB a.n), .int .i64 (a.s : Int)] 23)).alloc (.cells #[.bool b.neg, .string (decB b.n), .int .i64 (b.s : Int)] 23)).alloc (.cells (arr fun _ => 0) 56)) (arr fun _ => 0) 56
  simp only [World.size_alloc, Nat.add_assoc, Nat.reduceAdd] at h2 h3 h4
  exact ⟨b_alloc (b_alloc (b_alloc ((Below.refl _ w).alloc (Nat.le_refl _) _))), ((h1.alloc _).alloc _).alloc _, (h2.alloc _).alloc _, by rw [numF_zero]; exact h3.alloc _, by rw [numF_zero]; exact h4⟩
theorem results_rrs {fn : Func} {p q r : Tmp} {t1 t2 : TypeId} (h : fn.results = #[.cell p t1, .cell q t2, .tmp r]) (tmps : Array Value) (w : World) (v1 v2 v3 : Value) (a1 a2 : Addr)
    (hp : tmps.getD p undef = .pointer (some a1)) (hq : tmps.getD q undef = .pointer (some a2)) (hr : tmps.getD r undef = v3) (h1 : (loadVar t1 a1).run Tryd.prog w = .ok v1 w) (h2 : (loadVar t2 a2).run Tryd.prog w = .ok v2 w) :
    (results fn tmps).run Tryd.prog w = .ok (.tuple #[v1, v2, v3]) w := by
  have hp' : tmps[p]?.getD undef = .pointer (some a1) := by simpa using hp
  have hq' : tmps[q]?.getD undef = .pointer (some a2) := by simpa using hq
  have hr' : tmps[r]?.getD undef = v3 := by simpa using hr
  simp [results, h, hp', hq', hr', asAddr, h1, h2]
/-- The numbers of two decimals, times 10 as often as the greater scale says. -/
def al (a b : V) : Nat := a.n * 10 ^ (max a.s b.s - a.s)
theorem al_lt {a b : V} (ha : a.ok) (hb : b.ok) : al a b < 10 ^ 120 := by
  have h1 := ha.s; have h2 := hb.s
  exact lt_pow (mul_lt_pow ha.n (Nat.pow_le_pow_right (by decide) (show max a.s b.s - a.s ≤ 60 by omega))) (by omega)
set_option maxRecDepth 100000 in
set_option maxHeartbeats 4000000 in
theorem aligned_any (a b : V) (ha : a.ok) (hb : b.ok) (w : World) :
    Calls Tryd.prog 32 #[a.d.val, b.d.val] w fun e w' => e = .returned (.tuple #[.agg (arr (numF (al a b))), .agg (arr (numF (al b a))), .int .i64 ((max a.s b.s : Nat) : Int)]) ∧ RowKit.Below w.heap.size w w' := by
  have hz := zeroNum
  have has := ha.s
  have hbs := hb.s
  obtain ⟨m, hm⟩ : ∃ m, max a.s b.s = m := ⟨_, rfl⟩
  have hmx : max (a.s : Int) (b.s : Int) = (m : Int) := by omega
  obtain ⟨p, hp⟩ : ∃ p, m - a.s = p := ⟨_, rfl⟩
  obtain ⟨q, hq⟩ : ∃ q, m - b.s = q := ⟨_, rfl⟩
  have hxa : a.n * 10 ^ p = al a b := by unfold al; rw [hm, hp]
  have hxb : b.n * 10 ^ q = al b a := by unfold al; rw [Nat.max_comm, hm, hq]
  have hla : al a b < pw 20 := by rw [pw20]; exact lt_pow (al_lt ha hb) (by decide)
  have hlb : al b a < pw 20 := by rw [pw20]; exact lt_pow (al_lt hb ha) (by decide)
  have n1 := fun W => numberOf_dec a.n ha.n W
  have n2 := fun W => numberOf_dec b.n hb.n W
  have p1 := fun W => power_any p (by omega) W
  have p2 := fun W => power_any q (by omega) W
  have t1 := fun W => times_num a.n (10 ^ p) (by rw [pw20]; exact lt_pow ha.n (by decide)) (by rw [hxa]; exact hla) W
  have t2 := fun W => times_num b.n (10 ^ q) (by rw [pw20]; exact lt_pow hb.n (by decide)) (by rw [hxb]; exact hlb) W
  rw [hxa] at t1
  rw [hxb] at t2
  obtain ⟨gp, hgp⟩ : ∃ g, 10 ^ p = g := ⟨_, rfl⟩
  obtain ⟨gq, hgq⟩ : ∃ g, 10 ^ q = g := ⟨_, rfl⟩
  rw [hgp] at p1 t1
  rw [hgq] at p2 t2
  have hw1 : IntKind.i64.wrap ((m : Int) - (a.s : Int)) = (p : Int) := by rw [IntWalk.i64_in _ (by omega)]; omega
  have hw2 : IntKind.i64.wrap ((m : Int) - (b.s : Int)) = (q : Int) := by rw [IntWalk.i64_in _ (by omega)]; omega
  obtain ⟨X, hX⟩ : ∃ X, al a b = X := ⟨_, rfl⟩
  obtain ⟨Y, hY⟩ : ∃ Y, al b a = Y := ⟨_, rfl⟩
  rw [hX] at t1 ⊢
  rw [hY] at t2 ⊢
  rw [hm]
  have N1 := Lib.hid n1
  have N2 := Lib.hid n2
  have P1 := Lib.hid p1
  have P2 := Lib.hid p2
  have T1 := Lib.hid t1
  have T2 := Lib.hid t2
  rw [V.d_val, V.d_val]
  have HS := ASt.start w a b
  clear ha hb has hbs hm hp hq hxa hxb hla hlb n1 n2 p1 p2 t1 t2 hgp hgq hX hY
  go_enter Tryd.func32, Tryd.ntmps32
  obtain ⟨W0, hW0⟩ : ∃ W0, ((((w.alloc (.cells #[.bool a.neg, .string (decB a.n), .int .i64 (a.s : Int)] 23)).alloc (.cells #[.bool b.neg, .string (decB b.n), .int .i64 (b.s : Int)] 23)).alloc (.cells (arr fun _ => 0) 56)).alloc (.cells (arr fun _ => 0) 56)) = W0 := ⟨_, rfl⟩
  rw [hW0] at HS
  obtain ⟨a0, a1, a2, _, _, _⟩ := HS.a.three
  obtain ⟨b0, b1, b2, _, _, _⟩ := HS.b.three
  go_wp2
  simp only [Nat.add_assoc, Nat.reduceAdd]
  clear a0 a1 a2 b0 b1 b2 hz hW0
  have hC0 := HS.drew
  refine region_inv (fun ls a' w' => ∃ (l0 l1 l2 l3 l4 l5 l6 l7 l8 l9 : Bool) (t12 t13 t14 t15 t16 t17 t18 t19 t20 : Value), ls = [l0, l1, l2, l3, l4, l5, l6, l7, l8, l9] ∧ a' = { tmps := #[.agg #[.bool a.neg, .string (decB a.n), .int .i64 (a.s : Int)], .agg #[.bool b.neg, .string (decB b.n), .int .i64 (b.s : Int)], .pointer (some ⟨w.heap.size, 0, none⟩), .pointer (some ⟨w.heap.size + 1, 0, none⟩), .pointer (some ⟨w.heap.size + 2, 0, none⟩), .pointer (some ⟨w.heap.size + 3, 0, none⟩), .int .i64 (m : Int), .pointer (some ⟨w.heap.size, 2, none⟩), .int .i64 (a.s : Int), .pointer (some ⟨w.heap.size + 1, 2, none⟩), .int .i64 (b.s : Int), .int .i64 (m : Int), t12, t13, t14, t15, t16, t17, t18, t19, t20, undef, undef, undef, undef, undef, undef, undef, undef, undef, undef, undef, undef], defers := [] } ∧ (l0 = true → t12 = Value.pointer (some ⟨w.heap.size, 1, none⟩)) ∧ (l1 = true → t13 = Value.string (decB a.n)) ∧ (l2 = true → t14 = Value.agg (arr (numF a.n))) ∧ (l3 = true → t15 = Value.int .i64 (m : Int)) ∧ (l4 = true → t16 = Value.pointer (some ⟨w.heap.size, 2, none⟩)) ∧ (l5 = true → t17 = Value.int .i64 (a.s : Int)) ∧ (l6 = true → t18 = Value.int .i64 (p : Int)) ∧ (l7 = true → t19 = Value.agg (arr (numF gp))) ∧ (l8 = true → t20 = Value.agg (arr (numF X))) ∧ (l9 = false → ASt w a b 0 0 w') ∧ (l9 = true → ASt w a b X 0 w')) (by kernel_rfl) (by kernel_rfl) ?rlen2 ?rdone2 ?rh02 ?rstep2
  case rlen2 => rintro ls a' w' ⟨l0, l1, l2, l3, l4, l5, l6, l7, l8, l9, t12, t13, t14, t15, t16, t17, t18, t19, t20, rfl, _⟩; rfl
  case rh02 => exact ⟨false, false, false, false, false, false, false, false, false, false, undef, undef, undef, undef, undef, undef, undef, undef, undef, rfl, rfl, by simp, by simp, by simp, by simp, by simp, by simp, by simp, by simp, by simp, fun _ => hC0, by simp⟩
  case rdone2 =>
    rintro ls a' w' ⟨l0, l1, l2, l3, l4, l5, l6, l7, l8, l9, t12, t13, t14, t15, t16, t17, t18, t19, t20, rfl, rfl, h12, h13, h14, h15, h16, h17, h18, h19, h20, hC, hP⟩ hl
    have hP := hP (by simpa using hl 9)
    clear h12 h13 h14 h15 h16 h17 h18 h19 h20 hl hC
    go_wp2
    have hC0 := hP.drew
    refine region_inv (fun ls a' w' => ∃ (l0 l1 l2 l3 l4 l5 l6 l7 l8 l9 : Bool) (t21 t22 t23 t24 t25 t26 t27 t28 t29 : Value), ls = [l0, l1, l2, l3, l4, l5, l6, l7, l8, l9] ∧ a' = { tmps := #[.agg #[.bool a.neg, .string (decB a.n), .int .i64 (a.s : Int)], .agg #[.bool b.neg, .string (decB b.n), .int .i64 (b.s : Int)], .pointer (some ⟨w.heap.size, 0, none⟩), .pointer (some ⟨w.heap.size + 1, 0, none⟩), .pointer (some ⟨w.heap.size + 2, 0, none⟩), .pointer (some ⟨w.heap.size + 3, 0, none⟩), .int .i64 (m : Int), .pointer (some ⟨w.heap.size, 2, none⟩), .int .i64 (a.s : Int), .pointer (some ⟨w.heap.size + 1, 2, none⟩), .int .i64 (b.s : Int), .int .i64 (m : Int), t12, t13, t14, t15, t16, t17, t18, t19, t20, t21, t22, t23, t24, t25, t26, t27, t28, t29, undef, undef, undef], defers := [] } ∧ (l0 = true → t21 = Value.pointer (some ⟨w.heap.size + 1, 1, none⟩)) ∧ (l1 = true → t22 = Value.string (decB b.n)) ∧ (l2 = true → t23 = Value.agg (arr (numF b.n))) ∧ (l3 = true → t24 = Value.int .i64 (m : Int)) ∧ (l4 = true → t25 = Value.pointer (some ⟨w.heap.size + 1, 2, none⟩)) ∧ (l5 = true → t26 = Value.int .i64 (b.s : Int)) ∧ (l6 = true → t27 = Value.int .i64 (q : Int)) ∧ (l7 = true → t28 = Value.agg (arr (numF gq))) ∧ (l8 = true → t29 = Value.agg (arr (numF Y))) ∧ (l9 = false → ASt w a b X 0 w') ∧ (l9 = true → ASt w a b X Y w')) (by kernel_rfl) (by kernel_rfl) ?rlen3 ?rdone3 ?rh03 ?rstep3
    case rlen3 => rintro ls a' w' ⟨l0, l1, l2, l3, l4, l5, l6, l7, l8, l9, t21, t22, t23, t24, t25, t26, t27, t28, t29, rfl, _⟩; rfl
    case rh03 => exact ⟨false, false, false, false, false, false, false, false, false, false, undef, undef, undef, undef, undef, undef, undef, undef, undef, rfl, rfl, by simp, by simp, by simp, by simp, by simp, by simp, by simp, by simp, by simp, fun _ => hC0, by simp⟩
    case rdone3 =>
      rintro ls a' w' ⟨l0, l1, l2, l3, l4, l5, l6, l7, l8, l9, t21, t22, t23, t24, t25, t26, t27, t28, t29, rfl, rfl, h21, h22, h23, h24, h25, h26, h27, h28, h29, hC, hP⟩ hl
      have hP := hP (by simpa using hl 9)
      clear h21 h22 h23 h24 h25 h26 h27 h28 h29 hl hC
      go_wp2
      have hC0 := hP.drew
      refine region_inv (fun ls a' w' => ∃ (l0 l1 l2 l3 l4 l5 : Bool) (t30 t31 t32 : Value), ls = [l0, l1, l2, l3, l4, l5] ∧ a' = { tmps := #[.agg #[.bool a.neg, .string (decB a.n), .int .i64 (a.s : Int)], .agg #[.bool b.neg, .string (decB b.n), .int .i64 (b.s : Int)], .pointer (some ⟨w.heap.size, 0, none⟩), .pointer (some ⟨w.heap.size + 1, 0, none⟩), .pointer (some ⟨w.heap.size + 2, 0, none⟩), .pointer (some ⟨w.heap.size + 3, 0, none⟩), .int .i64 (m : Int), .pointer (some ⟨w.heap.size, 2, none⟩), .int .i64 (a.s : Int), .pointer (some ⟨w.heap.size + 1, 2, none⟩), .int .i64 (b.s : Int), .int .i64 (m : Int), t12, t13, t14, t15, t16, t17, t18, t19, t20, t21, t22, t23, t24, t25, t26, t27, t28, t29, t30, t31, t32], defers := [] } ∧ (l0 = true → t30 = Value.agg (arr (numF X))) ∧ (l1 = true → t31 = Value.agg (arr (numF Y))) ∧ (l2 = true → t32 = Value.int .i64 (m : Int)) ∧ (ASt w a b X Y w')) (by kernel_rfl) (by kernel_rfl) ?rlen4 ?rdone4 ?rh04 ?rstep4
      case rlen4 => rintro ls a' w' ⟨l0, l1, l2, l3, l4, l5, t30, t31, t32, rfl, _⟩; rfl
      case rh04 => exact ⟨false, false, false, false, false, false, undef, undef, undef, rfl, rfl, by simp, by simp, by simp, hC0⟩
      case rdone4 =>
        rintro ls a' w' ⟨l0, l1, l2, l3, l4, l5, t30, t31, t32, rfl, rfl, h30, h31, h32, hC⟩ hl
        clear h30 h31 h32 hl
        go_wp2
        refine bodyPost_ret (v := .tuple #[.agg (arr (numF X)), .agg (arr (numF Y)), .int .i64 (m : Int)]) (results_rrs (by rfl) _ _ _ _ _ _ _ (by rfl) (by rfl) (by rfl) (run_loadVar_row _ _ _ _ _ _ _ hC.x underNum rfl (sizeNum _)) (run_loadVar_row _ _ _ _ _ _ _ hC.y underNum rfl (sizeNum _))) rfl ⟨rfl, hC.below⟩
      case rstep4 =>
        rintro i o ho ls a' w' ⟨l0, l1, l2, l3, l4, l5, t30, t31, t32, rfl, rfl, h30, h31, h32, hC⟩ hcl hu hd K hK
        rcases i with _ | _ | _ | _ | _ | _ | i <;> simp only [List.getElem?_cons_zero, List.getElem?_cons_succ, List.getElem?_nil, Option.some.injEq, reduceCtorEq] at ho
        all_goals subst ho
        · have hu : l0 = false := hu
          clear hcl
          rw [if_pos (by rfl)]
          refine wp_load_row _ _ rfl _ rfl _ _ _ _ hC.x underNum rfl (sizeNum _) ?_
          exact hK _ _ ⟨true, l1, l2, l3, l4, l5, _, t31, t32, rfl, rfl, fun _ => rfl, h31, h32, hC⟩
        · have hu : l1 = false := hu
          clear hcl
          rw [if_pos (by rfl)]
          refine wp_load_row _ _ rfl _ rfl _ _ _ _ hC.y underNum rfl (sizeNum _) ?_
          exact hK _ _ ⟨l0, true, l2, l3, l4, l5, t30, _, t32, rfl, rfl, h30, fun _ => rfl, h32, hC⟩
        · have hu : l2 = false := hu
          clear hcl
          go_simp
          exact hK _ _ ⟨l0, l1, true, l3, l4, l5, t30, t31, _, rfl, rfl, h30, h31, fun _ => rfl, hC⟩
        · have hu : l3 = false := hu
          clear hcl
          have y30 := h30 (hd 0 (by decide +kernel))
          subst y30
          rw [if_pos (by rfl)]
          refine wp_store_row _ _ _ rfl _ _ rfl rfl _ _ hC.x (sizeNum _) (by simp only [arr_size]) (arr_one _) ?_
          exact hK _ _ ⟨l0, l1, l2, true, l4, l5, _, t31, t32, rfl, rfl, fun _ => rfl, h31, h32, (hC.setx _)⟩
        · have hu : l4 = false := hu
          clear hcl
          have y31 := h31 (hd 1 (by decide +kernel))
          subst y31
          rw [if_pos (by rfl)]
          refine wp_store_row _ _ _ rfl _ _ rfl rfl _ _ hC.y (sizeNum _) (by simp only [arr_size]) (arr_one _) ?_
          exact hK _ _ ⟨l0, l1, l2, l3, true, l5, t30, _, t32, rfl, rfl, h30, fun _ => rfl, h32, (hC.sety _)⟩
        · have hu : l5 = false := hu
          clear hcl
          have y32 := h32 (hd 2 (by decide +kernel))
          subst y32
          go_simp
          exact hK _ _ ⟨l0, l1, l2, l3, l4, true, t30, t31, _, rfl, rfl, h30, h31, fun _ => rfl, hC⟩
    case rstep3 =>
      rintro i o ho ls a' w' ⟨l0, l1, l2, l3, l4, l5, l6, l7, l8, l9, t21, t22, t23, t24, t25, t26, t27, t28, t29, rfl, rfl, h21, h22, h23, h24, h25, h26, h27, h28, h29, hC, hP⟩ hcl hu hd K hK
      rcases i with _ | _ | _ | _ | _ | _ | _ | _ | _ | _ | i <;> simp only [List.getElem?_cons_zero, List.getElem?_cons_succ, List.getElem?_nil, Option.some.injEq, reduceCtorEq] at ho
      all_goals subst ho
      · have hu : l0 = false := hu
        have hls : l9 = false := Bool.eq_false_iff.2 fun e => by have h : l0 = true := hcl 9 _ rfl e 0 (by decide +kernel); rw [hu] at h; cases h
        subst hls
        have hC := hC rfl
        clear hcl
        go_simp
        exact hK _ _ ⟨true, l1, l2, l3, l4, l5, l6, l7, l8, false, _, t22, t23, t24, t25, t26, t27, t28, t29, rfl, rfl, fun _ => rfl, h22, h23, h24, h25, h26, h27, h28, h29, fun _ => hC, by simp⟩
      · have hu : l1 = false := hu
        have hls : l9 = false := Bool.eq_false_iff.2 fun e => by have h : l1 = true := hcl 9 _ rfl e 1 (by decide +kernel); rw [hu] at h; cases h
        subst hls
        have hC := hC rfl
        clear hcl
        have y21 := h21 (hd 0 (by decide +kernel))
        subst y21
        obtain ⟨c0, c1, c2, _, _, _⟩ := hC.b.three
        go_simp
        exact hK _ _ ⟨l0, true, l2, l3, l4, l5, l6, l7, l8, false, _, _, t23, t24, t25, t26, t27, t28, t29, rfl, rfl, fun _ => rfl, fun _ => rfl, h23, h24, h25, h26, h27, h28, h29, fun _ => hC, by simp⟩
      · have hu : l2 = false := hu
        have hls : l9 = false := Bool.eq_false_iff.2 fun e => by have h : l2 = true := hcl 9 _ rfl e 2 (by decide +kernel); rw [hu] at h; cases h
        subst hls
        have hC := hC rfl
        clear hcl
        have y22 := h22 (hd 1 (by decide +kernel))
        subst y22
        have hK5 := N2.out w'
        go_simp
        refine hK5.mono ?_
        rintro e w5 ⟨rfl, hb5⟩
        exact hK _ _ ⟨l0, l1, true, l3, l4, l5, l6, l7, l8, false, t21, _, _, t24, t25, t26, t27, t28, t29, rfl, rfl, h21, fun _ => rfl, fun _ => rfl, h24, h25, h26, h27, h28, h29, fun _ => (hC.step hb5), by simp⟩
      · have hu : l3 = false := hu
        have hls : l9 = false := Bool.eq_false_iff.2 fun e => by have h : l3 = true := hcl 9 _ rfl e 3 (by decide +kernel); rw [hu] at h; cases h
        subst hls
        have hC := hC rfl
        clear hcl
        go_simp
        exact hK _ _ ⟨l0, l1, l2, true, l4, l5, l6, l7, l8, false, t21, t22, t23, _, t25, t26, t27, t28, t29, rfl, rfl, h21, h22, h23, fun _ => rfl, h25, h26, h27, h28, h29, fun _ => hC, by simp⟩
      · have hu : l4 = false := hu
        have hls : l9 = false := Bool.eq_false_iff.2 fun e => by have h : l4 = true := hcl 9 _ rfl e 4 (by decide +kernel); rw [hu] at h; cases h
        subst hls
        have hC := hC rfl
        clear hcl
        go_simp
        exact hK _ _ ⟨l0, l1, l2, l3, true, l5, l6, l7, l8, false, t21, t22, t23, t24, _, t26, t27, t28, t29, rfl, rfl, h21, h22, h23, h24, fun _ => rfl, h26, h27, h28, h29, fun _ => hC, by simp⟩
      · have hu : l5 = false := hu
        have hls : l9 = false := Bool.eq_false_iff.2 fun e => by have h : l5 = true := hcl 9 _ rfl e 5 (by decide +kernel); rw [hu] at h; cases h
        subst hls
        have hC := hC rfl
        clear hcl
        have y25 := h25 (hd 4 (by decide +kernel))
        subst y25
        obtain ⟨c0, c1, c2, _, _, _⟩ := hC.b.three
        go_simp
        exact hK _ _ ⟨l0, l1, l2, l3, l4, true, l6, l7, l8, false, t21, t22, t23, t24, _, _, t27, t28, t29, rfl, rfl, h21, h22, h23, h24, fun _ => rfl, fun _ => rfl, h27, h28, h29, fun _ => hC, by simp⟩
      · have hu : l6 = false := hu
        have hls : l9 = false := Bool.eq_false_iff.2 fun e => by have h : l6 = true := hcl 9 _ rfl e 6 (by decide +kernel); rw [hu] at h; cases h
        subst hls
        have hC := hC rfl
        clear hcl
        have y24 := h24 (hd 3 (by decide +kernel))
        subst y24
        have y26 := h26 (hd 5 (by decide +kernel))
        subst y26
        go_simp
        exact hK _ _ ⟨l0, l1, l2, l3, l4, l5, true, l7, l8, false, t21, t22, t23, _, t25, _, _, t28, t29, rfl, rfl, h21, h22, h23, fun _ => rfl, h25, fun _ => rfl, fun _ => rfl, h28, h29, fun _ => hC, by simp⟩
      · have hu : l7 = false := hu
        have hls : l9 = false := Bool.eq_false_iff.2 fun e => by have h : l7 = true := hcl 9 _ rfl e 7 (by decide +kernel); rw [hu] at h; cases h
        subst hls
        have hC := hC rfl
        clear hcl
        have y27 := h27 (hd 6 (by decide +kernel))
        subst y27
        have hK5 := P2.out w'
        go_simp
        refine hK5.mono ?_
        rintro e w5 ⟨rfl, hb5⟩
        exact hK _ _ ⟨l0, l1, l2, l3, l4, l5, l6, true, l8, false, t21, t22, t23, t24, t25, t26, _, _, t29, rfl, rfl, h21, h22, h23, h24, h25, h26, fun _ => rfl, fun _ => rfl, h29, fun _ => (hC.step hb5), by simp⟩
      · have hu : l8 = false := hu
        have hls : l9 = false := Bool.eq_false_iff.2 fun e => by have h : l8 = true := hcl 9 _ rfl e 8 (by decide +kernel); rw [hu] at h; cases h
        subst hls
        have hC := hC rfl
        clear hcl
        have y23 := h23 (hd 2 (by decide +kernel))
        subst y23
        have y28 := h28 (hd 7 (by decide +kernel))
        subst y28
        have hK5 := T2.out w'
        go_simp
        refine hK5.mono ?_
        rintro e w5 ⟨rfl, hb5⟩
        exact hK _ _ ⟨l0, l1, l2, l3, l4, l5, l6, l7, true, false, t21, t22, _, t24, t25, t26, t27, _, _, rfl, rfl, h21, h22, fun _ => rfl, h24, h25, h26, h27, fun _ => rfl, fun _ => rfl, fun _ => (hC.step hb5), by simp⟩
      · have hu : l9 = false := hu
        subst hu
        have hC := hC rfl
        clear hcl
        have y29 := h29 (hd 8 (by decide +kernel))
        subst y29
        rw [if_pos (by rfl)]
        refine wp_store_row _ _ _ rfl _ _ rfl rfl _ _ hC.y (sizeNum _) (by simp only [arr_size]) (arr_one _) ?_
        exact hK _ _ ⟨l0, l1, l2, l3, l4, l5, l6, l7, l8, true, t21, t22, t23, t24, t25, t26, t27, t28, _, rfl, rfl, h21, h22, h23, h24, h25, h26, h27, h28, fun _ => rfl, by simp, fun _ => hC.sety Y⟩
  case rstep2 =>
    rintro i o ho ls a' w' ⟨l0, l1, l2, l3, l4, l5, l6, l7, l8, l9, t12, t13, t14, t15, t16, t17, t18, t19, t20, rfl, rfl, h12, h13, h14, h15, h16, h17, h18, h19, h20, hC, hP⟩ hcl hu hd K hK
    rcases i with _ | _ | _ | _ | _ | _ | _ | _ | _ | _ | i <;> simp only [List.getElem?_cons_zero, List.getElem?_cons_succ, List.getElem?_nil, Option.some.injEq, reduceCtorEq] at ho
    all_goals subst ho
    · have hu : l0 = false := hu
      have hls : l9 = false := Bool.eq_false_iff.2 fun e => by have h : l0 = true := hcl 9 _ rfl e 0 (by decide +kernel); rw [hu] at h; cases h
      subst hls
      have hC := hC rfl
      clear hcl
      go_simp
      exact hK _ _ ⟨true, l1, l2, l3, l4, l5, l6, l7, l8, false, _, t13, t14, t15, t16, t17, t18, t19, t20, rfl, rfl, fun _ => rfl, h13, h14, h15, h16, h17, h18, h19, h20, fun _ => hC, by simp⟩
    · have hu : l1 = false := hu
      have hls : l9 = false := Bool.eq_false_iff.2 fun e => by have h : l1 = true := hcl 9 _ rfl e 1 (by decide +kernel); rw [hu] at h; cases h
      subst hls
      have hC := hC rfl
      clear hcl
      have y12 := h12 (hd 0 (by decide +kernel))
      subst y12
      obtain ⟨c0, c1, c2, _, _, _⟩ := hC.a.three
      go_simp
      exact hK _ _ ⟨l0, true, l2, l3, l4, l5, l6, l7, l8, false, _, _, t14, t15, t16, t17, t18, t19, t20, rfl, rfl, fun _ => rfl, fun _ => rfl, h14, h15, h16, h17, h18, h19, h20, fun _ => hC, by simp⟩
    · have hu : l2 = false := hu
      have hls : l9 = false := Bool.eq_false_iff.2 fun e => by have h : l2 = true := hcl 9 _ rfl e 2 (by decide +kernel); rw [hu] at h; cases h
      subst hls
      have hC := hC rfl
      clear hcl
      have y13 := h13 (hd 1 (by decide +kernel))
      subst y13
      have hK5 := N1.out w'
      go_simp
      refine hK5.mono ?_
      rintro e w5 ⟨rfl, hb5⟩
      exact hK _ _ ⟨l0, l1, true, l3, l4, l5, l6, l7, l8, false, t12, _, _, t15, t16, t17, t18, t19, t20, rfl, rfl, h12, fun _ => rfl, fun _ => rfl, h15, h16, h17, h18, h19, h20, fun _ => (hC.step hb5), by simp⟩
    · have hu : l3 = false := hu
      have hls : l9 = false := Bool.eq_false_iff.2 fun e => by have h : l3 = true := hcl 9 _ rfl e 3 (by decide +kernel); rw [hu] at h; cases h
      subst hls
      have hC := hC rfl
      clear hcl
      go_simp
      exact hK _ _ ⟨l0, l1, l2, true, l4, l5, l6, l7, l8, false, t12, t13, t14, _, t16, t17, t18, t19, t20, rfl, rfl, h12, h13, h14, fun _ => rfl, h16, h17, h18, h19, h20, fun _ => hC, by simp⟩
    · have hu : l4 = false := hu
      have hls : l9 = false := Bool.eq_false_iff.2 fun e => by have h : l4 = true := hcl 9 _ rfl e 4 (by decide +kernel); rw [hu] at h; cases h
      subst hls
      have hC := hC rfl
      clear hcl
      go_simp
      exact hK _ _ ⟨l0, l1, l2, l3, true, l5, l6, l7, l8, false, t12, t13, t14, t15, _, t17, t18, t19, t20, rfl, rfl, h12, h13, h14, h15, fun _ => rfl, h17, h18, h19, h20, fun _ => hC, by simp⟩
    · have hu : l5 = false := hu
      have hls : l9 = false := Bool.eq_false_iff.2 fun e => by have h : l5 = true := hcl 9 _ rfl e 5 (by decide +kernel); rw [hu] at h; cases h
      subst hls
      have hC := hC rfl
      clear hcl
      have y16 := h16 (hd 4 (by decide +kernel))
      subst y16
      obtain ⟨c0, c1, c2, _, _, _⟩ := hC.a.three
      go_simp
      exact hK _ _ ⟨l0, l1, l2, l3, l4, true, l6, l7, l8, false, t12, t13, t14, t15, _, _, t18, t19, t20, rfl, rfl, h12, h13, h14, h15, fun _ => rfl, fun _ => rfl, h18, h19, h20, fun _ => hC, by simp⟩
    · have hu : l6 = false := hu
      have hls : l9 = false := Bool.eq_false_iff.2 fun e => by have h : l6 = true := hcl 9 _ rfl e 6 (by decide +kernel); rw [hu] at h; cases h
      subst hls
      have hC := hC rfl
      clear hcl
      have y15 := h15 (hd 3 (by decide +kernel))
      subst y15
      have y17 := h17 (hd 5 (by decide +kernel))
      subst y17
      go_simp
      exact hK _ _ ⟨l0, l1, l2, l3, l4, l5, true, l7, l8, false, t12, t13, t14, _, t16, _, _, t19, t20, rfl, rfl, h12, h13, h14, fun _ => rfl, h16, fun _ => rfl, fun _ => rfl, h19, h20, fun _ => hC, by simp⟩
    · have hu : l7 = false := hu
      have hls : l9 = false := Bool.eq_false_iff.2 fun e => by have h : l7 = true := hcl 9 _ rfl e 7 (by decide +kernel); rw [hu] at h; cases h
      subst hls
      have hC := hC rfl
      clear hcl
      have y18 := h18 (hd 6 (by decide +kernel))
      subst y18
      have hK5 := P1.out w'
      go_simp
      refine hK5.mono ?_
      rintro e w5 ⟨rfl, hb5⟩
      exact hK _ _ ⟨l0, l1, l2, l3, l4, l5, l6, true, l8, false, t12, t13, t14, t15, t16, t17, _, _, t20, rfl, rfl, h12, h13, h14, h15, h16, h17, fun _ => rfl, fun _ => rfl, h20, fun _ => (hC.step hb5), by simp⟩
    · have hu : l8 = false := hu
      have hls : l9 = false := Bool.eq_false_iff.2 fun e => by have h : l8 = true := hcl 9 _ rfl e 8 (by decide +kernel); rw [hu] at h; cases h
      subst hls
      have hC := hC rfl
      clear hcl
      have y14 := h14 (hd 2 (by decide +kernel))
      subst y14
      have y19 := h19 (hd 7 (by decide +kernel))
      subst y19
      have hK5 := T1.out w'
      go_simp
      refine hK5.mono ?_
      rintro e w5 ⟨rfl, hb5⟩
      exact hK _ _ ⟨l0, l1, l2, l3, l4, l5, l6, l7, true, false, t12, t13, _, t15, t16, t17, t18, _, _, rfl, rfl, h12, h13, fun _ => rfl, h15, h16, h17, h18, fun _ => rfl, fun _ => rfl, fun _ => (hC.step hb5), by simp⟩
    · have hu : l9 = false := hu
      subst hu
      have hC := hC rfl
      clear hcl
      have y20 := h20 (hd 8 (by decide +kernel))
      subst y20
      rw [if_pos (by rfl)]
      refine wp_store_row _ _ _ rfl _ _ rfl rfl _ _ hC.x (sizeNum _) (by simp only [arr_size]) (arr_one _) ?_
      exact hK _ _ ⟨l0, l1, l2, l3, l4, l5, l6, l7, l8, true, t12, t13, t14, t15, t16, t17, t18, t19, _, rfl, rfl, h12, h13, h14, h15, h16, h17, h18, h19, fun _ => rfl, by simp, fun _ => hC.setx X⟩
end Dc
end Go.Proofs.YthnpbkplcboejaaDoor
