/- The reference of names: putName, putSpace. -/
import Derived.Test.YtohlhihhadbphaaGreatDoorRe
set_option linter.unusedSimpArgs false
set_option linter.unusedVariables false
namespace Go.Proofs.YtohlhihhadbphaaGreatDoor
open Go.RowKit Go.Shelf Go.Lib Go.Maps
namespace Np
theorem cut_addr1 {a : Option Addr} {c k n : Nat} (hk : k < n) (hc : n ≤ c) : ∀ b o, a = some ⟨b, o, none⟩ → (if c = k then a else a.map fun x => x.add k) = some ⟨b, o + k * 1, none⟩ := by
  have h := cut_addr (sz := 1) (a := a) hk hc
  simp only [Nat.mul_one] at h ⊢
  exact h
set_option maxRecDepth 100000 in
set_option maxHeartbeats 2000000 in
theorem putName_any (A : Nat → Prop) (a : Option Addr) (c : Nat) (l : List Name) (n : Name) (w : World) (hr : RwN A w a l) (hA : ∀ b, A b → b < w.heap.size) (hlc : l.length ≤ c) (hcm : c ≤ maxLen) (hl1 : l.length + 1 ≤ 1000000) :
    Calls Tryz.prog 113 #[.slice a l.length c, n.val] w (RetRow 2 encN A w (put cmpN n l)) := by
  unfold Name.val
  obtain ⟨W1, hW1⟩ : ∃ W1, w.alloc (.cells #[.string n.sp, .string n.lc] 23) = W1 := ⟨_, rfl⟩
  have hb1 : Below w.heap.size w W1 := by rw [← hW1]; exact (Below.refl _ w).alloc (Nat.le_refl _) _
  have BN : Blk W1 w.heap.size #[.string n.sp, .string n.lc] 23 := by rw [← hW1]; exact Blk.new _ _ _
  have hs1 : w.heap.size < W1.heap.size := BN.lt
  have hr1 := hr.later hA hb1
  unfold maxLen at hcm
  have Hcm := Lib.hid hcm
  obtain ⟨i0, hi0, hz0, hz1, hz2⟩ := info_parts infoN
  go_enter Tryz.func113, Tryz.ntmps113
  go_wp2
  go_loopw [5] (fun i wr => ∃ k : Nat, k ≤ l.length ∧ i = .int .i64 k ∧ Hid (∀ j (h : j < l.length), j < k → cmpN l[j] n < 0) ∧ Below W1.heap.size W1 wr) (fun i _ => l.length - (intOf i).toNat)
  case atStart => exact ⟨0, by omega, rfl, Lib.hid (fun j _ h => by omega), Below.refl _ _⟩
  case round =>
    obtain ⟨k, hk, rfl, HI, hb⟩ := hrel
    try clear hW1
    have BN2 : Blk wr w.heap.size #[.string n.sp, .string n.lc] 23 := (hb.block _ hs1).trans BN
    have n0 := BN2.cell 0
    have n1 := BN2.cell 1
    simp only [List.getElem?_toArray, List.getElem?_cons_zero, List.getElem?_cons_succ] at n0 n1
    have hbs := hb.size
    have hrw := hr1.later (fun b hb' => Nat.lt_of_lt_of_le (hA b hb') hb1.size) hb
    by_cases hlt : k < l.length
    · have d1 : decide ((k : Int) < (l.length : Int)) = true := decide_eq_true (by omega)
      have d2 : decide (k < l.length) = true := decide_eq_true hlt
      obtain ⟨b, o, hao, hbA, u0, u1⟩ := rwN_at hrw hlt
      obtain ⟨x, hx⟩ : ∃ x, l[k] = x := ⟨_, rfl⟩
      rw [hx] at u0 u1
      have eN := eqN x n
      have gN := fun op y z => guardN op y z x n
      obtain ⟨b1, hb1'⟩ : ∃ b, decide (x = n) = b := ⟨_, rfl⟩
      rw [hb1'] at eN
      have Hb1 := Lib.hid hb1'
      have hL := rLess_any x n wr.drew
      unfold Name.val at hL
      obtain ⟨b2, hb2'⟩ : ∃ b, decide (cmpN x n < 0) = b := ⟨_, rfl⟩
      rw [hb2'] at hL
      have Hb2 := Lib.hid hb2'
      have Hx := Lib.hid hx
      have Hao := Lib.hid hao
      subst hao
      clear hx hb1' hb2'
      cases b2
      · go_wp2
        go_region_with (go_at_call 14; refine hL.mono ?_; rintro e w5 ⟨rfl, hb2⟩)
        all_goals
          have hb4 : Below wr.heap.size wr w5 := (below_dr wr).trans hb2
          have hb5 : Below W1.heap.size W1 w5 := hb.trans (hb4.mono hbs)
          have hbs5 := hb5.size
          have hrw5 := hr1.later (fun b hb' => Nat.lt_of_lt_of_le (hA b hb') hb1.size) hb5
          have BN5 : Blk w5 w.heap.size #[.string n.sp, .string n.lc] 23 := (hb5.block _ hs1).trans BN
          clear n0 n1 u0 u1
          obtain ⟨b', o', hao', hbA', u0, u1⟩ := rwN_at hrw5 hlt
          rw [Hx.out] at u0 u1
          obtain ⟨rfl, rfl⟩ : b = b' ∧ o = o' := by injection hao' with h; injection h with h1 h2; exact ⟨h1, h2⟩
          have n0 := BN5.cell 0
          have n1 := BN5.cell 1
          simp only [List.getElem?_toArray, List.getElem?_cons_zero, List.getElem?_cons_succ] at n0 n1
          clear hao' hL
          cases b1
          · have Hput : Hid (put cmpN n l = (l.take k ++ [n]) ++ l.drop k) := Lib.hid (put_new l k hk HI.out (fun h => by
              rw [Hx.out]
              exact ⟨of_decide_eq_false Hb2.out, fun h0 => of_decide_eq_false Hb1.out (linN.eq h0)⟩))
            go_wp2
            go_quiet (fail)
            have hkc : k ≤ c := by omega
            have hAw : ∀ b, A b → b < w5.heap.size := fun b hb' => by have := hA b hb'; omega
            have hlt1 : (l.take k).length = k := by rw [List.length_take]; omega
            go_wp2_with (first
              | (at_builtin; refine wpList_app encN_len encN_one rfl (.tmp 34) (.tmp 37) 39 rfl w5.heap.size 23 i0 (.agg #[.string ⟨#[]⟩, .string ⟨#[]⟩]) 32 Tryz.underlying39 hi0 hz0 hz1 hz2 rfl (by decide) (by decide) (.slice (some ⟨w5.heap.size, 0, none⟩) 0 0) rfl rfl [] (l.take k) hlt1 (owns_empty _ _ _ (Nat.le_refl _)) ((hrw5.take k).keep (fun _ h => h) (fun b hb' => ((below_drewN (Below.refl w5.heap.size w5) _).alloc (by simp) _).block b (hAw b hb'))) (by rw [hlt1]; simp; omega) (by simp) ?_; intro v1 w1 hown1 hg1 hat1; have hbw1 : Below w5.heap.size w5 w1 := ((below_drewN (Below.refl w5.heap.size w5) _).alloc (by simp) _).grown hg1 (by simp) (fun _ hg => empty_lt hg); have BN3 := BN5.below hbw1; have n0 := BN3.cell 0; have n1 := BN3.cell 1; simp only [List.getElem?_toArray, List.getElem?_cons_zero, List.getElem?_cons_succ] at n0 n1)
              | (at_builtin; refine wpList_app encN_len encN_one rfl (.tmp 39) (.tmp 41) 39 rfl w5.heap.size 23 i0 (.agg #[.string ⟨#[]⟩, .string ⟨#[]⟩]) 32 Tryz.underlying39 hi0 hz0 hz1 hz2 rfl (by decide) (by decide) v1 rfl rfl ([] ++ l.take k) [n] rfl (hown1.alloc _) (Rw.one n w1 _) (by simp; omega) (by have := hbw1.size; simp; omega) ?_; intro v2 w2 hown2 hg2 hat2; have hbw2 : Below w5.heap.size w5 w2 := (hbw1.alloc hbw1.size _).grown hg2 (by have := hbw1.size; simp; omega) (own_lt hown1))
              | (at_builtin; refine wpList_app encN_len encN_one rfl (.tmp 43) (.tmp 46) 39 rfl w5.heap.size 23 i0 (.agg #[.string ⟨#[]⟩, .string ⟨#[]⟩]) 32 Tryz.underlying39 hi0 hz0 hz1 hz2 rfl (by decide) (by decide) v2 rfl rfl ([] ++ l.take k ++ [n]) (l.drop k) List.length_drop hown2 ((hrw5.drop k (fun hkl => by first | exact cut_addr hkl hlc | exact cut_addr1 hkl hlc | (intro b' o' e; injection e with e; injection e with e1 e2; subst e1; subst e2; first | rfl | simp))).keep (fun _ h => h) (fun b hb' => hbw2.block b (hAw b hb'))) (by simp; omega) hbw2.size ?_; intro v3 w3 hown3 hg3 hat3; have hbw3 : Below w5.heap.size w5 w3 := hbw2.grown hg3 hbw2.size (own_lt hown2)))
            all_goals
              go_ret
              have HL : Hid (put cmpN n l = [] ++ l.take k ++ [n] ++ l.drop k) := Lib.hid (by rw [List.nil_append]; exact Hput.out)
              rw [HL.out]
              obtain ⟨a3, c3, rfl, q1, q2, q3⟩ := Rw.of_own encN_len (by simp; omega) hown3
              exact ⟨a3, c3, rfl, ⟨q1, q2, q3.keep (fun b hb' => .inr ⟨by omega, hb'.2⟩) (fun _ _ => rfl)⟩, hb1.trans ((hb5.trans (hbw3.mono hbs5)).mono (by omega))⟩
              
          · have Hput : Hid (put cmpN n l = l) := Lib.hid (put_in l k hlt HI.out (by rw [Hx.out, of_decide_eq_true Hb1.out]; exact linN.self _))
            go_wp2
            go_quiet (fail)
            go_wp2
            go_ret
            rw [Hput.out]
            exact ⟨_, _, rfl, ⟨hlc, Hcm.out, hrw5.keep (fun b h => .inl h) (fun _ _ => rfl)⟩, hb1.trans ((below_drewN hb5 _).mono (by omega))⟩
      · have H2 : Hid (∀ j (h : j < l.length), j < k + 1 → cmpN l[j] n < 0) := Lib.hid (fun j h hj => by
          by_cases e : j = k
          · subst e; rw [Hx.out]; exact of_decide_eq_true Hb2.out
          · exact HI.out j h (by omega))
        go_wp2
        go_region_with (go_at_call 14; refine hL.mono ?_; rintro e w2 ⟨rfl, hb2⟩)
        all_goals
          have hb3 : Below W1.heap.size W1 w2 := hb.trans (((below_dr wr).trans hb2).mono hbs)
          go_wp2
          go_roundw
          case rel =>
            first
              | exact ⟨k + 1, by omega, by go_num, H2, hb3⟩
              | ((repeat apply Exists.intro); exact ⟨⟨k + 1, by omega, by go_num, H2, hb3⟩, rfl⟩)
          case measure =>
            have e3 : ((k : Int) + 1).toNat = k + 1 := by omega
            simp only [intOf, e3, Int.toNat_natCast]
            omega
    · have d1 : decide ((k : Int) < (l.length : Int)) = false := decide_eq_false (by omega)
      have d2 : decide (k < l.length) = false := decide_eq_false hlt
      have Hput : Hid (put cmpN n l = (l.take k ++ [n]) ++ l.drop k) := Lib.hid (put_new l k hk HI.out (fun h => absurd h hlt))
      go_wp2
      go_quiet (fail)
      go_wp2
      go_quiet (fail)
      have hkc : k ≤ c := by omega
      have hAw : ∀ b, A b → b < wr.heap.size := fun b hb' => by have := hA b hb'; omega
      have hlt1 : (l.take k).length = k := by rw [List.length_take]; omega
      go_wp2_with (first
        | (at_builtin; refine wpList_app encN_len encN_one rfl (.tmp 34) (.tmp 37) 39 rfl wr.heap.size 23 i0 (.agg #[.string ⟨#[]⟩, .string ⟨#[]⟩]) 32 Tryz.underlying39 hi0 hz0 hz1 hz2 rfl (by decide) (by decide) (.slice (some ⟨wr.heap.size, 0, none⟩) 0 0) rfl rfl [] (l.take k) hlt1 (owns_empty _ _ _ (Nat.le_refl _)) ((hrw.take k).keep (fun _ h => h) (fun b hb' => ((below_drewN (Below.refl wr.heap.size wr) _).alloc (by simp) _).block b (hAw b hb'))) (by rw [hlt1]; simp; omega) (by simp) ?_; intro v1 w1 hown1 hg1 hat1; have hbw1 : Below wr.heap.size wr w1 := ((below_drewN (Below.refl wr.heap.size wr) _).alloc (by simp) _).grown hg1 (by simp) (fun _ hg => empty_lt hg); have BN3 := BN2.below hbw1; have n0 := BN3.cell 0; have n1 := BN3.cell 1; simp only [List.getElem?_toArray, List.getElem?_cons_zero, List.getElem?_cons_succ] at n0 n1)
        | (at_builtin; refine wpList_app encN_len encN_one rfl (.tmp 39) (.tmp 41) 39 rfl wr.heap.size 23 i0 (.agg #[.string ⟨#[]⟩, .string ⟨#[]⟩]) 32 Tryz.underlying39 hi0 hz0 hz1 hz2 rfl (by decide) (by decide) v1 rfl rfl ([] ++ l.take k) [n] rfl (hown1.alloc _) (Rw.one n w1 _) (by simp; omega) (by have := hbw1.size; simp; omega) ?_; intro v2 w2 hown2 hg2 hat2; have hbw2 : Below wr.heap.size wr w2 := (hbw1.alloc hbw1.size _).grown hg2 (by have := hbw1.size; simp; omega) (own_lt hown1))
        | (at_builtin; refine wpList_app encN_len encN_one rfl (.tmp 43) (.tmp 46) 39 rfl wr.heap.size 23 i0 (.agg #[.string ⟨#[]⟩, .string ⟨#[]⟩]) 32 Tryz.underlying39 hi0 hz0 hz1 hz2 rfl (by decide) (by decide) v2 rfl rfl ([] ++ l.take k ++ [n]) (l.drop k) List.length_drop hown2 ((hrw.drop k (fun hkl => by first | exact cut_addr hkl hlc | exact cut_addr1 hkl hlc | (intro b' o' e; injection e with e; injection e with e1 e2; subst e1; subst e2; first | rfl | simp))).keep (fun _ h => h) (fun b hb' => hbw2.block b (hAw b hb'))) (by simp; omega) hbw2.size ?_; intro v3 w3 hown3 hg3 hat3; have hbw3 : Below wr.heap.size wr w3 := hbw2.grown hg3 hbw2.size (own_lt hown2)))
      all_goals
        go_ret
        have HL : Hid (put cmpN n l = [] ++ l.take k ++ [n] ++ l.drop k) := Lib.hid (by rw [List.nil_append]; exact Hput.out)
        rw [HL.out]
        obtain ⟨a3, c3, rfl, q1, q2, q3⟩ := Rw.of_own encN_len (by simp; omega) hown3
        exact ⟨a3, c3, rfl, ⟨q1, q2, q3.keep (fun b hb' => .inr ⟨by omega, hb'.2⟩) (fun _ _ => rfl)⟩, hb1.trans ((hb.trans (hbw3.mono hbs)).mono (by omega))⟩
        
theorem infoS : (Tryz.prog.info? 9).map (fun i => (i.zero, i.size, i.bytes)) = some (some (.string ⟨#[]⟩), 1, 16) := by kernel_rfl
set_option maxRecDepth 100000 in
set_option maxHeartbeats 2000000 in
theorem putSpace_any (A : Nat → Prop) (a : Option Addr) (c : Nat) (l : List ByteArray) (n : ByteArray) (w : World) (hr : RwS A w a l) (hA : ∀ b, A b → b < w.heap.size) (hlc : l.length ≤ c) (hcm : c ≤ maxLen) (hl1 : l.length + 1 ≤ 1000000) :
    Calls Tryz.prog 114 #[.slice a l.length c, .string n] w (RetRow 1 encS A w (put cmpS n l)) := by
  unfold maxLen at hcm
  have Hcm := Lib.hid hcm
  obtain ⟨i0, hi0, hz0, hz1, hz2⟩ := info_parts infoS
  go_enter Tryz.func114, Tryz.ntmps114
  go_wp2
  go_loopw [5] (fun i wr => ∃ k : Nat, k ≤ l.length ∧ i = .int .i64 k ∧ Hid (∀ j (h : j < l.length), j < k → cmpS l[j] n < 0) ∧ Below w.heap.size w wr) (fun i _ => l.length - (intOf i).toNat)
  case atStart => exact ⟨0, by omega, rfl, Lib.hid (fun j _ h => by omega), Below.refl _ _⟩
  case round =>
    obtain ⟨k, hk, rfl, HI, hb⟩ := hrel
    have hbs := hb.size
    have hrw := hr.later hA hb
    by_cases hlt : k < l.length
    · have d1 : decide ((k : Int) < (l.length : Int)) = true := decide_eq_true (by omega)
      have d2 : decide (k < l.length) = true := decide_eq_true hlt
      obtain ⟨b, o, hao, hbA, u0⟩ := rwS_at hrw hlt
      obtain ⟨x, hx⟩ : ∃ x, l[k] = x := ⟨_, rfl⟩
      rw [hx] at u0
      have e1 : (x.toList == n.toList) = decide (x = n) := by rw [Bool.eq_iff_iff]; simp only [beq_iff_eq, decide_eq_true_eq, ba_inj]
      have e2 : Op.bytesLess x.toList n.toList = decide (cmpS x n < 0) := by rw [Bool.eq_iff_iff, bl_lt, decide_eq_true_iff, toL, toL]; exact cb_lt.symm
      obtain ⟨b1, hb1'⟩ : ∃ b, decide (x = n) = b := ⟨_, rfl⟩
      rw [hb1'] at e1
      have Hb1 := Lib.hid hb1'
      obtain ⟨b2, hb2'⟩ : ∃ b, decide (cmpS x n < 0) = b := ⟨_, rfl⟩
      rw [hb2'] at e2
      have Hb2 := Lib.hid hb2'
      have Hx := Lib.hid hx
      subst hao
      clear hx hb1' hb2'
      cases b2
      · cases b1
        · have Hput : Hid (put cmpS n l = (l.take k ++ [n]) ++ l.drop k) := Lib.hid (put_new l k hk HI.out (fun h => by
            rw [Hx.out]
            exact ⟨of_decide_eq_false Hb2.out, fun h0 => of_decide_eq_false Hb1.out (linS.eq h0)⟩))
          have hkc : k ≤ c := by omega
          have hAw : ∀ b, A b → b < wr.heap.size := fun b hb' => by have := hA b hb'; omega
          have hlt1 : (l.take k).length = k := by rw [List.length_take]; omega
          go_wp2_with (first
            | (at_builtin; refine wpList_app encS_len encS_one rfl (.tmp 34) (.tmp 37) 101 rfl wr.heap.size 9 i0 (.string ⟨#[]⟩) 16 Tryz.underlying101 hi0 hz0 hz1 hz2 rfl (by decide) (by decide) (.slice (some ⟨wr.heap.size, 0, none⟩) 0 0) rfl rfl [] (l.take k) hlt1 (owns_empty _ _ _ (Nat.le_refl _)) ((hrw.take k).keep (fun _ h => h) (fun b hb' => ((Below.refl wr.heap.size wr).alloc (by simp) _).block b (hAw b hb'))) (by rw [hlt1]; simp; omega) (by simp) ?_; intro v1 w1 hown1 hg1 hat1; have hbw1 : Below wr.heap.size wr w1 := ((Below.refl wr.heap.size wr).alloc (by simp) _).grown hg1 (by simp) (fun _ hg => empty_lt hg))
            | (at_builtin; refine wpList_app encS_len encS_one rfl (.tmp 39) (.tmp 41) 101 rfl wr.heap.size 9 i0 (.string ⟨#[]⟩) 16 Tryz.underlying101 hi0 hz0 hz1 hz2 rfl (by decide) (by decide) v1 rfl rfl ([] ++ l.take k) [n] rfl (hown1.alloc _) (Rw.one n w1 _) (by simp; omega) (by have := hbw1.size; simp; omega) ?_; intro v2 w2 hown2 hg2 hat2; have hbw2 : Below wr.heap.size wr w2 := (hbw1.alloc hbw1.size _).grown hg2 (by have := hbw1.size; simp; omega) (own_lt hown1))
            | (at_builtin; refine wpList_app encS_len encS_one rfl (.tmp 43) (.tmp 46) 101 rfl wr.heap.size 9 i0 (.string ⟨#[]⟩) 16 Tryz.underlying101 hi0 hz0 hz1 hz2 rfl (by decide) (by decide) v2 rfl rfl ([] ++ l.take k ++ [n]) (l.drop k) List.length_drop hown2 ((hrw.drop k (fun hkl => by first | exact cut_addr hkl hlc | exact cut_addr1 hkl hlc | (intro b' o' e; injection e with e; injection e with e1 e2; subst e1; subst e2; first | rfl | simp))).keep (fun _ h => h) (fun b hb' => hbw2.block b (hAw b hb'))) (by simp; omega) hbw2.size ?_; intro v3 w3 hown3 hg3 hat3; have hbw3 : Below wr.heap.size wr w3 := hbw2.grown hg3 hbw2.size (own_lt hown2)))
          all_goals
            go_ret
            have HL : Hid (put cmpS n l = [] ++ l.take k ++ [n] ++ l.drop k) := Lib.hid (by rw [List.nil_append]; exact Hput.out)
            rw [HL.out]
            obtain ⟨a3, c3, rfl, q1, q2, q3⟩ := Rw.of_own encS_len (by simp; omega) hown3
            exact ⟨a3, c3, rfl, ⟨q1, q2, q3.keep (fun b hb' => .inr ⟨by omega, hb'.2⟩) (fun _ _ => rfl)⟩, hb.trans (hbw3.mono hbs)⟩
            
        · have Hput : Hid (put cmpS n l = l) := Lib.hid (put_in l k hlt HI.out (by rw [Hx.out, of_decide_eq_true Hb1.out]; exact linS.self _))
          go_wp2
          go_ret
          rw [Hput.out]
          exact ⟨_, _, rfl, ⟨hlc, Hcm.out, hrw.keep (fun b h => .inl h) (fun _ _ => rfl)⟩, hb⟩
      · have H2 : Hid (∀ j (h : j < l.length), j < k + 1 → cmpS l[j] n < 0) := Lib.hid (fun j h hj => by
          by_cases e : j = k
          · subst e; rw [Hx.out]; exact of_decide_eq_true Hb2.out
          · exact HI.out j h (by omega))
        go_wp2
        go_roundw
        case rel =>
          first
            | exact ⟨k + 1, by omega, by go_num, H2, hb⟩
            | ((repeat apply Exists.intro); exact ⟨⟨k + 1, by omega, by go_num, H2, hb⟩, rfl⟩)
        case measure =>
          have e3 : ((k : Int) + 1).toNat = k + 1 := by omega
          simp only [intOf, e3, Int.toNat_natCast]
          omega
    · have d1 : decide ((k : Int) < (l.length : Int)) = false := decide_eq_false (by omega)
      have d2 : decide (k < l.length) = false := decide_eq_false hlt
      have Hput : Hid (put cmpS n l = (l.take k ++ [n]) ++ l.drop k) := Lib.hid (put_new l k hk HI.out (fun h => absurd h hlt))
      have hkc : k ≤ c := by omega
      have hAw : ∀ b, A b → b < wr.heap.size := fun b hb' => by have := hA b hb'; omega
      have hlt1 : (l.take k).length = k := by rw [List.length_take]; omega
      go_wp2_with (first
        | (at_builtin; refine wpList_app encS_len encS_one rfl (.tmp 34) (.tmp 37) 101 rfl wr.heap.size 9 i0 (.string ⟨#[]⟩) 16 Tryz.underlying101 hi0 hz0 hz1 hz2 rfl (by decide) (by decide) (.slice (some ⟨wr.heap.size, 0, none⟩) 0 0) rfl rfl [] (l.take k) hlt1 (owns_empty _ _ _ (Nat.le_refl _)) ((hrw.take k).keep (fun _ h => h) (fun b hb' => ((Below.refl wr.heap.size wr).alloc (by simp) _).block b (hAw b hb'))) (by rw [hlt1]; simp; omega) (by simp) ?_; intro v1 w1 hown1 hg1 hat1; have hbw1 : Below wr.heap.size wr w1 := ((Below.refl wr.heap.size wr).alloc (by simp) _).grown hg1 (by simp) (fun _ hg => empty_lt hg))
        | (at_builtin; refine wpList_app encS_len encS_one rfl (.tmp 39) (.tmp 41) 101 rfl wr.heap.size 9 i0 (.string ⟨#[]⟩) 16 Tryz.underlying101 hi0 hz0 hz1 hz2 rfl (by decide) (by decide) v1 rfl rfl ([] ++ l.take k) [n] rfl (hown1.alloc _) (Rw.one n w1 _) (by simp; omega) (by have := hbw1.size; simp; omega) ?_; intro v2 w2 hown2 hg2 hat2; have hbw2 : Below wr.heap.size wr w2 := (hbw1.alloc hbw1.size _).grown hg2 (by have := hbw1.size; simp; omega) (own_lt hown1))
        | (at_builtin; refine wpList_app encS_len encS_one rfl (.tmp 43) (.tmp 46) 101 rfl wr.heap.size 9 i0 (.string ⟨#[]⟩) 16 Tryz.underlying101 hi0 hz0 hz1 hz2 rfl (by decide) (by decide) v2 rfl rfl ([] ++ l.take k ++ [n]) (l.drop k) List.length_drop hown2 ((hrw.drop k (fun hkl => by first | exact cut_addr hkl hlc | exact cut_addr1 hkl hlc | (intro b' o' e; injection e with e; injection e with e1 e2; subst e1; subst e2; first | rfl | simp))).keep (fun _ h => h) (fun b hb' => hbw2.block b (hAw b hb'))) (by simp; omega) hbw2.size ?_; intro v3 w3 hown3 hg3 hat3; have hbw3 : Below wr.heap.size wr w3 := hbw2.grown hg3 hbw2.size (own_lt hown2)))
      all_goals
        go_ret
        have HL : Hid (put cmpS n l = [] ++ l.take k ++ [n] ++ l.drop k) := Lib.hid (by rw [List.nil_append]; exact Hput.out)
        rw [HL.out]
        obtain ⟨a3, c3, rfl, q1, q2, q3⟩ := Rw.of_own encS_len (by simp; omega) hown3
        exact ⟨a3, c3, rfl, ⟨q1, q2, q3.keep (fun b hb' => .inr ⟨by omega, hb'.2⟩) (fun _ _ => rfl)⟩, hb.trans (hbw3.mono hbs)⟩
        
end Np
end Go.Proofs.YtohlhihhadbphaaGreatDoor
