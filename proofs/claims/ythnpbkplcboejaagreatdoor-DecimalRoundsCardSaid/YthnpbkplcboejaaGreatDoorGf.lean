/- Decimal, the reference: Round. -/
import Derived.Test.YthnpbkplcboejaaGreatDoorGe
set_option linter.unusedSimpArgs false
set_option linter.unusedVariables false
namespace Go.Proofs.YthnpbkplcboejaaGreatDoor
open Go.RowKit Go.Shelf Go.Lib Go.Sort
namespace Dc
set_option maxRecDepth 100000 in
set_option maxHeartbeats 8000000 in
theorem rRound_ok (a : V) (ha : a.ok) (sc : Nat) (hsc : sc ≤ 60) (hle : ¬ a.s ≤ sc) (w : World) :
    Calls Tryz.prog 28 #[a.d.val, .int .i64 (sc : Int)] w fun e w' => e = .returned (roundS a sc).val ∧ RowKit.Below w.heap.size w w' := by
  have hla := ha.len
  have hC1 := fun W => rCheck_any a.d (by show (decB a.n).size ≤ _; unfold maxLen; omega) W
  rw [V.check ha, if_pos rfl, V.d_val] at hC1
  have gle : decide ((a.s : Int) ≤ (sc : Int)) = false := decide_eq_false (by omega)
  have gleN : decide (a.s ≤ sc) = false := decide_eq_false hle
  have has := ha.s
  obtain ⟨k, hk⟩ : ∃ k, a.s - sc = k := ⟨_, rfl⟩
  have hk60 : k ≤ 60 := by omega
  have hkI : (a.s : Int) - (sc : Int) = (k : Int) := by omega
  have hZ := fun W => rzeros_any k (by omega) W
  have hzs := zs_size k
  have hzl := zs_list k
  obtain ⟨z, hz⟩ : ∃ z, zs k = z := ⟨_, rfl⟩
  rw [hz] at hZ hzs hzl
  obtain ⟨u, hu⟩ : ∃ u : ByteArray, ⟨#[49]⟩ ++ z = u := ⟨_, rfl⟩
  have hul : u.data.toList = [49] ++ List.replicate k 48 := by rw [← hu, app_list', hzl]
  have hun : u.size = 1 + k := by rw [← size_list', hul, List.length_append, List.length_replicate]; rfl
  have hud : digs u.data.toList = true := by rw [hul, digs_append, digs_zeros]; rfl
  have huv : dv u.data.toList = 10 ^ k := by rw [hul, dv_trail]; show 1 * _ = _; rw [Nat.one_mul]
  have hue : u = decB (10 ^ k) := bytes_eq (by
    have := (eq_dec _ u.data.toList rfl hud (by rw [hul]; simp) (by rw [hul]; simp)).1
    rw [huv] at this
    exact this)
  have hcat : ¬ 9223372036854775807 < 1 + z.size := by omega
  have hP0 : 0 < 10 ^ k := Nat.pow_pos (by decide)
  have hOv := fun W => rover_any (decB a.n) u (decB_digs _) hud (decB_pos _) (by omega) (by omega) (by omega) (by rw [huv]; exact hP0) W
  rw [huv, decB_dv] at hOv
  have hQ : a.n / 10 ^ k < 10 ^ 60 := Nat.lt_of_le_of_lt (Nat.div_le_self _ _) ha.n
  have hRm : a.n % 10 ^ k < 10 ^ k := Nat.mod_lt _ hP0
  have hPk : 10 ^ k ≤ 10 ^ 60 := Nat.pow_le_pow_right (by decide) hk60
  have hspec : roundS a sc = mk a.neg (a.n / 10 ^ k + (if upB (a.n / 10 ^ k) (a.n % 10 ^ k) (10 ^ k) = true then 1 else 0)) sc := by unfold roundS; rw [if_neg hle, hk]
  obtain ⟨Q, hQe⟩ : ∃ Q, a.n / 10 ^ k = Q := ⟨_, rfl⟩
  obtain ⟨R0, hRe⟩ : ∃ R0, a.n % 10 ^ k = R0 := ⟨_, rfl⟩
  rw [hQe, hRe] at hOv hspec
  rw [hQe] at hQ
  rw [hRe] at hRm
  obtain ⟨U, hU⟩ : ∃ U, 10 ^ k = U := ⟨_, rfl⟩
  rw [hU] at huv hue hP0 hRm hPk hspec
  have hRs : (decB R0).size ≤ 60 := decB_le (by decide) (by omega)
  have hTw := fun W => rplus_any (decB R0) (decB R0) (decB_digs _) (decB_digs _) (decB_pos _) (decB_pos _) (by omega) (by omega) W
  rw [decB_dv] at hTw
  have h6061 : 10 ^ 60 + 10 ^ 60 < 10 ^ 61 := by decide
  have hTs : (decB (R0 + R0)).size ≤ 61 := decB_le (by decide) (by omega)
  have hLs := fun W => rless_any u (decB (R0 + R0)) hud (decB_digs _) (by omega) (decB_pos _) (by omega) (by omega) W
  rw [huv, decB_dv] at hLs
  have hQs : (decB Q).size ≤ 60 := decB_le (by decide) hQ
  have hQp := decB_pos Q
  have hP1 := fun W => rplus_any (decB Q) ⟨#[49]⟩ (decB_digs _) (by decide) (decB_pos _) (by decide) (by omega) (by decide) W
  rw [decB_dv, show dv (⟨#[49]⟩ : ByteArray).data.toList = 1 from rfl] at hP1
  have h200 : 10 ^ 60 + 1 < 10 ^ 200 := by decide
  have hM0 := fun W => rmade_q a.neg Q sc (by omega) (by omega) W
  have hM1 := fun W => rmade_q a.neg (Q + 1) sc (by omega) (by omega) W
  obtain ⟨r, hr⟩ : ∃ r, roundS a sc = r := ⟨_, rfl⟩
  rw [hr] at hspec ⊢
  have hTe : R0 + R0 = U → decB (R0 + R0) = u := fun h => by rw [h, hue]
  have hTn : R0 + R0 ≠ U → ¬ (decB (R0 + R0)).toList = u.toList := fun h e => h (by
    rw [ByteArray.toList_eq, ByteArray.toList_eq, hue] at e
    have := congrArg dv e
    rw [decB_dv, decB_dv] at this
    exact this)
  obtain ⟨t, ht⟩ : ∃ t, R0 + R0 = t := ⟨_, rfl⟩
  rw [ht] at hTw hLs hTe hTn hTs
  obtain ⟨tw, htw⟩ : ∃ x, decB t = x := ⟨_, rfl⟩
  rw [htw] at hTw hLs hTe hTn
  obtain ⟨rs, hrs⟩ : ∃ x, decB R0 = x := ⟨_, rfl⟩
  rw [hrs] at hTw hOv
  have hLB := last_byte Q
  obtain ⟨qs, hqs⟩ : ∃ x, decB Q = x := ⟨_, rfl⟩
  simp only [hqs] at hOv hM0 hP1 hQs hQp hLB
  obtain ⟨l, hl⟩ : ∃ l, l + 1 = qs.size := ⟨qs.size - 1, by omega⟩
  have hll : l < qs.size := by omega
  have hl60 : l ≤ 60 := by omega
  obtain ⟨c, hc⟩ : ∃ c, qs[l]'hll = c := ⟨_, rfl⟩
  have hcv : c.toNat = 48 + Q % 10 := by rw [← hc]; exact hLB l hl hll
  have hlI : (qs.size : Int) - 1 = (l : Int) := by omega
  obtain ⟨q1, hq1⟩ : ∃ x, decB (Q + 1) = x := ⟨_, rfl⟩
  simp only [hq1] at hM1 hP1
  obtain ⟨g, hg⟩ : ∃ g, Q % 10 = g := ⟨_, rfl⟩
  rw [hg] at hcv
  have hg9 : g < 10 := by omega
  have hcI : (c.toNat : Int) - 48 = (g : Int) := by omega
  have hodd : (Q % 2 = 1) ↔ g % 2 = 1 := by omega
  have HM0 := Lib.hid hM0
  have HM1 := Lib.hid hM1
  have HSP := Lib.hid hspec
  have HTE := Lib.hid hTe
  have HTN := Lib.hid hTn
  have HOD := Lib.hid hodd
  have HT := Lib.hid ht
  have HLs := Lib.hid hLs
  clear hLB has hzs hzl hz hul hud huv hue hP0 hQ hRm hPk hQe hRe hU hRs hTs hr hM0 hM1 hspec hTe hTn hodd ht htw hrs hqs hq1 hl hg hcv h6061 h200 hQs hQp hLs hun hk
  obtain ⟨hb0, h1, h2⟩ := two_start w (.bool a.neg) (.string (decB a.n)) (.int .i64 (a.s : Int)) (.bool false) (.string ⟨#[]⟩) (.int .i64 0)
  obtain ⟨W0, hW0⟩ : ∃ W0, ((w.alloc (.cells #[.bool a.neg, .string (decB a.n), .int .i64 (a.s : Int)] 23)).alloc (.cells #[.bool false, .string ⟨#[]⟩, .int .i64 0] 23)) = W0 := ⟨_, rfl⟩
  rw [hW0] at hb0 h1 h2
  obtain ⟨a0, a1, a2, _, _, _⟩ := h1.three
  have HS0 : Hid (RowKit.Below w.heap.size w W0 ∧ Blk W0 (w.heap.size) (#[.bool a.neg, .string (decB a.n), .int .i64 (a.s : Int)]) 23 ∧ Blk W0 (w.heap.size + 1) (#[.bool false, .string ⟨#[]⟩, .int .i64 0]) 23) := ⟨hb0, h1, h2⟩
  have hsz0 : w.heap.size + 2 ≤ W0.heap.size := by have := h2.lt; omega
  clear hb0 h1 h2
  rw [V.d_val]
  have gs0 : decide ((sc : Int) < 0) = false := decide_eq_false (by omega)
  have gs1 : decide (60 < (sc : Int)) = false := decide_eq_false (by omega)
  clear ha hla
  go_enter Tryz.func28, Tryz.ntmps28
  go_wp2_with (go_at_call 12; refine (hC1 _).mono ?_)
  first | rintro e5 w5 rfl hb5 | rintro e5 w5 ⟨rfl, hb5⟩
  have hS5 : RowKit.Below w.heap.size w w5 ∧ Blk w5 (w.heap.size) (#[.bool a.neg, .string (decB a.n), .int .i64 (a.s : Int)]) 23 ∧ Blk w5 (w.heap.size + 1) (#[.bool false, .string ⟨#[]⟩, .int .i64 0]) 23 := ⟨b_step hb5 (HS0.out.1), (HS0.out.2.1).below (HS0.out.2.1).lt hb5, (HS0.out.2.2).below (HS0.out.2.2).lt hb5⟩
  clear a0 a1 a2 hb5
  clear HS0 hW0 hC1 hsz0
  obtain ⟨a0, a1, a2, _, _, _⟩ := (hS5.2.1).three
  go_wp2_with (first | (go_at_call 41; refine (hZ _).mono ?_; rintro e w' ⟨rfl, rfl⟩) | (go_at_call 57; refine (hOv _).mono ?_))
  first | rintro e8 w8 rfl hb8 | rintro e8 w8 ⟨rfl, hb8⟩
  have hS8 : RowKit.Below w.heap.size w w8 ∧ Blk w8 (w.heap.size) (#[.bool a.neg, .string (decB a.n), .int .i64 (a.s : Int)]) 23 ∧ Blk w8 (w.heap.size + 1) (#[.bool false, .string ⟨#[]⟩, .int .i64 0]) 23 := ⟨b_step hb8 (hS5.1), (hS5.2.1).below (hS5.2.1).lt hb8, (hS5.2.2).below (hS5.2.2).lt hb8⟩
  clear a0 a1 a2 hb8 hS5 hOv hZ hcat hu hkI
  go_wp2_with (go_at_call 59; refine (hTw _).mono ?_)
  first | rintro e9 w9 rfl hb9 | rintro e9 w9 ⟨rfl, hb9⟩
  have hS9 : RowKit.Below w.heap.size w w9 ∧ Blk w9 (w.heap.size) (#[.bool a.neg, .string (decB a.n), .int .i64 (a.s : Int)]) 23 ∧ Blk w9 (w.heap.size + 1) (#[.bool false, .string ⟨#[]⟩, .int .i64 0]) 23 := ⟨b_step hb9 (hS8.1), (hS8.2.1).below (hS8.2.1).lt hb9, (hS8.2.2).below (hS8.2.2).lt hb9⟩
  clear hb9 hS8 hTw
  obtain ⟨a0, a1, a2, _, _, _⟩ := (hS9.2.1).three
  have hLs := HLs.out
  by_cases hlt : U < t
  · rw [decide_eq_true hlt] at hLs
    have hr : r = mk a.neg (Q + 1) sc := by rw [HSP.out]; unfold upB; rw [HT.out, decide_eq_true hlt, Bool.true_or, if_pos rfl]
    have hM := HM1.out
    rw [← hr, R.val_eq] at hM
    have HM := Lib.hid hM
    clear hM hr HSP HM0 HM1 HTE HTN HOD
    clear hlt HT HLs
    go_wp2_with (first | (go_at_call 54; refine (hLs _).mono ?_; rintro e w' ⟨rfl, rfl⟩) | (go_at_call 59; refine (hP1 _).mono ?_))
    first | rintro e10 w10 rfl hb10 | rintro e10 w10 ⟨rfl, hb10⟩
    have hS10 : RowKit.Below w.heap.size w w10 ∧ Blk w10 (w.heap.size) (#[.bool a.neg, .string (decB a.n), .int .i64 (a.s : Int)]) 23 ∧ Blk w10 (w.heap.size + 1) (#[.bool false, .string ⟨#[]⟩, .int .i64 0]) 23 := ⟨b_step hb10 (hS9.1), (hS9.2.1).below (hS9.2.1).lt hb10, (hS9.2.2).below (hS9.2.2).lt hb10⟩
    clear a0 a1 a2 hb10 hS9 hP1
    obtain ⟨a0, a1, a2, _, _, _⟩ := (hS10.2.1).three
    go_wp2_with (go_at_call 38; refine (HM.out _).mono ?_)
    first | rintro e11 w11 rfl hb11 | rintro e11 w11 ⟨rfl, hb11⟩
    have hS11 : RowKit.Below w.heap.size w w11 ∧ Blk w11 (w.heap.size) (#[.bool a.neg, .string (decB a.n), .int .i64 (a.s : Int)]) 23 ∧ Blk w11 (w.heap.size + 1) (#[.bool false, .string ⟨#[]⟩, .int .i64 0]) 23 := ⟨b_step hb11 (hS10.1), (hS10.2.1).below (hS10.2.1).lt hb11, (hS10.2.2).below (hS10.2.2).lt hb11⟩
    clear a0 a1 a2 hb11 hS10 HM
    obtain ⟨q0, q1, q2, f0, f1, f2⟩ := (hS11.2.2).three
    have HSk := Lib.hid hS11
    clear hS11
    go_wp2
    refine bodyPost_ret (v := r.val) (results_row_slot (by rfl) _ _ _ _ _ _ (by rfl) ((HSk.out.2.2).set3 _ _ _) (by rfl)) rfl ⟨rfl, b_set3 (HSk.out.1) (by omega) _ _ _⟩
  · rw [decide_eq_false hlt] at hLs
    by_cases he : t = U
    · obtain rfl := HTE.out he
      by_cases hod : Q % 2 = 1
      · have hg2 : g % 2 = 1 := HOD.out.1 hod
        have hgI : (g : Int) % 2 = 1 := by omega
        have hr : r = mk a.neg (Q + 1) sc := by rw [HSP.out]; unfold upB; rw [HT.out, decide_eq_true he, decide_eq_true hod, Bool.and_self, Bool.or_true, if_pos rfl]
        have hM := HM1.out
        rw [← hr, R.val_eq] at hM
        have HM := Lib.hid hM
        clear hM hr HSP HM0 HM1 HTE HTN HOD
        clear hlt he hod HT HLs
        go_wp2_with (first | (go_at_call 54; refine (hLs _).mono ?_; rintro e w' ⟨rfl, rfl⟩) | (go_at_call 59; refine (hP1 _).mono ?_))
        first | rintro e10 w10 rfl hb10 | rintro e10 w10 ⟨rfl, hb10⟩
        have hS10 : RowKit.Below w.heap.size w w10 ∧ Blk w10 (w.heap.size) (#[.bool a.neg, .string (decB a.n), .int .i64 (a.s : Int)]) 23 ∧ Blk w10 (w.heap.size + 1) (#[.bool false, .string ⟨#[]⟩, .int .i64 0]) 23 := ⟨b_step hb10 (hS9.1), (hS9.2.1).below (hS9.2.1).lt hb10, (hS9.2.2).below (hS9.2.2).lt hb10⟩
        clear a0 a1 a2 hb10 hS9 hP1
        obtain ⟨a0, a1, a2, _, _, _⟩ := (hS10.2.1).three
        go_wp2_with (go_at_call 38; refine (HM.out _).mono ?_)
        first | rintro e11 w11 rfl hb11 | rintro e11 w11 ⟨rfl, hb11⟩
        have hS11 : RowKit.Below w.heap.size w w11 ∧ Blk w11 (w.heap.size) (#[.bool a.neg, .string (decB a.n), .int .i64 (a.s : Int)]) 23 ∧ Blk w11 (w.heap.size + 1) (#[.bool false, .string ⟨#[]⟩, .int .i64 0]) 23 := ⟨b_step hb11 (hS10.1), (hS10.2.1).below (hS10.2.1).lt hb11, (hS10.2.2).below (hS10.2.2).lt hb11⟩
        clear a0 a1 a2 hb11 hS10 HM
        obtain ⟨q0, q1, q2, f0, f1, f2⟩ := (hS11.2.2).three
        have HSk := Lib.hid hS11
        clear hS11
        go_wp2
        refine bodyPost_ret (v := r.val) (results_row_slot (by rfl) _ _ _ _ _ _ (by rfl) ((HSk.out.2.2).set3 _ _ _) (by rfl)) rfl ⟨rfl, b_set3 (HSk.out.1) (by omega) _ _ _⟩
      · have hg2 : g % 2 = 0 := by have := HOD.out; omega
        have hgI : (g : Int) % 2 = 0 := by omega
        have hr : r = mk a.neg Q sc := by rw [HSP.out]; unfold upB; rw [HT.out, decide_eq_false hlt, decide_eq_false hod, Bool.and_false, Bool.or_false, if_neg Bool.false_ne_true, Nat.add_zero]
        have hM := HM0.out
        rw [← hr, R.val_eq] at hM
        have HM := Lib.hid hM
        clear hM hr HSP HM0 HM1 HTE HTN HOD
        clear hlt he hod HT HLs
        go_wp2_with (first | (go_at_call 54; refine (hLs _).mono ?_; rintro e w' ⟨rfl, rfl⟩) | (go_at_call 38; refine (HM.out _).mono ?_))
        first | rintro e11 w11 rfl hb11 | rintro e11 w11 ⟨rfl, hb11⟩
        have hS11 : RowKit.Below w.heap.size w w11 ∧ Blk w11 (w.heap.size) (#[.bool a.neg, .string (decB a.n), .int .i64 (a.s : Int)]) 23 ∧ Blk w11 (w.heap.size + 1) (#[.bool false, .string ⟨#[]⟩, .int .i64 0]) 23 := ⟨b_step hb11 (hS9.1), (hS9.2.1).below (hS9.2.1).lt hb11, (hS9.2.2).below (hS9.2.2).lt hb11⟩
        clear a0 a1 a2 hb11 hS9 HM
        obtain ⟨q0, q1, q2, f0, f1, f2⟩ := (hS11.2.2).three
        have HSk := Lib.hid hS11
        clear hS11
        go_wp2
        refine bodyPost_ret (v := r.val) (results_row_slot (by rfl) _ _ _ _ _ _ (by rfl) ((HSk.out.2.2).set3 _ _ _) (by rfl)) rfl ⟨rfl, b_set3 (HSk.out.1) (by omega) _ _ _⟩
    · have hne := HTN.out he
      have hnb : (tw.toList == u.toList) = false := beq_eq_false_iff_ne.2 hne
      have hr : r = mk a.neg Q sc := by rw [HSP.out]; unfold upB; rw [HT.out, decide_eq_false hlt, decide_eq_false he, Bool.false_and, Bool.or_false, if_neg Bool.false_ne_true, Nat.add_zero]
      have hM := HM0.out
      rw [← hr, R.val_eq] at hM
      have HM := Lib.hid hM
      clear hM hr HSP HM0 HM1 HTE HTN HOD
      clear hlt he HT HLs
      go_wp2_with (first | (go_at_call 54; refine (hLs _).mono ?_; rintro e w' ⟨rfl, rfl⟩) | (go_at_call 38; refine (HM.out _).mono ?_))
      first | rintro e11 w11 rfl hb11 | rintro e11 w11 ⟨rfl, hb11⟩
      have hS11 : RowKit.Below w.heap.size w w11 ∧ Blk w11 (w.heap.size) (#[.bool a.neg, .string (decB a.n), .int .i64 (a.s : Int)]) 23 ∧ Blk w11 (w.heap.size + 1) (#[.bool false, .string ⟨#[]⟩, .int .i64 0]) 23 := ⟨b_step hb11 (hS9.1), (hS9.2.1).below (hS9.2.1).lt hb11, (hS9.2.2).below (hS9.2.2).lt hb11⟩
      clear a0 a1 a2 hb11 hS9 HM
      obtain ⟨q0, q1, q2, f0, f1, f2⟩ := (hS11.2.2).three
      have HSk := Lib.hid hS11
      clear hS11
      go_wp2
      refine bodyPost_ret (v := r.val) (results_row_slot (by rfl) _ _ _ _ _ _ (by rfl) ((HSk.out.2.2).set3 _ _ _) (by rfl)) rfl ⟨rfl, b_set3 (HSk.out.1) (by omega) _ _ _⟩
end Dc
end Go.Proofs.YthnpbkplcboejaaGreatDoor
