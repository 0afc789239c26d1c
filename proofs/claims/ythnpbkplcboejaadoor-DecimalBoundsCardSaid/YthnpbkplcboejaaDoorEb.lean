/- Decimal, the reference: made. -/
import Derived.Test.YthnpbkplcboejaaDoorEa
set_option linter.unusedSimpArgs false
set_option linter.unusedVariables false
namespace Go.Proofs.YthnpbkplcboejaaDoor
open Go.RowKit Go.Shelf
namespace Dc
/-- What the loop of made knows of its string and its scale. -/
def Mk (n sc : Nat) (d : ByteArray) (k m : Nat) : Prop := d = decB m ∧ (n = 0 → m = 0) ∧ (n ≠ 0 → m ≠ 0 ∧ norm n sc = norm m k)
theorem Mk.size {n sc : Nat} {d : ByteArray} {k m : Nat} (h : Mk n sc d k m) : d.size = (dec m).length := by rw [h.1]; exact decB_size' m
theorem Mk.step {n sc : Nat} {d : ByteArray} {k m : Nat} (h : Mk n sc d (k + 1) m) (h10 : 10 ≤ m) (h0 : m % 10 = 0) : Mk n sc (d.extract 0 (d.size - 1)) k (m / 10) := by
  refine ⟨?_, fun hn => by have := h.2.1 hn; omega, fun hn => ⟨by omega, ?_⟩⟩
  · have e : (d.extract 0 (d.size - 1)).data.toList = dec (m / 10) := by
      rw [Lib.extract_data, List.drop_zero, Nat.sub_zero, h.size, h.1, show (decB m).data.toList = dec m from rfl, dec_big (n := m) (by omega)]
      simp
    rw [← mk_toList (d.extract 0 (d.size - 1)), e]
  · rw [(h.2.2 hn).2]
    show (if m % 10 = 0 then norm (m / 10) k else (m, k + 1)) = _
    rw [if_pos h0]
theorem Mk.done {n sc : Nat} {d : ByteArray} {k m : Nat} (h : Mk n sc d k m) (hm : m ≠ 0) (hs : k = 0 ∨ m < 10 ∨ m % 10 ≠ 0) (neg : Bool) : mk neg n sc = if 10 ^ 60 ≤ m ∨ 60 < k then .err 7 else .ok ⟨neg, m, k⟩ := by
  have hn : n ≠ 0 := fun e => hm (h.2.1 e)
  have e : norm m k = (m, k) := by
    cases k with
    | zero => rfl
    | succ k => show (if m % 10 = 0 then _ else _) = _; rw [if_neg (by omega)]
  unfold mk
  rw [if_neg hn, (h.2.2 hn).2, e]
theorem Mk.zero {n sc : Nat} {d : ByteArray} {k m : Nat} (h : Mk n sc d k m) (hm : m = 0) (neg : Bool) : mk neg n sc = .ok V.zero ∧ d = ⟨#[48]⟩ := by
  have hn : n = 0 := by
    by_cases e : n = 0
    · exact e
    · exact absurd hm (h.2.2 e).1
  refine ⟨by unfold mk; rw [if_pos hn], ?_⟩
  rw [h.1, hm]
  show (⟨(dec 0).toArray⟩ : ByteArray) = _
  rw [dec_zero]
theorem Mk.last {n sc : Nat} {d : ByteArray} {k m : Nat} (h : Mk n sc d k m) (ds : Nat) (hds : ds + 1 = d.size) : ((d[ds]'(by omega)).toNat = 48) ↔ m % 10 = 0 := by
  obtain ⟨rfl, _⟩ := h
  have := last48 m (by omega)
  rw [← this]
  have e : ds = (decB m).size - 1 := by omega
  subst e
  exact Iff.rfl
set_option maxRecDepth 100000 in
set_option maxHeartbeats 8000000 in
theorem rmade_any (neg : Bool) (s : ByteArray) (sc : Nat) (hd : digs s.data.toList = true) (h0 : 0 < s.size) (hs : s.size ≤ 1000) (hsc : sc ≤ 1000) (w : World) :
    Calls Tryd.prog 56 #[.bool neg, .string s, .int .i64 (sc : Int)] w fun e w' => e = .returned (mk neg (dv s.data.toList) sc).val ∧ Below w.heap.size w w' := by
  have hBa := fun W => bare_any s (by unfold maxLen; omega) h0 hd W
  obtain ⟨n, hn⟩ : ∃ n, dv s.data.toList = n := ⟨_, rfl⟩
  rw [hn] at hBa ⊢
  have hnl : (dec n).length ≤ 1000 := by
    rw [← hn]
    have h1 := dv_lt hd
    rw [size_list'] at h1
    exact Nat.le_trans ((dec_len h0).2 h1) hs
  obtain ⟨d0, hd0⟩ : ∃ d, decB n = d := ⟨_, rfl⟩
  rw [hd0] at hBa
  have hM0 : Hid (Mk n sc d0 sc n) := ⟨hd0.symm, id, fun h => ⟨h, rfl⟩⟩
  have hd0s : d0.size ≤ 1000 := by rw [← hd0, decB_size']; exact hnl
  obtain ⟨r, hr⟩ : ∃ r, mk neg n sc = r := ⟨_, rfl⟩
  rw [hr]
  have HR := Lib.hid hr
  clear hn hd h0 hnl hd0 hr
  go_enter Tryd.func56, Tryd.ntmps56
  go_wp2_with (go_at_call 74; refine (hBa _).mono ?_; rintro e w' ⟨rfl, rfl⟩)
  clear hBa
  go_loop [1, 2] (fun s1 s2 => ∃ (d : ByteArray) (k : Nat), s1 = .string d ∧ s2 = .int .i64 (k : Int) ∧ d.size ≤ 1000 ∧ k ≤ 1000 ∧ Hid (∃ m, Mk n sc d k m)) (fun _ s2 => (intOf s2).toNat)
  case atStart => exact ⟨d0, sc, rfl, rfl, hd0s, hsc, ⟨n, hM0⟩⟩
  case round =>
    clear hM0 hd0s
    obtain ⟨d, k, rfl, rfl, hds, hk, HM⟩ := hrel
    obtain ⟨m, hM⟩ := HM.out
    have hsz := hM.size
    have hdp : 0 < d.size := by rw [hsz]; exact List.length_pos_iff.2 (dec_ne_nil m)
    have h10 : 1 < d.size ↔ 10 ≤ m := by rw [hsz]; have := dec_len (n := m) (k := 1) (by decide); omega
    have h60 : 60 < d.size ↔ 10 ^ 60 ≤ m := by rw [hsz]; have := dec_len (n := m) (k := 60) (by decide); omega
    obtain ⟨ds, hds1⟩ : ∃ ds, ds + 1 = d.size := ⟨d.size - 1, by omega⟩
    have hla := hM.last ds hds1
    have hdsl : ds < d.size := by omega
    obtain ⟨c, hc⟩ : ∃ c, d[ds] = c := ⟨_, rfl⟩
    rw [hc] at hla
    have hds' : (d.size : Int) - 1 = (ds : Int) := by omega
    have HMM := Lib.hid hM
    clear hM hsz HM
    by_cases hgo : 0 < k ∧ 10 ≤ m ∧ m % 10 = 0
    · obtain ⟨kp, hkp⟩ : ∃ kp, kp + 1 = k := ⟨k - 1, by omega⟩
      have g0 : decide (0 < (k : Int)) = true := decide_eq_true (by omega)
      have g0n : decide (0 < k) = true := decide_eq_true (by omega)
      have g1 : decide (1 < (d.size : Int)) = true := decide_eq_true (by have := h10.2 hgo.2.1; omega)
      have g2 : ((c.toNat : Int) == 48) = true := by rw [beq_iff_eq]; have := hla.2 hgo.2.2; omega
      obtain ⟨d1, hd1⟩ : ∃ d1, d.extract 0 ds = d1 := ⟨_, rfl⟩
      have hst : Hid (∃ m, Mk n sc d1 kp m) := ⟨m / 10, by
        have := HMM.out
        rw [← hkp] at this
        have := this.step hgo.2.1 hgo.2.2
        rw [show d.size - 1 = ds by omega, hd1] at this
        exact this⟩
      have hd1s : d1.size ≤ 1000 := by
        obtain ⟨m1, h1⟩ := hst.out
        have e1 : d1.size = ds := by
          rw [← size_list', ← hd1, Lib.extract_data, List.drop_zero, Nat.sub_zero, List.length_take, size_list']; omega
        omega
      have hk' : (k : Int) - 1 = (kp : Int) := by omega
      have hkp1 : kp ≤ 1000 := by omega
      have hkl : kp < k := by omega
      clear hgo h10 h60 hla hkp
      go_wp2
      go_round
      case rel => exact ⟨d1, kp, rfl, rfl, hd1s, hkp1, hst⟩
      case measure => simp [intOf]; omega
    · have hstop : k = 0 ∨ m < 10 ∨ m % 10 ≠ 0 := by omega
      have hres : Hid ((m = 0 → r = .ok V.zero ∧ d = ⟨#[48]⟩) ∧ (m ≠ 0 → r = if 10 ^ 60 ≤ m ∨ 60 < k then .err 7 else .ok ⟨neg, m, k⟩)) := ⟨fun h => by have := HMM.out.zero h neg; rw [HR.out] at this; exact this, fun h => by rw [← HR.out]; exact HMM.out.done h hstop neg⟩
      have HDM : Hid (d = decB m) := HMM.out.1
      clear HR HMM
      by_cases hk0 : k = 0
      · have g0 : decide (0 < (k : Int)) = false := decide_eq_false (by omega)
        have g0n : decide (0 < k) = false := decide_eq_false (by omega)
        by_cases hm0 : m = 0
        · obtain ⟨er, ed⟩ := hres.out.1 hm0
          have ER := Lib.hid er
          clear er hres HDM hla h10 h60 hgo hstop hm0 hk0
          subst ed
          go_wp2
          refine bodyPost_ret (v := r.val) (by rw [ER.out, show (R.ok V.zero).val = .tuple #[.agg #[.bool false, .string (decB 0), .int .i64 0], .int .i64 0] from rfl, show decB 0 = ⟨#[48]⟩ from congrArg (fun l => (⟨l.toArray⟩ : ByteArray)) dec_zero]; exact results_row_slot (by rfl) _ _ _ _ _ _ (by rfl) (Blk.new w _ _) (by rfl)) rfl ⟨rfl, (Below.refl _ w).alloc (Nat.le_refl _) _⟩
        · by_cases hbg : 60 < d.size
          · have er := hres.out.2 hm0
            rw [if_pos (.inl (h60.1 hbg))] at er
            have g5 : decide (60 < (d.size : Int)) = true := decide_eq_true (by omega)
            have hne : ¬ d.toList = [48] := fun h => hm0 (by
              rw [ByteArray.toList_eq, HDM.out, show (decB m).data.toList = dec m from rfl] at h
              have := congrArg dv h
              rw [dv_dec] at this
              exact this)
            have hne2 : (d.toList == [48]) = false := by rw [beq_eq_false_iff_ne]; exact hne
            have ER := Lib.hid er
            clear er hres hla h10 h60 hgo hstop hk0
            go_wp2
            refine bodyPost_ret (v := r.val) (by rw [ER.out]; exact results_row_slot (by rfl) _ _ _ _ _ _ (by rfl) (Blk.new w _ _) (by rfl)) rfl ⟨rfl, (Below.refl _ w).alloc (Nat.le_refl _) _⟩
          · by_cases hbk : 60 < k
            · exact absurd hbk (by omega)
            · have er := hres.out.2 hm0
              rw [if_neg (by intro h; rcases h with h | h; exact hbg (h60.2 h); exact hbk h)] at er
              have g5 : decide (60 < (d.size : Int)) = false := decide_eq_false (by omega)
              have g6 : decide (60 < (k : Int)) = false := decide_eq_false (by omega)
              have hne : ¬ d.toList = [48] := fun h => hm0 (by
                rw [ByteArray.toList_eq, HDM.out, show (decB m).data.toList = dec m from rfl] at h
                have := congrArg dv h
                rw [dv_dec] at this
                exact this)
              have hne2 : (d.toList == [48]) = false := by rw [beq_eq_false_iff_ne]; exact hne
              have ER := Lib.hid er
              clear er hres hla h10 h60 hgo hstop hk0
              go_wp2
              refine bodyPost_ret (v := r.val) (by rw [ER.out, show (R.ok ⟨neg, m, k⟩).val = .tuple #[.agg #[.bool neg, .string (decB m), .int .i64 (k : Int)], .int .i64 0] from rfl, ← HDM.out]; exact results_row_slot (by rfl) _ _ _ _ _ _ (by rfl) (Blk.new w _ _) (by rfl)) rfl ⟨rfl, (Below.refl _ w).alloc (Nat.le_refl _) _⟩
      · have g0 : decide (0 < (k : Int)) = true := decide_eq_true (by omega)
        have g0n : decide (0 < k) = true := decide_eq_true (by omega)
        by_cases hm1 : m < 10
        · have g1 : decide (1 < (d.size : Int)) = false := decide_eq_false (by omega)
          by_cases hm0 : m = 0
          · obtain ⟨er, ed⟩ := hres.out.1 hm0
            have ER := Lib.hid er
            clear er hres HDM hla h10 h60 hgo hstop hm0 
            subst ed
            go_wp2
            refine bodyPost_ret (v := r.val) (by rw [ER.out, show (R.ok V.zero).val = .tuple #[.agg #[.bool false, .string (decB 0), .int .i64 0], .int .i64 0] from rfl, show decB 0 = ⟨#[48]⟩ from congrArg (fun l => (⟨l.toArray⟩ : ByteArray)) dec_zero]; exact results_row_slot (by rfl) _ _ _ _ _ _ (by rfl) (Blk.new w _ _) (by rfl)) rfl ⟨rfl, (Below.refl _ w).alloc (Nat.le_refl _) _⟩
          · by_cases hbg : 60 < d.size
            · exact absurd (h10.1 (by omega)) (by omega)
            · by_cases hbk : 60 < k
              · have er := hres.out.2 hm0
                rw [if_pos (.inr hbk)] at er
                have g5 : decide (60 < (d.size : Int)) = false := decide_eq_false (by omega)
                have g6 : decide (60 < (k : Int)) = true := decide_eq_true (by omega)
                have hne : ¬ d.toList = [48] := fun h => hm0 (by
                  rw [ByteArray.toList_eq, HDM.out, show (decB m).data.toList = dec m from rfl] at h
                  have := congrArg dv h
                  rw [dv_dec] at this
                  exact this)
                have hne2 : (d.toList == [48]) = false := by rw [beq_eq_false_iff_ne]; exact hne
                have ER := Lib.hid er
                clear er hres hla h10 h60 hgo hstop 
                go_wp2
                refine bodyPost_ret (v := r.val) (by rw [ER.out]; exact results_row_slot (by rfl) _ _ _ _ _ _ (by rfl) (Blk.new w _ _) (by rfl)) rfl ⟨rfl, (Below.refl _ w).alloc (Nat.le_refl _) _⟩
              · have er := hres.out.2 hm0
                rw [if_neg (by intro h; rcases h with h | h; exact hbg (h60.2 h); exact hbk h)] at er
                have g5 : decide (60 < (d.size : Int)) = false := decide_eq_false (by omega)
                have g6 : decide (60 < (k : Int)) = false := decide_eq_false (by omega)
                have hne : ¬ d.toList = [48] := fun h => hm0 (by
                  rw [ByteArray.toList_eq, HDM.out, show (decB m).data.toList = dec m from rfl] at h
                  have := congrArg dv h
                  rw [dv_dec] at this
                  exact this)
                have hne2 : (d.toList == [48]) = false := by rw [beq_eq_false_iff_ne]; exact hne
                have ER := Lib.hid er
                clear er hres hla h10 h60 hgo hstop 
                go_wp2
                refine bodyPost_ret (v := r.val) (by rw [ER.out, show (R.ok ⟨neg, m, k⟩).val = .tuple #[.agg #[.bool neg, .string (decB m), .int .i64 (k : Int)], .int .i64 0] from rfl, ← HDM.out]; exact results_row_slot (by rfl) _ _ _ _ _ _ (by rfl) (Blk.new w _ _) (by rfl)) rfl ⟨rfl, (Below.refl _ w).alloc (Nat.le_refl _) _⟩
        · have g1 : decide (1 < (d.size : Int)) = true := decide_eq_true (by have := h10.2 (by omega); omega)
          have g2 : ((c.toNat : Int) == 48) = false := by rw [beq_eq_false_iff_ne]; intro h; have := hla.1 (by omega); omega
          by_cases hm0 : m = 0
          · obtain ⟨er, ed⟩ := hres.out.1 hm0
            have ER := Lib.hid er
            clear er hres HDM hla h10 h60 hgo hstop hm0 
            subst ed
            go_wp2
            refine bodyPost_ret (v := r.val) (by rw [ER.out, show (R.ok V.zero).val = .tuple #[.agg #[.bool false, .string (decB 0), .int .i64 0], .int .i64 0] from rfl, show decB 0 = ⟨#[48]⟩ from congrArg (fun l => (⟨l.toArray⟩ : ByteArray)) dec_zero]; exact results_row_slot (by rfl) _ _ _ _ _ _ (by rfl) (Blk.new w _ _) (by rfl)) rfl ⟨rfl, (Below.refl _ w).alloc (Nat.le_refl _) _⟩
          · by_cases hbg : 60 < d.size
            · have er := hres.out.2 hm0
              rw [if_pos (.inl (h60.1 hbg))] at er
              have g5 : decide (60 < (d.size : Int)) = true := decide_eq_true (by omega)
              have hne : ¬ d.toList = [48] := fun h => hm0 (by
                rw [ByteArray.toList_eq, HDM.out, show (decB m).data.toList = dec m from rfl] at h
                have := congrArg dv h
                rw [dv_dec] at this
                exact this)
              have hne2 : (d.toList == [48]) = false := by rw [beq_eq_false_iff_ne]; exact hne
              have ER := Lib.hid er
              clear er hres hla h10 h60 hgo hstop 
              go_wp2
              refine bodyPost_ret (v := r.val) (by rw [ER.out]; exact results_row_slot (by rfl) _ _ _ _ _ _ (by rfl) (Blk.new w _ _) (by rfl)) rfl ⟨rfl, (Below.refl _ w).alloc (Nat.le_refl _) _⟩
            · by_cases hbk : 60 < k
              · have er := hres.out.2 hm0
                rw [if_pos (.inr hbk)] at er
                have g5 : decide (60 < (d.size : Int)) = false := decide_eq_false (by omega)
                have g6 : decide (60 < (k : Int)) = true := decide_eq_true (by omega)
                have hne : ¬ d.toList = [48] := fun h => hm0 (by
                  rw [ByteArray.toList_eq, HDM.out, show (decB m).data.toList = dec m from rfl] at h
                  have := congrArg dv h
                  rw [dv_dec] at this
                  exact this)
                have hne2 : (d.toList == [48]) = false := by rw [beq_eq_false_iff_ne]; exact hne
                have ER := Lib.hid er
                clear er hres hla h10 h60 hgo hstop 
                go_wp2
                refine bodyPost_ret (v := r.val) (by rw [ER.out]; exact results_row_slot (by rfl) _ _ _ _ _ _ (by rfl) (Blk.new w _ _) (by rfl)) rfl ⟨rfl, (Below.refl _ w).alloc (Nat.le_refl _) _⟩
              · have er := hres.out.2 hm0
                rw [if_neg (by intro h; rcases h with h | h; exact hbg (h60.2 h); exact hbk h)] at er
                have g5 : decide (60 < (d.size : Int)) = false := decide_eq_false (by omega)
                have g6 : decide (60 < (k : Int)) = false := decide_eq_false (by omega)
                have hne : ¬ d.toList = [48] := fun h => hm0 (by
                  rw [ByteArray.toList_eq, HDM.out, show (decB m).data.toList = dec m from rfl] at h
                  have := congrArg dv h
                  rw [dv_dec] at this
                  exact this)
                have hne2 : (d.toList == [48]) = false := by rw [beq_eq_false_iff_ne]; exact hne
                have ER := Lib.hid er
                clear er hres hla h10 h60 hgo hstop 
                go_wp2
                refine bodyPost_ret (v := r.val) (by rw [ER.out, show (R.ok ⟨neg, m, k⟩).val = .tuple #[.agg #[.bool neg, .string (decB m), .int .i64 (k : Int)], .int .i64 0] from rfl, ← HDM.out]; exact results_row_slot (by rfl) _ _ _ _ _ _ (by rfl) (Blk.new w _ _) (by rfl)) rfl ⟨rfl, (Below.refl _ w).alloc (Nat.le_refl _) _⟩
end Dc
end Go.Proofs.YthnpbkplcboejaaDoor
