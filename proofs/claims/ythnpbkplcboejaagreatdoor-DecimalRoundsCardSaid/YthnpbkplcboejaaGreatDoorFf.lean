/- Decimal, the reference: plus. -/
import Derived.Test.YthnpbkplcboejaaGreatDoorFe
import Derived.Laws.IdiomStrings
set_option linter.unusedSimpArgs false
set_option linter.unusedVariables false
namespace Go.Proofs.YthnpbkplcboejaaGreatDoor
open Go.RowKit Go.Shelf
namespace Dc
/-- The cells of a text from 0 on: these bytes. -/
def Out (W : World) (B : Nat) (l : List UInt8) : Prop := ∀ j c, l[j]? = some c → W.cell? ⟨B, j, none⟩ = some (.int .u8 (c.toNat : Int)) ∧ W.frozen? ⟨B, j, none⟩ = false
theorem mixed (A R : List UInt8) (k : Nat) (d : UInt8) (hk : k < A.length) (j : Nat) : (A.take k ++ d :: R)[j]? = if j = k then some d else (A.take (k + 1) ++ R)[j]? := by
  rw [List.getElem?_append, List.getElem?_append, List.length_take, List.length_take, Nat.min_eq_left (by omega), Nat.min_eq_left (by omega)]
  by_cases h : j = k
  · subst h
    rw [if_neg (by omega), if_pos rfl, Nat.sub_self]; rfl
  · rw [if_neg h]
    by_cases h1 : j < k
    · rw [if_pos h1, if_pos (by omega), List.getElem?_take_of_lt h1, List.getElem?_take_of_lt (by omega)]
    · rw [if_neg h1, if_neg (by omega), show j - k = (j - (k + 1)) + 1 by omega, List.getElem?_cons_succ]
theorem Out.put {W : World} {B : Nat} {A R : List UInt8} {k : Nat} (h : Out W B (A.take (k + 1) ++ R)) (hk : k < A.length) (d : UInt8) : Out (W.setCell ⟨B, k, none⟩ (.int .u8 (d.toNat : Int))) B (A.take k ++ d :: R) := by
  intro j c hc
  rw [mixed A R k d hk j] at hc
  refine ⟨?_, ?_⟩
  · by_cases e : j = k
    · subst e
      rw [if_pos rfl] at hc
      injection hc with hc
      subst hc
      have h1 : (A.take (j + 1) ++ R)[j]? = some A[j] := by
        rw [List.getElem?_append, List.length_take, Nat.min_eq_left (by omega), if_pos (by omega), List.getElem?_take_of_lt (by omega), List.getElem?_eq_getElem hk]
      exact World.cell?_setCell_same W _ _ (h j _ h1).1
    · rw [if_neg e] at hc
      rw [World.cell?_setCell_other W _ _ _ (by intro e2; injection e2 with _ e3; exact e e3.symm)]
      exact (h j c hc).1
  · rw [World.frozen?_setCell]
    by_cases e : j = k
    · subst e
      have h1 : (A.take (j + 1) ++ R)[j]? = some A[j] := by
        rw [List.getElem?_append, List.length_take, Nat.min_eq_left (by omega), if_pos (by omega), List.getElem?_take_of_lt (by omega), List.getElem?_eq_getElem hk]
      exact (h j _ h1).2
    · rw [if_neg e] at hc
      exact (h j c hc).2
/-- What the loop of plus knows: k places are left. -/
structure Pl (A B : List UInt8) (n k c : Nat) (R : List UInt8) : Prop where
  len : R.length + k = n
  dig : digs R = true
  car : c ≤ 1
  sum : dv (A.drop k) + dv (B.drop k) = c * 10 ^ (n - k) + dv R
theorem drop_dv (A : List UInt8) (k : Nat) (h : k < A.length) : dv (A.drop k) = (A[k].toNat - 48) * 10 ^ (A.length - (k + 1)) + dv (A.drop (k + 1)) := by
  rw [List.drop_eq_getElem_cons h, dv_cons, List.length_drop]
theorem Pl.step {A B : List UInt8} {n k c : Nat} {R : List UInt8} (h : Pl A B n (k + 1) c R) (hA : A.length = n) (hB : B.length = n) {a b : UInt8} (ha : A[k]? = some a) (hb : B[k]? = some b) (dA : digs A = true) (dB : digs B = true) {d : Nat} (hd : d = (a.toNat - 48) + (b.toNat - 48) + c) : Pl A B n k (d / 10) (UInt8.ofNat (48 + d % 10) :: R) := by
  have hk : k < n := by have := h.len; omega
  have e1 : A[k]'(by omega) = a := by rw [List.getElem?_eq_getElem (by omega)] at ha; exact Option.some.inj ha
  have e2 : B[k]'(by omega) = b := by rw [List.getElem?_eq_getElem (by omega)] at hb; exact Option.some.inj hb
  have a1 := digs_iff.1 dA a (by rw [← e1]; exact List.getElem_mem _)
  have b1 := digs_iff.1 dB b (by rw [← e2]; exact List.getElem_mem _)
  have hc := h.car
  refine ⟨by rw [List.length_cons]; have := h.len; omega, ?_, by omega, ?_⟩
  · refine digs_iff.2 fun x hx => ?_
    rcases List.mem_cons.1 hx with rfl | hx
    · rw [ofNat_dig (Nat.mod_lt _ (by decide))]; omega
    · exact digs_iff.1 h.dig x hx
  · have hs := h.sum
    rw [drop_dv A k (by omega), drop_dv B k (by omega), e1, e2, dv_cons, hA, hB, ofNat_dig (Nat.mod_lt _ (by decide)), show R.length = n - (k + 1) by have := h.len; omega, show n - k = (n - (k + 1)) + 1 by omega, Nat.pow_succ]
    obtain ⟨P, hP⟩ : ∃ P, 10 ^ (n - (k + 1)) = P := ⟨_, rfl⟩
    rw [hP] at hs ⊢
    obtain ⟨x, hx⟩ : ∃ x, a.toNat - 48 = x := ⟨_, rfl⟩
    obtain ⟨y, hy⟩ : ∃ y, b.toNat - 48 = y := ⟨_, rfl⟩
    rw [hx, hy] at hd ⊢
    have e3 : 48 + d % 10 - 48 = d % 10 := by omega
    rw [e3]
    have e4 : (x + y + c) * P = (10 * (d / 10) + d % 10) * P := by congr 1; omega
    rw [Nat.add_mul, Nat.add_mul, Nat.add_mul] at e4
    have e5 : d / 10 * (P * 10) = 10 * (d / 10) * P := by rw [Nat.mul_comm P 10, ← Nat.mul_assoc, Nat.mul_comm (d / 10) 10]
    rw [e5]
    omega
theorem out_new (W : World) (s : ByteArray) (cap : Nat) : Out (W.drew.alloc (.cells (bytesRow s cap) 5 ((bytesRow s cap).size, (bytesRow s cap).size + 1))) W.heap.size s.data.toList := by
  intro j c hj
  have hlt : j < s.data.size := by
    have := (List.getElem?_eq_some_iff.1 hj).1
    rwa [Array.length_toList] at this
  have hg : (bytesRow s cap)[j]? = some (.int .u8 (c.toNat : Int)) := by
    unfold bytesRow
    rw [Array.getElem?_append_left (by rw [Array.size_map]; exact hlt), Array.getElem?_map]
    rw [Array.getElem?_toList] at hj
    rw [hj]; rfl
  have hheap : (W.drew.alloc (.cells (bytesRow s cap) 5 ((bytesRow s cap).size, (bytesRow s cap).size + 1))).heap[W.heap.size]? = some (.cells (bytesRow s cap) 5 ((bytesRow s cap).size, (bytesRow s cap).size + 1)) := by
    show (W.heap.push _)[W.heap.size]? = _
    simp
  have hlt2 : j < (bytesRow s cap).size := (Array.getElem?_eq_some_iff.1 hg).1
  refine ⟨?_, ?_⟩
  · simp only [World.cell?, hheap]
    simpa using hg
  · simp only [World.frozen?, hheap]
    simp; omega
theorem Pl.start (A B : List UInt8) (n : Nat) (hA : A.length = n) (hB : B.length = n) : Pl A B n n 0 [] :=
  ⟨by simp, rfl, by omega, by rw [List.drop_of_length_le (by omega), List.drop_of_length_le (by omega), dv_nil]; simp⟩
theorem Pl.done {A B : List UInt8} {n c : Nat} {R : List UInt8} (h : Pl A B n 0 c R) (hs : dv A + dv B < 10 ^ n) : dv R = dv A + dv B ∧ R.length = n := by
  have hh := h.sum
  have hl := h.len
  rw [List.drop_zero, List.drop_zero, Nat.sub_zero] at hh
  have hc := h.car
  have : c = 0 := by
    by_cases e : c = 0
    · exact e
    · obtain rfl : c = 1 := by omega
      omega
  subst this
  exact ⟨by omega, by omega⟩
set_option maxRecDepth 100000 in
set_option maxHeartbeats 4000000 in
theorem rplus_any (a b : ByteArray) (ha : digs a.data.toList = true) (hb : digs b.data.toList = true) (ha0 : 0 < a.size) (hb0 : 0 < b.size) (hsa : a.size ≤ 1000) (hsb : b.size ≤ 1000) (w : World) :
    Calls Tryz.prog 59 #[.string a, .string b] w fun e w' => e = .returned (.string (decB (dv a.data.toList + dv b.data.toList))) ∧ Below w.heap.size w w' := by
  obtain ⟨n, hn⟩ : ∃ n, max a.size b.size + 1 = n := ⟨_, rfl⟩
  have hL1 := fun W => rlong_any a n (by omega) (by omega) W
  have hL2 := fun W => rlong_any b n (by omega) (by omega) W
  obtain ⟨A, hA⟩ : ∃ A, zs (n - a.size) ++ a = A := ⟨_, rfl⟩
  obtain ⟨B, hB⟩ : ∃ B, zs (n - b.size) ++ b = B := ⟨_, rfl⟩
  have hAl : A.data.toList = List.replicate (n - a.size) 48 ++ a.data.toList := by rw [← hA, app_list', zs_list]
  have hBl : B.data.toList = List.replicate (n - b.size) 48 ++ b.data.toList := by rw [← hB, app_list', zs_list]
  have hAn : A.data.toList.length = n := by rw [hAl, List.length_append, List.length_replicate, size_list']; omega
  have hBn : B.data.toList.length = n := by rw [hBl, List.length_append, List.length_replicate, size_list']; omega
  have hAv : dv A.data.toList = dv a.data.toList := by rw [hAl, dv_lead]
  have hBv : dv B.data.toList = dv b.data.toList := by rw [hBl, dv_lead]
  have hAd : digs A.data.toList = true := by rw [hAl, digs_append, digs_zeros, ha]; rfl
  have hBd : digs B.data.toList = true := by rw [hBl, digs_append, digs_zeros, hb]; rfl
  have hlt : dv A.data.toList + dv B.data.toList < 10 ^ n := by
    have h1 := dv_lt ha
    have h2 := dv_lt hb
    rw [size_list'] at h1 h2
    have h3 : 10 ^ a.size ≤ 10 ^ (n - 1) := Nat.pow_le_pow_right (by decide) (by omega)
    have h4 : 10 ^ b.size ≤ 10 ^ (n - 1) := Nat.pow_le_pow_right (by decide) (by omega)
    have h5 : 10 ^ n = 10 ^ (n - 1) * 10 := by rw [← Nat.pow_succ]; congr 1; omega
    omega
  have hmax : max (a.size : Int) (b.size : Int) + 1 = (n : Int) := by omega
  rw [hA] at hL1
  rw [hB] at hL2
  rw [← hAv, ← hBv]
  obtain ⟨r, hr⟩ : ∃ r, dv A.data.toList + dv B.data.toList = r := ⟨_, rfl⟩
  rw [hr]
  have hAs : A.size = n := by rw [← size_list', hAn]
  have hBs : B.size = n := by rw [← size_list', hBn]
  have hn1 : 1 ≤ n := by omega
  have hn2 : n ≤ 1001 := by omega
  obtain ⟨cap, hcap⟩ : ∃ cap, grownCap w n 0 5 = cap := ⟨_, rfl⟩
  have hO := out_new w A cap
  have hcv := run_bytes_of_string (P := Tryz.prog) w 9 56 5 A Tryz.underlying9 Tryz.underlying56 Tryz.underlying5
  rw [hAs, hcap] at hcv
  obtain ⟨W1, hW1⟩ : ∃ W1, w.drew.alloc (.cells (bytesRow A cap) 5 ((bytesRow A cap).size, (bytesRow A cap).size + 1)) = W1 := ⟨_, rfl⟩
  rw [hW1] at hO hcv
  have hb1 : Below w.heap.size w W1 := by rw [← hW1]; exact b_alloc (b_drew (Below.refl _ w))
  have HR := Lib.hid hr
  have HLT := Lib.hid hlt
  have HAN := Lib.hid hAn
  have HBN := Lib.hid hBn
  have HAD := Lib.hid hAd
  have HBD := Lib.hid hBd
  have HO := Lib.hid hO
  have HB1 := Lib.hid hb1
  clear hA hB hAl hBl hAn hBn hAv hBv hAd hBd hlt hr hO hW1 hcap hb1 ha hb ha0 hb0 hn
  go_enter Tryz.func59, Tryz.ntmps59
  go_wp2_with (go_at_call 79; first | ((with_reducible refine (hL1 _).mono ?_); rintro e w' ⟨rfl, rfl⟩) | ((with_reducible refine (hL2 _).mono ?_); rintro e w' ⟨rfl, rfl⟩))
  clear hL1 hL2 hmax hcv
  go_loopw [7, 8] (fun s7 s8 wx => ∃ (c k : Nat), s7 = .int .u8 (c : Int) ∧ s8 = .int .i64 ((k : Int) - 1) ∧ k ≤ n ∧ c ≤ 1 ∧ Hid (∃ R, Pl A.data.toList B.data.toList n k c R ∧ Out wx w.heap.size (A.data.toList.take k ++ R)) ∧ Below w.heap.size w wx) (fun _ s8 _ => (intOf s8 + 1).toNat)
  case atStart => exact ⟨0, n, rfl, rfl, Nat.le_refl _, by omega, ⟨[], Pl.start _ _ _ HAN.out HBN.out, by rw [List.append_nil, List.take_of_length_le (by rw [HAN.out]; omega)]; exact HO.out⟩, HB1.out⟩
  case round =>
    clear HO HB1
    obtain ⟨c, k, rfl, rfl, hk, hc, HP, hb⟩ := hrel
    by_cases hk0 : k = 0
    · subst hk0
      obtain ⟨R, hP, hOut⟩ := HP.out
      obtain ⟨hR1, hR2⟩ := hP.done HLT.out
      rw [HR.out] at hR1
      have hRd := hP.dig
      rw [List.take_zero, List.nil_append] at hOut
      obtain ⟨x, hx⟩ : ∃ x : ByteArray, (⟨R.toArray⟩ : ByteArray) = x := ⟨_, rfl⟩
      have hxl : x.data.toList = R := by rw [← hx]
      have hcv := fun cp => run_convert_bytes_back (P := Tryz.prog) wr 56 9 5 ⟨w.heap.size, 0, none⟩ cp R Tryz.underlying56 Tryz.underlying5 Tryz.underlying9 (fun j hj => by
        have e1 : (⟨w.heap.size, 0, none⟩ : Addr).add j = ⟨w.heap.size, j, none⟩ := by unfold Addr.add; split <;> simp_all
        rw [e1]
        exact (hOut j _ (List.getElem?_eq_getElem hj)).1)
      rw [hR2, hx] at hcv
      have hcv := hcv cap
      have hBa := fun W => bare_any x (by rw [← size_list', hxl]; unfold maxLen; omega) (by rw [← size_list', hxl]; omega) (by rw [hxl]; exact hRd) W
      rw [hxl, hR1] at hBa
      clear HP hP hOut hR1 hR2 hRd hx hxl HR HLT HAN HBN HAD HBD
      go_wp2_with (go_at_call 65; refine (hBa _).mono ?_; rintro e w' ⟨rfl, rfl⟩)
      go_ret
      exact ⟨rfl, hb⟩
    · obtain ⟨i, rfl⟩ : ∃ i, k = i + 1 := ⟨k - 1, by omega⟩
      have hi : i < n := by omega
      have e0 : ((i + 1 : Nat) : Int) - 1 = (i : Int) := by omega
      simp only [e0]
      obtain ⟨va, hva⟩ : ∃ c, A[i] = c := ⟨_, rfl⟩
      obtain ⟨vb, hvb⟩ : ∃ c, B[i] = c := ⟨_, rfl⟩
      have hga := get_some A i (by omega)
      have hgb := get_some B i (by omega)
      rw [hva] at hga
      rw [hvb] at hgb
      have a1 := digs_iff.1 HAD.out va (List.mem_of_getElem? hga)
      have b1 := digs_iff.1 HBD.out vb (List.mem_of_getElem? hgb)
      obtain ⟨d, hd⟩ : ∃ d, (va.toNat - 48) + (vb.toNat - 48) + c = d := ⟨_, rfl⟩
      have w1 : IntKind.u8.wrap ((va.toNat : Int) - 48) = (va.toNat : Int) - 48 := IntWalk.u8_in _ (by omega)
      have w2 : IntKind.u8.wrap ((va.toNat : Int) - 48 + (vb.toNat : Int)) = (va.toNat : Int) - 48 + (vb.toNat : Int) := IntWalk.u8_in _ (by omega)
      have w3 : IntKind.u8.wrap ((va.toNat : Int) - 48 + (vb.toNat : Int) - 48) = (va.toNat : Int) - 48 + (vb.toNat : Int) - 48 := IntWalk.u8_in _ (by omega)
      have w4 : IntKind.u8.wrap ((va.toNat : Int) - 48 + (vb.toNat : Int) - 48 + (c : Int)) = (d : Int) := by rw [IntWalk.u8_in _ (by omega)]; omega
      have hd19 : d ≤ 19 := by omega
      have hst : Hid (∃ R, Pl A.data.toList B.data.toList n i (d / 10) R ∧ Out (wr.setCell ⟨w.heap.size, i, none⟩ (.int .u8 (48 + (d : Int) % 10))) w.heap.size (A.data.toList.take i ++ R)) := by
        obtain ⟨R, hP, hOut⟩ := HP.out
        have h1 := hP.step HAN.out HBN.out hga hgb HAD.out HBD.out hd.symm
        have h2 := hOut.put (by rw [HAN.out]; exact hi) (UInt8.ofNat (48 + d % 10))
        rw [ofNat_dig (Nat.mod_lt _ (by decide)), show ((48 + d % 10 : Nat) : Int) = 48 + (d : Int) % 10 by omega] at h2
        exact ⟨_, h1, h2⟩
      have hcell : ∃ o : UInt8, wr.cell? ⟨w.heap.size, i, none⟩ = some (.int .u8 (o.toNat : Int)) ∧ wr.frozen? ⟨w.heap.size, i, none⟩ = false := by
        obtain ⟨R, hP, hOut⟩ := HP.out
        refine ⟨va, hOut i va ?_⟩
        rw [List.getElem?_append, List.length_take, HAN.out, Nat.min_eq_left (by omega), if_pos (by omega), List.getElem?_take_of_lt (by omega)]
        exact hga
      obtain ⟨o, c0, f0⟩ := hcell
      clear HP hga hgb a1 b1 hd HR HLT HAN HBN HAD HBD
      go_upto_region 8 with fail
      go_region
      all_goals
        go_wp2
        go_roundw
        case rel => exact ⟨d / 10, i, by first | rfl | go_num | (congr 1), by first | rfl | go_num, by omega, by omega, hst, (b_drew hb).setCell (p := ⟨w.heap.size, i, none⟩) (Nat.le_refl _) _⟩
        case measure => simp [intOf]
end Dc
end Go.Proofs.YthnpbkplcboejaaGreatDoor
