/- Decimal: made. -/
import Derived.Test.YthnpbkplcboejaaDoorDm
import Derived.IntWalk
import Derived.WalkSpells
set_option linter.unusedSimpArgs false
set_option linter.unusedVariables false
namespace Go.Proofs.YthnpbkplcboejaaDoor
open Go.RowKit Go.Shelf
namespace Dc
def R.val (r : R) : Value := .tuple #[r.d.val, .int .i64 r.no]
theorem infoDec : (Tryd.prog.info? 23).map (fun i => (i.zero, i.size)) = some (some (.agg #[.bool false, .string ⟨#[]⟩, .int .i64 0]), 3) := by kernel_rfl
theorem Blk.set3 {W : World} {B : Nat} {a b c : Value} {t : TypeId} (h : Blk W B #[a, b, c] t) (x y z : Value) : Blk (((W.setCell ⟨B, 0, none⟩ x).setCell ⟨B, 1, none⟩ y).setCell ⟨B, 2, none⟩ z) B #[x, y, z] t := ((h.set 0 x).set 1 y).set 2 z
theorem Blk.three {W : World} {B : Nat} {a b c : Value} {t : TypeId} (h : Blk W B #[a, b, c] t) : W.cell? ⟨B, 0, none⟩ = some a ∧ W.cell? ⟨B, 1, none⟩ = some b ∧ W.cell? ⟨B, 2, none⟩ = some c ∧ W.frozen? ⟨B, 0, none⟩ = false ∧ W.frozen? ⟨B, 1, none⟩ = false ∧ W.frozen? ⟨B, 2, none⟩ = false :=
  ⟨h.cell 0, h.cell 1, h.cell 2, h.frozen 0, h.frozen 1, h.frozen 2⟩
theorem b_set3 {n : Nat} {A W : World} (h : Below n A W) {B : Nat} (hB : n ≤ B) (x y z : Value) : Below n A (((W.setCell ⟨B, 0, none⟩ x).setCell ⟨B, 1, none⟩ y).setCell ⟨B, 2, none⟩ z) :=
  ((h.setCell (p := ⟨B, 0, none⟩) hB _).setCell (p := ⟨B, 1, none⟩) hB _).setCell (p := ⟨B, 2, none⟩) hB _
theorem sizeDec {a b c : Value} : (Tryd.prog.info? 23).map (·.size) = some (#[a, b, c] : Array Value).size := by kernel_rfl
theorem underDec : ∃ fs, Tryd.prog.underlying 23 = some (.struct fs) := ⟨_, Tryd.underlying23⟩
theorem run_loadDec {w : World} {g : Nat} {a b c : Value} {t : TypeId} (hg : Blk w g #[a, b, c] t) : (loadVar 23 ⟨g, 0, none⟩).run Tryd.prog w = .ok (.agg #[a, b, c]) w := by
  obtain ⟨fs, h⟩ := underDec
  exact run_loadVar_row w g t _ _ _ _ hg h rfl sizeDec
theorem results_row_slot {fn : Func} {p q : Tmp} (h : fn.results = #[.cell p 23, .tmp q]) (tmps : Array Value) (w : World) (g : Nat) (a b c : Value) {t : TypeId} {v : Value}
    (hp : tmps.getD p undef = .pointer (some ⟨g, 0, none⟩)) (hg : Blk w g #[a, b, c] t) (hq : tmps.getD q undef = v) :
    (results fn tmps).run Tryd.prog w = .ok (.tuple #[.agg #[a, b, c], v]) w := by
  have hp' : tmps[p]?.getD undef = .pointer (some ⟨g, 0, none⟩) := by simpa using hp
  have hq' : tmps[q]?.getD undef = v := by simpa using hq
  simp [results, h, hp', hq', asAddr, run_loadDec hg]
set_option maxHeartbeats 1000000 in
theorem Clone_any (s : ByteArray) (hs : s.size ≤ 281474976710656) (w : World) : Calls Tryd.prog 49 #[.string s] w fun e w' => e = .returned (.string s) ∧ Below w.heap.size w w' := by
  go_enter Tryd.func49, Tryd.ntmps49
  go_wp2_with (go_at_call 71; refine (Tryd.stringslite_Clone s _ hs).mono ?_; first | rintro e5 w5 rfl hb5 | rintro e5 w5 ⟨rfl, hb5⟩)
  go_ret
  exact ⟨rfl, hb5⟩
set_option maxRecDepth 100000 in
set_option maxHeartbeats 2000000 in
theorem made_any (neg : Bool) (s : ByteArray) (sc : Nat) (hd : digs s.data.toList = true) (hs : s.size ≤ 1000000) (hsc : sc ≤ 1000000) (w : World) :
    Calls Tryd.prog 27 #[.bool neg, .string s, .int .i64 sc] w fun e w' => e = .returned (mk neg (dv s.data.toList) sc).val ∧ Below w.heap.size w w' := by
  have hl := size_list' s
  have hT := fun W => Tryd.strings_TrimRight_one s 48 (by decide) W (by omega)
  have htz := Dc.trimR_len s.data.toList
  have htl := Dc.trimR_le s.data.toList
  obtain ⟨t1, ht1⟩ : ∃ t : ByteArray, (⟨(Lib.trimRightB s.data.toList 48).toArray⟩ : ByteArray) = t := ⟨_, rfl⟩
  have ht1s : t1.size = (Lib.trimRightB s.data.toList 48).length := by rw [← ht1]; show (Lib.trimRightB s.data.toList 48).toArray.size = _; simp
  simp only [ht1] at hT
  obtain ⟨z, hz⟩ : ∃ z, tz s.data.toList = z := ⟨_, rfl⟩
  have hsub : (s.size : Int) - (t1.size : Int) = (z : Int) := by omega
  have hzs : z ≤ s.size := by omega
  have hzi : (0 : Int) ≤ (z : Int) := by omega
  have htt : t1.size ≤ s.size := by omega
  clear htz htl ht1s ht1
  obtain ⟨r, hr⟩ : ∃ r, (mk neg (dv s.data.toList) sc) = r := ⟨_, rfl⟩
  rw [hr]
  have hsays := made_says neg hd sc (min sc z) (by rw [hz])
  rw [hr] at hsays
  have HS := Lib.hid hsays
  have HR := Lib.hid hr
  have HZ := Lib.hid hz
  have HL := Lib.hid hl
  have HD := Lib.hid hd
  obtain ⟨k, hk⟩ : ∃ k, min sc z = k := ⟨_, rfl⟩
  have hmin : min (sc : Int) (z : Int) = (k : Int) := by omega
  have hkz : k ≤ z := by omega
  have hks : k ≤ sc := by omega
  obtain ⟨sk, hsk⟩ : ∃ sk, sc - k = sk := ⟨_, rfl⟩
  obtain ⟨lk, hlk⟩ : ∃ lk, s.size - k = lk := ⟨_, rfl⟩
  have hsk' : (sc : Int) - (k : Int) = (sk : Int) := by omega
  have hlk' : (s.size : Int) - (k : Int) = (lk : Int) := by omega
  have hlks : (lk : Int) ≤ (s.size : Int) := by omega
  have hskb : sk ≤ 1000000 := by omega
  obtain ⟨u, hu⟩ : ∃ u, s.extract 0 lk = u := ⟨_, rfl⟩
  have hul : u.data.toList = s.data.toList.take lk := by rw [← hu, Lib.extract_data]; simp
  have hTL := fun W => Tryd.strings_TrimLeft_one u 48 (by decide) W
  rw [hk, hl, hlk, hsk, ← hul] at hsays
  have hts : Lib.trimLeftB u.data.toList 48 = strip u.data.toList := rfl
  rw [hts] at hTL
  have hB0 : ∀ o : Obj, Below w.heap.size w (w.alloc o) := fun o => (Below.refl _ w).alloc (Nat.le_refl _) o
  have HB0 := Lib.hid hB0
  by_cases he : strip u.data.toList = []
  · have hrv := hsays.1 he
    subst hrv
    rw [he] at hTL
    clear hsays hr hz hl hd hk hsk hlk hul hts he hB0 HR
    go_enter Tryd.func27, Tryd.ntmps27
    go_wp2_with (first | (go_at_call 47; refine (hT _).mono ?_; rintro e w5 ⟨rfl, hw5⟩; rw [hw5]) | (go_at_call 48; refine (hTL _).mono ?_; rintro e w5 ⟨rfl, hw5⟩; rw [hw5]))
    refine bodyPost_ret (v := (R.ok V.zero).val) (by simp [results, Tryd.results27, go_sem, R.val, R.d, R.no, D.val, V.d, V.zero, decB, dec_zero]) rfl ⟨rfl, HB0.out _⟩
  · obtain ⟨h1, h2, h3⟩ := hsays.2 he
    have hrr : r = if 10 ^ 60 ≤ (norm (dv s.data.toList) sc).1 ∨ 60 < (norm (dv s.data.toList) sc).2 then .err 7 else .ok ⟨neg, (norm (dv s.data.toList) sc).1, (norm (dv s.data.toList) sc).2⟩ := by
      rw [← hr]; unfold mk; rw [if_neg h3]
    obtain ⟨n', hn'⟩ : ∃ n', (norm (dv s.data.toList) sc).1 = n' := ⟨_, rfl⟩
    rw [hn', ← h2] at hrr
    rw [hn'] at h1
    rw [h1] at hTL
    have hdl : (dec n').length ≤ 60 ↔ n' < 10 ^ 60 := dec_len (by decide)
    have hsz : (decB n').size = (dec n').length := by show (dec n').toArray.size = _; simp
    have hle : (dec n').length ≤ 1000000 := by
      rw [← h1]
      have : (strip u.data.toList).length ≤ u.data.toList.length := by
        obtain ⟨q, hq⟩ := strip_split u.data.toList
        have := congrArg List.length hq
        rw [List.length_append] at this; omega
      have h9 : u.data.toList.length = min lk s.data.toList.length := by rw [hul, List.length_take]
      omega
    obtain ⟨v, hv⟩ : ∃ v, decB n' = v := ⟨_, rfl⟩
    have hTL' : ∀ W, Calls Tryd.prog 48 #[.string u, .string ⟨#[48]⟩] W fun e w' => e = .returned (.string v) ∧ w' = W := by rw [← hv]; exact hTL
    rw [hv] at hsz
    have hem : v.toList.isEmpty = false := by
      rw [ByteArray.toList_eq, ← hv]
      show ((dec n').toArray.toList).isEmpty = false
      rw [List.toList_toArray, List.isEmpty_eq_false_iff]
      exact dec_ne_nil _
    have hvs : v.size ≤ 1000000 := by omega
    have hCl := fun W => Clone_any v (by omega) W
    by_cases hbig : 60 < v.size
    · have e : Hid (r = .err 7) := by show _ = _; rw [hrr, if_pos]; left; omega
      have g1 : decide (60 < (v.size : Int)) = true := decide_eq_true (by omega)
      clear hsays hr hz hl hd hk hsk hlk hul hts he hB0 HR hTL h1 h2 h3 hrr hn' hdl hsz hle hv hbig
      go_enter Tryd.func27, Tryd.ntmps27
      go_wp2_with (first | (go_at_call 47; refine (hT _).mono ?_; rintro e w5 ⟨rfl, hw5⟩; rw [hw5]) | (go_at_call 48; refine (hTL' _).mono ?_; rintro e w5 ⟨rfl, hw5⟩; rw [hw5]))
      rw [e.out]
      refine bodyPost_ret (v := (R.err 7).val) (by simp [results, Tryd.results27, go_sem, R.val, R.d, R.no, D.val, D.zero]) rfl ⟨rfl, HB0.out _⟩
    · have g1 : decide (60 < (v.size : Int)) = false := decide_eq_false (by omega)
      by_cases hbig2 : 60 < sk
      · have e : Hid (r = .err 7) := by show _ = _; rw [hrr, if_pos]; right; exact hbig2
        have g2 : decide (60 < (sk : Int)) = true := decide_eq_true (by omega)
        clear hsays hr hz hl hd hk hsk hlk hul hts he hB0 HR hTL h1 h2 h3 hrr hn' hdl hsz hle hv hbig hbig2
        go_enter Tryd.func27, Tryd.ntmps27
        go_wp2_with (first | (go_at_call 47; refine (hT _).mono ?_; rintro e w5 ⟨rfl, hw5⟩; rw [hw5]) | (go_at_call 48; refine (hTL' _).mono ?_; rintro e w5 ⟨rfl, hw5⟩; rw [hw5]))
        rw [e.out]
        refine bodyPost_ret (v := (R.err 7).val) (by simp [results, Tryd.results27, go_sem, R.val, R.d, R.no, D.val, D.zero]) rfl ⟨rfl, HB0.out _⟩
      · have e : Hid (r = .ok ⟨neg, n', sk⟩) := by show _ = _; rw [hrr, if_neg]; omega
        have g2 : decide (60 < (sk : Int)) = false := decide_eq_false (by omega)
        have Hv := Lib.hid hv
        clear hsays hr hz hl hd hk hsk hlk hul hts he hB0 HR hTL h1 h2 h3 hrr hn' hdl hsz hle hv hbig hbig2
        go_enter Tryd.func27, Tryd.ntmps27
        go_wp2_with (first | (go_at_call 47; refine (hT _).mono ?_; rintro e w5 ⟨rfl, hw5⟩; rw [hw5]) | (go_at_call 48; refine (hTL' _).mono ?_; rintro e w5 ⟨rfl, hw5⟩; rw [hw5]))
        refine (hCl _).mono ?_
        first | rintro e5 w5 rfl hb5 | rintro e5 w5 ⟨rfl, hb5⟩
        have hB5 : Blk w5 w.heap.size #[.bool false, .string ⟨#[]⟩, .int .i64 0] 23 := (Blk.new w _ _).below (by simp) hb5
        have hbw := b_step hb5 (HB0.out _)
        obtain ⟨c0, c1, c2, f0, f1, f2⟩ := hB5.three
        go_wp2
        rw [e.out]
        refine bodyPost_ret (v := (R.ok ⟨neg, n', sk⟩).val) (by rw [show (R.ok ⟨neg, n', sk⟩).val = .tuple #[.agg #[.bool neg, .string (decB n'), .int .i64 (sk : Int)], .int .i64 0] from rfl, Hv.out]; exact results_row_slot (by rfl) _ _ _ _ _ _ (by rfl) (hB5.set3 _ _ _) (by rfl)) rfl ⟨rfl, b_set3 hbw (Nat.le_refl _) _ _ _⟩
end Dc
end Go.Proofs.YthnpbkplcboejaaDoor
