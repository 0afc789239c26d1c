/- Squeeze: the reference's. -/
import Derived.Test.YthfmnhhennbjnaaDoorCkSq
import Derived.Test.YthfmnhhennbjnaaDoorCkRefEsc
namespace Go.Proofs.YthfmnhhennbjnaaDoor
open Go.RowKit Go.Shelf
namespace Ck

theorem refBlank_is (c : Int) (v : Bool) (hv : blankB c = v) (w : World) :
    Calls Tryd.prog 11 #[.int .i32 c] w fun e w' => e = .returned (.bool v) ∧ w = w' := by
  rw [← hv]; exact refBlank_any c w
theorem rowB_last {B : Nat} {v : Value} {o : List UInt8} {w : World} (h : RowB B v o w) (hne : o ≠ []) : ∃ g cap, v = .slice (some ⟨g, 0, none⟩) o.length cap ∧ B ≤ g ∧ (∀ j (hj : j < o.length), w.cell? ⟨g, j, none⟩ = some (.int .u8 (o[j].toNat : Int))) ∧ o.length ≤ cap := by
  rcases h.2 with ⟨_, h0⟩ | ⟨g, cap, cur, fz, rfl, hB, _, _, hcap, _⟩
  · exact absurd (List.eq_nil_of_length_eq_zero h0) hne
  · refine ⟨g, cap, rfl, hB, fun j hj => ?_, hcap⟩
    have := World.ownsRowF.cells h (g := g) rfl j (.int .u8 (o[j].toNat : Int)) (by simp [Lib.byteCells, hj])
    have ha : (⟨g, 0, none⟩ : Addr).add j = ⟨g, j, none⟩ := by unfold Addr.add; split <;> simp_all
    rwa [ha] at this
theorem rowB_val {B : Nat} {v : Value} {o : List UInt8} {w : World} (h : RowB B v o w) : ∃ ao cap, v = .slice ao o.length cap := by
  rcases h.2 with ⟨hv, h0⟩ | ⟨g, cap, cur, fz, hv, _⟩
  · exact ⟨_, _, by rw [h0]; exact hv⟩
  · exact ⟨_, _, hv⟩
theorem last_eq {o : List UInt8} (_hne : o ≠ []) (h : o.length - 1 < o.length) : o.getLast? = some o[o.length - 1] := by
  rw [List.getLast?_eq_getElem?, List.getElem?_eq_getElem h]
/-- string(b[:len(b)-1]). -/
theorem conv_butlast {B : Nat} {o : List UInt8} {w : World} {g cap : Nat} (h : RowB B (.slice (some ⟨g, 0, none⟩) o.length cap) o w) :
    (convert 47 9 (.slice (some ⟨g, 0, none⟩) (o.length - 1) cap)).run Tryd.prog w = .ok (.string ⟨o.dropLast.toArray⟩) w := by
  have := run_convert_bytes_back (P := Tryd.prog) w 47 9 5 ⟨g, 0, none⟩ cap o.dropLast Tryd.underlying47 Tryd.underlying5 Tryd.underlying9 (fun j hj => by
      have hj' : j < o.length := by rw [List.length_dropLast] at hj; omega
      have := World.ownsRowF.cells h (g := g) rfl j (.int .u8 (o[j].toNat : Int)) (by simp [Lib.byteCells, hj'])
      rw [List.getElem_dropLast]
      exact this)
  rwa [List.length_dropLast] at this

def SqSays (m : Int) (cs : List Int) (rest : List UInt8) (e : Ending) : Prop :=
  (rest = [] ∧ e = .returned (.tuple #[.string ⟨(psq m cs).1.toArray⟩, .int .i64 0])) ∨ (rest ≠ [] ∧ e = .returned (.tuple #[.string ⟨#[]⟩, .int .i64 6]))

theorem rsq_snoc (m : Int) (l : List UInt8) (b : UInt8) : rsq m (l ++ [b]) = rstep m (rsq m l) b := by simp [rsq]
theorem rsq_len (m : Int) (l : List UInt8) : (rsq m l).length ≤ l.length := by
  have : ∀ (l o : List UInt8), (l.foldl (rstep m) o).length ≤ o.length + l.length := by
    intro l
    induction l with
    | nil => intro o; simp
    | cons b l ih =>
      intro o
      have h1 := ih (rstep m o b)
      have h2 : (rstep m o b).length ≤ o.length + 1 := by unfold rstep; split <;> simp
      simp only [List.foldl_cons, List.length_cons]
      omega
  simpa [rsq] using this l []

set_option maxRecDepth 100000 in
set_option maxHeartbeats 4000000 in
theorem refSqueeze_loop (s : ByteArray) (m : Int) (hm : m = 1 ∨ m = 2) (hs : s.size ≤ 1048576) (cs : List Int) (hS : Split s.data.toList cs []) (w : World) :
    Calls Tryd.prog 28 #[.string s, .int .i64 m] w fun e w' => e = .returned (.tuple #[.string ⟨(psq m cs).1.toArray⟩, .int .i64 0]) ∧ Below w.heap.size w w' := by
  obtain ⟨i0, hi, hz0, hz1, hz2⟩ := info_parts infoByte
  have HT := Lib.hid (fun W => refText_any s hs cs [] hS W)
  have hfin : rfin m (rsq m s.data.toList) = (psq m cs).1 := by rw [hS.eq, List.append_nil, sq_same m hm cs hS.valid]
  have hd1 : decide (m < 0) = false := decide_eq_false (by omega)
  have hd2 : decide (2 < m) = false := decide_eq_false (by omega)
  have hd3 : ((m : Int) == 0) = false := by rw [beq_eq_false_iff_ne]; omega
  obtain ⟨R, hR⟩ : ∃ R, (psq m cs).1 = R := ⟨_, rfl⟩
  rw [hR] at hfin ⊢
  have Hf := Lib.hid hfin
  have Hm := Lib.hid hm
  clear hfin hR hm hS
  go_enter Tryd.func28, Tryd.ntmps28
  go_wp2_with (go_at_call 38; refine (HT.out _).mono ?_; rintro e w0 ⟨rfl, hb0⟩)
  go_loopw [6, 7] (fun o i wr => ∃ k : Nat, k ≤ s.size ∧ i = .int .i64 (k : Int) ∧ RowB w.heap.size o (rsq m (s.data.toList.take k)) wr ∧ Below w.heap.size w wr) (fun _ i _ => s.size - (intOf i).toNat)
  case atStart => exact ⟨0, Nat.zero_le _, rfl, rowB_nil _ _, hb0⟩
  case round =>
    obtain ⟨k, hk, rfl, hI, hb⟩ := hrel
    clear hb0
    by_cases hlt : k < s.size
    · have hlen := rsq_len m (s.data.toList.take k)
      rw [List.length_take] at hlen
      obtain ⟨o, ho⟩ : ∃ o, rsq m (s.data.toList.take k) = o := ⟨_, rfl⟩
      obtain ⟨b, hb'⟩ : ∃ b, s[k] = b := ⟨_, rfl⟩
      rw [ho] at hI hlen
      have hn : rsq m (s.data.toList.take (k + 1)) = rstep m o b := by rw [take_snocB s k hlt, rsq_snoc, ho, hb']
      have Hn := Lib.hid hn
      have hol : o.length ≤ 1048576 := by omega
      clear hn ho hlen
      have hsz := hb.size
      have B := b.toNat_lt
      cases hbl : blankB (b.toNat : Int)
      · have Hbl := Lib.hid hbl
        clear hbl
        have g32 : ((b.toNat : Int) == 32) = false := by
          rw [beq_eq_false_iff_ne]
          intro e
          have := Hbl.out
          rw [e] at this
          exact absurd this (by decide)
        obtain ⟨ao, cap, rfl⟩ := rowB_val hI
        cases hm2 : ((m : Int) == 2)
        · go_wp2_with (first | (go_at_call 11; refine (refBlank_is _ false Hbl.out _).mono ?_; rintro e w1 ⟨rfl, rfl⟩) | (at_builtin; refine wpList_append_ownF _ rfl _ _ 47 rfl w.heap.size 5 i0 (.int .u8 0) 1 1 Tryd.underlying47 hi hz0 hz1 hz2 rfl (by decide) _ _ _ rfl (hI.alloc _) ⟨wr.heap.size, 0, none⟩ 1 1 [.int .u8 (b.toNat : Int)] rfl rfl ?c1 ?c2 ?c3 ?c4 ?c5 ?_))
          case c1 =>
            intro j u hj
            match j, hj with
            | 0, hj => simp at hj; subst hj; simp [Addr.add]
          case c2 => intro u hu; simp at hu; subst hu; rfl
          case c3 => unfold maxLen; omega
          case c4 => omega
          case c5 => simp; omega
          intro v' w2 hown' hgrow _
          have hbw2 : Below w.heap.size w w2 := (hb.alloc hsz _).grown hgrow (by simp; omega) (fun j hj => (World.ownsRowF.lt hI j hj).1)
          have hI2 : RowB w.heap.size v' (o ++ [b]) w2 := by
            unfold RowB
            rw [List.length_append, Lib.byteCells_append]
            exact hown'
          clear hown' hgrow hI hb
          obtain ⟨ao', cap', rfl⟩ := rowB_val hI2
          go_wp2
          go_roundw
          case rel => exact ⟨k + 1, by omega, by go_num, by rw [Hn.out, rstep_no m o Hbl.out]; exact hI2, hbw2⟩
          case measure => simp [intOf]; omega
        · go_wp2_with (first | (go_at_call 11; refine (refBlank_is _ false Hbl.out _).mono ?_; rintro e w1 ⟨rfl, rfl⟩) | (at_builtin; refine wpList_append_ownF _ rfl _ _ 47 rfl w.heap.size 5 i0 (.int .u8 0) 1 1 Tryd.underlying47 hi hz0 hz1 hz2 rfl (by decide) _ _ _ rfl (hI.alloc _) ⟨wr.heap.size, 0, none⟩ 1 1 [.int .u8 (b.toNat : Int)] rfl rfl ?c1 ?c2 ?c3 ?c4 ?c5 ?_))
          case c1 =>
            intro j u hj
            match j, hj with
            | 0, hj => simp at hj; subst hj; simp [Addr.add]
          case c2 => intro u hu; simp at hu; subst hu; rfl
          case c3 => unfold maxLen; omega
          case c4 => omega
          case c5 => simp; omega
          intro v' w2 hown' hgrow _
          have hbw2 : Below w.heap.size w w2 := (hb.alloc hsz _).grown hgrow (by simp; omega) (fun j hj => (World.ownsRowF.lt hI j hj).1)
          have hI2 : RowB w.heap.size v' (o ++ [b]) w2 := by
            unfold RowB
            rw [List.length_append, Lib.byteCells_append]
            exact hown'
          clear hown' hgrow hI hb
          obtain ⟨ao', cap', rfl⟩ := rowB_val hI2
          go_wp2
          go_roundw
          case rel => exact ⟨k + 1, by omega, by go_num, by rw [Hn.out, rstep_no m o Hbl.out]; exact hI2, hbw2⟩
          case measure => simp [intOf]; omega
      · have Hbl := Lib.hid hbl
        clear hbl
        have hbl32 : bl b = 32 := by unfold bl; rw [Hbl.out]; rfl
        have Hb32 := Lib.hid hbl32
        clear hbl32
        cases hm2 : ((m : Int) == 2)
        · have hst : rstep m o b = o ++ [32] := by unfold rstep skipB; rw [decide_eq_false (beq_eq_false_iff_ne.1 hm2), Hb32.out]; rfl
          have Hst := Lib.hid hst
          clear hst
          obtain ⟨ao, cap, rfl⟩ := rowB_val hI
          go_wp2_with (first | (go_at_call 11; refine (refBlank_is _ true Hbl.out _).mono ?_; rintro e w1 ⟨rfl, rfl⟩) | (at_builtin; refine wpList_append_ownF _ rfl _ _ 47 rfl w.heap.size 5 i0 (.int .u8 0) 1 1 Tryd.underlying47 hi hz0 hz1 hz2 rfl (by decide) _ _ _ rfl (hI.alloc _) ⟨wr.heap.size, 0, none⟩ 1 1 [.int .u8 32] rfl rfl ?c1 ?c2 ?c3 ?c4 ?c5 ?_))
          case c1 =>
            intro j u hj
            match j, hj with
            | 0, hj => simp at hj; subst hj; simp [Addr.add]
          case c2 => intro u hu; simp at hu; subst hu; rfl
          case c3 => unfold maxLen; omega
          case c4 => omega
          case c5 => simp; omega
          intro v' w2 hown' hgrow _
          have hbw2 : Below w.heap.size w w2 := (hb.alloc hsz _).grown hgrow (by simp; omega) (fun j hj => (World.ownsRowF.lt hI j hj).1)
          have hI2 : RowB w.heap.size v' (o ++ [32]) w2 := by
            unfold RowB
            rw [List.length_append, Lib.byteCells_append]
            exact hown'
          clear hown' hgrow hI hb
          obtain ⟨ao', cap', rfl⟩ := rowB_val hI2
          go_wp2
          go_roundw
          case rel => exact ⟨k + 1, by omega, by go_num, by rw [Hn.out, Hst.out]; exact hI2, hbw2⟩
          case measure => simp [intOf]; omega
        · have hmm : m = 2 := by simpa using hm2
          by_cases hne : o = []
          · have hst : rstep m o b = o := by unfold rstep skipB; rw [decide_eq_true hmm, Hb32.out, hne]; rfl
            have Hst := Lib.hid hst
            obtain ⟨ao, cap, rfl⟩ := rowB_val hI
            have hz0' : ((o.length : Nat) : Int) = 0 := by rw [hne]; rfl
            have gz : (((o.length : Nat) : Int) == 0) = true := by rw [hz0']; rfl
            clear hst hmm hne hz0'
            go_wp2_with (go_at_call 11; refine (refBlank_is _ true Hbl.out _).mono ?_; rintro e w1 ⟨rfl, rfl⟩)
            go_roundw
            case rel => exact ⟨k + 1, by omega, by go_num, by rw [Hn.out, Hst.out]; exact hI, hb⟩
            case measure => simp [intOf]; omega
          · obtain ⟨g, cap, rfl, hg, hcell, _⟩ := rowB_last hI hne
            have hpos := List.length_pos_iff.2 hne
            have gz : (((o.length : Nat) : Int) == 0) = false := by rw [beq_eq_false_iff_ne]; omega
            have hlast := hcell (o.length - 1) (by omega)
            have hle := last_eq hne (by omega)
            obtain ⟨x, hx⟩ : ∃ x, o[o.length - 1]'(by omega) = x := ⟨_, rfl⟩
            rw [hx] at hlast hle
            obtain ⟨n, hn'⟩ : ∃ n, o.length = n + 1 := ⟨o.length - 1, by omega⟩
            have hcl : wr.cell? ⟨g, n, none⟩ = some (.int .u8 (x.toNat : Int)) := by rw [← hlast, hn']; rfl
            have Hn' := Lib.hid hn'
            have hnb : n ≤ 1048576 := by omega
            have gz2 : (((n : Nat) : Int) + 1 == 0) = false := by rw [beq_eq_false_iff_ne]; omega
            cases hx32 : ((x.toNat : Int) == 32)
            · have hst : rstep m o b = o ++ [32] := by
                have hx2 : x ≠ 32 := by rintro rfl; exact absurd hx32 (by decide)
                unfold rstep skipB
                rw [decide_eq_true hmm, Hb32.out, decide_eq_false hne, hle]
                simp [hx2]
              have Hst := Lib.hid hst
              clear hst hmm hne hlast hle hx hcell hpos
              rw [hn'] at gz hI ⊢
              clear hn'
              go_wp2_with (first | (go_at_call 11; refine (refBlank_is _ true Hbl.out _).mono ?_; rintro e w1 ⟨rfl, rfl⟩) | (at_builtin; refine wpList_append_ownF _ rfl _ _ 47 rfl w.heap.size 5 i0 (.int .u8 0) 1 1 Tryd.underlying47 hi hz0 hz1 hz2 rfl (by decide) _ _ _ rfl (hI.alloc _) ⟨wr.heap.size, 0, none⟩ 1 1 [.int .u8 32] rfl rfl ?c1 ?c2 ?c3 ?c4 ?c5 ?_))
              case c1 =>
                intro j u hj
                match j, hj with
                | 0, hj => simp at hj; subst hj; simp [Addr.add]
              case c2 => intro u hu; simp at hu; subst hu; rfl
              case c3 => unfold maxLen; omega
              case c4 => omega
              case c5 => simp; omega
              intro v' w2 hown' hgrow _
              have hbw2 : Below w.heap.size w w2 := (hb.alloc hsz _).grown hgrow (by simp; omega) (fun j hj => (World.ownsRowF.lt hI j hj).1)
              have hI2 : RowB w.heap.size v' (o ++ [32]) w2 := by
                unfold RowB
                rw [List.length_append, Lib.byteCells_append]
                exact hown'
              clear hown' hgrow hI hb
              obtain ⟨ao', cap', rfl⟩ := rowB_val hI2
              go_wp2
              go_roundw
              case rel => exact ⟨k + 1, by omega, by go_num, by rw [Hn.out, Hst.out]; exact hI2, hbw2⟩
              case measure => simp [intOf]; omega
            · have hst : rstep m o b = o := by
                have hx2 : x = 32 := by
                  have : x.toNat = 32 := by have := of_decide_eq_true (p := (x.toNat : Int) = 32) (by simpa using hx32); omega
                  exact UInt8.toNat_inj.1 (by rw [this]; rfl)
                unfold rstep skipB
                rw [decide_eq_true hmm, Hb32.out, decide_eq_false hne, hle, hx2]
                simp
              have Hst := Lib.hid hst
              clear hst hmm hne hlast hle hx hcell hpos
              rw [hn'] at gz ⊢
              clear hn'
              go_wp2_with (go_at_call 11; refine (refBlank_is _ true Hbl.out _).mono ?_; rintro e w1 ⟨rfl, rfl⟩)
              go_roundw
              case rel => exact ⟨k + 1, by omega, by go_num, by rw [Hn.out, Hst.out]; rw [Hn'.out] at hI; exact hI, hb⟩
              case measure => simp [intOf]; omega
    · obtain rfl : k = s.size := by omega
      have hfull : s.data.toList.take s.size = s.data.toList := List.take_of_length_le (by rw [← list_size]; exact Nat.le_refl _)
      rw [hfull] at hI
      have hlen := rsq_len m s.data.toList
      rw [← list_size] at hlen
      obtain ⟨o, ho⟩ : ∃ o, rsq m s.data.toList = o := ⟨_, rfl⟩
      have hf := Hf.out
      rw [ho] at hI hf hlen
      have hol : o.length ≤ 1048576 := by omega
      clear hfull ho hlen
      cases hm2 : ((m : Int) == 2)
      · have hR2 : o = R := by rw [← hf]; unfold rfin; rw [if_neg (fun h => beq_eq_false_iff_ne.1 hm2 h.1)]
        subst hR2
        obtain ⟨ao, cap, rfl⟩ := rowB_val hI
        have hcv := rowB_string hI
        clear hf
        go_wp2
        go_ret2
        exact ⟨rfl, hb⟩
      · have hmm : m = 2 := by simpa using hm2
        by_cases hne : o = []
        · subst hne
          have hR2 : ([] : List UInt8) = R := by rw [← hf]; unfold rfin; rw [if_neg (fun h => absurd h.2 (by simp))]
          subst hR2
          obtain ⟨ao, cap, rfl⟩ := rowB_val hI
          have hcv := rowB_string hI
          simp only [List.length_nil] at hcv ⊢
          clear hf hmm
          go_wp2
          go_ret2
          exact ⟨rfl, hb⟩
        · obtain ⟨g, cap, rfl, hg, hcell, hcap⟩ := rowB_last hI hne
          have hpos := List.length_pos_iff.2 hne
          have hlast := hcell (o.length - 1) (by omega)
          have hle := last_eq hne (by omega)
          obtain ⟨x, hx⟩ : ∃ x, o[o.length - 1]'(by omega) = x := ⟨_, rfl⟩
          rw [hx] at hlast hle
          have hcv := rowB_string hI
          have hcb := conv_butlast hI
          obtain ⟨n, hn'⟩ : ∃ n, o.length = n + 1 := ⟨o.length - 1, by omega⟩
          have hcl : wr.cell? ⟨g, n, none⟩ = some (.int .u8 (x.toNat : Int)) := by rw [← hlast, hn']; rfl
          have hnb : n ≤ 1048576 := by omega
          have hnc : n ≤ cap := by omega
          have hnc2 : n + 1 ≤ cap := by omega
          have gz2 : decide ((0 : Int) < ((n : Nat) : Int) + 1) = true := by rw [decide_eq_true_iff]; omega
          rw [hn'] at hcv hcb ⊢
          rw [show n + 1 - 1 = n by omega] at hcb
          cases hx32 : ((x.toNat : Int) == 32)
          · have hR2 : o = R := by
              rw [← hf]; unfold rfin
              rw [if_neg (fun h => by rw [hle] at h; have := Option.some.inj h.2; subst this; exact absurd hx32 (by decide))]
            subst hR2
            clear hf hmm hne hlast hle hx hcell hpos hn' hcb
            go_wp2
            go_ret2
            exact ⟨rfl, hb⟩
          · have hR2 : o.dropLast = R := by
              have hx2 : x = 32 := by
                have : x.toNat = 32 := by have := of_decide_eq_true (p := (x.toNat : Int) = 32) (by simpa using hx32); omega
                exact UInt8.toNat_inj.1 (by rw [this]; rfl)
              rw [← hf]; unfold rfin
              rw [if_pos ⟨hmm, by rw [hle, hx2]⟩]
            rw [hR2] at hcb
            have Hn' := Lib.hid hn'
            clear hf hmm hne hlast hle hx hcell hpos hn' hcv
            go_wp2
            go_ret2
            exact ⟨rfl, hb⟩

/-- Squeeze, as the reference has it. -/
theorem refSqueeze_any (s : ByteArray) (m : Int) (hm : 0 ≤ m ∧ m ≤ 2) (hs : s.size ≤ 1048576) (cs : List Int) (rest : List UInt8) (hS : Split s.data.toList cs rest) (w : World) :
    Calls Tryd.prog 28 #[.string s, .int .i64 m] w fun e w' => SqSays m cs rest e ∧ Below w.heap.size w w' := by
  by_cases hr : rest = []
  · by_cases h0 : m = 0
    · subst hr h0
      have HT := Lib.hid (fun W => refText_any s hs cs [] hS W)
      have hz : (⟨(psq 0 cs).1.toArray⟩ : ByteArray) = s := by
        rw [sq_zero]
        have := hS.eq
        rw [List.append_nil] at this
        rw [← this]
      have Hz := Lib.hid hz
      clear hz
      go_enter Tryd.func28, Tryd.ntmps28
      go_wp2_with (go_at_call 38; refine (HT.out _).mono ?_; rintro e w0 ⟨rfl, hb0⟩)
      go_ret2
      exact ⟨.inl ⟨rfl, by rw [Hz.out]; rfl⟩, hb0⟩
    · subst hr
      refine (refSqueeze_loop s m (by omega) hs cs hS w).mono ?_
      rintro e w' ⟨he, hb⟩
      exact ⟨.inl ⟨rfl, he⟩, hb⟩
  · have hT := fun W => refText_any s hs cs rest hS W
    rw [decide_eq_false hr] at hT
    have HT := Lib.hid hT
    have Hr := Lib.hid hr
    have hd1 : decide (m < 0) = false := decide_eq_false (by omega)
    have hd2 : decide (2 < m) = false := decide_eq_false (by omega)
    clear hT hr hm hS
    go_enter Tryd.func28, Tryd.ntmps28
    go_wp2_with (go_at_call 38; refine (HT.out _).mono ?_; rintro e w0 ⟨rfl, hb0⟩)
    go_ret2
    exact ⟨.inr ⟨Hr.out, rfl⟩, hb0⟩
theorem refSqueeze_arg (s : ByteArray) (m : Int) (hm : m < 0 ∨ 2 < m) (w : World) :
    Calls Tryd.prog 28 #[.string s, .int .i64 m] w fun e w' => e = .returned (.tuple #[.string ⟨#[]⟩, .int .i64 2]) ∧ Below w.heap.size w w' := by
  rcases hm with hm | hm
  · have hd : decide (m < 0) = true := decide_eq_true hm
    clear hm
    go_enter Tryd.func28, Tryd.ntmps28
    go_wp2
    go_ret2
    exact ⟨rfl, Below.refl _ _⟩
  · have hd : decide (m < 0) = false := decide_eq_false (by omega)
    have hd2 : decide (2 < m) = true := decide_eq_true hm
    clear hm
    go_enter Tryd.func28, Tryd.ntmps28
    go_wp2
    go_ret2
    exact ⟨rfl, Below.refl _ _⟩
theorem Squeeze_any (s : ByteArray) (m : Int) (hm : 0 ≤ m ∧ m ≤ 2) (hs : s.size ≤ 1048576) (cs : List Int) (rest : List UInt8) (hS : Split s.data.toList cs rest) (w : World) (hG : G w) :
    Calls Tryd.prog 27 #[.string s, .int .i64 m] w fun e w' => SqSays m cs rest e ∧ Below w.heap.size w w' := Squeeze_mid s m hm hs cs rest hS w hG
end Ck
end Go.Proofs.YthfmnhhennbjnaaDoor
