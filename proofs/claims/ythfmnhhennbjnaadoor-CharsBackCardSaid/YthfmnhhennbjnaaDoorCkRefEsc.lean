/- The reference: escape, Escape. -/
import Derived.Test.YthfmnhhennbjnaaDoorCkEsc
namespace Go.Proofs.YthfmnhhennbjnaaDoor
open Go.RowKit Go.Shelf
namespace Ck

def escByte (a : Bool) (b : UInt8) : List UInt8 := match escOpt a (b.toNat : Int) with | some l => l | none => [b]

set_option maxRecDepth 100000 in
set_option maxHeartbeats 1000000 in
theorem refescape_any (b : UInt8) (a : Bool) (w : World) :
    Calls Tryd.prog 39 #[.int .u8 (b.toNat : Int), .bool a] w fun e w' => e = .returned (.string ⟨(escByte a b).toArray⟩) ∧ Below w.heap.size w w' := by
  have B := b.toNat_lt
  have hcv := conv_ints [(b.toNat : Int)] (by simp; omega) w
  simp only [List.length_cons, List.length_nil, Nat.zero_add, List.map_cons, List.map_nil] at hcv
  obtain ⟨x, hx⟩ : ∃ x : Int, (b.toNat : Int) = x := ⟨_, rfl⟩
  rw [hx] at hcv
  have hxb : 0 ≤ x ∧ x < 256 := by omega
  have hu : u x = b := u_eq hx.symm
  unfold escByte
  rw [hx]
  have Hu := Lib.hid hu
  clear hx B hu
  obtain ⟨R, hR⟩ : ∃ R : List UInt8, R = (match escOpt a x with | some l => l | none => [b]) := ⟨_, rfl⟩
  rw [← hR]
  have HR := Lib.hid hR
  clear hR
  cases a
  all_goals
    go_enter Tryd.func39, Tryd.ntmps39
    go_wp2
    all_goals
      go_ret
      refine ⟨?_, by first | exact Below.refl _ _ | exact (Below.refl _ _).alloc (Nat.le_refl _) _⟩
      rw [HR.out]
      have hu := Hu.out
      simp_all [escOpt]

theorem escByte_len (a : Bool) (b : UInt8) : (escByte a b).length ≤ 6 := by
  unfold escByte
  cases h : escOpt a (b.toNat : Int) with
  | none => simp
  | some l => exact escOpt_len h
theorem escByte_high (a : Bool) (b : UInt8) (h : 128 ≤ b.toNat) : escByte a b = [b] := by
  unfold escByte
  have : escOpt a (b.toNat : Int) = none := by
    unfold escOpt
    repeat' split
    all_goals first | rfl | omega
  rw [this]
theorem esc_enc (a : Bool) (c : Int) (h : validB c = true) : (enc1 c).flatMap (escByte a) = escB a c := by
  rcases valid_cases h with ⟨h0, h1⟩ | ⟨h0, h1⟩ | h0 | ⟨h0, h1⟩
  · rw [enc1_one h0 h1]
    have e := u_nat' (x := c) h0 (by omega)
    simp only [List.flatMap_cons, List.flatMap_nil, List.append_nil, escByte, escB, e]
    cases escOpt a c with
    | none => exact (enc1_one h0 h1).symm
    | some l => rfl
  all_goals
    have hn : escOpt a c = none := by
      unfold escOpt
      repeat' split
      all_goals first | rfl | omega
    unfold escB
    rw [hn]
  · rw [enc1_two h0 h1]
    have e0 := u_nat (x := 192 + c / 64) (by omega) (by omega)
    have e1 := u_nat (x := 128 + c % 64) (by omega) (by omega)
    simp only [List.flatMap_cons, List.flatMap_nil, List.append_nil]
    rw [escByte_high _ _ (by omega), escByte_high _ _ (by omega)]; rfl
  · rw [enc1_three h0]
    have e0 := u_nat (x := 224 + c / 4096) (by omega) (by omega)
    have e1 := u_nat (x := 128 + c / 64 % 64) (by omega) (by omega)
    have e2 := u_nat (x := 128 + c % 64) (by omega) (by omega)
    simp only [List.flatMap_cons, List.flatMap_nil, List.append_nil]
    rw [escByte_high _ _ (by omega), escByte_high _ _ (by omega), escByte_high _ _ (by omega)]; rfl
  · rw [enc1_four h0 h1]
    have e0 := u_nat (x := 240 + c / 262144) (by omega) (by omega)
    have e1 := u_nat (x := 128 + c / 4096 % 64) (by omega) (by omega)
    have e2 := u_nat (x := 128 + c / 64 % 64) (by omega) (by omega)
    have e3 := u_nat (x := 128 + c % 64) (by omega) (by omega)
    simp only [List.flatMap_cons, List.flatMap_nil, List.append_nil]
    rw [escByte_high _ _ (by omega), escByte_high _ _ (by omega), escByte_high _ _ (by omega), escByte_high _ _ (by omega)]; rfl
theorem esc_all (a : Bool) (cs : List Int) (h : ∀ c ∈ cs, validB c = true) : (encL cs).flatMap (escByte a) = escL a cs := by
  induction cs with
  | nil => rfl
  | cons c cs ih =>
    have hc := esc_enc a c (h c (by simp))
    have ih := ih (fun x hx => h x (by simp [hx]))
    simp only [encL, List.flatMap_cons, List.flatMap_append, escL] at ih ⊢
    rw [hc, ih]

theorem take_snocB (s : ByteArray) (k : Nat) (h : k < s.size) : s.data.toList.take (k + 1) = s.data.toList.take k ++ [s[k]] := by
  rw [List.take_succ_eq_append_getElem (by rw [← list_size]; exact h)]; rfl

set_option maxRecDepth 100000 in
set_option maxHeartbeats 2000000 in
theorem refEscape_any (s : ByteArray) (a : Bool) (hs : s.size ≤ 1048576) (cs : List Int) (rest : List UInt8) (hS : Split s.data.toList cs rest) (w : World) :
    Calls Tryd.prog 24 #[.string s, .bool a] w fun e w' => ((rest = [] ∧ e = .returned (.tuple #[.string ⟨(escL a cs).toArray⟩, .int .i64 0])) ∨ (rest ≠ [] ∧ e = .returned (.tuple #[.string ⟨#[]⟩, .int .i64 6]))) ∧ Below w.heap.size w w' := by
  obtain ⟨i0, hi, hz0, hz1, hz2⟩ := info_parts infoByte
  by_cases hr : rest = []
  · have hd : decide (rest = []) = true := decide_eq_true hr
    have hT := fun W => refText_any s hs cs rest hS W
    rw [hd] at hT
    have HT := Lib.hid hT
    have Hr := Lib.hid hr
    have hfin : s.data.toList.flatMap (escByte a) = escL a cs := by rw [hS.eq, hr, List.append_nil, esc_all a cs hS.valid]
    have Hf := Lib.hid hfin
    clear hfin hr hd hT
    go_enter Tryd.func24, Tryd.ntmps24
    go_wp2_with (go_at_call 38; refine (HT.out _).mono ?_; rintro e w0 ⟨rfl, hb0⟩)
    go_loopw [6, 7] (fun o i wr => ∃ k : Nat, k ≤ s.size ∧ i = .int .i64 (k : Int) ∧ RowB w.heap.size o ((s.data.toList.take k).flatMap (escByte a)) wr ∧ Below w.heap.size w wr) (fun _ i _ => s.size - (intOf i).toNat)
    case atStart => exact ⟨0, Nat.zero_le _, rfl, rowB_nil _ _, hb0⟩
    case round =>
      obtain ⟨k, hk, rfl, hI, hb⟩ := hrel
      clear hb0
      by_cases hlt : k < s.size
      · have hlen : ((s.data.toList.take k).flatMap (escByte a)).length ≤ 6 * k := by
          have : ∀ l : List UInt8, (l.flatMap (escByte a)).length ≤ 6 * l.length := by
            intro l
            induction l with
            | nil => simp
            | cons x l ih =>
              have := escByte_len a x
              simp only [List.flatMap_cons, List.length_append, List.length_cons]
              omega
          have h1 := this (s.data.toList.take k)
          rw [List.length_take] at h1
          omega
        obtain ⟨p, hp⟩ : ∃ p, (s.data.toList.take k).flatMap (escByte a) = p := ⟨_, rfl⟩
        rw [hp] at hI hlen
        have hn : (s.data.toList.take (k + 1)).flatMap (escByte a) = p ++ escByte a s[k] := by
          rw [take_snocB s k hlt, List.flatMap_append, hp]; simp
        have Hn := Lib.hid hn
        clear hn hp
        have hbl := escByte_len a s[k]
        obtain ⟨E, hE⟩ : ∃ E, escByte a s[k] = E := ⟨_, rfl⟩
        rw [hE] at hbl
        have HC := Lib.hid (refescape_any s[k] a wr)
        rw [hE] at HC
        have HE := Lib.hid hE
        clear hE
        go_wp2_with (go_at_call 39; refine HC.out.mono ?_)
        rintro e w1 ⟨rfl, hb1⟩
        have hI1 := rowB_below hI hb1
        have hbw1 := hb.trans (hb1.mono hb.size)
        clear hI hb hb1 HC
        have hEs : (⟨E.toArray⟩ : ByteArray).size = E.length := by rw [list_size]
        go_wp2_with (at_builtin; refine Lib.wpList_append_own_stringF _ rfl _ _ 47 9 rfl w.heap.size 5 i0 Tryd.underlying47 Tryd.underlying9 hi hz0 hz1 hz2 _ _ _ rfl hI1 ⟨E.toArray⟩ rfl ?c3 ?c4 ?c5 ?_)
        case c3 => rw [hEs]; unfold maxLen; omega
        case c4 => rw [hEs]; omega
        case c5 => exact hbw1.size
        intro v' w2 hown' hgrow _
        have hbw2 : Below w.heap.size w w2 := hbw1.grown hgrow hbw1.size (fun j hj => (World.ownsRowF.lt hI1 j hj).1)
        have hI2 : RowB w.heap.size v' (p ++ E) w2 := by
          unfold RowB
          rw [List.length_append, Lib.byteCells_append]
          have e4 : Lib.strCells ⟨E.toArray⟩ = Lib.byteCells E := rfl
          rw [e4] at hown'
          exact hown'
        clear hI1 hown' hgrow hbw1
        obtain ⟨ao', n', cap', rfl⟩ : ∃ ao n' cap, v' = .slice ao n' cap := by
          rcases hI2.2 with ⟨hv, _⟩ | ⟨g, cap, cur, fz, hv, _⟩
          · exact ⟨_, _, _, hv⟩
          · exact ⟨_, _, _, hv⟩
        go_wp2
        go_roundw
        case rel => exact ⟨k + 1, by omega, by go_num, by rw [Hn.out, HE.out]; exact hI2, hbw2⟩
        case measure => simp [intOf]; omega
      · obtain rfl : k = s.size := by omega
        have hfull : s.data.toList.take s.size = s.data.toList := List.take_of_length_le (by rw [← list_size]; exact Nat.le_refl _)
        rw [hfull, Hf.out] at hI
        have hcv := rowB_string hI
        clear hfull
        go_wp2
        go_ret2
        exact ⟨.inl ⟨Hr.out, rfl⟩, hb⟩
  · have hd : decide (rest = []) = false := decide_eq_false hr
    have hT := fun W => refText_any s hs cs rest hS W
    rw [hd] at hT
    have HT := Lib.hid hT
    have Hr := Lib.hid hr
    clear hr hd hT
    go_enter Tryd.func24, Tryd.ntmps24
    go_wp2_with (go_at_call 38; refine (HT.out _).mono ?_; rintro e w0 ⟨rfl, hb0⟩)
    go_ret2
    exact ⟨.inr ⟨Hr.out, rfl⟩, hb0⟩
end Ck
end Go.Proofs.YthfmnhhennbjnaaDoor
