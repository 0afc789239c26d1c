/- squeezed and CharsBack. -/
import Derived.Test.YthfmnhhennbjnaaDoorCkBackPlain
namespace Go.Proofs.YthfmnhhennbjnaaDoor
open Go.RowKit Go.Shelf
namespace Ck

theorem sq_ok (s : ByteArray) (hs : s.size ≤ 1048576) (m : Int) (hm : 0 ≤ m ∧ m ≤ 2) (cs : List Int) (hS : Split s.data.toList cs []) (o : List UInt8) (ho : (psq m cs).1 = o) (W : World) (hG : G W) :
    Calls Tryd.prog 27 #[.string s, .int .i64 m] W (SU ⟨o.toArray⟩ 0 W) :=
  (Squeeze_any s m hm hs cs [] hS W hG).mono fun _ _ ⟨h, hb⟩ => ⟨h.elim (fun h => by rw [← ho]; exact h.2) (fun h => absurd rfl h.1), hb⟩
theorem sq_no (s : ByteArray) (hs : s.size ≤ 1048576) (m : Int) (hm : 0 ≤ m ∧ m ≤ 2) (cs : List Int) (rest : List UInt8) (hS : Split s.data.toList cs rest) (hr : rest ≠ []) (W : World) (hG : G W) :
    Calls Tryd.prog 27 #[.string s, .int .i64 m] W (SU ⟨#[]⟩ 6 W) :=
  (Squeeze_any s m hm hs cs rest hS W hG).mono fun _ _ ⟨h, hb⟩ => ⟨h.elim (fun h => absurd h.1 hr) (fun h => h.2), hb⟩
theorem cs_len {s : ByteArray} {cs : List Int} (h : Split s.data.toList cs []) : cs.length ≤ s.size := by
  have h2 := congrArg List.length h.eq
  rw [List.append_nil, ← list_size] at h2
  have : ∀ l : List Int, l.length ≤ (encL l).length := by
    intro l
    induction l with
    | nil => simp
    | cons c l ih =>
      have := enc1_len c
      rw [encL_cons, List.length_append, List.length_cons]
      omega
  have := this cs
  omega

set_option maxRecDepth 100000 in
set_option maxHeartbeats 4000000 in
theorem squeezed_any (s : ByteArray) (hs : s.size ≤ 5000) (w : World) (hG : G w) :
    Calls Tryd.prog 29 #[.string s] w fun e w' => e = .returned (.bool true) ∧ Below w.heap.size w w' := by
  obtain ⟨cs, rest, hS⟩ := splits s
  by_cases hr : rest = []
  · subst hr
    have hcl := cs_len hS
    obtain ⟨ds, hd1, hd2, hd3⟩ := two_again cs hS.valid
    have hv1 : ∀ c ∈ cs.map b1, validB c = true := by
      intro c hc
      obtain ⟨x, hx, rfl⟩ := List.mem_map.1 hc
      exact b1_valid (hS.valid x hx)
    obtain ⟨one, hone⟩ : ∃ one : ByteArray, one = ⟨(encL (cs.map b1)).toArray⟩ := ⟨_, rfl⟩
    obtain ⟨two, htwo⟩ : ∃ two : ByteArray, two = ⟨(encL ds).toArray⟩ := ⟨_, rfl⟩
    have d1 : one.data.toList = encL (cs.map b1) := by rw [hone]
    have d2 : two.data.toList = encL ds := by rw [htwo]
    have hz1 : one.size = s.size := by rw [list_size, d1, len_one, list_size, hS.eq, List.append_nil]
    have hz2 : two.size ≤ 25000 := by
      have := psq_len 2 cs
      rw [hd1, ← d2, ← list_size] at this
      omega
    have S1 : Split one.data.toList (cs.map b1) [] := by rw [d1]; exact split_enc hv1
    have S2 : Split two.data.toList ds [] := by rw [d2]; exact split_enc hd2
    have K1 := Lib.hid (fun W hW => sq_ok s (by omega) 1 (by decide) cs hS _ (psq_one cs) W hW)
    have K2 := Lib.hid (fun W hW => sq_ok s (by omega) 2 (by decide) cs hS _ hd1 W hW)
    have K3 := Lib.hid (fun W hW => sq_ok one (by omega) 1 (by decide) _ S1 (encL (cs.map b1)) ((psq_one _).trans (by rw [map_b1_b1])) W hW)
    have K4 := Lib.hid (fun W hW => sq_ok two (by omega) 2 (by decide) _ S2 _ hd3 W hW)
    have K5 := Lib.hid (fun W hW => sq_ok one (by omega) 2 (by decide) _ S1 (encL ds) (by rw [psq_two_b1]; exact hd1) W hW)
    rw [← hone] at K1 K3
    rw [← htwo] at K2 K4 K5
    have g1 : (one.toList == one.toList) = true := by simp
    have g2 : (two.toList == two.toList) = true := by simp
    have gl : ((one.size : Int) == (s.size : Int)) = true := by rw [hz1]; simp
    clear hone htwo d1 d2 S1 S2 hv1 hd1 hd2 hd3 hS hcl hz1 hz2
    have hbw : Below w.heap.size w w := Below.refl _ _
    go_enter Tryd.func29, Tryd.ntmps29
    go_wp2_with (go_at_call 27; refine (K1.out _ hG).mono ?_)
    rintro e w1 ⟨rfl, hbn⟩
    have hG1 := hG.below hG.size hbn
    replace hbw := hbw.trans (hbn.mono hbw.size)
    clear hbn
    go_wp2_with (go_at_call 27; refine (K2.out _ hG1).mono ?_)
    rintro e w2 ⟨rfl, hbn⟩
    have hG2 := hG1.below hG1.size hbn
    replace hbw := hbw.trans (hbn.mono hbw.size)
    clear hbn
    go_wp2_with (go_at_call 27; refine (K3.out _ hG2).mono ?_)
    rintro e w3 ⟨rfl, hbn⟩
    have hG3 := hG2.below hG2.size hbn
    replace hbw := hbw.trans (hbn.mono hbw.size)
    clear hbn
    go_wp2_with (go_at_call 27; refine (K4.out _ hG3).mono ?_)
    rintro e w4 ⟨rfl, hbn⟩
    have hG4 := hG3.below hG3.size hbn
    replace hbw := hbw.trans (hbn.mono hbw.size)
    clear hbn
    go_wp2_with (go_at_call 27; refine (K5.out _ hG4).mono ?_)
    rintro e w5 ⟨rfl, hbn⟩
    have hG5 := hG4.below hG4.size hbn
    replace hbw := hbw.trans (hbn.mono hbw.size)
    clear hbn
    go_wp2
    go_ret
    exact ⟨rfl, hbw⟩
  · have K1 := Lib.hid (fun W hW => sq_no s (by omega) 1 (by decide) cs rest hS hr W hW)
    have K2 := Lib.hid (fun W hW => sq_no s (by omega) 2 (by decide) cs rest hS hr W hW)
    clear hS hr
    have hbw : Below w.heap.size w w := Below.refl _ _
    go_enter Tryd.func29, Tryd.ntmps29
    go_wp2_with (go_at_call 27; refine (K1.out _ hG).mono ?_)
    rintro e w1 ⟨rfl, hbn⟩
    have hG1 := hG.below hG.size hbn
    replace hbw := hbw.trans (hbn.mono hbw.size)
    clear hbn
    go_wp2_with (go_at_call 27; refine (K2.out _ hG1).mono ?_)
    rintro e w2 ⟨rfl, hbn⟩
    have hG2 := hG1.below hG1.size hbn
    replace hbw := hbw.trans (hbn.mono hbw.size)
    clear hbn
    go_wp2
    go_ret
    exact ⟨rfl, hbw⟩
end Ck
end Go.Proofs.YthfmnhhennbjnaaDoor
