/- Unescape: the reference's. -/
import Derived.Test.YthfmnhhennbjnaaDoorCkUn
import Derived.Test.YthfmnhhennbjnaaDoorCkRefEd
import Derived.Test.YthfmnhhennbjnaaDoorCkRefSq
namespace Go.Proofs.YthfmnhhennbjnaaDoor
open Go.RowKit Go.Shelf
namespace Ck

theorem amp_nil {pl r l : List UInt8} (h : (38 : UInt8) ∉ pl) (e : 38 :: l = pl ++ 38 :: r) : pl = [] ∧ l = r := by
  cases pl with
  | nil => exact ⟨rfl, (List.cons.inj e).2⟩
  | cons y pl => exact absurd (List.mem_cons.2 (.inl (List.cons.inj e).1)) h
theorem cut_one {a b a' b' : List UInt8} (h : (59 : UInt8) ∉ a) (h' : (59 : UInt8) ∉ a') (e : a ++ 59 :: b = a' ++ 59 :: b') : a = a' ∧ b = b' := by
  have h1 := cut_yes (b := b) h
  rw [e, cut_yes h'] at h1
  simp only [Prod.mk.injEq, and_true] at h1
  exact ⟨h1.1.symm, h1.2.symm⟩
/-- At an ampersand. -/
theorem Un.amp {p : Nat} {l : List UInt8} {res : Except Nat (List UInt8)} (h : Un p (38 :: l) res) :
    ((59 : UInt8) ∉ l → res = .error p) ∧ ∀ body t, l = body ++ 59 :: t → (59 : UInt8) ∉ body →
      (escV body = none ∧ res = .error p) ∨ ∃ c res', escV body = some c ∧ Un (p + body.length + 2) t res' ∧ res = res'.map fun o => enc1 c ++ o := by
  generalize hl : 38 :: l = L at h
  cases h with
  | done h => subst hl; exact absurd (List.mem_cons_self ..) h
  | @open_ _ pl r h hr =>
    obtain ⟨rfl, rfl⟩ := amp_nil h hl
    exact ⟨fun _ => rfl, fun body t e _ => absurd (by rw [e]; simp) hr⟩
  | @none_ _ pl body t h hb he =>
    obtain ⟨rfl, rfl⟩ := amp_nil h hl
    refine ⟨fun hn => absurd (by simp) hn, fun body' t' e hb' => ?_⟩
    obtain ⟨rfl, rfl⟩ := cut_one hb hb' e
    exact .inl ⟨he, rfl⟩
  | @step _ pl body t c res h hb he hn =>
    obtain ⟨rfl, rfl⟩ := amp_nil h hl
    refine ⟨fun hn => absurd (by simp) hn, fun body' t' e hb' => ?_⟩
    obtain ⟨rfl, rfl⟩ := cut_one hb hb' e
    exact .inr ⟨c, res, he, hn, rfl⟩
theorem Un.nil {p : Nat} {res : Except Nat (List UInt8)} (h : Un p [] res) : res = .ok [] := by
  generalize hl : ([] : List UInt8) = L at h
  cases h with
  | done h => rw [← hl]
  | open_ h hr => simp at hl
  | none_ h hb he => simp at hl
  | step h hb he hn => simp at hl
theorem drop_take (s : ByteArray) (p j : Nat) : (s.extract (p + 1) (p + 1 + j)).data.toList = (s.data.toList.drop (p + 1)).take j := by
  rw [Lib.extract_data, show p + 1 + j - (p + 1) = j by omega]

set_option maxRecDepth 100000 in
set_option maxHeartbeats 4000000 in
theorem refUnescape_any (s : ByteArray) (hs : s.size ≤ 1048576) (cs : List Int) (rest : List UInt8) (hS : Split s.data.toList cs rest) (res : Except Nat (List UInt8)) (hU : Un 0 s.data.toList res) (w : World) :
    Calls Tryd.prog 26 #[.string s] w fun e w' => UnSays cs rest res e ∧ Below w.heap.size w w' := by
  obtain ⟨i0, hi, hz0, hz1, hz2⟩ := info_parts infoByte
  have HT := Lib.hid (fun W => refDecode_any s hs cs rest hS W)
  clear hS
  go_enter Tryd.func26, Tryd.ntmps26
  go_wp2_with (go_at_call 19; refine (HT.out _).mono ?_)
  rintro e w0 ⟨⟨hr, v, rfl, _⟩ | ⟨hr, rfl⟩, hb0⟩
  · have Hr := Lib.hid hr
    clear hr
    go_wp2
    go_loopw [8, 9] (fun v i wr => ∃ (p : Nat) (o : List UInt8) (r : Except Nat (List UInt8)), p ≤ s.size ∧ i = .int .i64 (p : Int) ∧ Un p (s.data.toList.drop p) r ∧ res = r.map (fun x => o ++ x) ∧ o.length ≤ 4 * p ∧ RowB w.heap.size v o wr ∧ Below w.heap.size w wr) (fun _ i _ => s.size - (intOf i).toNat)
    case atStart => exact ⟨0, [], res, Nat.zero_le _, rfl, hU, by rw [map_nil_app], Nat.zero_le _, rowB_nil _ _, hb0⟩
    case round =>
      obtain ⟨p, o, r, hk, rfl, hu, hres, hol, hI, hb⟩ := hrel
      clear hb0 hU
      have Hres := Lib.hid hres
      clear hres
      by_cases hlt : p < s.size
      · rw [drop_cons s p hlt] at hu
        obtain ⟨b, hb'⟩ : ∃ b, s[p] = b := ⟨_, rfl⟩
        rw [hb'] at hu
        have hsz := hb.size
        have hob : o.length ≤ 4194304 := by omega
        by_cases h38 : b = 38
        · have Hb := Lib.hid (hb'.trans h38)
          have g38 : ((b.toNat : Int) == 38) = true := by rw [h38]; rfl
          have g38' : ((b.toNat : Int) != 38) = false := by rw [bne, g38]; rfl
          rw [h38] at hu
          have HA := Lib.hid hu.amp
          clear hu h38
          obtain ⟨ao, cap, rfl⟩ := rowB_val hI
          go_wp2
          go_loop [10] (fun i => ∃ q : Nat, i = .int .i64 (q : Int) ∧ p + 1 ≤ q ∧ q ≤ s.size ∧ (59 : UInt8) ∉ (s.data.toList.drop (p + 1)).take (q - (p + 1))) (fun i => s.size - (intOf i).toNat)
          case atStart => exact ⟨p + 1, by go_num, by omega, by omega, by simp⟩
          case round =>
            obtain ⟨q, rfl, hpq, hqs, hno⟩ := hrel
            obtain ⟨body, hbd⟩ : ∃ body, (s.data.toList.drop (p + 1)).take (q - (p + 1)) = body := ⟨_, rfl⟩
            have hdp : s.data.toList.drop (p + 1) = body ++ s.data.toList.drop q := by
              rw [← hbd]
              have h1 := List.take_append_drop (q - (p + 1)) (s.data.toList.drop (p + 1))
              rw [List.drop_drop, show p + 1 + (q - (p + 1)) = q by omega] at h1
              exact h1.symm
            rw [hbd] at hno
            by_cases hq : q < s.size
            · have hdq := drop_cons s q hq
              obtain ⟨y, hy⟩ : ∃ y, s[q] = y := ⟨_, rfl⟩
              rw [hy] at hdq
              by_cases h59 : y = 59
              · have Hy := Lib.hid (hy.trans h59)
                have g59 : ((y.toNat : Int) == 59) = true := by rw [h59]; rfl
                have g59' : ((y.toNat : Int) != 59) = false := by rw [bne, g59]; rfl
                have gq : ((q : Int) == (s.size : Int)) = false := by rw [beq_eq_false_iff_ne]; omega
                rw [h59] at hdq
                rw [hdq] at hdp
                have hA := HA.out.2 body _ hdp hno
                have hbl : body.length = q - (p + 1) := by
                  rw [← hbd, List.length_take, List.length_drop, ← list_size]; omega
                have hxd : (s.extract (p + 1) q).data.toList = body := by rw [Lib.extract_data]; exact hbd
                have hxs : (s.extract (p + 1) q).size ≤ 1048576 := by rw [list_size, hxd, hbl]; omega
                have Hxd := Lib.hid hxd
                have Hxs := Lib.hid hxs
                have hi1 : (p : Int) + 1 ≤ (q : Int) := by omega
                have hi2 : (q : Int) ≤ (s.size : Int) := by omega
                have Hbl := Lib.hid hbl
                have HAA := Lib.hid hA
                clear hbd hdp hno hdq hA hxd hxs h59 hbl HA
                have HE := Lib.hid (fun W => Escaped_any (s.extract (p + 1) q) Hxs.out W)
                rw [Hxd.out] at HE
                rcases HAA.out with ⟨he, hr'⟩ | ⟨c, r', he, hu', hr'⟩
                · have hre : res = .error p := by rw [Hres.out, hr']; rfl
                  have Hre := Lib.hid hre
                  rw [he] at HE
                  simp only [escR] at HE
                  clear HAA he hr' hre Hres Hxd Hxs
                  go_wp2_with (go_at_call 43; refine (HE.out _).mono ?_; rintro e w1 ⟨rfl, hb1⟩)
                  go_ret3
                  exact ⟨.inl ⟨Hr.out, by rw [Hre.out]; rfl⟩, hb.trans (hb1.mono hb.size)⟩
                · have hre : res = r'.map (fun x => (o ++ enc1 c) ++ x) := by rw [Hres.out, hr', map_comp_app]
                  have hv := escV_valid he
                  have Hre := Lib.hid hre
                  have hu2 : Un (q + 1) (s.data.toList.drop (q + 1)) r' := by
                    have h1 := Hbl.out
                    have h2 : p + body.length + 2 = q + 1 := by omega
                    rw [h2] at hu'
                    exact hu'
                  have Hu2 := Lib.hid hu2
                  have hcl := enc1_len c
                  obtain ⟨E, hE⟩ : ∃ E, enc1 c = E := ⟨_, rfl⟩
                  have HB := Lib.hid (fun W => Bytes_is c E hE hv W)
                  rw [hE] at hcl Hre
                  rw [he] at HE
                  simp only [escR] at HE
                  clear HAA he hr' hre Hres hu' hv hu2 hE Hxd Hxs
                  go_wp2_with (first | (go_at_call 43; refine (HE.out _).mono ?_; rintro e w1 ⟨rfl, hb1⟩) | (go_at_call 33; refine (HB.out _).mono ?_))
                  first | rintro e w2 rfl hb2 | rintro e w2 ⟨rfl, hb2⟩
                  have hbw1 := hb.trans (hb1.mono hb.size)
                  have hI1 := rowB_below hI hb1
                  clear hb1 HE hI hb
                  have hI2 := rowB_below hI1 hb2
                  have hbw2 := hbw1.trans (hb2.mono hbw1.size)
                  clear hI1 hbw1 hb2 HB
                  have hEs : (⟨E.toArray⟩ : ByteArray).size = E.length := by rw [list_size]
                  go_wp2_with (at_builtin; refine Lib.wpList_append_own_stringF _ rfl _ _ 47 9 rfl w.heap.size 5 i0 Tryd.underlying47 Tryd.underlying9 hi hz0 hz1 hz2 _ _ _ rfl hI2 ⟨E.toArray⟩ rfl ?c3 ?c4 ?c5 ?_)
                  case c3 => rw [hEs]; unfold maxLen; omega
                  case c4 => rw [hEs]; omega
                  case c5 => exact hbw2.size
                  intro v' w3 hown' hgrow _
                  have hbw3 : Below w.heap.size w w3 := hbw2.grown hgrow hbw2.size (fun j hj => (World.ownsRowF.lt hI2 j hj).1)
                  have hI3 : RowB w.heap.size v' (o ++ E) w3 := by
                    unfold RowB
                    rw [List.length_append, Lib.byteCells_append]
                    have e4 : Lib.strCells ⟨E.toArray⟩ = Lib.byteCells E := rfl
                    rw [e4] at hown'
                    exact hown'
                  clear hI2 hown' hgrow hbw2
                  obtain ⟨ao', cap', rfl⟩ := rowB_val hI3
                  go_wp2
                  go_roundw
                  case rel => exact ⟨q + 1, o ++ E, r', by omega, by go_num, Hu2.out, Hre.out, by simp only [List.length_append]; omega, hI3, hbw3⟩
                  case measure => simp [intOf]; omega
              · have g59 : ((y.toNat : Int) == 59) = false := by
                  rw [beq_eq_false_iff_ne]; intro e
                  exact h59 (UInt8.toNat_inj.1 (by have : (59 : UInt8).toNat = 59 := rfl; omega))
                have g59' : ((y.toNat : Int) != 59) = true := by rw [bne, g59]; rfl
                have hno2 : (59 : UInt8) ∉ (s.data.toList.drop (p + 1)).take (q + 1 - (p + 1)) := by
                  rw [hdp, hdq, List.take_append]
                  have hbl : body.length = q - (p + 1) := by
                    rw [← hbd, List.length_take, List.length_drop, ← list_size]; omega
                  rw [hbl, show q + 1 - (p + 1) - (q - (p + 1)) = 1 by omega]
                  intro hm
                  rcases List.mem_append.1 hm with hm | hm
                  · exact hno (List.mem_of_mem_take hm)
                  · simp at hm; exact h59 hm.symm
                have Hno2 := Lib.hid hno2
                clear hbd hdp hno hdq h59 hno2
                go_wp2
                go_round
                case rel => exact ⟨q + 1, by go_num, by omega, by omega, Hno2.out⟩
                case measure => simp [intOf]; omega
            · obtain rfl : q = s.size := by omega
              have hdn : s.data.toList.drop s.size = [] := List.drop_of_length_le (by rw [← list_size]; exact Nat.le_refl _)
              rw [hdn, List.append_nil] at hdp
              have hre : res = .error p := by rw [Hres.out, HA.out.1 (by rw [hdp]; exact hno)]; rfl
              have Hre := Lib.hid hre
              clear hdn hdp hno hbd hre
              go_wp2
              go_ret3
              exact ⟨.inl ⟨Hr.out, by rw [Hre.out]; rfl⟩, hb⟩
        · have g38 : ((b.toNat : Int) == 38) = false := by
            rw [beq_eq_false_iff_ne]; intro e
            exact h38 (UInt8.toNat_inj.1 (by have : (38 : UInt8).toNat = 38 := rfl; omega))
          have g38' : ((b.toNat : Int) != 38) = true := by rw [bne, g38]; rfl
          obtain ⟨r', hu', hr'⟩ := hu.tail h38
          have hres' : res = r'.map (fun x => (o ++ [b]) ++ x) := by
            rw [Hres.out, hr']; exact map_comp_app o [b] r'
          have Hres' := Lib.hid hres'
          have Hu' := Lib.hid hu'
          clear hu hu' hr' hres' h38 Hres
          obtain ⟨ao, cap, rfl⟩ := rowB_val hI
          go_wp2_with (at_builtin; refine wpList_append_ownF _ rfl _ _ 47 rfl w.heap.size 5 i0 (.int .u8 0) 1 1 Tryd.underlying47 hi hz0 hz1 hz2 rfl (by decide) _ _ _ rfl (hI.alloc _) ⟨wr.heap.size, 0, none⟩ 1 1 [.int .u8 (b.toNat : Int)] rfl rfl ?c1 ?c2 ?c3 ?c4 ?c5 ?_)
          case c1 =>
            intro j u hj
            match j, hj with
            | 0, hj => simp at hj; subst hj; simp [Addr.add]
          case c2 => intro u hu; simp at hu; subst hu; rfl
          case c3 => unfold maxLen; omega
          case c4 => omega
          case c5 => simp; omega
          intro v' w2 hown' hgrow _
          have hbw2 : Below w.heap.size w w2 := (hb.alloc hsz _).grown hgrow (by simp; omega) (fun j hj => (World.ownsRowF.lt hI j hj).1)
          have hI2 : RowB w.heap.size v' (o ++ [b]) w2 := by
            unfold RowB
            rw [List.length_append, Lib.byteCells_append]
            exact hown'
          clear hown' hgrow hI hb
          obtain ⟨ao', cap', rfl⟩ := rowB_val hI2
          go_wp2
          go_roundw
          case rel => exact ⟨p + 1, o ++ [b], r', by omega, by go_num, Hu'.out, Hres'.out, by simp only [List.length_append, List.length_cons, List.length_nil]; omega, hI2, hbw2⟩
          case measure => simp [intOf]; omega
      · obtain rfl : p = s.size := by omega
        have hdn : s.data.toList.drop s.size = [] := List.drop_of_length_le (by rw [← list_size]; exact Nat.le_refl _)
        rw [hdn] at hu
        have hre : res = .ok o := by rw [Hres.out, hu.nil]; simp [Except.map]
        have Hre := Lib.hid hre
        have hcv := rowB_string hI
        clear hdn hu hre Hres
        obtain ⟨ao, cap, rfl⟩ := rowB_val hI
        go_wp2
        go_ret3
        exact ⟨.inl ⟨Hr.out, by rw [Hre.out]; rfl⟩, hb⟩
  · have Hr := Lib.hid hr
    clear hr hU
    go_wp2
    go_ret3
    exact ⟨.inr ⟨Hr.out, rfl⟩, hb0⟩
end Ck
end Go.Proofs.YthfmnhhennbjnaaDoor
