/- Decimal, the reference: Read. -/
import Derived.Test.YthnpbkplcboejaaDoorEb
import Derived.Deep.DeepCutAuto
set_option linter.unusedSimpArgs false
set_option linter.unusedVariables false
namespace Go.Proofs.YthnpbkplcboejaaDoor
open Go.RowKit Go.Shelf
namespace Dc
theorem index_spec : ∀ l : List UInt8, (Lib.index l [46] = -1 ∧ ∀ j : Nat, l[j]? ≠ some 46) ∨ ∃ p : Nat, Lib.index l [46] = (p : Int) ∧ l[p]? = some 46 ∧ ∀ j : Nat, j < p → l[j]? ≠ some 46
  | [] => .inl ⟨by simp [Lib.index], fun j => by simp⟩
  | b :: l => by
    have e : Lib.index (b :: l) [46] = if b = 46 then 0 else if Lib.index l [46] == -1 then -1 else Lib.index l [46] + 1 := by
      rw [Lib.index]
      by_cases h : b = 46
      · subst h; simp [List.isPrefixOf]
      · have h2 : ¬ (46 : UInt8) = b := fun e => h e.symm
        simp [List.isPrefixOf, h, h2]
    rw [e]
    by_cases h : b = 46
    · subst h
      exact .inr ⟨0, by rw [if_pos rfl]; rfl, rfl, fun j hj => absurd hj (Nat.not_lt_zero _)⟩
    · rw [if_neg h]
      rcases index_spec l with ⟨h1, h2⟩ | ⟨p, h1, h2, h3⟩
      · refine .inl ⟨by rw [h1]; rfl, fun j => ?_⟩
        cases j with
        | zero => simpa using h
        | succ j => simpa using h2 j
      · refine .inr ⟨p + 1, ?_, by simpa using h2, fun j hj => ?_⟩
        · have hp : ((p : Int) == -1) = false := by rw [beq_eq_false_iff_ne]; omega
          rw [h1, hp, if_neg Bool.false_ne_true]; omega
        · cases j with
          | zero => simpa using h
          | succ j => simpa using h3 j (by omega)
/-- What the loop of Read knows behind i bytes. -/
def Rd (l : List UInt8) (i : Nat) (pt : Bool) (al : ByteArray) (sl : Nat) : Prop :=
  (pt = false → (∀ j : Nat, j < i → l[j]? ≠ some 46) ∧ al = ⟨#[]⟩ ∧ sl = 0) ∧ (pt = true → al.data.toList = allOf l ∧ sl = (Lib.cut l [46]).2.1.length)
theorem Rd.keep {l : List UInt8} {i : Nat} {pt : Bool} {al : ByteArray} {sl : Nat} (h : Rd l i pt al sl) (hc : pt = false → l[i]? ≠ some 46) : Rd l (i + 1) pt al sl :=
  ⟨fun hp => ⟨fun j hj => by
    by_cases e : j = i
    · subst e; exact hc hp
    · exact (h.1 hp).1 j (by omega), (h.1 hp).2⟩, h.2⟩
theorem cut_found {l : List UInt8} {i : Nat} (h : ∀ j : Nat, j < i → l[j]? ≠ some 46) (hi : l[i]? = some 46) : allOf l = l.take i ++ l.drop (i + 1) ∧ (Lib.cut l [46]).2.1.length = l.length - i - 1 := by
  have hidx : Lib.index l [46] = (i : Int) := by
    rcases index_spec l with ⟨_, h2⟩ | ⟨p, h1, h2, h3⟩
    · exact absurd hi (h2 i)
    · have : p = i := by
        rcases Nat.lt_trichotomy p i with h4 | h4 | h4
        · exact absurd h2 (h p h4)
        · exact h4
        · exact absurd hi (h3 i h4)
      rw [h1, this]
  have e : Lib.cut l [46] = (l.take i, l.drop (i + 1), true) := by
    unfold Lib.cut
    rw [hidx, if_pos (by omega)]; rfl
  unfold allOf
  rw [e]
  exact ⟨rfl, by rw [List.length_drop]; omega⟩
theorem cut_none {l : List UInt8} (h : ∀ j : Nat, l[j]? ≠ some 46) : allOf l = l ∧ (Lib.cut l [46]).2.1.length = 0 := by
  have hidx : Lib.index l [46] = -1 := by
    rcases index_spec l with ⟨h1, _⟩ | ⟨p, _, h2, _⟩
    · exact h1
    · exact absurd h2 (h p)
  have e : Lib.cut l [46] = (l, [], false) := by
    unfold Lib.cut
    rw [hidx, if_neg (by omega)]
  unfold allOf
  rw [e]
  exact ⟨by simp, rfl⟩
theorem Rd.found {l : List UInt8} {i : Nat} {al : ByteArray} {sl : Nat} (h : Rd l i false al sl) (hi : l[i]? = some 46) {x : ByteArray} (hx : x.data.toList = l.take i ++ l.drop (i + 1)) : Rd l (i + 1) true x (l.length - i - 1) := by
  obtain ⟨h1, h2⟩ := cut_found (h.1 rfl).1 hi
  exact ⟨fun e => absurd e (by decide), fun _ => ⟨by rw [hx, h1], h2.symm⟩⟩
theorem get_some (u : ByteArray) (i : Nat) (h : i < u.size) : u.data.toList[i]? = some u[i] := by
  rw [List.getElem?_eq_getElem (by rw [size_list']; exact h)]; rfl
theorem app_list' (a b : ByteArray) : (a ++ b).data.toList = a.data.toList ++ b.data.toList := by simp
/-- The tail of Read: from the text without its sign on. -/
theorem sign_cases (s : ByteArray) : (s.size = 0 ∧ signOf s.data.toList = (false, [])) ∨ ∃ h : 0 < s.size,
    (s[0].toNat = 45 ∧ signOf s.data.toList = (true, (s.extract 1 s.size).data.toList)) ∨ (s[0].toNat = 43 ∧ signOf s.data.toList = (false, (s.extract 1 s.size).data.toList)) ∨ (s[0].toNat ≠ 45 ∧ s[0].toNat ≠ 43 ∧ signOf s.data.toList = (false, s.data.toList)) := by
  by_cases h : 0 < s.size
  · refine .inr ⟨h, ?_⟩
    obtain ⟨r, hr⟩ := get0 s h
    obtain ⟨c, hc⟩ : ∃ c, s[0] = c := ⟨_, rfl⟩
    rw [hc] at hr ⊢
    have hd : (s.extract 1 s.size).data.toList = r := by rw [drop_one, hr]; rfl
    rw [hd, hr]
    unfold signOf Lib.hasPrefix Lib.trimPrefix Lib.hasPrefix
    by_cases h1 : c.toNat = 45
    · left
      have : c = 45 := UInt8.toNat_inj.1 h1
      subst this
      exact ⟨rfl, by simp [List.isPrefixOf]⟩
    · have hn1 : ¬ (45 : UInt8) = c := fun e => h1 (by rw [← e]; rfl)
      by_cases h2 : c.toNat = 43
      · right; left
        have : c = 43 := UInt8.toNat_inj.1 h2
        subst this
        exact ⟨rfl, by simp [List.isPrefixOf]⟩
      · have hn2 : ¬ (43 : UInt8) = c := fun e => h2 (by rw [← e]; rfl)
        right; right
        exact ⟨h1, h2, by simp [List.isPrefixOf, hn1, hn2]⟩
  · left
    have hz : s.size = 0 := by omega
    refine ⟨hz, ?_⟩
    have : s.data.toList = [] := List.eq_nil_of_length_eq_zero (by rw [size_list']; exact hz)
    rw [this]
    simp [signOf, Lib.hasPrefix, Lib.trimPrefix, List.isPrefixOf]
set_option maxRecDepth 100000 in
set_option maxHeartbeats 8000000 in
theorem rRead_any (s : ByteArray) (hs : s.size ≤ 1000) (w : World) :
    Calls Tryd.prog 37 #[.string s] w fun e w' => e = .returned (readS s.data.toList).val ∧ Below w.heap.size w w' := by
  obtain ⟨W0, hW0⟩ : ∃ W0, w.alloc (.cells #[.bool false, .string ⟨#[]⟩, .int .i64 0] 23) = W0 := ⟨_, rfl⟩
  have hb0 : Below w.heap.size w W0 := by rw [← hW0]; exact (Below.refl _ w).alloc (Nat.le_refl _) _
  have hB0 : Blk W0 w.heap.size #[.bool false, .string ⟨#[]⟩, .int .i64 0] 23 := by rw [← hW0]; exact Blk.new w _ _
  have hsg := sign_cases s
  obtain ⟨b, hb⟩ : ∃ b, (signOf s.data.toList).1 = b := ⟨_, rfl⟩
  obtain ⟨u, hu⟩ : ∃ u : ByteArray, u.data.toList = (signOf s.data.toList).2 := ⟨⟨(signOf s.data.toList).2.toArray⟩, rfl⟩
  have hus : u.size ≤ 1000 := by
    rw [← size_list', hu]
    have h1 : ∀ p, (Lib.trimPrefix s.data.toList p).length ≤ 1000 := fun p => Nat.le_trans (trim_len _ _) (by rw [size_list']; exact hs)
    unfold signOf; split <;> exact h1 _
  obtain ⟨r, hr⟩ : ∃ r, readS s.data.toList = r := ⟨_, rfl⟩
  have hrs : r = if allOf u.data.toList = [] ∨ digs (allOf u.data.toList) = false then .err 6 else mk b (dv (allOf u.data.toList)) (Lib.cut u.data.toList [46]).2.1.length := by
    rw [← hr]; unfold readS; rw [hu, hb]
  rw [hr]
  have HR := Lib.hid hrs
  have HB0 := Lib.hid hb0
  have HBl := Lib.hid hB0
  have HU := Lib.hid hu
  have HB := Lib.hid hb
  clear hr hrs hb0 hB0 hu hb
  have eqU : ∀ x : ByteArray, (signOf s.data.toList).2 = x.data.toList → u = x := fun x h => by
    rw [← mk_toList u, HU.out, h, mk_toList]
  obtain ⟨t, T⟩ : ∃ t : Bool, Hid ((s.size = 0 ∧ t = false ∧ b = false ∧ u = s) ∨ ∃ h : 0 < s.size, (s[0].toNat = 45 ∧ t = true ∧ b = true ∧ u = s.extract 1 s.size) ∨ (s[0].toNat = 43 ∧ t = true ∧ b = false ∧ u = s.extract 1 s.size) ∨ (s[0].toNat ≠ 45 ∧ s[0].toNat ≠ 43 ∧ t = false ∧ b = false ∧ u = s)) := by
    rcases hsg with ⟨h1, h2⟩ | ⟨h, ⟨h1, h2⟩ | ⟨h1, h2⟩ | ⟨h1, h3, h2⟩⟩
    · exact ⟨false, .inl ⟨h1, rfl, by rw [← HB.out, h2], eqU _ (by rw [h2, List.eq_nil_of_length_eq_zero (show s.data.toList.length = 0 by rw [size_list']; exact h1)])⟩⟩
    · exact ⟨true, .inr ⟨h, .inl ⟨h1, rfl, by rw [← HB.out, h2], eqU _ (by rw [h2])⟩⟩⟩
    · exact ⟨true, .inr ⟨h, .inr (.inl ⟨h1, rfl, by rw [← HB.out, h2], eqU _ (by rw [h2])⟩)⟩⟩
    · exact ⟨false, .inr ⟨h, .inr (.inr ⟨h1, h3, rfl, by rw [← HB.out, h2], eqU _ (by rw [h2])⟩)⟩⟩
  clear eqU hsg
  go_enter Tryd.func37, Tryd.ntmps37
  go_upto_region 2 with fail
  go_cut [20] (fun s20 wx => W0 = wx ∧ s20 = .bool t)
  case first =>
    rcases T.out with ⟨h1, rfl, -, -⟩ | ⟨h, h1⟩
    · have hz : s.toList = [] := by rw [ByteArray.toList_eq]; exact List.eq_nil_of_length_eq_zero (by rw [size_list']; exact h1)
      have hze : s.toList.isEmpty = true := by rw [hz]; rfl
      clear T HB HU HR h1
      go_wp2
      go_meet
      exact ⟨rfl, rfl⟩
    · have hz : ¬ s.toList = [] := by rw [ByteArray.toList_eq]; intro e; have := congrArg List.length e; rw [size_list', List.length_nil] at this; omega
      have hze : s.toList.isEmpty = false := by rw [Bool.eq_false_iff]; intro e; exact hz (List.isEmpty_iff.1 e)
      obtain ⟨c, hc⟩ : ∃ c, s[0] = c := ⟨_, rfl⟩
      rw [hc] at h1
      rcases h1 with ⟨h1, rfl, -, -⟩ | ⟨h1, rfl, -, -⟩ | ⟨h1, h3, rfl, -, -⟩
      · have g1 : ((c.toNat : Int) == 45) = true := by rw [beq_iff_eq]; omega
        clear T HB HU HR h1
        go_wp2
        go_meet
        exact ⟨rfl, rfl⟩
      · have g1 : ((c.toNat : Int) == 45) = false := by rw [beq_eq_false_iff_ne]; omega
        have g2 : ((c.toNat : Int) == 43) = true := by rw [beq_iff_eq]; omega
        clear T HB HU HR h1
        go_wp2
        go_meet
        exact ⟨rfl, rfl⟩
      · have g1 : ((c.toNat : Int) == 45) = false := by rw [beq_eq_false_iff_ne]; omega
        have g2 : ((c.toNat : Int) == 43) = false := by rw [beq_eq_false_iff_ne]; omega
        clear T HB HU HR h1 h3
        go_wp2
        go_meet
        exact ⟨rfl, rfl⟩
  case rest =>
    obtain ⟨rfl, rfl⟩ := hcut
    go_upto_if 20 with fail
    go_cut [0, 4] (fun s0 s4 wx => Below w.heap.size w wx ∧ Blk wx w.heap.size #[.bool false, .string ⟨#[]⟩, .int .i64 0] 23 ∧ s0 = .string u ∧ s4 = .bool b)
    case first =>
      cases t with
      | false =>
        have hub : u = s ∧ b = false := by
          rcases T.out with ⟨h1, h2, h3, h4⟩ | ⟨h, ⟨h1, h2, h3, h4⟩ | ⟨h1, h2, h3, h4⟩ | ⟨h1, h2, h3, h4, h5⟩⟩
          · exact ⟨h4, h3⟩
          · cases h2
          · cases h2
          · exact ⟨h5, h4⟩
        obtain ⟨hu1, hb1⟩ := hub
        clear T
        have HX := Lib.hid (And.intro hu1 hb1)
        clear hu1 hb1 
        go_wp2
        go_meet
        exact ⟨HB0.out, HBl.out, by rw [HX.out.1], by rw [HX.out.2]⟩
      | true =>
        have hub : ∃ h : 0 < s.size, u = s.extract 1 s.size ∧ (s[0].toNat == 45) = b := by
          rcases T.out with ⟨h1, h2, h3, h4⟩ | ⟨h, ⟨h1, h2, h3, h4⟩ | ⟨h1, h2, h3, h4⟩ | ⟨h1, h2, h3, h4, h5⟩⟩
          · cases h2
          · exact ⟨h, h4, by rw [h3, h1]; rfl⟩
          · exact ⟨h, h4, by rw [h3, h1]; rfl⟩
          · cases h3
        obtain ⟨h, hu1, hb1⟩ := hub
        obtain ⟨c, hc⟩ : ∃ c, s[0] = c := ⟨_, rfl⟩
        rw [hc] at hb1
        have g1 : ((c.toNat : Int) == 45) = b := by
          rw [← hb1]
          by_cases e : c.toNat = 45
          · rw [e]; rfl
          · rw [beq_eq_false_iff_ne.2 e, beq_eq_false_iff_ne.2 (by omega)]
        have hx : s.extract 1 s.size = u := hu1.symm
        clear T hu1 hb1 HB HU HR
        go_upto_region 3 with fail
        go_region
        all_goals
          go_wp2
          go_meet
          exact ⟨b_drew HB0.out, HBl.out.drew, rfl, rfl⟩
    case rest =>
      obtain ⟨hb0, hB0, rfl, rfl⟩ := hcut
      clear HB0 HBl T
      have hR0 : Hid (Rd u.data.toList 0 false ⟨#[]⟩ 0) := ⟨fun _ => ⟨fun j hj => absurd hj (Nat.not_lt_zero _), rfl, rfl⟩, fun e => absurd e (by decide)⟩
      go_wp2
      go_loopw [5, 6, 7, 8] (fun s5 s6 s7 s8 wx => ∃ (al : ByteArray) (sl i : Nat) (pt : Bool), s5 = .string al ∧ s6 = .int .i64 (sl : Int) ∧ s7 = .bool pt ∧ s8 = .int .i64 (i : Int) ∧ i ≤ u.size ∧ Hid (Rd u.data.toList i pt al sl) ∧ Below w.heap.size w wx ∧ Blk wx w.heap.size #[.bool false, .string ⟨#[]⟩, .int .i64 0] 23) (fun _ _ _ s8 _ => u.size - (intOf s8).toNat)
      case atStart => exact ⟨⟨#[]⟩, 0, 0, false, rfl, rfl, rfl, rfl, Nat.zero_le _, hR0, hb0, hB0⟩
      case round =>
        obtain ⟨al, sl, i, pt, rfl, rfl, rfl, rfl, hi, HRd, hb1, hB1⟩ := hrel
        clear hR0 hb0 hB0
        by_cases hlt : i < u.size
        · obtain ⟨c, hc⟩ : ∃ c, u[i] = c := ⟨_, rfl⟩
          have hgs := get_some u i hlt
          rw [hc] at hgs
          have HGS := Lib.hid hgs
          have g0 : decide ((i : Int) < (u.size : Int)) = true := decide_eq_true (by omega)
          have w1 : IntKind.i64.wrap ((i : Int) + 1) = (i : Int) + 1 := IntWalk.i64_in _ (by omega)
          have hi1 : i + 1 ≤ u.size := hlt
          clear hgs
          by_cases h46 : c.toNat = 46
          · have hc46 : c = 46 := UInt8.toNat_inj.1 h46
            have g1 : ((c.toNat : Int) == 46) = true := by rw [beq_iff_eq]; omega
            cases pt with
            | true =>
              have hk : Hid (Rd u.data.toList (i + 1) true al sl) := HRd.out.keep (fun e => absurd e (by decide))
              clear HRd HGS hc46 h46 HR HU HB
              go_wp2
              go_roundw
              case rel => exact ⟨al, sl, i + 1, true, rfl, rfl, rfl, by go_num, hi1, hk, hb1, hB1⟩
              case measure => simp [intOf]; omega
            | false =>
              have hxe : (u.extract 0 i ++ u.extract (i + 1) u.size).data.toList = u.data.toList.take i ++ u.data.toList.drop (i + 1) := by
                rw [app_list', Lib.extract_to_end, Lib.extract_data, List.drop_zero, Nat.sub_zero]
              have hk : Hid (Rd u.data.toList (i + 1) true (u.extract 0 i ++ u.extract (i + 1) u.size) (u.size - i - 1)) := by
                have h := HRd.out.found (by rw [HGS.out, hc46]) hxe
                rw [size_list'] at h
                exact h
              have hsz : ¬ 9223372036854775807 < (u.extract 0 i).size + (u.extract (i + 1) u.size).size := by
                rw [← size_list', ← size_list', Lib.extract_data, Lib.extract_data, List.length_take, List.length_take]; omega
              obtain ⟨x1, hx1⟩ : ∃ x, u.extract 0 i = x := ⟨_, rfl⟩
              obtain ⟨x2, hx2⟩ : ∃ x, u.extract (i + 1) u.size = x := ⟨_, rfl⟩
              obtain ⟨x, hx⟩ : ∃ x, x1 ++ x2 = x := ⟨_, rfl⟩
              obtain ⟨sn, hsn⟩ : ∃ sn, u.size - i - 1 = sn := ⟨_, rfl⟩
              have hsn1 : (u.size : Int) - (i : Int) = ((u.size - i : Nat) : Int) := by omega
              have hsn2 : ((u.size : Int) - (i : Int)) - 1 = (sn : Int) := by omega
              rw [hx1, hx2] at hsz
              rw [hx1, hx2, hx, hsn] at hk
              clear HRd HGS hc46 h46 HR HU HB hxe hsn hsn1
              go_upto_region 11 with fail
              go_region
              all_goals
                go_wp2
                go_roundw
                case rel => exact ⟨x, sn, i + 1, true, rfl, rfl, rfl, by go_num, hi1, hk, b_drew hb1, hB1.drew⟩
                case measure => simp [intOf]; omega
          · have g1 : ((c.toNat : Int) == 46) = false := by rw [beq_eq_false_iff_ne]; omega
            have hk : Hid (Rd u.data.toList (i + 1) pt al sl) := HRd.out.keep (fun _ => by rw [HGS.out]; intro e; exact h46 (by rw [Option.some.inj e]; rfl))
            clear HRd HGS h46 HR HU HB
            go_wp2
            go_roundw
            case rel => exact ⟨al, sl, i + 1, pt, rfl, rfl, rfl, by go_num, hi1, hk, hb1, hB1⟩
            case measure => simp [intOf]; omega
        · obtain rfl : i = u.size := by omega
          have g0 : decide ((u.size : Int) < (u.size : Int)) = false := decide_eq_false (by omega)
          obtain ⟨x, hxt, hxf, hx, hsl⟩ : ∃ x : ByteArray, (pt = true → x = al) ∧ (pt = false → x = u) ∧ x.data.toList = allOf u.data.toList ∧ sl = (Lib.cut u.data.toList [46]).2.1.length := by
            cases pt with
            | true => exact ⟨al, fun _ => rfl, fun e => absurd e (by decide), (HRd.out.2 rfl).1, (HRd.out.2 rfl).2⟩
            | false =>
              obtain ⟨h1, h2, h3⟩ := HRd.out.1 rfl
              obtain ⟨h4, h5⟩ := cut_none (l := u.data.toList) fun j => by
                by_cases hj : j < u.size
                · exact h1 j hj
                · rw [List.getElem?_eq_none (by rw [size_list']; omega)]; intro e; cases e
              exact ⟨u, fun e => absurd e (by decide), fun _ => rfl, h4.symm, by rw [h3, h5]⟩
          have hcl := cut_len u.data.toList
          rw [size_list'] at hcl
          have hxs : x.size ≤ 1000 := by rw [← size_list', hx]; unfold allOf; rw [List.length_append]; omega
          have hsl1 : sl ≤ 1000 := by omega
          have hRr := HR.out
          rw [← hx, ← hsl] at hRr
          have hRD := rdigits_any x (by unfold maxLen; omega)
          obtain ⟨dg, hdg⟩ : ∃ dg, (digs x.data.toList && !x.data.toList.isEmpty) = dg := ⟨_, rfl⟩
          rw [hdg] at hRD
          have hb2 := Lib.hid hb1
          obtain ⟨c0, c1, c2, f0, f1, f2⟩ := hB1.three
          cases dg with
          | false =>
            have er : r = .err 6 := by
              rw [hRr, if_pos]
              rcases Bool.and_eq_false_iff.1 hdg with h | h
              · exact .inr h
              · exact .inl (by rw [Bool.not_eq_false'] at h; exact List.isEmpty_iff.1 h)
            have ER := Lib.hid er
            clear er hRr hdg hcl hx hsl HRd HR HU HB hb1 hxs hsl1 hi
            cases pt with
            | true =>
              obtain rfl := hxt rfl
              clear hxt hxf
              go_wp2_with (go_at_call 55; refine (hRD _).mono ?_; rintro e w' ⟨rfl, rfl⟩)
              refine bodyPost_ret (v := r.val) (by rw [ER.out]; exact results_row_slot (by rfl) _ _ _ _ _ _ (by rfl) (hB1.set3 _ _ _) (by rfl)) rfl ⟨rfl, b_set3 hb2.out (Nat.le_refl _) _ _ _⟩
            | false =>
              obtain rfl := hxf rfl
              clear hxt hxf
              go_wp2_with (go_at_call 55; refine (hRD _).mono ?_; rintro e w' ⟨rfl, rfl⟩)
              refine bodyPost_ret (v := r.val) (by rw [ER.out]; exact results_row_slot (by rfl) _ _ _ _ _ _ (by rfl) (hB1.set3 _ _ _) (by rfl)) rfl ⟨rfl, b_set3 hb2.out (Nat.le_refl _) _ _ _⟩
          | true =>
            obtain ⟨hd1, hd2⟩ := (Bool.and_eq_true_iff.1 hdg)
            have hx0 : 0 < x.size := by
              rw [← size_list', List.length_pos_iff]
              intro e; rw [e] at hd2; cases hd2
            rw [if_neg (by rw [hd1]; intro h; rcases h with h | h; (rw [h] at hd2; cases hd2); cases h)] at hRr
            have hM := fun W => rmade_any b x sl hd1 hx0 hxs hsl1 W
            rw [← hRr, R.val_eq] at hM
            clear hRr hdg hd1 hd2 hcl hx hsl HRd HR HU HB hb1 hxs hsl1 hi hx0
            cases pt with
            | true =>
              obtain rfl := hxt rfl
              clear hxt hxf
              go_wp2_with (first | (go_at_call 55; refine (hRD _).mono ?_; rintro e w' ⟨rfl, rfl⟩) | (go_at_call 56; refine (hM _).mono ?_))
              first | rintro e7 w7 rfl hb7 | rintro e7 w7 ⟨rfl, hb7⟩
              have hB7 := hB1.below hB1.lt hb7
              obtain ⟨k0, k1, k2, q0, q1, q2⟩ := hB7.three
              have HBW7 := Lib.hid (b_step hb7 hb2.out)
              clear c0 c1 c2 f0 f1 f2 hb7 hM hRD
              go_wp2
              refine bodyPost_ret (v := r.val) (results_row_slot (by rfl) _ _ _ _ _ _ (by rfl) (hB7.set3 _ _ _) (by rfl)) rfl ⟨rfl, b_set3 HBW7.out (Nat.le_refl _) _ _ _⟩
            | false =>
              obtain rfl := hxf rfl
              clear hxt hxf
              go_wp2_with (first | (go_at_call 55; refine (hRD _).mono ?_; rintro e w' ⟨rfl, rfl⟩) | (go_at_call 56; refine (hM _).mono ?_))
              first | rintro e7 w7 rfl hb7 | rintro e7 w7 ⟨rfl, hb7⟩
              have hB7 := hB1.below hB1.lt hb7
              obtain ⟨k0, k1, k2, q0, q1, q2⟩ := hB7.three
              have HBW7 := Lib.hid (b_step hb7 hb2.out)
              clear c0 c1 c2 f0 f1 f2 hb7 hM hRD
              go_wp2
              refine bodyPost_ret (v := r.val) (results_row_slot (by rfl) _ _ _ _ _ _ (by rfl) (hB7.set3 _ _ _) (by rfl)) rfl ⟨rfl, b_set3 HBW7.out (Nat.le_refl _) _ _ _⟩
end Dc
end Go.Proofs.YthnpbkplcboejaaDoor
