/- Names: Ay. -/
import Derived.Test.YtohlhihhadbphaaGreatDoorRows
import Derived.Test.YtohlhihhadbphaaGreatDoorTie
import Derived.Test.YtohlhihhadbphaaGreatDoorCards
import Derived.Test.YtohlhihhadbphaaGreatDoorGn
import Derived.Test.YtohlhihhadbphaaGreatDoorRx
import Derived.ProofKit
import Derived.Below
import Derived.ChangeSlices
import Derived.ChangeOld
import Derived.ShutString
import Derived.HandedShaped
import Derived.PinnedBridge
import Derived.Lib.LaidU8T
import Derived.Lib.LaidTab
import Derived.Carry
import Derived.OpenShut
import Derived.Lay
import Derived.LaidMore
import Derived.SevenTiedAt
import Derived.Stop.Joined
set_option linter.unusedSimpArgs false
set_option linter.unusedVariables false
/- Proved: gabaritlaw01.NamesCells returns true for every input that its row admits, without a panic, and leaves its arguments and the memory as they were; the three listed package-level variables start as the program's text lays them (the card ties them), and nothing is asked beyond that. -/
namespace Go.Proofs.YtohlhihhadbphaaGreatDoor
open Go.RowKit Go.Shelf Go.Lib Go.ChangeShapes Go.WideShapes Go.ChangeAt
open Go.ChangeMaps (open_string shut_string)
namespace NpCells

def laidAll : List (String × DataW Unit) := [("math/bits.deBruijn32tab", Rows.laid_math_bits_deBruijn32tab), ("math/bits.deBruijn64tab", Rows.laid_math_bits_deBruijn64tab), ("internal/strconv.uint64pow10", Rows.laid_internal_strconv_uint64pow10)]
theorem laidOut : laidOutB Tryz.prog = true := by kernel_rfl
theorem pow_eq : (Rows.laid_internal_strconv_uint64pow10 : DataW Unit) = tabData .u64 pow10Tab := by kernel_rfl
theorem four_le {W : World} (hsh : W.ShapedOpen Tryz.prog) : 4 ≤ W.heap.size := by
  have h : ∃ o, W.heap[3]? = some o := by
    by_cases hk : Tryz.prog.globals.size ≤ 3
    · obtain ⟨o, _, ho, _⟩ := hsh.2 3 hk (of_decide_eq_true (by kernel_rfl))
      exact ⟨o, ho⟩
    · have hs : (((begin Tryz.prog (fun _ _ => 0) default).world.heap[3]?).bind Obj.row?).isSome = true := by kernel_rfl
      obtain ⟨⟨z, t⟩, hz⟩ := Option.isSome_iff_exists.1 hs
      obtain ⟨cs, hc, _⟩ := hsh.1 3 z t (by omega) hz
      exact ⟨_, hc⟩
  obtain ⟨o, ho⟩ := h
  exact (Array.getElem?_eq_some_iff.1 ho).1
theorem G_of {W : World} (hL : laidMet Tryz.prog laidAll W) (hsh : W.ShapedOpen Tryz.prog) : Np.G W := by
  have hr := Lib.laidMet.reads hL (.tail _ (.tail _ (.head _)))
  rw [pow_eq] at hr
  obtain ⟨g, t, cs, fuel, p, hg, hty, hvar, hd⟩ := hr
  obtain rfl := Option.some.inj ((show Tryz.prog.globalNamed "internal/strconv.uint64pow10" = some 1 by kernel_rfl).symm.trans hg)
  have htab : Lib.TabIs Tryz.prog W "internal/strconv.uint64pow10" .u64 Lib.pow10Tab := by
    obtain rfl := Option.some.inj ((show (Tryz.prog.globals[1]?).map (·.type) = some 172 by kernel_rfl).symm.trans hty)
    unfold Lib.TabIs
    rw [hvar, ← Lib.cells_of_tab (n := 20) (e := 146) (by kernel_rfl) (by kernel_rfl) (by kernel_rfl) (by kernel_rfl) hd]
  have h4 : 4 ≤ W.heap.size := four_le hsh
  refine ⟨fun w' hb => ?_, h4⟩
  unfold Lib.TabIs World.var? at htab ⊢
  rw [hg] at htab ⊢
  simp only [Option.bind_some] at htab ⊢
  rw [hb.block _ (show 1 < 4 by decide)]
  exact htab
theorem own : ownKnob Tryz.prog.godebug = none := by kernel_rfl
set_option maxRecDepth 100000 in
theorem lifted (os : Os) (started : os.Started) (H : Type) (enc : TypeId × Value → H) :
    ReturnsInHanded {} Tryz.checked os 5 .any (fun w args => (Rows.namesCellsSpec.pre enc Tryz.prog Tryz.f5 [] false w args ∧ laidMetH Tryz.prog NpCells.laidAll w) ∧ sizedMet enc Tryz.prog Tryz.f5 (OpenSpec.ofChange Rows.namesCellsSpec) false w args)
      (Rows.namesCellsSpec.post enc Tryz.prog Tryz.f5 false true false false) := by
  refine returnsInHanded_of_calls (C := Tryz.checked) own started (by kernel_rfl)
    (ChangeSpec.witness_shaped (enc := enc) (C := Tryz.checked) (os := os) (X := fun w _ => laidMetH Tryz.prog NpCells.laidAll w) false (World.laidAll Tryz.prog os NpCells.laidAll) #[.slice none 0 0, .agg #[.string ⟨#[]⟩, .string ⟨#[]⟩]] 8 (World.laidAll_os _ _ _)
      (World.shaped_of_ZipB (by kernel_rfl) (by kernel_rfl)) (by kernel_rfl) (by kernel_rfl) (by kernel_rfl)
      (by rw [MakeChecks.laidMetH_plain _ _ _ (by kernel_rfl)]; exact laidMet_laidAll _ (by kernel_rfl) (by kernel_rfl))) ?_
  intro w tape i _ hsh _ hok hpre hholds
  obtain ⟨_, _, _, fn', hfn', _, _, _, _, hval⟩ := hok
  obtain rfl : fn' = Tryz.f5 := Option.some.inj (hfn'.symm.trans Tryz.func5)
  obtain ⟨⟨⟨ds, gs, before, hw, hc⟩, hx⟩, hz⟩ := hpre
  have hW := DataW.Whole.of_heap (w' := w.forCall tape i) (by rfl) hw
  have hL : laidMetH Tryz.prog NpCells.laidAll (w.forCall tape i) := hx.of_heap (by rfl)
  clear hw hx hz hc hholds
  obtain ⟨W, hWW⟩ : ∃ W, w.forCall tape i = W := ⟨_, rfl⟩
  obtain ⟨base, hbase⟩ : ∃ b, w.heap.size = b := ⟨_, rfl⟩
  obtain ⟨args, hargs⟩ : ∃ a, i.args = a := ⟨_, rfl⟩
  rw [hWW, hargs] at hW
  rw [hWW] at hL hsh
  rw [hWW, hbase, hargs] at hval
  rw [hWW, hargs]
  suffices HH : Calls Tryz.prog 5 args W fun e W' => ∃ v, e = .returned v ∧ Rows.namesCellsSpec.post enc Tryz.prog Tryz.f5 false true false false W args v W' by
    refine HH.mono fun e W' ⟨v, he, hp⟩ => ?_
    subst he
    exact ChangeSpec.post_blind hp
  clear hWW hbase hargs hfn'
  rw [MakeChecks.laidMetH_plain _ _ _ (by kernel_rfl)] at hL
  have hG := NpCells.G_of hL hsh
  have hval' : ∀ (j : Nat) t v, Tryz.f5.params[j]? = some t → args[j]? = some v → Value.okWide Tryz.prog W .any base t v := hval
  have hW' := hW
  obtain ⟨p, q, hA0, hV, rfl, _, _⟩ := hW
  have hA : DataW.TrodAll enc Tryz.prog W 0 (fun _ => true) true Tryz.f5.params.toList args.toList ds p := hA0
  rw [Tryz.params5] at hA hval'
  obtain ⟨v0, v1, d0, d1, p0, p1, rfl, rfl, rfl, h0, h1⟩ := trodAll_two hA
  obtain ⟨rfl, rfl⟩ := trodVars_none hV
  obtain ⟨a0, len0, cap0, rfl⟩ := okWide_slice Tryz.underlying24 (hval' 0 24 v0 rfl rfl)
  obtain ⟨c1, rfl, _⟩ := okWide_struct Np.fsN_eq (hval' 1 23 v1 rfl rfl)
  have k0 := h0
  have k1 := h1
  have lt0 : ∀ x ∈ p0, x.block < W.heap.size := by obtain ⟨m, hm⟩ := k0; exact DataW.trod_lt m _ _ _ hm
  have lt1 : ∀ x ∈ p1, x.block < W.heap.size := by obtain ⟨m, hm⟩ := k1; exact DataW.trod_lt m _ _ _ hm
  obtain ⟨x0, rfl, i0⟩ := Np.classes_arg k0
  obtain ⟨x1, e1, i1⟩ := Np.name_arg k1
  rw [e1] at hW' ⊢
  rw [e1] at k1
  simp only [List.append_nil] at hW'
  refine (Np.NamesCells_any a0 cap0 x0 x1 W hG i0).mono fun e W' ⟨he, hb⟩ => ?_
  subst he
  exact ⟨_, rfl, _, _, _, [], _, [], hW', trodAll_mk1 (shut_bool Tryz.underlying4 _), trodAll_mk2 (Below.trod laidOut (by kernel_rfl) (of_decide_eq_true (by kernel_rfl)) k0 hb lt0) (Below.trod laidOut (by kernel_rfl) (of_decide_eq_true (by kernel_rfl)) k1 hb lt1), rfl, hb.frame _, fun h => by cases h⟩

theorem said : Rows.NamesCellsSaid :=
  OpenClaim.holds_of_wide 5 Tryz.f5 rfl rfl rfl rfl rfl rfl rfl ⟨rfl, rfl, rfl, rfl, rfl⟩ rfl rfl rfl rfl rfl (by kernel_rfl) Tryz.func5 (by kernel_rfl)
    (of_decide_eq_true (by kernel_rfl)) (by unfold Func.isWrapper; first | (rw [if_pos (by decide +kernel)]; kernel_rfl) | (rw [if_neg (by decide +kernel)]; exact ⟨rfl, rfl⟩))
    (fun os started H enc _ => lifted os started H enc)
theorem card : Rows.NamesCellsCardSaid :=
  Claim7.holds_tied_plain_at .later [] [.data, .data, .data] true (true, "88d9c48dd2d3f38fb41dfcc6d7e5e26a3b850f3d25b00cd5bc41c4d5f0c7f0d9") false said (fun _ h => by cases h) (by kernel_rfl) (fun _ h => by cases h) namesCells_row_tie rfl ⟨rfl, rfl⟩ (by kernel_rfl) rfl
    (fun f fn hf hfn => by
      obtain rfl : f = 5 := Option.some.inj ((show Tryz.prog.funcNamed "gabarit/gabaritlaw01.NamesCells" = some 5 by kernel_rfl).symm.trans hf) |>.symm
      obtain rfl : fn = Tryz.f5 := (Option.some.inj (Tryz.func5.symm.trans hfn)).symm
      exact ⟨by kernel_rfl, fun j t ht => by
        rw [Tryz.params5] at ht
        have hm : t ∈ [24, 23] := by simpa using Array.mem_of_getElem? ht
        have hall : ([24, 23].all fun u => !Tryz.prog.wantsStandIn u) = true := by kernel_rfl
        exact (show Tryz.prog.wantsStandIn t = false by simpa using List.all_eq_true.1 hall t hm)⟩)
    (by kernel_rfl)
#print axioms said
#print axioms card
end NpCells
end Go.Proofs.YtohlhihhadbphaaGreatDoor
