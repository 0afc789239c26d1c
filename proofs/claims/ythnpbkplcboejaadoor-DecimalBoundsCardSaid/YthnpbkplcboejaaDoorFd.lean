/- Decimal: what a card wants: an argument that is a decimal; the laid variables. -/
import Derived.Test.YthnpbkplcboejaaDoorRows
import Derived.Test.YthnpbkplcboejaaDoorDo
import Derived.Below
import Derived.ChangeSlices
import Derived.ChangeOld
import Derived.ShutString
import Derived.HandedShaped
import Derived.PinnedBridge
import Derived.Lib.LaidU8T
import Derived.Lib.LaidTab
import Derived.Shelf.Vars
import Derived.Carry
import Derived.OpenShut
import Derived.Lay
import Derived.LaidMore
set_option linter.unusedSimpArgs false
set_option linter.unusedVariables false
namespace Go.Proofs.YthnpbkplcboejaaDoor
open Go.RowKit Go.Shelf Go.Lib Go.ChangeShapes Go.WideShapes
namespace Dc
noncomputable def fsD : Array Field := match Tryd.prog.underlying 23 with | some (.struct fs) => fs | _ => #[]
theorem fsD_eq : Tryd.prog.underlying 23 = some (.struct fsD) := by kernel_rfl
noncomputable def tyD (i : Nat) : TypeId := ((fsD[i]?).map (·.type)).getD 0
theorem fld {fs : Array Field} {i : Nat} {ty : TypeId} {off : Nat} (h : (fs[i]?).map (fun f => (f.type, f.offset)) = some (ty, off)) : ∃ f, fs[i]? = some f ∧ f.type = ty ∧ f.offset = off := by
  cases hf : fs[i]? with
  | none => rw [hf] at h; cases h
  | some f => rw [hf] at h; simp at h; exact ⟨f, rfl, h.1, h.2⟩
theorem three_of {α : Type _} {l : List α} (h : l.length = 3) : ∃ a b c, l = [a, b, c] := by
  match l, h with
  | [a, b, c], _ => exact ⟨a, b, c, rfl⟩
section
variable {H : Type} {enc : TypeId × Value → H} {W : World}
theorem open_dec {n : Nat} {cs : List Value} {x : DataW H × List MemPlace} (h : DataW.trod enc Tryd.prog W 0 (fun _ => true) true n 23 cs = some x) : ∃ d : D, cs = [.bool d.neg, .string d.s, .int .i64 d.sc] ∧ d.s.size ≤ maxLen := by
  obtain ⟨xs, n, rfl, _, hl, hn, hel⟩ := DataW.trod_struct fsD_eq h
  replace hl : cs.length = 3 := hl.trans (by kernel_rfl)
  replace hn : xs.length = 3 := hn.trans (by kernel_rfl)
  obtain ⟨v0, v1, v2, rfl⟩ := three_of hl
  obtain ⟨x0, x1, x2, rfl⟩ := three_of hn
  obtain ⟨f0, e0, t0, o0⟩ := fld (fs := fsD) (i := 0) (ty := tyD 0) (off := 0) (by kernel_rfl)
  obtain ⟨f1, e1, t1, o1⟩ := fld (fs := fsD) (i := 1) (ty := tyD 1) (off := 1) (by kernel_rfl)
  obtain ⟨f2, e2, t2, o2⟩ := fld (fs := fsD) (i := 2) (ty := tyD 2) (off := 2) (by kernel_rfl)
  have h0 := hel 0 f0 e0
  have h1 := hel 1 f1 e1
  have h2 := hel 2 f2 e2
  rw [t0, o0, show Tryd.prog.cellsOf (tyD 0) = 1 by kernel_rfl] at h0
  rw [t1, o1, show Tryd.prog.cellsOf (tyD 1) = 1 by kernel_rfl] at h1
  rw [t2, o2, show Tryd.prog.cellsOf (tyD 2) = 1 by kernel_rfl] at h2
  simp only [List.drop_zero, List.drop_succ_cons, List.take_succ_cons, List.take_zero, List.getElem?_cons_zero, List.getElem?_cons_succ] at h0 h1 h2
  obtain ⟨b, g0, _⟩ := DataW.trod_bool (by kernel_rfl) h0
  obtain ⟨s, g1, _, z1⟩ := DataW.trod_string (by kernel_rfl) h1
  obtain ⟨k, g2, _, _⟩ := DataW.trod_int (k := .i64) (by kernel_rfl) h2
  simp at g0 g1 g2
  exact ⟨⟨b, s, k⟩, by rw [g0, g1, g2], z1⟩
theorem dec_arg {c : Array Value} {d : DataW H} {p : List MemPlace} (h : DataW.Trod enc Tryd.prog W 0 (fun _ => true) true 23 (.agg c) d p) : ∃ x : D, Value.agg c = x.val ∧ x.s.size ≤ maxLen := by
  obtain ⟨m, hm⟩ := h
  obtain ⟨x, e, hi⟩ := open_dec hm
  refine ⟨x, ?_, hi⟩
  have : c = #[.bool x.neg, .string x.s, .int .i64 x.sc] := by
    have e' : c.toList = [.bool x.neg, .string x.s, .int .i64 x.sc] := by simpa [Value.cells] using e
    rw [← Array.toArray_toList (xs := c), e']
  rw [this]; rfl
end
theorem bounds_i64 {n : Int} (h : (Lit.int .i64 n).wf = true) : -9223372036854775808 ≤ n ∧ n ≤ 9223372036854775807 := by
  simp [Lit.wf, IntKind.min, IntKind.max, IntKind.signed, IntKind.bits] at h
  omega
def laidAll : List (String × DataW Unit) := [("math/bits.deBruijn32tab", Rows.laid_math_bits_deBruijn32tab), ("math/bits.deBruijn64tab", Rows.laid_math_bits_deBruijn64tab), ("internal/strconv.uint64pow10", Rows.laid_internal_strconv_uint64pow10), ("unicode/utf8.acceptRanges", Rows.laid_unicode_utf8_acceptRanges), ("unicode/utf8.first", Rows.laid_unicode_utf8_first)]
theorem laidOut : laidOutB Tryd.prog = true := by kernel_rfl
theorem pow_eq : (Rows.laid_internal_strconv_uint64pow10 : DataW Unit) = tabData .u64 pow10Tab := by kernel_rfl
theorem six_le {W : World} (hsh : W.ShapedOpen Tryd.prog) : 6 ≤ W.heap.size := by
  have h : ∃ o, W.heap[5]? = some o := by
    by_cases hk : Tryd.prog.globals.size ≤ 5
    · obtain ⟨o, _, ho, _⟩ := hsh.2 5 hk (of_decide_eq_true (by kernel_rfl))
      exact ⟨o, ho⟩
    · have hs : (((begin Tryd.prog (fun _ _ => 0) default).world.heap[5]?).bind Obj.row?).isSome = true := by kernel_rfl
      obtain ⟨⟨z, t⟩, hz⟩ := Option.isSome_iff_exists.1 hs
      obtain ⟨cs, hc, _⟩ := hsh.1 5 z t (by omega) hz
      exact ⟨_, hc⟩
  obtain ⟨o, ho⟩ := h
  exact (Array.getElem?_eq_some_iff.1 ho).1
theorem max_of {W : World} (hsh : W.ShapedOpen Tryd.prog) : ∃ m, W.cell? ⟨0, 0, none⟩ = some (.int .i64 m) :=
  cell_of_shapedOpen_int (t := 3) (zero := #[.int .i64 0]) hsh (of_decide_eq_true (by kernel_rfl)) (by kernel_rfl) rfl (by kernel_rfl) (by kernel_rfl) (by kernel_rfl)
theorem G_of {W : World} (hL : laidMet Tryd.prog laidAll W) (hsh : W.ShapedOpen Tryd.prog) : G W := by
  have hr := Lib.laidMet.reads hL (.tail _ (.tail _ (.head _)))
  rw [pow_eq] at hr
  obtain ⟨g, t, cs, fuel, p, hg, hty, hvar, hd⟩ := hr
  obtain rfl := Option.some.inj ((show Tryd.prog.globalNamed "internal/strconv.uint64pow10" = some 1 by kernel_rfl).symm.trans hg)
  have htab : Lib.TabIs Tryd.prog W "internal/strconv.uint64pow10" .u64 Lib.pow10Tab := by
    obtain rfl := Option.some.inj ((show (Tryd.prog.globals[1]?).map (·.type) = some 122 by kernel_rfl).symm.trans hty)
    unfold Lib.TabIs
    rw [hvar, ← Lib.cells_of_tab (n := 20) (e := 93) (by kernel_rfl) (by kernel_rfl) (by kernel_rfl) (by kernel_rfl) hd]
  have h6 : 6 ≤ W.heap.size := six_le hsh
  obtain ⟨m, hm⟩ := max_of hsh
  refine ⟨fun w' hb => ⟨?_, m, ?_⟩, h6⟩
  · unfold Lib.TabIs World.var? at htab ⊢
    rw [hg] at htab ⊢
    simp only [Option.bind_some] at htab ⊢
    rw [hb.block _ (show 1 < 6 by decide)]
    exact htab
  · exact (hb.cell (p := ⟨0, 0, none⟩) (show 0 < 6 by decide)).trans hm
theorem own : ownKnob Tryd.prog.godebug = none := by kernel_rfl
end Dc
end Go.Proofs.YthnpbkplcboejaaDoor
