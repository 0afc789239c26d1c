/- What the laid variables give the walks. -/
import Derived.Test.YthfmnhhennbjnaaDoorRows
import Derived.Test.YthfmnhhennbjnaaDoorCkKinds
import Derived.Lib.LaidU8T
import Derived.PinnedBridge
import Derived.HandedShaped
import Derived.Shelf.Vars
import Derived.OpenShut
namespace Go.Proofs.YthfmnhhennbjnaaDoor
open Go.RowKit Go.Shelf Go.Lib
namespace Ck

theorem chunks (f : Int × Int × Int → List Value) (hf : ∀ r, (f r).length = 3) : ∀ (rows : List (Int × Int × Int)) (cs : List Value), cs.length = 3 * rows.length → (∀ i (h : i < rows.length), (cs.drop (i * 3)).take 3 = f rows[i]) → cs = rows.flatMap f
  | [], cs, h, _ => List.eq_nil_of_length_eq_zero (by simpa using h)
  | r :: rows, cs, h, hr => by
    simp only [List.length_cons] at h
    have h0 := hr 0 (by simp)
    simp only [Nat.zero_mul, List.drop_zero, List.getElem_cons_zero] at h0
    have ih := chunks f hf rows (cs.drop 3) (by rw [List.length_drop]; omega) (fun i hi => by
      have := hr (i + 1) (by simp; omega)
      rw [List.drop_drop, show 3 + i * 3 = (i + 1) * 3 by omega]
      simpa using this)
    rw [List.flatMap_cons, ← ih, ← h0, List.take_append_drop]
def rho : Ren := ⟨fun x => x, fun n => if n = 5 then 5 else if n = 119 then 85 else if n = 138 then 88 else 89, fun n => if n = 3 then 1 else 2⟩
theorem u8types : U8Types Tryd.prog rho := ⟨by kernel_rfl, by kernel_rfl, by kernel_rfl, by kernel_rfl⟩
theorem u8extra : U8Extra Tryd.prog rho := ⟨by kernel_rfl, by kernel_rfl, by kernel_rfl, by kernel_rfl, by kernel_rfl, by kernel_rfl, by kernel_rfl⟩
theorem acc_eq : (Rows.laid_unicode_utf8_acceptRanges : DataW Unit) = acceptData := by kernel_rfl
theorem ranges_eq : (Rows.laid_gabarit_chars_ranges : DataW Unit) = .agg (tab.map fun r => .agg [.lit (.int .i32 r.1), .lit (.int .i32 r.2.1), .lit (.int .i32 r.2.2)]) := by kernel_rfl
theorem row_of {W : World} {fuel : Nat} {cs : List Value} {p : List MemPlace} {a b c : Int}
    (h : DataW.trod (fun _ => ()) Tryd.prog W 0 (fun _ => true) false fuel 67 cs = some (.agg [.lit (.int .i32 a), .lit (.int .i32 b), .lit (.int .i32 c)], p)) : cs = [.int .i32 a, .int .i32 b, .int .i32 c] := by
  obtain ⟨xs, m, _, ex, hl, hn, hel⟩ := DataW.trod_array (n := 3) (e := 21) (by kernel_rfl) h
  have c1 : Tryd.prog.cellsOf 21 = 1 := by kernel_rfl
  have c3 : Tryd.prog.cellsOf 67 = 3 := by kernel_rfl
  rw [c3] at hl
  match xs, hn, cs, hl with
  | [x0, x1, x2], _, [v0, v1, v2], _ =>
    simp only [List.map_cons, List.map_nil, Prod.mk.injEq, DataW.agg.injEq, List.cons.injEq, and_true] at ex
    obtain ⟨⟨e0, e1, e2⟩, _⟩ := ex
    have h0 := hel 0 (by decide)
    have h1 := hel 1 (by decide)
    have h2 := hel 2 (by decide)
    rw [c1] at h0 h1 h2
    simp only [Nat.zero_mul, Nat.one_mul, List.drop_zero, List.drop_succ_cons, List.take_succ_cons, List.take_zero, List.getElem?_cons_zero, List.getElem?_cons_succ] at h0 h1 h2
    obtain ⟨z0, f0, g0, _⟩ := DataW.trod_int (k := .i32) (by kernel_rfl) h0
    obtain ⟨z1, f1, g1, _⟩ := DataW.trod_int (k := .i32) (by kernel_rfl) h1
    obtain ⟨z2, f2, g2, _⟩ := DataW.trod_int (k := .i32) (by kernel_rfl) h2
    rw [g0] at e0
    rw [g1] at e1
    rw [g2] at e2
    simp at e0 e1 e2 f0 f1 f2
    rw [f0, f1, f2, e0, e1, e2]
theorem rng_of {W : World} (h : VarReads Tryd.prog W "gabarit/chars.ranges" Rows.laid_gabarit_chars_ranges) : ∃ t fr, W.heap[0]? = some (.cells tabV t fr) := by
  rw [ranges_eq] at h
  obtain ⟨g, t, cs, fuel, p, hg, hty, hvar, hd⟩ := h
  obtain rfl := Option.some.inj ((show Tryd.prog.globalNamed "gabarit/chars.ranges" = some 0 by kernel_rfl).symm.trans hg)
  obtain rfl := Option.some.inj ((show (Tryd.prog.globals[0]?).map (·.type) = some 68 by kernel_rfl).symm.trans hty)
  obtain ⟨xs, m, _, ex, hl, hn, hel⟩ := DataW.trod_array (n := 23) (e := 67) (by kernel_rfl) hd
  have c3 : Tryd.prog.cellsOf 67 = 3 := by kernel_rfl
  have c69 : Tryd.prog.cellsOf 68 = 69 := by kernel_rfl
  have htl : tab.length = 23 := by kernel_rfl
  rw [c69] at hl
  have em := (DataW.agg.inj (Prod.mk.inj ex).1).symm
  have hcs : cs.toList = tabL := by
    refine chunks (fun r => [.int .i32 r.1, .int .i32 r.2.1, .int .i32 r.2.2]) (fun _ => rfl) tab cs.toList (by rw [hl, htl]) (fun i hi => ?_)
    have h1 := hel i (by omega)
    rw [c3, List.getElem?_eq_getElem (by omega)] at h1
    have e1 : xs[i].1 = .agg [.lit (.int .i32 tab[i].1), .lit (.int .i32 tab[i].2.1), .lit (.int .i32 tab[i].2.2)] := by
      have := congrArg (·[i]?) em
      simp only [List.getElem?_map, List.getElem?_eq_getElem hi, List.getElem?_eq_getElem (show i < xs.length by omega), Option.map_some, Option.some.injEq] at this
      exact this
    have e2 : xs[i] = (.agg [.lit (.int .i32 tab[i].1), .lit (.int .i32 tab[i].2.1), .lit (.int .i32 tab[i].2.2)], xs[i].2) := by rw [← e1]
    rw [e2] at h1
    exact row_of h1
  have hcs' : cs = tabV := by unfold tabV; rw [← hcs]
  unfold World.var? at hvar
  rw [show Tryd.prog.globalNamed "gabarit/chars.ranges" = some 0 by kernel_rfl] at hvar
  simp only [Option.bind_some] at hvar
  split at hvar
  · rename_i c t fr he
    cases hvar
    exact ⟨_, _, by rw [he, hcs']⟩
  · cases hvar
theorem max_of {W : World} (hsh : W.ShapedOpen Tryd.prog) : ∃ m, W.cell? ⟨3, 0, none⟩ = some (.int .i64 m) :=
  cell_of_shapedOpen_int (t := 3) (zero := #[.int .i64 0]) hsh (of_decide_eq_true (by kernel_rfl)) (by kernel_rfl) rfl (by kernel_rfl) (by kernel_rfl) (by kernel_rfl)
def laidAll : List (String × DataW Unit) := [("unicode/utf8.acceptRanges", Rows.laid_unicode_utf8_acceptRanges), ("gabarit/chars.ranges", Rows.laid_gabarit_chars_ranges), ("unicode/utf8.first", Rows.laid_unicode_utf8_first)]
theorem first_eq : Rows.laid_unicode_utf8_first = firstData := Pinned.utf8First_eq
theorem G_of {W : World} (hL : laidMet Tryd.prog laidAll W) (hsh : W.ShapedOpen Tryd.prog) : G W := by
  have h4 : VarReads Tryd.prog W "unicode/utf8.acceptRanges" acceptData := acc_eq ▸ Lib.laidMet.reads hL (.head _)
  have h3 : VarReads Tryd.prog W "unicode/utf8.first" firstData := first_eq ▸ Lib.laidMet.reads hL (.tail _ (.tail _ (.head _)))
  have hu : Lib.Utf8Tabs 1 2 W := utf8Tabs_of_readsT u8types u8extra h3 h4
  have hm := max_of hsh
  have hr := rng_of (Lib.laidMet.reads hL (.tail _ (.head _)))
  refine ⟨hr, hu, hm, ?_⟩
  obtain ⟨m, hm⟩ := hm
  obtain ⟨t, fr, hr⟩ := hr
  have k1 : 3 < W.heap.size := cell_lt hm
  have k2 : 0 < W.heap.size := (Array.getElem?_eq_some_iff.1 hr).1
  have k3 : 1 < W.heap.size := cell_lt (hu.1 0 (by decide))
  have k4 : 2 < W.heap.size := cell_lt (hu.2 0 (by decide)).1
  omega
end Ck
end Go.Proofs.YthfmnhhennbjnaaDoor
