/- Encode: the program's and the reference's. -/
import Derived.Test.YthfmnhhennbjnaaDoorCkSame
namespace Go.Proofs.YthfmnhhennbjnaaDoor
open Go.RowKit Go.Shelf
namespace Ck

/-- A slice of bytes of the call's own. -/
abbrev RowB (B : Nat) (v : Value) (l : List UInt8) (w : World) : Prop := w.ownsRowF B 5 1 v l.length (Lib.byteCells l)
theorem rowB_nil (w : World) (B : Nat) : RowB B (.slice none 0 0) [] w := World.ownsRowF_of (World.ownsRow_nil _ _ _ _)
theorem rowB_below {B : Nat} {v : Value} {l : List UInt8} {w w' : World} (h : RowB B v l w) (hb : Below w.heap.size w w') : RowB B v l w' :=
  World.ownsRowF.kept h (below_grown hb) (by cases h' : v.ownBlock <;> simp)
theorem isB_below {B b : Nat} {bs : List UInt8} {w w' : World} (h : IsB B b bs w) (hb : Below w.heap.size w w') : IsB B b bs w' := by
  rcases h with ⟨hB, v, h1, h2, h3⟩ | ⟨hB, v, h1, h2, h3⟩
  · exact .inl ⟨hB, v, (hb.block _ (lt_of_heap h1)).trans h1, World.ownsRowF.kept h2 (below_grown hb) (by cases h' : v.ownBlock <;> simp), h3⟩
  · exact .inr ⟨hB, v, (hb.block _ (lt_of_heap h1)).trans h1, World.ownsRowF.kept h2 (below_grown hb) (by cases h' : v.ownBlock <;> simp), h3⟩
theorem isB_lt {B b : Nat} {bs : List UInt8} {w : World} (h : IsB B b bs w) : b < w.heap.size := by
  rcases h with h | h <;> exact h.lt
theorem isB_len {B b : Nat} {bs : List UInt8} {w : World} (h : IsB B b bs w) : B ≤ b := by
  rcases h with h | h <;> exact h.1

/-- string(b) of a slice of the call's own. -/
theorem rowB_string {B : Nat} {v : Value} {l : List UInt8} {w : World} (h : RowB B v l w) :
    (convert 47 9 v).run Tryd.prog w = .ok (.string ⟨l.toArray⟩) w := by
  rcases h.2 with ⟨rfl, h0⟩ | ⟨g, cap, cur, fz, rfl, hB, hg, _⟩
  · rw [List.eq_nil_of_length_eq_zero h0]
    exact run_convert_bytes_nil (P := Tryd.prog) w 47 5 Tryd.underlying47 Tryd.underlying5 0 0 _ Tryd.underlying9
  · exact run_convert_bytes_back (P := Tryd.prog) w 47 9 5 ⟨g, 0, none⟩ cap l Tryd.underlying47 Tryd.underlying5 Tryd.underlying9 (fun j hj => by
      have := h.cells (g := g) rfl j (.int .u8 (l[j].toNat : Int)) (by simp [Lib.byteCells, hj])
      exact this)

theorem cell_lt {w : World} {p : Addr} {v : Value} (h : w.cell? p = some v) : p.block < w.heap.size := by
  obtain ⟨o, ho, _⟩ := cells_of_cell h
  exact (Array.getElem?_eq_some_iff.1 ho).1
theorem reads_below {v : Value} {xs : List Int} {w w' : World} (h : Reads32 w v xs) (hb : Below w.heap.size w w') : Reads32 w' v xs := by
  obtain ⟨ao, cap, rfl, hc⟩ := h
  refine ⟨ao, cap, rfl, fun j hj => ?_⟩
  obtain ⟨b, off, e, h⟩ := hc j hj
  exact ⟨b, off, e, (hb.cell (p := ⟨b, off + j, none⟩) (cell_lt h)).trans h⟩

def EncSays (xs : List Int) (e : Ending) : Prop :=
  (xs.all validB = true ∧ e = .returned (.tuple #[.string ⟨(encL xs).toArray⟩, .int .i64 0])) ∨
  (xs.all validB = false ∧ e = .returned (.tuple #[.string ⟨#[]⟩, .int .i64 2]))

set_option maxRecDepth 100000 in
set_option maxHeartbeats 2000000 in
theorem Encode_any (v : Value) (xs : List Int) (hx : xs.length ≤ 1048576) (hr : ∀ x ∈ xs, -2147483648 ≤ x ∧ x ≤ 2147483647) (w : World) (hG : G w) (ha : Reads32 w v xs) :
    Calls Tryd.prog 20 #[v] w fun e w' => EncSays xs e ∧ Below w.heap.size w w' := by
  obtain ⟨ao, ca, rfl, hca⟩ := ha
  have hG4 := hG.size
  have Hca := Lib.hid hca
  have Hr := Lib.hid hr
  clear hca hr
  go_enter Tryd.func20, Tryd.ntmps20
  go_wp2
  go_loopw [9] (fun i wr => ∃ k : Nat, k ≤ xs.length ∧ i = .int .i64 (k : Int) ∧ (xs.take k).all validB = true ∧ IsB w.heap.size w.heap.size (encL (xs.take k)) wr ∧ Below w.heap.size w wr) (fun i _ => xs.length - (intOf i).toNat)
  case atStart =>
    exact ⟨0, Nat.zero_le _, rfl, rfl, Lib.IsBuilderF.of (Lib.fresh_isBuilder _ _ w), (Below.refl _ w).alloc (Nat.le_refl _) _⟩
  case round =>
    obtain ⟨k, hk, rfl, hall, hI, hb⟩ := hrel
    have Hall := Lib.hid hall
    clear hall
    by_cases hlt : k < xs.length
    · obtain ⟨ba, oa, rfl, hc1⟩ := Hca.out k hlt
      have hc2 : wr.cell? ⟨ba, oa + k, none⟩ = some (.int .i32 xs[k]) := (hb.cell (p := ⟨ba, oa + k, none⟩) (cell_lt hc1)).trans hc1
      have hGr := hG.below hG4 hb
      have hrk := Hr.out xs[k] (List.getElem_mem hlt)
      obtain ⟨x, hxk⟩ : ∃ x, xs[k] = x := ⟨_, rfl⟩
      rw [hxk] at hc2 hrk
      have Hx := Lib.hid hxk
      clear hxk hc1
      cases hv : validB x
      · have Hv := Lib.hid hv
        clear hv
        go_wp2_with (go_at_call 8; refine (Valid_is _ false Hv.out _ hGr).mono ?_; rintro e w1 ⟨rfl, hb1⟩)
        go_ret2
        refine ⟨.inr ⟨all_prefix' (List.take_prefix (k + 1) xs) ?_, rfl⟩, hb.trans (hb1.mono hb.size)⟩
        rw [List.take_succ_eq_append_getElem hlt, List.all_append, Hx.out]
        simp [Hv.out]
      · have hlenk := (encL_len (xs.take k)).2
        rw [List.length_take] at hlenk
        have hlenk' : (encL (xs.take k)).length ≤ 4 * 1048576 := by omega
        clear hlenk
        have Hv := Lib.hid hv
        clear hv
        go_wp2_with (go_at_call 8; refine (Valid_is _ true Hv.out _ hGr).mono ?_)
        rintro e w1 ⟨rfl, hb1⟩
        have hI1 := isB_below hI hb1
        have hbw1 := hb.trans (hb1.mono hb.size)
        clear hI hb hb1 hGr
        go_wp2_with (go_at_call 34; refine (WriteRune _ _ _ x (by omega) (by omega) _ hI1 (by omega) hbw1.size).mono ?_)
        rintro e w2 ⟨⟨nn, rfl⟩, hI2, hb2, _⟩
        have hbw2 := hbw1.trans hb2
        clear hI1 hbw1 hb2
        go_wp2
        go_roundw
        case rel =>
          refine ⟨k + 1, by omega, by go_num, ?_, ?_, hbw2⟩
          · rw [List.take_succ_eq_append_getElem hlt, List.all_append, Hall.out, Hx.out]; simp [Hv.out]
          · rw [encL_take_snoc xs k hlt, Hx.out]; exact hI2
        case measure => simp [intOf]; omega
    · obtain rfl : k = xs.length := by omega
      go_wp2_with (go_at_call 35; refine (Tryd.Builder_String_any_k w.heap.size w.heap.size _ _ hI hb.size).mono ?_)
      rintro e w1 ⟨rfl, _, hb1, _⟩
      go_wp2
      go_ret2
      have := Hall.out
      rw [List.take_length] at this
      exact ⟨.inl ⟨this, rfl⟩, hb.trans hb1⟩

set_option maxRecDepth 100000 in
set_option maxHeartbeats 2000000 in
theorem refEncode_any (v : Value) (xs : List Int) (hx : xs.length ≤ 1048576) (w : World) (ha : Reads32 w v xs) :
    Calls Tryd.prog 21 #[v] w fun e w' => EncSays xs e ∧ Below w.heap.size w w' := by
  obtain ⟨ao, ca, rfl, hca⟩ := ha
  obtain ⟨i0, hi, hz0, hz1, hz2⟩ := info_parts infoByte
  have Hca := Lib.hid hca
  clear hca
  go_enter Tryd.func21, Tryd.ntmps21
  go_wp2
  go_loopw [4, 5] (fun o i wr => ∃ k : Nat, k ≤ xs.length ∧ i = .int .i64 (k : Int) ∧ (xs.take k).all validB = true ∧ RowB w.heap.size o (encL (xs.take k)) wr ∧ Below w.heap.size w wr) (fun _ i _ => xs.length - (intOf i).toNat)
  case atStart => exact ⟨0, Nat.zero_le _, rfl, rfl, rowB_nil _ _, Below.refl _ _⟩
  case round =>
    obtain ⟨k, hk, rfl, hall, hI, hb⟩ := hrel
    have Hall := Lib.hid hall
    clear hall
    by_cases hlt : k < xs.length
    · obtain ⟨ba, oa, rfl, hc1⟩ := Hca.out k hlt
      have hbl := cell_lt hc1
      have hc2 : wr.cell? ⟨ba, oa + k, none⟩ = some (.int .i32 xs[k]) := (hb.cell (p := ⟨ba, oa + k, none⟩) hbl).trans hc1
      obtain ⟨x, hxk⟩ : ∃ x, xs[k] = x := ⟨_, rfl⟩
      rw [hxk] at hc2
      have Hx := Lib.hid hxk
      clear hxk hc1
      cases hv : validB x
      · have Hv := Lib.hid hv
        clear hv
        go_wp2_with (go_at_call 9; refine (refValid_is _ false Hv.out _).mono ?_; rintro e w1 ⟨rfl, rfl⟩)
        go_ret2
        refine ⟨.inr ⟨all_prefix' (List.take_prefix (k + 1) xs) ?_, rfl⟩, hb⟩
        rw [List.take_succ_eq_append_getElem hlt, List.all_append, Hx.out]
        simp [Hv.out]
      · have hlenk := (encL_len (xs.take k)).2
        rw [List.length_take] at hlenk
        have hlenk' : (encL (xs.take k)).length ≤ 4 * 1048576 := by omega
        clear hlenk
        have hel := enc1_len x
        have Hv := Lib.hid hv
        clear hv
        go_wp2_with (first | (go_at_call 9; refine (refValid_is _ true Hv.out _).mono ?_; rintro e w1 ⟨rfl, rfl⟩) | (go_at_call 33; refine (Bytes_is x (enc1 x) rfl Hv.out _).mono ?_))
        rintro e w1 ⟨rfl, hb1⟩
        have hI1 := rowB_below hI hb1
        have hbw1 := hb.trans (hb1.mono hb.size)
        clear hI hb hb1 hc2
        have hEs : (⟨(enc1 x).toArray⟩ : ByteArray).size = (enc1 x).length := by rw [list_size]
        go_wp2_with (at_builtin; refine Lib.wpList_append_own_stringF _ rfl _ _ 47 9 rfl w.heap.size 5 i0 Tryd.underlying47 Tryd.underlying9 hi hz0 hz1 hz2 _ _ _ rfl hI1 ⟨(enc1 x).toArray⟩ rfl ?c3 ?c4 ?c5 ?_)
        case c3 => rw [hEs]; unfold maxLen; omega
        case c4 => rw [hEs]; omega
        case c5 => exact hbw1.size
        intro v' w2 hown' hgrow _
        have hbw2 : Below w.heap.size w w2 := hbw1.grown hgrow hbw1.size (fun j hj => (World.ownsRowF.lt hI1 j hj).1)
        have hI2 : RowB w.heap.size v' (encL (xs.take k) ++ enc1 x) w2 := by
          unfold RowB
          rw [List.length_append, Lib.byteCells_append]
          have e4 : Lib.strCells ⟨(enc1 x).toArray⟩ = Lib.byteCells (enc1 x) := rfl
          rw [e4] at hown'
          exact hown'
        clear hI1 hown' hgrow hbw1
        obtain ⟨ao', n', cap', rfl⟩ : ∃ ao n' cap, v' = .slice ao n' cap := by
          rcases hI2.2 with ⟨hv, _⟩ | ⟨g, cap, cur, fz, hv, _⟩
          · exact ⟨_, _, _, hv⟩
          · exact ⟨_, _, _, hv⟩
        go_wp2
        go_roundw
        case rel =>
          refine ⟨k + 1, by omega, by go_num, ?_, ?_, hbw2⟩
          · rw [List.take_succ_eq_append_getElem hlt, List.all_append, Hall.out, Hx.out]; simp [Hv.out]
          · rw [encL_take_snoc xs k hlt, Hx.out]; exact hI2
        case measure => simp [intOf]; omega
    · obtain rfl : k = xs.length := by omega
      have hcv := rowB_string hI
      go_wp2
      go_ret2
      have := Hall.out
      rw [List.take_length] at this
      exact ⟨.inl ⟨this, by first | rfl | (rw [List.take_length]; rfl)⟩, hb⟩
end Ck
end Go.Proofs.YthfmnhhennbjnaaDoor
