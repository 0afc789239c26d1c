/- gabaritkit.SameChars; the reference's Encode and the program's. -/
import Derived.Test.YthfmnhhennbjnaaDoorCkDecode
import Derived.Test.YthfmnhhennbjnaaDoorCkBuild
namespace Go.Proofs.YthfmnhhennbjnaaDoor
open Go.RowKit Go.Shelf
namespace Ck

/-- The slice value v reads as the numbers xs. -/
def Reads32 (W : World) (v : Value) (xs : List Int) : Prop :=
  ∃ ao cap, v = .slice ao xs.length cap ∧ ∀ j (hj : j < xs.length), ∃ b off, ao = some ⟨b, off, none⟩ ∧ W.cell? ⟨b, off + j, none⟩ = some (.int .i32 xs[j])
theorem reads_of_row {B : Nat} {v : Value} {cs : List Int} {w : World} (h : Row32 B v cs w) : Reads32 w v cs := by
  rcases h.2 with ⟨rfl, h0⟩ | ⟨g, cap, cur, rfl, hB, _⟩
  · exact ⟨none, 0, by rw [h0], fun j hj => by omega⟩
  · refine ⟨_, cap, rfl, fun j hj => ⟨g, 0, rfl, ?_⟩⟩
    have := h.cellAt j (by omega)
    rw [Nat.zero_add, this]
    simp [hj]

theorem take_eq_snoc {a b : List Int} {k : Nat} (h : a.take k = b.take k) (ha : k < a.length) (hb : k < b.length) (he : a[k] = b[k]) : a.take (k + 1) = b.take (k + 1) := by
  rw [List.take_succ_eq_append_getElem ha, List.take_succ_eq_append_getElem hb, h, he]

set_option maxRecDepth 100000 in
set_option maxHeartbeats 1000000 in
theorem SameChars_any (va vb : Value) (a b : List Int) (ha63 : a.length ≤ 1099511627776) (hb63 : b.length ≤ 1099511627776) (w : World) (ha : Reads32 w va a) (hb : Reads32 w vb b) :
    Calls Tryd.prog 22 #[va, vb] w fun e w' => e = .returned (.bool (decide (a = b))) ∧ ∃ n, w' = w.drewN n := by
  obtain ⟨ao, ca, rfl, hca⟩ := ha
  obtain ⟨bo, cb, rfl, hcb⟩ := hb
  by_cases hl : a.length = b.length
  · have hz : (((a.length : Nat) : Int) != ((b.length : Nat) : Int)) = false := by rw [hl]; simp
    have Hl := Lib.hid hl
    clear hl
    go_enter Tryd.func22, Tryd.ntmps22
    go_wp2
    go_loopw [5] (fun i wr => ∃ k n : Nat, k ≤ a.length ∧ i = .int .i64 (k : Int) ∧ wr = w.drewN n ∧ a.take k = b.take k) (fun i _ => a.length - (intOf i).toNat)
    case atStart => exact ⟨0, 0, Nat.zero_le _, rfl, rfl, rfl⟩
    case round =>
      obtain ⟨k, n, hk, rfl, rfl, htk⟩ := hrel
      have Htk := Lib.hid htk
      clear htk
      by_cases hlt : k < a.length
      · obtain ⟨ba, oa, rfl, hc1⟩ := hca k hlt
        obtain ⟨bb, ob, rfl, hc2⟩ := hcb k (by have := Hl.out; omega)
        have hkb : k < b.length := by have := Hl.out; omega
        have hd1 : (w.drewN n).cell? ⟨ba, oa + k, none⟩ = some (.int .i32 a[k]) := hc1
        have hd2 : (w.drewN n).cell? ⟨bb, ob + k, none⟩ = some (.int .i32 b[k]) := hc2
        cases he : (a[k] == b[k])
        · have hne : (a[k] != b[k]) = true := by rw [bne, he]; rfl
          have He := Lib.hid he
          clear he
          have Hca := Lib.hid hca
          have Hcb := Lib.hid hcb
          clear hca hcb
          go_wp2
          go_quiet (fail)
          go_wp2
          go_ret
          refine ⟨?_, n + nq, World.drewN_drewN _ _ _⟩
          rw [decide_eq_false (fun e => by subst e; have := He.out; simp at this)]
          rfl
        · have hne : (a[k] != b[k]) = false := by rw [bne, he]; rfl
          have He := Lib.hid he
          clear he
          have Hca := Lib.hid hca
          have Hcb := Lib.hid hcb
          clear hca hcb
          go_wp2
          go_quiet (fail)
          go_wp2
          go_roundw
          case rel => exact ⟨k + 1, n + nq, by omega, by go_num, rfl, take_eq_snoc Htk.out hlt hkb (by simpa using He.out)⟩
          case measure => simp [intOf]; omega
      · obtain rfl : k = a.length := by omega
        go_wp2
        go_ret
        refine ⟨?_, n, rfl⟩
        have h1 := Htk.out
        have h2 := Hl.out
        rw [List.take_length, h2, List.take_length] at h1
        rw [decide_eq_true h1]
        rfl
  · have hz : (((a.length : Nat) : Int) != ((b.length : Nat) : Int)) = true := by rw [bne_iff_ne]; omega
    have Hl := Lib.hid hl
    clear hl
    go_enter Tryd.func22, Tryd.ntmps22
    go_wp2
    go_ret
    refine ⟨?_, 0, rfl⟩
    rw [decide_eq_false (fun e => Hl.out (by rw [e]))]
    rfl
end Ck
end Go.Proofs.YthfmnhhennbjnaaDoor
