/- Decimal, the reference: same. -/
import Derived.Test.YthnpbkplcboejaaGreatDoorFg
import Derived.Test.YthnpbkplcboejaaGreatDoorDq
import Derived.Test.YthnpbkplcboejaaGreatDoorDx
set_option linter.unusedSimpArgs false
set_option linter.unusedVariables false
namespace Go.Proofs.YthnpbkplcboejaaGreatDoor
open Go.RowKit Go.Shelf
namespace Dc
/-- The digits of a, with zeros behind. -/
def alB (a b : V) : ByteArray := decB a.n ++ zs (max a.s b.s - a.s)
theorem alB_list (a b : V) : (alB a b).data.toList = dec a.n ++ List.replicate (max a.s b.s - a.s) 48 := by
  unfold alB; rw [app_list', zs_list]
theorem alB_digs (a b : V) : digs (alB a b).data.toList = true := by rw [alB_list, digs_append, digs_dec, digs_zeros]; rfl
theorem alB_dv (a b : V) : dv (alB a b).data.toList = a.n * 10 ^ (max a.s b.s - a.s) := by rw [alB_list, dv_trail, dv_dec]
theorem alB_size (a b : V) (ha : a.ok) (hb : b.ok) : 0 < (alB a b).size ∧ (alB a b).size ≤ 120 := by
  have h1 : 0 < (dec a.n).length := List.length_pos_iff.2 (dec_ne_nil _)
  have h2 : (dec a.n).length ≤ 60 := (dec_len (by decide)).2 ha.n
  have h3 := ha.s
  have h4 := hb.s
  rw [← size_list', alB_list, List.length_append, List.length_replicate]; omega
set_option maxRecDepth 100000 in
set_option maxHeartbeats 400000 in
theorem rsame_any (a b : V) (ha : a.ok) (hb : b.ok) (w : World) :
    Calls Tryz.prog 53 #[a.d.val, b.d.val] w fun e w' => e = .returned (.tuple #[.string (alB a b), .string (alB b a), .int .i64 ((max a.s b.s : Nat) : Int)]) ∧ RowKit.Below w.heap.size w w' := by
  obtain ⟨hb0, h1, h2⟩ := two_start w (.bool a.neg) (.string (decB a.n)) (.int .i64 (a.s : Int)) (.bool b.neg) (.string (decB b.n)) (.int .i64 (b.s : Int))
  obtain ⟨W0, hW0⟩ : ∃ W0, ((w.alloc (.cells #[.bool a.neg, .string (decB a.n), .int .i64 (a.s : Int)] 23)).alloc (.cells #[.bool b.neg, .string (decB b.n), .int .i64 (b.s : Int)] 23)) = W0 := ⟨_, rfl⟩
  rw [hW0] at hb0 h1 h2
  obtain ⟨a0, a1, a2, _, _, _⟩ := h1.three
  obtain ⟨b0, b1, b2, _, _, _⟩ := h2.three
  have l1 := ha.len
  have l2 := hb.len
  have s1 := ha.s
  have s2 := hb.s
  obtain ⟨n, hn⟩ : ∃ n, max a.s b.s = n := ⟨_, rfl⟩
  obtain ⟨k1, hk1⟩ : ∃ k, n - a.s = k := ⟨_, rfl⟩
  obtain ⟨k2, hk2⟩ : ∃ k, n - b.s = k := ⟨_, rfl⟩
  have z1 := fun W => (rzeros_any k1 (by omega) W).mono (R' := fun e w' => e = .returned (.string (zs k1)) ∧ w' = W) fun e w' h => ⟨h.1, h.2.symm⟩
  have z2 := fun W => (rzeros_any k2 (by omega) W).mono (R' := fun e w' => e = .returned (.string (zs k2)) ∧ w' = W) fun e w' h => ⟨h.1, h.2.symm⟩
  have t1 : alB a b = decB a.n ++ zs k1 := by unfold alB; rw [hn, hk1]
  have t2 : alB b a = decB b.n ++ zs k2 := by unfold alB; rw [Nat.max_comm, hn, hk2]
  have p1 := zs_size k1
  have p2 := zs_size k2
  rw [t1, t2, hn]
  obtain ⟨x1, hx1⟩ : ∃ x, zs k1 = x := ⟨_, rfl⟩
  obtain ⟨x2, hx2⟩ : ∃ x, zs k2 = x := ⟨_, rfl⟩
  rw [hx1] at z1 p1 ⊢
  rw [hx2] at z2 p2 ⊢
  rw [V.d_val, V.d_val]
  obtain ⟨d1, hd1⟩ : ∃ x, decB a.n = x := ⟨_, rfl⟩
  obtain ⟨d2, hd2⟩ : ∃ x, decB b.n = x := ⟨_, rfl⟩
  rw [hd1] at hW0 a1 l1 ⊢
  rw [hd2] at hW0 b1 l2 ⊢
  have q1 : ¬ 9223372036854775807 < d1.size + x1.size := by omega
  have q2 : ¬ 9223372036854775807 < d2.size + x2.size := by omega
  obtain ⟨y1, hy1⟩ : ∃ x, d1 ++ x1 = x := ⟨_, rfl⟩
  obtain ⟨y2, hy2⟩ : ∃ x, d2 ++ x2 = x := ⟨_, rfl⟩
  rw [hy1, hy2]
  have hmax : max (a.s : Int) (b.s : Int) = (n : Int) := by omega
  have e1 : (n : Int) - (a.s : Int) = (k1 : Int) := by omega
  have e2 : (n : Int) - (b.s : Int) = (k2 : Int) := by omega
  have w1 : IntKind.i64.wrap ((n : Int) - (a.s : Int)) = (k1 : Int) := by rw [e1]; exact IntWalk.i64_in _ (by omega)
  have w2 : IntKind.i64.wrap ((n : Int) - (b.s : Int)) = (k2 : Int) := by rw [e2]; exact IntWalk.i64_in _ (by omega)
  have HB := Lib.hid hb0
  clear h1 h2 hb0 ha hb t1 t2 hx1 hx2 hd1 hd2 hn hk1 hk2 p1 p2 l1 l2 s1 s2 e1 e2
  go_enter Tryz.func53, Tryz.ntmps53
  go_upto_region 2 with fail
  go_quiet ((go_at_call 41; first | (with_reducible exact Calls.quiet_of_same (z1 _)) | (with_reducible exact Calls.quiet_of_same (z2 _))))
  go_wp2
  go_ret3
  exact ⟨rfl, b_step (b_drewN _) HB.out⟩
end Dc
end Go.Proofs.YthnpbkplcboejaaGreatDoor
