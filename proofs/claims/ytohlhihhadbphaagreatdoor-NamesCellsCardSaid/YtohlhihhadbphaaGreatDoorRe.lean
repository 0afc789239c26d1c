/- The reference of names: Less, has, putName. -/
import Derived.Test.YtohlhihhadbphaaGreatDoorRd
import Derived.Test.YtohlhihhadbphaaGreatDoorGi
set_option linter.unusedSimpArgs false
set_option linter.unusedVariables false
namespace Go.Proofs.YtohlhihhadbphaaGreatDoor
open Go.RowKit Go.Shelf Go.Lib Go.Maps
namespace Np
theorem bl_lt : ∀ {x y : List UInt8}, Op.bytesLess x y = true ↔ x < y
  | [], [] => by simp [Op.bytesLess]
  | _ :: _, [] => by simp [Op.bytesLess]
  | [], _ :: _ => by simp [Op.bytesLess]
  | a :: x, b :: y => by
    have ih := @bl_lt x y
    simp only [Op.bytesLess, Bool.or_eq_true, Bool.and_eq_true, decide_eq_true_eq, beq_iff_eq, ih, List.cons_lt_cons_iff]
theorem toL (s : ByteArray) : s.toList = s.data.toList := Lib.toList_data s
set_option maxRecDepth 100000 in
set_option maxHeartbeats 1000000 in
theorem rLess_any (n m : Name) (w : World) :
    Calls Tryz.prog 14 #[n.val, m.val] w fun e w' => e = .returned (.bool (decide (cmpN n m < 0))) ∧ Below w.heap.size w w' := by
  obtain ⟨r, hr⟩ : ∃ r, decide (cmpN n m < 0) = r := ⟨_, rfl⟩
  rw [hr]
  have Hr := Lib.hid hr
  clear hr
  unfold Name.val
  have hb : Below w.heap.size w ((w.alloc (.cells #[.string n.sp, .string n.lc] 23)).alloc (.cells #[.string m.sp, .string m.lc] 23)) := ((Below.refl _ w).alloc (Nat.le_refl _) _).alloc (by simp) _
  go_enter Tryz.func14, Tryz.ntmps14
  go_wp2
  all_goals
    go_ret
    refine ⟨ret_bool ?_, hb⟩
    rw [← Hr.out, Bool.eq_iff_iff, decide_eq_true_iff, cmpN_lt]
    simp only [toL, decide_eq_true_eq, Bool.true_eq_false, Bool.false_eq_true, true_iff, false_iff, beq_iff_eq, beq_eq_false_iff_ne, decide_eq_false_iff_not] at *
    have e : n.sp = m.sp ↔ n.sp.data.toList = m.sp.data.toList := by rw [← toL, ← toL, ba_inj]
    rw [e]
    clear e hb
    simp only [bl_lt] at *
    generalize n.sp.data.toList = x1 at *
    generalize m.sp.data.toList = x2 at *
    generalize n.lc.data.toList = x3 at *
    generalize m.lc.data.toList = x4 at *
    clear Hr
    simp_all
    try exact fun h => absurd h (List.lt_irrefl _)
theorem rwN_at {A : Nat → Prop} {W : World} {a : Option Addr} {l : List Name} (h : RwN A W a l) {k : Nat} (hk : k < l.length) :
    ∃ b o, a = some ⟨b, o, none⟩ ∧ A b ∧ W.cell? ⟨b, o + k * 2, none⟩ = some (.string l[k].sp) ∧ W.cell? ⟨b, o + k * 2 + 1, none⟩ = some (.string l[k].lc) := by
  obtain ⟨b, o, e, hb, hc⟩ := h.cells (List.ne_nil_of_length_pos (by omega))
  exact ⟨b, o, e, hb, hc k hk 0 _ rfl, hc k hk 1 _ rfl⟩
theorem rwS_at {A : Nat → Prop} {W : World} {a : Option Addr} {l : List ByteArray} (h : RwS A W a l) {k : Nat} (hk : k < l.length) :
    ∃ b o, a = some ⟨b, o, none⟩ ∧ A b ∧ W.cell? ⟨b, o + k, none⟩ = some (.string l[k]) := by
  obtain ⟨b, o, e, hb, hc⟩ := h.cells (List.ne_nil_of_length_pos (by omega))
  have := hc k hk 0 _ rfl
  rw [Nat.mul_one, Nat.add_zero] at this
  exact ⟨b, o, e, hb, this⟩
theorem Rw.later {α : Type} {sz : Nat} {enc : α → List Value} {A : Nat → Prop} {W W' : World} {a : Option Addr} {l : List α} (h : Rw sz enc A W a l) (hA : ∀ b, A b → b < W.heap.size) (hb : Below W.heap.size W W') : Rw sz enc A W' a l := h.keep (fun _ h => h) (fun b hb' => hb.block b (hA b hb'))
set_option maxRecDepth 100000 in
set_option maxHeartbeats 2000000 in
theorem has_any (A : Nat → Prop) (a : Option Addr) (c : Nat) (l : List Name) (n : Name) (w : World) (hr : RwN A w a l) (hA : ∀ b, A b → b < w.heap.size) :
    Calls Tryz.prog 68 #[.slice a l.length c, n.val] w fun e w' => e = .returned (.bool (decide (n ∈ l))) ∧ Below w.heap.size w w' := by
  obtain ⟨r, hr'⟩ : ∃ r, decide (n ∈ l) = r := ⟨_, rfl⟩
  rw [hr']
  have Hr := Lib.hid hr'
  clear hr'
  unfold Name.val
  have hll := hr.len
  obtain ⟨W1, hW1⟩ : ∃ W1, w.alloc (.cells #[.string n.sp, .string n.lc] 23) = W1 := ⟨_, rfl⟩
  have hb1 : Below w.heap.size w W1 := by rw [← hW1]; exact (Below.refl _ w).alloc (Nat.le_refl _) _
  have BN : Blk W1 w.heap.size #[.string n.sp, .string n.lc] 23 := by rw [← hW1]; exact Blk.new _ _ _
  have hs1 : w.heap.size < W1.heap.size := BN.lt
  have hr1 := hr.later hA hb1
  go_enter Tryz.func68, Tryz.ntmps68
  go_wp2
  go_loopw [5] (fun i wr => ∃ k : Nat, k ≤ l.length ∧ i = .int .i64 k ∧ Hid (∀ x ∈ l.take k, x ≠ n) ∧ Below W1.heap.size W1 wr) (fun i _ => l.length - (intOf i).toNat)
  case atStart => exact ⟨0, by omega, rfl, Lib.hid (by simp), Below.refl _ _⟩
  case round =>
    obtain ⟨k, hk, rfl, HI, hb⟩ := hrel
    try clear hW1
    have BN2 : Blk wr w.heap.size #[.string n.sp, .string n.lc] 23 := (hb.block _ hs1).trans BN
    have n0 := BN2.cell 0
    have n1 := BN2.cell 1
    simp only [List.getElem?_toArray, List.getElem?_cons_zero, List.getElem?_cons_succ] at n0 n1
    have hbs := hb.size
    by_cases hlt : k < l.length
    · have d1 : decide ((k : Int) < (l.length : Int)) = true := decide_eq_true (by omega)
      have d2 : decide (k < l.length) = true := decide_eq_true hlt
      obtain ⟨b, o, hao, hbA, u0, u1⟩ := rwN_at (hr1.later (fun b hb' => Nat.lt_of_lt_of_le (hA b hb') hb1.size) hb) hlt
      obtain ⟨x, hx⟩ : ∃ x, l[k] = x := ⟨_, rfl⟩
      rw [hx] at u0 u1
      have eN := eqN x n
      have gN := fun op y z => guardN op y z x n
      obtain ⟨b1, hb1'⟩ : ∃ b, decide (x = n) = b := ⟨_, rfl⟩
      rw [hb1'] at eN
      have Hb1 := Lib.hid hb1'
      have Hu : Hid (l.take (k + 1) = l.take k ++ [x]) := Lib.hid (by rw [List.take_succ_eq_append_getElem hlt, hx])
      have Hx := Lib.hid hx
      subst hao
      clear hx hb1'
      cases b1
      · have H2 : Hid (∀ x ∈ l.take (k + 1), x ≠ n) := Lib.hid (by
          rw [Hu.out]
          intro y hy
          rcases List.mem_append.1 hy with hy | hy
          · exact HI.out y hy
          · rw [List.mem_singleton.1 hy]; exact of_decide_eq_false Hb1.out)
        go_wp2
        go_quiet (fail)
        go_wp2
        go_roundw
        case rel =>
          first
            | exact ⟨k + 1, by omega, by go_num, H2, below_drewN hb _⟩
            | ((repeat apply Exists.intro); exact ⟨⟨k + 1, by omega, by go_num, H2, below_drewN hb _⟩, rfl⟩)
        case measure =>
          have e3 : ((k : Int) + 1).toNat = k + 1 := by omega
          simp only [intOf, e3, Int.toNat_natCast]
          omega
      · have H2 : Hid (r = true) := Lib.hid (by rw [← Hr.out, ← of_decide_eq_true Hb1.out, ← Hx.out]; exact decide_eq_true (List.getElem_mem hlt))
        go_wp2
        go_quiet (fail)
        go_wp2
        go_ret
        exact ⟨ret_bool H2.out.symm, hb1.trans ((below_drewN hb _).mono (by omega))⟩
    · have d1 : decide ((k : Int) < (l.length : Int)) = false := decide_eq_false (by omega)
      have d2 : decide (k < l.length) = false := decide_eq_false hlt
      have H2 : Hid (r = false) := Lib.hid (by
        rw [← Hr.out]
        have h := HI.out
        rw [List.take_of_length_le (by omega)] at h
        exact decide_eq_false (fun hm => h n hm rfl))
      go_wp2
      go_ret
      exact ⟨ret_bool H2.out.symm, hb1.trans (hb.mono (by omega))⟩
/-- A row that comes back. -/
def RetRow {α : Type} (sz : Nat) (enc : α → List Value) (A : Nat → Prop) (w : World) (l : List α) (e : Ending) (w' : World) : Prop :=
  ∃ a c, e = .returned (.slice a l.length c) ∧ (l.length ≤ c ∧ c ≤ maxLen ∧ Rw sz enc (fun b => A b ∨ (w.heap.size ≤ b ∧ b < w'.heap.size)) w' a l) ∧ Below w.heap.size w w'
section
variable {α : Type} {sz : Nat} {enc : α → List Value}
theorem owns_empty (W : World) (e : TypeId) (base : Nat) (h : base ≤ W.heap.size) : (W.alloc (.cells #[] e)).ownsRow base e sz (.slice (some ⟨W.heap.size, 0, none⟩) 0 0) ([] : List α).length (([] : List α).flatMap enc) :=
  ⟨by simp, .inr ⟨W.heap.size, 0, #[], rfl, h, Blk.new W #[] e, by simp, by unfold maxLen; omega, by simp, by simp⟩⟩
/-- One new thing, in a block of its own. -/
theorem Rw.one (x : α) (W : World) (t : TypeId) : Rw sz enc (fun b => b = W.heap.size) (W.alloc (.cells (enc x).toArray t)) (some ⟨W.heap.size, 0, none⟩) [x] :=
  ⟨by simp, fun _ => ⟨W.heap.size, 0, rfl, rfl, fun j hj i v hv => by
    obtain rfl : j = 0 := by simpa using hj
    have := (Blk.new W (enc x).toArray t).cell (0 + 0 * sz + i)
    rw [this, Nat.zero_mul, Nat.zero_add]
    simpa using hv⟩⟩
/-- append of a row that is read, at the operation. -/
theorem wpList_app {P : Program} {W : World} {ops : Array Oper} {rest : List Oper} {o : Oper} {ac : Act} {Q : Exit → Act → World → Prop} (henc : ∀ x, (enc x).length = sz) (h1 : ∀ x, ∀ u ∈ enc x, u.oneCell' = true)
    (hgd : o.guard = none) (s x : Operand) (t : TypeId) (ho : o.op = .call { callee := .builtin .append, args := #[s, x], argTypes := #[t, t] })
    (base : Nat) (e : TypeId) (i : TypeInfo) (z : Value) (bytes : Nat) (ht : P.underlying t = some (.slice e)) (hi : P.info? e = some i) (hz : i.zero = some z)
    (hsize : i.size = sz) (hby : i.bytes = bytes) (hzs : z.cells.size = sz) (hsz : 0 < sz) (hb2 : bytes ≤ 200) (v : Value) (hs : ac.eval s = v) {a : Option Addr} {c nm : Nat} (hx : ac.eval x = .slice a nm c)
    (l m : List α) (hm : m.length = nm) {A : Nat → Prop} (hown : W.ownsRow base e sz v l.length (l.flatMap enc)) (hr : Rw sz enc A W a m)
    (hlen : l.length + m.length ≤ 1000000) (hbase : base ≤ W.heap.size)
    (h : ∀ v' w', w'.ownsRow base e sz v' (l ++ m).length ((l ++ m).flatMap enc) → W.grownBy w' v.ownBlock → (v'.ownBlock = v.ownBlock ∨ v'.ownBlock = some W.heap.size) → wpList P ops Q rest (ac.put o.dst v') w') : wpList P ops Q (o :: rest) ac W := by
  subst hm
  obtain ⟨v', w', hrun, h2, h3, h4⟩ := run_app henc h1 base t o.type e i z bytes ht hi hz hsize hby hzs hsz hb2 v hown a c m hr hlen hbase
  exact wpList_append_run hgd s x t ho hs hx hrun (h v' w' h2 h3 h4)
theorem cut_addr {a : Option Addr} {c k n : Nat} (hk : k < n) (hc : n ≤ c) : ∀ b o, a = some ⟨b, o, none⟩ → (if c = k then a else a.map fun x => x.add (k * sz)) = some ⟨b, o + k * sz, none⟩ := by
  intro b o e
  rw [if_neg (by omega), e]
  unfold Addr.add
  simp only [Option.map_some]
  split <;> simp_all
theorem empty_lt {N : Nat} {g : Nat} (h : (Value.slice (some ⟨N, 0, none⟩) 0 0).ownBlock = some g) : N ≤ g := by
  injection h with h; exact Nat.le_of_eq h
theorem own_lt {W : World} {base n : Nat} {e : TypeId} {v : Value} {xs : List Value} (h : W.ownsRow base e sz v n xs) : ∀ g, v.ownBlock = some g → base ≤ g := fun g hg => (ownsRow_lt h hg).1
end
end Np
end Go.Proofs.YtohlhihhadbphaaGreatDoor
