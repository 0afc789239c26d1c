/- The reference of names: plain mathematics, and rows that are only read. -/
import Derived.Test.YtohlhihhadbphaaGreatDoorGf
import Derived.Maps.AppendAt
set_option linter.unusedSimpArgs false
set_option linter.unusedVariables false
namespace Go.Proofs.YtohlhihhadbphaaGreatDoor
open Go.RowKit Go.Shelf Go.Lib Go.Maps
namespace Np

/-- Things one behind the other in a block of some kind; nothing is said of who else holds it. -/
structure Rw {α : Type} (sz : Nat) (enc : α → List Value) (A : Nat → Prop) (W : World) (a : Option Addr) (l : List α) : Prop where
  len : l.length ≤ 1000000
  cells : l ≠ [] → ∃ b o, a = some ⟨b, o, none⟩ ∧ A b ∧ ∀ j (h : j < l.length) i v, (enc l[j])[i]? = some v → W.cell? ⟨b, o + j * sz + i, none⟩ = some v
section
variable {α : Type} {sz : Nat} {enc : α → List Value} {A A' : Nat → Prop} {W W' : World} {a : Option Addr} {l : List α}
theorem cell_same {b o : Nat} (h : W'.heap[b]? = W.heap[b]?) : W'.cell? ⟨b, o, none⟩ = W.cell? ⟨b, o, none⟩ := by simp [World.cell?, h]
theorem Rw.keep (h : Rw sz enc A W a l) (hA : ∀ b, A b → A' b) (hk : ∀ b, A b → W'.heap[b]? = W.heap[b]?) : Rw sz enc A' W' a l :=
  ⟨h.len, fun hl => by
    obtain ⟨b, o, e, hb, hc⟩ := h.cells hl
    exact ⟨b, o, e, hA b hb, fun j hj i v hv => (cell_same (hk b hb)).trans (hc j hj i v hv)⟩⟩
theorem Rw.nil (a : Option Addr) : Rw sz enc A W a ([] : List α) := ⟨by simp, fun h => absurd rfl h⟩
theorem Rw.take (h : Rw sz enc A W a l) (k : Nat) : Rw sz enc A W a (l.take k) :=
  ⟨Nat.le_trans (by rw [List.length_take]; omega) h.len, fun hl => by
    obtain ⟨b, o, e, hb, hc⟩ := h.cells (fun e => by rw [e] at hl; simp at hl)
    exact ⟨b, o, e, hb, fun j hj i v hv => hc j (by rw [List.length_take] at hj; omega) i v (by rw [List.getElem_take] at hv; exact hv)⟩⟩
theorem Rw.drop (h : Rw sz enc A W a l) (k : Nat) {a' : Option Addr} (ha : k < l.length → ∀ b o, a = some ⟨b, o, none⟩ → a' = some ⟨b, o + k * sz, none⟩) : Rw sz enc A W a' (l.drop k) :=
  ⟨Nat.le_trans (by rw [List.length_drop]; omega) h.len, fun hl => by
    have hk : k < l.length := by
      rcases Nat.lt_or_ge k l.length with h | h
      · exact h
      · exact absurd (List.drop_eq_nil_of_le h) hl
    obtain ⟨b, o, e, hb, hc⟩ := h.cells (fun e => by rw [e] at hl; simp at hl)
    exact ⟨b, o + k * sz, ha hk b o e, hb, fun j hj i v hv => by
      rw [List.length_drop] at hj
      rw [List.getElem_drop] at hv
      have := hc (k + j) (by omega) i v hv
      rw [show o + k * sz + j * sz + i = o + (k + j) * sz + i by rw [Nat.add_mul]; omega]
      exact this⟩⟩
theorem flat_get (henc : ∀ x, (enc x).length = sz) : ∀ (l : List α) (k : Nat) (u : Value), (l.flatMap enc)[k]? = some u → ∃ j, ∃ h : j < l.length, ∃ i, k = j * sz + i ∧ (enc l[j])[i]? = some u
  | [], k, u, h => by simp at h
  | x :: r, k, u, h => by
    rw [List.flatMap_cons] at h
    rcases Nat.lt_or_ge k (enc x).length with hk | hk
    · rw [List.getElem?_append_left hk] at h
      exact ⟨0, by simp, k, by omega, h⟩
    · rw [List.getElem?_append_right hk] at h
      obtain ⟨j, hj, i, e, hu⟩ := flat_get henc r _ u h
      rw [henc] at e hk
      exact ⟨j + 1, by simp; omega, i, by rw [Nat.add_mul, Nat.one_mul]; omega, by simpa using hu⟩
theorem Rw.flat (henc : ∀ x, (enc x).length = sz) {ad : Addr} (h : Rw sz enc A W (some ad) l) : ∀ k u, (l.flatMap enc)[k]? = some u → W.cell? (ad.add k) = some u := fun k u hu => by
  obtain ⟨j, hj, i, rfl, hu2⟩ := flat_get henc l k u hu
  obtain ⟨b, o, e, _, hc⟩ := h.cells (List.ne_nil_of_length_pos (by omega))
  injection e with e
  subst e
  have := hc j hj i u hu2
  rw [show (⟨b, o, none⟩ : Addr).add (j * sz + i) = ⟨b, o + j * sz + i, none⟩ by unfold Addr.add; split <;> simp_all [Nat.add_assoc]]
  exact this
theorem flat_len (henc : ∀ x, (enc x).length = sz) : ∀ l : List α, (l.flatMap enc).length = l.length * sz
  | [] => by simp
  | x :: r => by rw [List.flatMap_cons, List.length_append, henc, flat_len henc r, List.length_cons, Nat.add_mul, Nat.one_mul, Nat.add_comm]
theorem flat_at (henc : ∀ x, (enc x).length = sz) : ∀ (l : List α) (j : Nat) (h : j < l.length) (i : Nat) (v : Value), (enc l[j])[i]? = some v → (l.flatMap enc)[j * sz + i]? = some v
  | [], j, h, _, _, _ => by simp at h
  | x :: r, 0, _, i, v, hv => by
    have hi : i < (enc x).length := (List.getElem?_eq_some_iff.1 hv).1
    rw [List.flatMap_cons, Nat.zero_mul, Nat.zero_add, List.getElem?_append_left hi]
    exact hv
  | x :: r, j + 1, h, i, v, hv => by
    rw [List.flatMap_cons, List.getElem?_append_right (by rw [henc, Nat.add_mul, Nat.one_mul]; omega), henc, show (j + 1) * sz + i - sz = j * sz + i by rw [Nat.add_mul, Nat.one_mul]; omega]
    exact flat_at henc r j (by simpa using h) i v (by simpa using hv)
/-- An own row reads. -/
theorem Rw.of_own (henc : ∀ x, (enc x).length = sz) {base : Nat} {e : TypeId} {v : Value} (hl : l.length ≤ 1000000) (h : W.ownsRow base e sz v l.length (l.flatMap enc)) :
    ∃ a c, v = .slice a l.length c ∧ l.length ≤ c ∧ c ≤ maxLen ∧ Rw sz enc (fun b => base ≤ b ∧ b < W.heap.size) W a l := by
  rcases h.2 with ⟨rfl, hn⟩ | ⟨g, cap, cur, rfl, hbase, hblk, hnc, hcm, _⟩
  · obtain rfl : l = [] := List.eq_nil_of_length_eq_zero hn
    exact ⟨none, 0, rfl, Nat.le_refl _, Nat.zero_le _, Rw.nil none⟩
  · have hlt := (Array.getElem?_eq_some_iff.1 hblk).1
    · refine ⟨_, _, rfl, hnc, hcm, hl, fun _ => ⟨g, 0, rfl, ⟨hbase, hlt⟩, fun j hj i v hv => ?_⟩⟩
      have := h.cells (g := g) rfl (j * sz + i) v (flat_at henc l j hj i v hv)
      rw [show (⟨g, 0, none⟩ : Addr).add (j * sz + i) = ⟨g, 0 + j * sz + i, none⟩ by unfold Addr.add; split <;> simp_all [Nat.add_assoc]] at this
      exact this
/-- append of a row that is read to a row of the call's own. -/
theorem run_app {P : Program} (henc : ∀ x, (enc x).length = sz) (h1 : ∀ x, ∀ u ∈ enc x, u.oneCell' = true) (base : Nat) (t ty e : TypeId) (i : TypeInfo) (z : Value) (bytes : Nat) (ht : P.underlying t = some (.slice e)) (hi : P.info? e = some i) (hz : i.zero = some z)
    (hsize : i.size = sz) (hby : i.bytes = bytes) (hzs : z.cells.size = sz) (hsz : 0 < sz) (hb2 : bytes ≤ 200) (v : Value) (hown : W.ownsRow base e sz v l.length (l.flatMap enc)) (a : Option Addr) (c : Nat) (m : List α) (hr : Rw sz enc A W a m)
    (hlen : l.length + m.length ≤ 1000000) (hbase : base ≤ W.heap.size) :
    ∃ v' w', (Builtin.append_ #[t, t] ty #[v, .slice a m.length c]).run P W = .ok v' w' ∧ w'.ownsRow base e sz v' (l ++ m).length ((l ++ m).flatMap enc) ∧ W.grownBy w' v.ownBlock ∧ (v'.ownBlock = v.ownBlock ∨ v'.ownBlock = some W.heap.size) := by
  have hbb : (l.length + m.length) * bytes ≤ 140737488355328 := Nat.le_trans (Nat.mul_le_mul hlen hb2) (by omega)
  cases a with
  | none =>
    have hm : m = [] := by
      by_cases h : m = []
      · exact h
      · obtain ⟨_, _, e, _⟩ := hr.cells h
        cases e
    subst hm
    refine ⟨v, W, ?_, by simpa using hown, ⟨rfl, rfl, rfl, Nat.le_refl _, fun _ _ _ => rfl⟩, .inl rfl⟩
    rcases hown.2 with ⟨rfl, h0⟩ | ⟨g, cap, cur, rfl, _, _, hnc, _⟩
    · simp [Builtin.append_, run_underlying ht, sizeOf, typeInfo, hi, Builtin.lenOf, Builtin.firstCells]
    · simp [Builtin.append_, run_underlying ht, sizeOf, typeInfo, hi, Builtin.lenOf, Builtin.firstCells, hnc, storeCells]
  | some ad =>
    obtain ⟨v', w', hrun, h2, h3, _, h5⟩ := run_append_own_at (P := P) (w := W) base t ty e i z sz bytes ht hi hz hsize hby hzs hsz v l.length (l.flatMap enc) hown ad m.length c (m.flatMap enc) (flat_len henc m) (hr.flat henc)
      (fun u hu => by obtain ⟨x, _, hx⟩ := List.mem_flatMap.1 hu; exact h1 x u hx) (by unfold maxLen; omega) hbb hbase
    exact ⟨v', w', hrun, by rw [List.length_append, List.flatMap_append]; exact h2, h3, h5⟩
end
def encS (s : ByteArray) : List Value := [.string s]
theorem encN_len (x : Name) : (encN x).length = 2 := rfl
theorem encS_len (x : ByteArray) : (encS x).length = 1 := rfl
theorem encN_one (x : Name) : ∀ u ∈ encN x, u.oneCell' = true := by intro u hu; simp [encN] at hu; rcases hu with rfl | rfl <;> rfl
theorem encS_one (x : ByteArray) : ∀ u ∈ encS x, u.oneCell' = true := by intro u hu; simp [encS] at hu; subst hu; rfl
abbrev RwN := Rw (α := Name) 2 encN
abbrev RwS := Rw (α := ByteArray) 1 encS

/-- The number of classes, as the reference counts them. -/
def cntL (f : CT → Nat) (n : Nat) (l : List CT) : Nat := l.foldl (fun n u => if n < 100000 then n + f u else n) n
def cnt : Nat → CT → Nat
  | 0, _ => 100000
  | r + 1, t => cntL (cnt r) (cntL (cnt r) 1 t.ex) t.ar
theorem cntL_stuck (f : CT → Nat) (l : List CT) : ∀ n, 100000 ≤ n → cntL f n l = n := by
  induction l with
  | nil => intro n _; rfl
  | cons a r ih =>
    intro n h
    unfold cntL
    rw [List.foldl_cons, if_neg (by omega)]
    exact ih n h
theorem cntL_cons (f : CT → Nat) (a : CT) (r : List CT) (n : Nat) : cntL f n (a :: r) = cntL f (if n < 100000 then n + f a else n) r := rfl
theorem cntL_snoc (f : CT → Nat) (l : List CT) (a : CT) (n : Nat) : cntL f n (l ++ [a]) = if cntL f n l < 100000 then cntL f n l + f a else cntL f n l := by
  unfold cntL; rw [List.foldl_append]; rfl
theorem cntL_append (f : CT → Nat) (l m : List CT) (n : Nat) : cntL f n (l ++ m) = cntL f (cntL f n l) m := by unfold cntL; rw [List.foldl_append]
theorem cntL_ge (f : CT → Nat) (l : List CT) : ∀ n, n ≤ cntL f n l := by
  induction l with
  | nil => intro n; exact Nat.le_refl _
  | cons a r ih =>
    intro n
    rw [cntL_cons]
    have := ih (if n < 100000 then n + f a else n)
    split at this <;> split <;> omega
theorem cntL_bound (f : CT → Nat) (M : Nat) (hf : ∀ u, f u ≤ M) (l : List CT) : ∀ n, cntL f n l ≤ max n (100000 + M) := by
  induction l with
  | nil => intro n; exact Nat.le_max_left ..
  | cons a r ih =>
    intro n
    rw [cntL_cons]
    have h1 := ih (if n < 100000 then n + f a else n)
    have h2 := hf a
    split at h1
    · rw [if_pos ‹_›]; omega
    · rw [if_neg ‹_›]; omega
theorem cnt_bound : ∀ (r : Nat) (t : CT), cnt r t ≤ 100000 * (r + 1)
  | 0, _ => by simp [cnt]
  | r + 1, t => by
    rw [cnt]
    have h1 := cntL_bound (cnt r) _ (cnt_bound r) t.ex 1
    have h2 := cntL_bound (cnt r) _ (cnt_bound r) t.ar (cntL (cnt r) 1 t.ex)
    omega
/-- How many classes there are in a class. -/
def nod (t : CT) : Nat := (t.parts 1).length
def nodL (l : List CT) : Nat := (l.map nod).sum
theorem parts_len (t : CT) : ∀ d e, (t.parts d).length = (t.parts e).length := by
  refine CT.ind (M := fun t => ∀ d e, (t.parts d).length = (t.parts e).length) ?_ t
  intro k n s ea ec ex aa ac ar h1 h2 d e
  have aux : ∀ l : List CT, (∀ t ∈ l, ∀ d e, (t.parts d).length = (t.parts e).length) → ∀ d e, (CT.partsL l d).length = (CT.partsL l e).length := by
    intro l
    induction l with
    | nil => intro _ _ _; rfl
    | cons a r ih =>
      intro h d e
      rw [CT.partsL, CT.partsL, List.length_append, List.length_append, h a (by simp) d e, ih (fun t ht => h t (by simp [ht])) d e]
  rw [CT.parts, CT.parts, List.length_cons, List.length_cons, List.length_append, List.length_append, aux ex h1 (d + 1) (e + 1), aux ar h2 (d + 1) (e + 1)]
theorem partsL_len (l : List CT) (d : Nat) : (CT.partsL l d).length = nodL l := by
  induction l with
  | nil => rfl
  | cons a r ih => rw [CT.partsL, List.length_append, ih, parts_len a d 1]; rfl
theorem nod_eq (t : CT) : nod t = 1 + nodL t.ex + nodL t.ar := by
  unfold nod
  rw [CT.parts_eq, List.length_cons, List.length_append, partsL_len, partsL_len]; omega
theorem nod_pos (t : CT) : 1 ≤ nod t := by rw [nod_eq]; omega
theorem nodL_cons (a : CT) (r : List CT) : nodL (a :: r) = nod a + nodL r := by simp [nodL]
/-- A small count is the number, and the depth is small. -/
theorem cntL_small (r : Nat) (hr : ∀ t, cnt r t ≤ 400 → t.depth ≤ r ∧ cnt r t = nod t) : ∀ (l : List CT) (n : Nat), cntL (cnt r) n l ≤ 400 → CT.depthL l ≤ r ∧ cntL (cnt r) n l = n + nodL l := by
  intro l
  induction l with
  | nil => intro n _; exact ⟨Nat.zero_le _, rfl⟩
  | cons a l ih =>
    intro n h
    rw [cntL_cons] at h
    have h2 := cntL_ge (cnt r) l (if n < 100000 then n + cnt r a else n)
    have hn : n < 100000 := by
      rcases Nat.lt_or_ge n 100000 with h3 | h3
      · exact h3
      · rw [if_neg (by omega)] at h h2; omega
    rw [if_pos hn] at h h2
    obtain ⟨d1, e1⟩ := hr a (by omega)
    obtain ⟨d2, e2⟩ := ih _ h
    rw [cntL_cons, if_pos hn, e2, e1, nodL_cons, CT.depthL]
    exact ⟨by omega, by omega⟩
theorem cnt_small : ∀ (r : Nat) (t : CT), cnt r t ≤ 400 → t.depth ≤ r ∧ cnt r t = nod t
  | 0, t, h => by simp [cnt] at h
  | r + 1, t, h => by
    rw [cnt] at h
    have h1 := cntL_ge (cnt r) t.ar (cntL (cnt r) 1 t.ex)
    obtain ⟨d1, e1⟩ := cntL_small r (cnt_small r) t.ex 1 (by omega)
    obtain ⟨d2, e2⟩ := cntL_small r (cnt_small r) t.ar _ h
    rw [cnt, e2, e1, nod_eq, CT.depth_eq]
    exact ⟨by omega, by omega⟩
theorem cntL_of (r : Nat) (hr : ∀ t, t.depth ≤ r → nod t ≤ 400 → cnt r t = nod t) : ∀ (l : List CT) (n : Nat), CT.depthL l ≤ r → n + nodL l ≤ 400 → cntL (cnt r) n l = n + nodL l := by
  intro l
  induction l with
  | nil => intro n _ _; rfl
  | cons a l ih =>
    intro n hd hn
    rw [CT.depthL] at hd
    rw [nodL_cons] at hn
    rw [cntL_cons, if_pos (by omega), hr a (by omega) (by omega), ih _ (by omega) (by omega), nodL_cons]; omega
theorem cnt_of : ∀ (r : Nat) (t : CT), t.depth ≤ r → nod t ≤ 400 → cnt r t = nod t
  | 0, t, h, _ => by rw [CT.depth_eq] at h; omega
  | r + 1, t, h, hn => by
    rw [CT.depth_eq] at h
    rw [nod_eq] at hn
    rw [cnt, cntL_of r (cnt_of r) t.ex 1 (by omega) (by omega), cntL_of r (cnt_of r) t.ar _ (by omega) (by omega), nod_eq]
theorem depth_parts : ∀ (t : CT) (d D : Nat), (∀ x ∈ t.parts d, x.2 + 1 ≤ d + D) ↔ t.depth ≤ D := by
  intro t
  refine CT.ind (M := fun t => ∀ d D, (∀ x ∈ t.parts d, x.2 + 1 ≤ d + D) ↔ t.depth ≤ D) ?_ t
  intro k n s ea ec ex aa ac ar h1 h2 d D
  have aux : ∀ l : List CT, (∀ t ∈ l, ∀ d D, (∀ x ∈ t.parts d, x.2 + 1 ≤ d + D) ↔ t.depth ≤ D) → ∀ d D, (∀ x ∈ CT.partsL l d, x.2 + 1 ≤ d + D) ↔ CT.depthL l ≤ D := by
    intro l
    induction l with
    | nil => intro _ d D; simp [CT.partsL, CT.depthL]
    | cons a r ih =>
      intro h d D
      rw [CT.partsL, CT.depthL, Nat.max_le, ← h a (by simp) d D, ← ih (fun t ht => h t (by simp [ht])) d D]
      simp only [List.mem_append]
      exact ⟨fun g => ⟨fun x hx => g x (.inl hx), fun x hx => g x (.inr hx)⟩, fun g x hx => hx.elim (g.1 x) (g.2 x)⟩
  rw [CT.parts, CT.depth]
  simp only [List.mem_cons, List.mem_append]
  cases D with
  | zero =>
    constructor
    · intro g; have := g _ (.inl rfl); simp at this; omega
    · intro g; omega
  | succ D =>
    have g1 := aux ex h1 (d + 1) D
    have g2 := aux ar h2 (d + 1) D
    constructor
    · intro g
      have e1 := g1.1 (fun x hx => by have := g x (.inr (.inl hx)); omega)
      have e2 := g2.1 (fun x hx => by have := g x (.inr (.inr hx)); omega)
      omega
    · intro g x hx
      rcases hx with rfl | hx | hx
      · show d + 1 ≤ d + (D + 1); omega
      · have := g1.2 (by omega) x hx; omega
      · have := g2.2 (by omega) x hx; omega
theorem small_cnt (t : CT) : t.small = decide (cnt 10 t ≤ 100) := by
  unfold CT.small smallB
  rw [Bool.eq_iff_iff]
  simp only [Bool.and_eq_true, decide_eq_true_eq, List.all_eq_true]
  constructor
  · rintro ⟨h1, h2⟩
    have hd : t.depth ≤ 10 := (depth_parts t 1 10).1 (fun x hx => by have := h2 x hx; omega)
    rw [cnt_of 10 t hd (by unfold nod; omega)]
    exact h1
  · intro h
    obtain ⟨hd, e⟩ := cnt_small 10 t (by omega)
    rw [e] at h
    exact ⟨h, fun x hx => by have := (depth_parts t 1 10).2 hd x hx; omega⟩
/-- Where put puts. -/
theorem put_in {α : Type} {cf : α → α → Int} {x : α} : ∀ (l : List α) (k : Nat) (hk : k < l.length), (∀ j (h : j < l.length), j < k → cf l[j] x < 0) → cf l[k] x = 0 → put cf x l = l
  | [], k, hk, _, _ => by simp at hk
  | a :: r, 0, _, _, h => by
    have h : cf a x = 0 := h
    rw [put, if_neg (by omega), if_pos h]
  | a :: r, k + 1, hk, hj, h => by
    have h0 : cf a x < 0 := hj 0 (by simp) (by omega)
    rw [put, if_pos h0, put_in r k (by simpa using hk) (fun j h1 h2 => hj (j + 1) (by simpa using h1) (by omega)) h]
theorem put_new {α : Type} {cf : α → α → Int} {x : α} : ∀ (l : List α) (k : Nat), k ≤ l.length → (∀ j (h : j < l.length), j < k → cf l[j] x < 0) → (∀ h : k < l.length, ¬ cf l[k] x < 0 ∧ cf l[k] x ≠ 0) → put cf x l = (l.take k ++ [x]) ++ l.drop k
  | [], k, hk, _, _ => by
    obtain rfl : k = 0 := by simpa using hk
    rfl
  | a :: r, 0, _, _, h => by
    have h : ¬ cf a x < 0 ∧ cf a x ≠ 0 := h (by simp)
    rw [put, if_neg h.1, if_neg h.2]; rfl
  | a :: r, k + 1, hk, hj, h => by
    have h0 : cf a x < 0 := hj 0 (by simp) (by omega)
    rw [put, if_pos h0, put_new r k (by simpa using hk) (fun j h1 h2 => hj (j + 1) (by simpa using h1) (by omega)) (fun h1 => h (by simpa using h1))]
    rfl
theorem put_len {α : Type} {cf : α → α → Int} (x : α) : ∀ l : List α, (put cf x l).length ≤ l.length + 1
  | [] => by simp [put]
  | a :: r => by
    rw [put]
    have := put_len (cf := cf) x r
    split
    · simp; omega
    · split <;> simp
theorem puts_len {α : Type} {cf : α → α → Int} : ∀ (xs l : List α), (xs.foldl (fun m x => put cf x m) l).length ≤ l.length + xs.length
  | [], l => by simp
  | x :: r, l => by
    rw [List.foldl_cons]
    have h1 := puts_len (cf := cf) r (put cf x l)
    have h2 := put_len (cf := cf) x l
    rw [List.length_cons]; omega
theorem cmpN_lt {n m : Name} : cmpN n m < 0 ↔ n.sp.data.toList < m.sp.data.toList ∨ (n.sp = m.sp ∧ n.lc.data.toList < m.lc.data.toList) := by
  unfold cmpN orI
  by_cases h : cmpS n.sp m.sp = 0
  · have e := linS.eq h
    have h3 : ¬ n.sp.data.toList < m.sp.data.toList := by rw [← cb_lt]; unfold cmpS at h; omega
    rw [if_neg (by simpa using h)]
    simp only [e, true_and]
    rw [e] at h3
    simp only [h3, false_or]
    exact cb_lt
  · rw [if_pos h]
    have h2 : n.sp ≠ m.sp := fun e => h (by rw [e]; exact linS.self _)
    simp only [h2, false_and, or_false]
    exact cb_lt
/-- What a class mentions, whatever the depths. -/
theorem parts_fst (t : CT) : ∀ d e, (t.parts d).map Prod.fst = (t.parts e).map Prod.fst := by
  refine CT.ind (M := fun t => ∀ d e, (t.parts d).map Prod.fst = (t.parts e).map Prod.fst) ?_ t
  intro k n s ea ec ex aa ac ar h1 h2 d e
  have aux : ∀ l : List CT, (∀ t ∈ l, ∀ d e, (t.parts d).map Prod.fst = (t.parts e).map Prod.fst) → ∀ d e, (CT.partsL l d).map Prod.fst = (CT.partsL l e).map Prod.fst := by
    intro l
    induction l with
    | nil => intro _ _ _; rfl
    | cons a r ih =>
      intro h d e
      rw [CT.partsL, CT.partsL, List.map_append, List.map_append, h a (by simp) d e, ih (fun t ht => h t (by simp [ht])) d e]
  rw [CT.parts, CT.parts, List.map_cons, List.map_cons, List.map_append, List.map_append, aux ex h1 (d + 1) (e + 1), aux ar h2 (d + 1) (e + 1)]
theorem nmsOf_fst (P : List (CT × Nat)) : nmsOf P = (P.map Prod.fst).filterMap fun t => nmOf t.er := by unfold nmsOf; rw [List.filterMap_map]; rfl
theorem spsOf_fst (P : List (CT × Nat)) : spsOf P = (P.map Prod.fst).filterMap fun t => spOf t.er := by unfold spsOf; rw [List.filterMap_map]; rfl
def mnT (t : CT) : List Name := nmsOf (t.parts 1)
def msT (t : CT) : List ByteArray := spsOf (t.parts 1)
theorem nmsOf_append (P Q : List (CT × Nat)) : nmsOf (P ++ Q) = nmsOf P ++ nmsOf Q := by unfold nmsOf; rw [List.filterMap_append]
theorem spsOf_append (P Q : List (CT × Nat)) : spsOf (P ++ Q) = spsOf P ++ spsOf Q := by unfold spsOf; rw [List.filterMap_append]
theorem nmsOf_parts (t : CT) (d : Nat) : nmsOf (t.parts d) = mnT t := by unfold mnT; rw [nmsOf_fst, nmsOf_fst, parts_fst t d 1]
theorem spsOf_parts (t : CT) (d : Nat) : spsOf (t.parts d) = msT t := by unfold msT; rw [spsOf_fst, spsOf_fst, parts_fst t d 1]
theorem nmsOf_partsL (l : List CT) (d : Nat) : nmsOf (CT.partsL l d) = l.flatMap mnT := by
  induction l with
  | nil => rfl
  | cons a r ih => rw [CT.partsL, nmsOf_append, nmsOf_parts, ih]; rfl
theorem spsOf_partsL (l : List CT) (d : Nat) : spsOf (CT.partsL l d) = l.flatMap msT := by
  induction l with
  | nil => rfl
  | cons a r ih => rw [CT.partsL, spsOf_append, spsOf_parts, ih]; rfl
theorem mnT_eq (t : CT) : mnT t = (if t.kind = 1 then [t.name] else []) ++ (t.ex.flatMap mnT ++ t.ar.flatMap mnT) := by
  rw [mnT, CT.parts_eq, ← List.singleton_append, nmsOf_append, nmsOf_append, nmsOf_partsL, nmsOf_partsL]
  have := nmsOf_snoc [] (t, 1)
  simp only [List.nil_append] at this
  rw [this]; rfl
theorem msT_eq (t : CT) : msT t = (if t.kind = 1 then [t.name.sp] else if t.kind = 2 then [t.space] else []) ++ (t.ex.flatMap msT ++ t.ar.flatMap msT) := by
  rw [msT, CT.parts_eq, ← List.singleton_append, spsOf_append, spsOf_append, spsOf_partsL, spsOf_partsL]
  have := spsOf_snoc [] (t, 1)
  simp only [List.nil_append] at this
  rw [this]; rfl
def putsN (l : List Name) (xs : List Name) : List Name := xs.foldl (fun m x => put cmpN x m) l
def putsS (l : List ByteArray) (xs : List ByteArray) : List ByteArray := xs.foldl (fun m x => put cmpS x m) l
theorem putsN_append (l xs ys : List Name) : putsN l (xs ++ ys) = putsN (putsN l xs) ys := by unfold putsN; rw [List.foldl_append]
theorem putsS_append (l xs ys : List ByteArray) : putsS l (xs ++ ys) = putsS (putsS l xs) ys := by unfold putsS; rw [List.foldl_append]
theorem mnT_len (t : CT) : (mnT t).length ≤ nod t := nmsOf_len _
theorem msT_len (t : CT) : (msT t).length ≤ nod t := spsOf_len _
end Np
end Go.Proofs.YtohlhihhadbphaaGreatDoor
