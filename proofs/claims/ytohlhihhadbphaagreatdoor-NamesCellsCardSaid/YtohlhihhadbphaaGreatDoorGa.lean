/- Names: Plain Order In Map Cand Math. -/
import Derived.Below
import Derived.Lib.Bytealg
import Derived.ChangeArms
import Derived.RowKit
import Derived.Maps.OwnIn
import Derived.Maps.OwnSet
import Derived.DeepKeys5
import Derived.Lib.ItoaNum
set_option linter.unusedSimpArgs false
set_option linter.unusedVariables false
/- Names and classes: plain mathematics. -/
namespace Go.Proofs.YtohlhihhadbphaaGreatDoor
namespace Np

/-- A name: its space and its local part. -/
structure Name where
  sp : ByteArray
  lc : ByteArray
deriving DecidableEq, Inhabited

/-- A class as a tree. -/
inductive Cls where
  | mk (k : Int) (n : Name) (s : ByteArray) (ex ar : List Cls)

/-- A class with the places where its lists lie. -/
inductive CT where
  | mk (k : Int) (n : Name) (s : ByteArray) (ea : Option Addr) (ec : Nat) (ex : List CT) (aa : Option Addr) (ac : Nat) (ar : List CT)
instance : Inhabited CT := ⟨.mk 0 default default none 0 [] none 0 []⟩
instance : Inhabited Cls := ⟨.mk 0 default default [] []⟩

theorem CT.ind {M : CT → Prop} (h : ∀ k n s ea ec ex aa ac ar, (∀ t ∈ ex, M t) → (∀ t ∈ ar, M t) → M (.mk k n s ea ec ex aa ac ar)) (t : CT) : M t :=
  CT.rec (motive_1 := M) (motive_2 := fun l => ∀ t ∈ l, M t) (fun k n s ea ec ex aa ac ar h1 h2 => h k n s ea ec ex aa ac ar h1 h2) (fun _ h => by cases h) (fun a l ha hl t ht => by rcases List.mem_cons.1 ht with rfl | ht; exact ha; exact hl t ht) t
theorem Cls.ind {M : Cls → Prop} (h : ∀ k n s ex ar, (∀ t ∈ ex, M t) → (∀ t ∈ ar, M t) → M (.mk k n s ex ar)) (t : Cls) : M t :=
  Cls.rec (motive_1 := M) (motive_2 := fun l => ∀ t ∈ l, M t) (fun k n s ex ar h1 h2 => h k n s ex ar h1 h2) (fun _ h => by cases h) (fun a l ha hl t ht => by rcases List.mem_cons.1 ht with rfl | ht; exact ha; exact hl t ht) t

def CT.kind : CT → Int | .mk k .. => k
def CT.name : CT → Name | .mk _ n .. => n
def CT.space : CT → ByteArray | .mk _ _ s .. => s
def CT.ex : CT → List CT | .mk _ _ _ _ _ ex .. => ex
def CT.ar : CT → List CT | .mk _ _ _ _ _ _ _ _ ar => ar
def CT.exv : CT → Value | .mk _ _ _ ea ec ex .. => .slice ea ex.length ec
def CT.arv : CT → Value | .mk _ _ _ _ _ _ aa ac ar => .slice aa ar.length ac
def Cls.kind : Cls → Int | .mk k .. => k
def Cls.name : Cls → Name | .mk _ n .. => n
def Cls.space : Cls → ByteArray | .mk _ _ s .. => s
def Cls.ex : Cls → List Cls | .mk _ _ _ ex _ => ex
def Cls.ar : Cls → List Cls | .mk _ _ _ _ ar => ar

mutual
def CT.er : CT → Cls
  | .mk k n s _ _ ex _ _ ar => .mk k n s (CT.erL ex) (CT.erL ar)
def CT.erL : List CT → List Cls
  | [] => []
  | t :: r => t.er :: CT.erL r
end
theorem CT.erL_map : ∀ l : List CT, CT.erL l = l.map CT.er
  | [] => rfl
  | t :: r => by rw [CT.erL, CT.erL_map r, List.map_cons]

/-- The six cells of a class. -/
def CT.cells (t : CT) : List Value := [.int .i64 t.kind, .string t.name.sp, .string t.name.lc, .string t.space, t.exv, t.arv]
def CT.val (t : CT) : Value := .agg #[.int .i64 t.kind, .string t.name.sp, .string t.name.lc, .string t.space, t.exv, t.arv]
def Name.val (n : Name) : Value := .agg #[.string n.sp, .string n.lc]
def encN (n : Name) : List Value := [.string n.sp, .string n.lc]

mutual
/-- The parts of a class, with their depths. -/
def CT.parts : CT → Nat → List (CT × Nat)
  | .mk k n s ea ec ex aa ac ar, d => (.mk k n s ea ec ex aa ac ar, d) :: (CT.partsL ex (d + 1) ++ CT.partsL ar (d + 1))
def CT.partsL : List CT → Nat → List (CT × Nat)
  | [], _ => []
  | t :: r, d => t.parts d ++ CT.partsL r d
end
mutual
def Cls.parts : Cls → Nat → List (Cls × Nat)
  | .mk k n s ex ar, d => (.mk k n s ex ar, d) :: (Cls.partsL ex (d + 1) ++ Cls.partsL ar (d + 1))
def Cls.partsL : List Cls → Nat → List (Cls × Nat)
  | [], _ => []
  | t :: r, d => t.parts d ++ Cls.partsL r d
end
theorem CT.partsL_append : ∀ (a b : List CT) (d : Nat), CT.partsL (a ++ b) d = CT.partsL a d ++ CT.partsL b d
  | [], _, _ => rfl
  | t :: r, b, d => by rw [List.cons_append, CT.partsL, CT.partsL, CT.partsL_append r b d, List.append_assoc]
theorem CT.parts_eq (t : CT) (d : Nat) : t.parts d = (t, d) :: (CT.partsL t.ex (d + 1) ++ CT.partsL t.ar (d + 1)) := by
  cases t; rw [CT.parts]; rfl
theorem Cls.parts_eq (t : Cls) (d : Nat) : t.parts d = (t, d) :: (Cls.partsL t.ex (d + 1) ++ Cls.partsL t.ar (d + 1)) := by
  cases t; rw [Cls.parts]; rfl

def erp (x : CT × Nat) : Cls × Nat := (x.1.er, x.2)
theorem CT.parts_er (t : CT) : ∀ d, (t.parts d).map erp = t.er.parts d := by
  refine CT.ind (M := fun t => ∀ d, (t.parts d).map erp = t.er.parts d) ?_ t
  intro k n s ea ec ex aa ac ar h1 h2 d
  have aux : ∀ (l : List CT), (∀ t ∈ l, ∀ d, (t.parts d).map erp = t.er.parts d) → ∀ d, (CT.partsL l d).map erp = Cls.partsL (CT.erL l) d := by
    intro l
    induction l with
    | nil => intro _ _; rfl
    | cons a r ih =>
      intro h d
      rw [CT.partsL, List.map_append, h a (List.mem_cons_self ..), ih (fun t ht => h t (List.mem_cons_of_mem _ ht)), CT.erL, Cls.partsL]
  rw [CT.parts, CT.er, Cls.parts, List.map_cons, List.map_append, aux ex h1, aux ar h2]
  rfl

/-- Is a name valid? -/
def validN (n : Name) : Bool := decide (1 ≤ n.lc.size) && decide (n.lc.size ≤ 200) && decide (n.sp.size ≤ 200)
def noName (n : Name) : Bool := decide (n = ⟨⟨#[]⟩, ⟨#[]⟩⟩)
/-- Are the fields as the kind wants them? -/
def fitsG (k : Int) (n : Name) (s : ByteArray) (e a : Nat) : Bool :=
  if k = 1 then validN n && (decide (s.size = 0) && (decide (e = 0) && decide (a = 0)))
  else if k = 2 then noName n && (decide (s.size ≤ 200) && (decide (e ≤ 1) && decide (a = 0)))
  else if k = 3 then noName n && (decide (s.size = 0) && (decide (e ≤ 1) && decide (a = 0)))
  else if k = 4 then noName n && (decide (s.size = 0) && (decide (e = 0) && decide (1 ≤ a)))
  else false
def CT.fits (t : CT) : Bool := fitsG t.kind t.name t.space t.ex.length t.ar.length
def Cls.fits (t : Cls) : Bool := fitsG t.kind t.name t.space t.ex.length t.ar.length
theorem CT.fits_er (t : CT) : t.er.fits = t.fits := by
  cases t; simp [CT.er, Cls.fits, CT.fits, CT.erL_map, Cls.kind, Cls.name, Cls.space, Cls.ex, Cls.ar, CT.kind, CT.name, CT.space, CT.ex, CT.ar]

def smallB {α : Type} (l : List (α × Nat)) : Bool := decide (l.length ≤ 100) && l.all (fun x => decide (x.2 ≤ 10))
def CT.small (t : CT) : Bool := smallB (t.parts 1)
def Cls.small (t : Cls) : Bool := smallB (t.parts 1)
theorem CT.small_er (t : CT) : t.er.small = t.small := by
  unfold CT.small Cls.small smallB
  rw [← CT.parts_er, List.length_map, List.all_map]; rfl
def Cls.fitsAll (t : Cls) : Bool := (t.parts 1).all (fun x => x.1.fits)
def CT.fitsAll (t : CT) : Bool := (t.parts 1).all (fun x => x.1.fits)
theorem CT.fitsAll_er (t : CT) : t.er.fitsAll = t.fitsAll := by
  unfold CT.fitsAll Cls.fitsAll
  rw [← CT.parts_er, List.all_map]
  congr 1; funext x; exact CT.fits_er _
/-- What Check returns. -/
def Cls.check (t : Cls) : Int := if t.small then (if t.fitsAll then 0 else 2) else 3
def CT.check (t : CT) : Int := if t.small then (if t.fitsAll then 0 else 2) else 3
theorem CT.check_er (t : CT) : t.er.check = t.check := by
  unfold CT.check Cls.check; rw [CT.small_er, CT.fitsAll_er]

mutual
/-- Is a name in the set of a class? -/
def Cls.holds : Cls → Name → Bool
  | .mk k n s ex ar, x => if k = 1 then decide (n = x) else if k = 2 then decide (s = x.sp) && !Cls.holdsL ex x else if k = 4 then Cls.holdsL ar x else !Cls.holdsL ex x
def Cls.holdsL : List Cls → Name → Bool
  | [], _ => false
  | t :: r, x => t.holds x || Cls.holdsL r x
end
theorem Cls.holdsL_any (x : Name) : ∀ l, Cls.holdsL l x = l.any (fun t => t.holds x)
  | [] => rfl
  | t :: r => by rw [Cls.holdsL, Cls.holdsL_any x r, List.any_cons]
theorem Cls.holds_eq (t : Cls) (x : Name) : t.holds x = if t.kind = 1 then decide (t.name = x) else if t.kind = 2 then decide (t.space = x.sp) && !t.ex.any (fun t => t.holds x) else if t.kind = 4 then t.ar.any (fun t => t.holds x) else !t.ex.any (fun t => t.holds x) := by
  cases t; rw [Cls.holds, Cls.holdsL_any, Cls.holdsL_any]; rfl
def CT.holds (t : CT) (x : Name) : Bool := t.er.holds x
theorem CT.kind_er (t : CT) : t.er.kind = t.kind := by cases t; rw [CT.er]; rfl
theorem CT.name_er (t : CT) : t.er.name = t.name := by cases t; rw [CT.er]; rfl
theorem CT.space_er (t : CT) : t.er.space = t.space := by cases t; rw [CT.er]; rfl
theorem CT.ex_er (t : CT) : t.er.ex = t.ex.map CT.er := by cases t; rw [CT.er, ← CT.erL_map]; rfl
theorem CT.ar_er (t : CT) : t.er.ar = t.ar.map CT.er := by cases t; rw [CT.er, ← CT.erL_map]; rfl
theorem CT.holds_eq (t : CT) (x : Name) : t.holds x = if t.kind = 1 then decide (t.name = x) else if t.kind = 2 then decide (t.space = x.sp) && !t.ex.any (fun t => t.holds x) else if t.kind = 4 then t.ar.any (fun t => t.holds x) else !t.ex.any (fun t => t.holds x) := by
  unfold CT.holds
  rw [Cls.holds_eq, CT.kind_er, CT.name_er, CT.space_er, CT.ex_er, CT.ar_er, List.any_map, List.any_map]
  rfl

mutual
/-- Of how many lists in lists a class consists at most. -/
def CT.depth : CT → Nat
  | .mk _ _ _ _ _ ex _ _ ar => 1 + max (CT.depthL ex) (CT.depthL ar)
def CT.depthL : List CT → Nat
  | [] => 0
  | t :: r => max t.depth (CT.depthL r)
end
theorem CT.depth_eq (t : CT) : t.depth = 1 + max (CT.depthL t.ex) (CT.depthL t.ar) := by
  cases t; rw [CT.depth]; rfl
theorem CT.depthL_mem {l : List CT} {t : CT} (h : t ∈ l) : t.depth ≤ CT.depthL l := by
  induction l with
  | nil => cases h
  | cons a r ih =>
    rw [CT.depthL]
    rcases List.mem_cons.1 h with rfl | h
    · omega
    · have := ih h; omega
theorem CT.depth_ex {t u : CT} (h : u ∈ t.ex) : u.depth < t.depth := by
  rw [CT.depth_eq t]; have := CT.depthL_mem h; omega
theorem CT.depth_ar {t u : CT} (h : u ∈ t.ar) : u.depth < t.depth := by
  rw [CT.depth_eq t]; have := CT.depthL_mem h; omega
end Np
end Go.Proofs.YtohlhihhadbphaaGreatDoor

/- The order of names and of spaces; ascending lists without repetitions. -/
namespace Go.Proofs.YtohlhihhadbphaaGreatDoor
open Go.Lib
namespace Np

theorem cb_cases : ∀ a b : List UInt8, compareBytes a b = -1 ∨ compareBytes a b = 0 ∨ compareBytes a b = 1
  | [], [] => by simp [compareBytes]
  | [], _ :: _ => by simp [compareBytes]
  | _ :: _, [] => by simp [compareBytes]
  | a :: as, b :: bs => by
    unfold compareBytes
    split
    · exact .inl rfl
    · split
      · exact .inr (.inr rfl)
      · exact cb_cases as bs
theorem cb_refl : ∀ a : List UInt8, compareBytes a a = 0
  | [] => rfl
  | a :: as => by
    have : ¬ a < a := by rw [UInt8.lt_iff_toNat_lt]; omega
    rw [compareBytes, if_neg this, if_neg this, cb_refl as]
theorem u8_eq {a b : UInt8} (h1 : ¬ a < b) (h2 : ¬ b < a) : a = b := by
  rw [UInt8.lt_iff_toNat_lt] at h1 h2
  exact UInt8.toNat_inj.1 (by omega)
theorem cb_eq : ∀ {a b : List UInt8}, compareBytes a b = 0 → a = b
  | [], [], _ => rfl
  | [], _ :: _, h => by simp [compareBytes] at h
  | _ :: _, [], h => by simp [compareBytes] at h
  | a :: as, b :: bs, h => by
    unfold compareBytes at h
    split at h
    · simp at h
    · split at h
      · simp at h
      · rename_i h1 h2
        rw [u8_eq h1 h2, cb_eq h]
theorem cb_swap : ∀ a b : List UInt8, compareBytes b a = -compareBytes a b
  | [], [] => rfl
  | [], _ :: _ => rfl
  | _ :: _, [] => rfl
  | a :: as, b :: bs => by
    unfold compareBytes
    by_cases h1 : a < b
    · have h2 : ¬ b < a := by rw [UInt8.lt_iff_toNat_lt] at h1 ⊢; omega
      rw [if_neg h2, if_pos h1, if_pos h1]; rfl
    · by_cases h2 : b < a
      · rw [if_pos h2, if_neg h1, if_pos h2]
      · rw [if_neg h2, if_neg h1, if_neg h1, if_neg h2, cb_swap as bs]
theorem cb_trans : ∀ {a b c : List UInt8}, compareBytes a b ≤ 0 → compareBytes b c ≤ 0 → compareBytes a c ≤ 0 ∧ (compareBytes a c = 0 → compareBytes a b = 0 ∧ compareBytes b c = 0)
  | [], [], c, _, h => ⟨h, fun e => ⟨rfl, e⟩⟩
  | [], _ :: _, [], _, h => by simp [compareBytes] at h
  | [], _ :: _, _ :: _, _, _ => by simp [compareBytes]
  | _ :: _, [], _, h, _ => by simp [compareBytes] at h
  | _ :: _, _ :: _, [], _, h => by simp [compareBytes] at h
  | a :: as, b :: bs, c :: cs, h1, h2 => by
    rw [compareBytes] at h1 h2
    rw [compareBytes, compareBytes, compareBytes]
    simp only [UInt8.lt_iff_toNat_lt] at *
    by_cases p1 : a.toNat < b.toNat
    · rw [if_pos p1] at h1 ⊢
      by_cases p2 : b.toNat < c.toNat
      · rw [if_pos (show a.toNat < c.toNat by omega)]; omega
      · rw [if_neg p2] at h2
        by_cases p3 : c.toNat < b.toNat
        · rw [if_pos p3] at h2; omega
        · rw [if_pos (show a.toNat < c.toNat by omega)]; omega
    · rw [if_neg p1] at h1 ⊢
      by_cases p2 : b.toNat < a.toNat
      · rw [if_pos p2] at h1; omega
      · rw [if_neg p2] at h1 ⊢
        by_cases p3 : b.toNat < c.toNat
        · rw [if_pos p3] at h2 ⊢
          rw [if_pos (show a.toNat < c.toNat by omega)]; omega
        · rw [if_neg p3] at h2 ⊢
          by_cases p4 : c.toNat < b.toNat
          · rw [if_pos p4] at h2; omega
          · rw [if_neg p4] at h2 ⊢
            rw [if_neg (show ¬ a.toNat < c.toNat by omega), if_neg (show ¬ c.toNat < a.toNat by omega)]
            exact cb_trans h1 h2

/-- Strings. -/
def cmpS (a b : ByteArray) : Int := compareBytes a.data.toList b.data.toList
theorem ba_ext {a b : ByteArray} (h : a.data.toList = b.data.toList) : a = b := by
  cases a; cases b; simp at h; rw [h]
/-- A strict order in which two different ones are in order. -/
structure Lin {α : Type} (cf : α → α → Int) : Prop where
  self : ∀ a, cf a a = 0
  eq : ∀ {a b}, cf a b = 0 → a = b
  swap : ∀ a b, cf b a = -cf a b
  trans : ∀ {a b c}, cf a b ≤ 0 → cf b c ≤ 0 → cf a c ≤ 0 ∧ (cf a c = 0 → cf a b = 0 ∧ cf b c = 0)
theorem linS : Lin cmpS := ⟨fun _ => cb_refl _, fun h => ba_ext (cb_eq h), fun _ _ => cb_swap _ _, fun h1 h2 => cb_trans h1 h2⟩
/-- cmp.Or of two. -/
def orI (a b : Int) : Int := if a ≠ 0 then a else b
def cmpN (a b : Name) : Int := orI (cmpS a.sp b.sp) (cmpS a.lc b.lc)
theorem linN : Lin cmpN where
  self a := by simp [cmpN, orI, linS.self]
  eq {a b} h := by
    unfold cmpN orI at h
    split at h
    · rename_i h'; exact absurd h h'
    · rename_i h'
      cases a; cases b
      have h1 := linS.eq (Decidable.not_not.1 h')
      have h2 := linS.eq h
      simp only at h1 h2
      rw [h1, h2]
  swap a b := by
    unfold cmpN orI
    rw [linS.swap a.sp b.sp, linS.swap a.lc b.lc]
    by_cases h : cmpS a.sp b.sp = 0
    · simp [h]
    · rw [if_pos h, if_pos (by omega)]
  trans {a b c} h1 h2 := by
    unfold cmpN orI at *
    by_cases p1 : cmpS a.sp b.sp = 0
    · have e1 := linS.eq p1
      rw [← e1] at h2 ⊢
      by_cases p2 : cmpS a.sp c.sp = 0
      · simp only [p1, p2, ne_eq, not_true_eq_false, if_false, linS.self] at *
        exact linS.trans h1 h2
      · rw [if_pos p2] at h2 ⊢
        exact ⟨h2, fun e => absurd e p2⟩
    · rw [if_pos p1] at h1 ⊢
      by_cases p2 : cmpS b.sp c.sp = 0
      · have e2 := linS.eq p2
        rw [← e2, if_pos p1]
        exact ⟨h1, fun e => absurd e p1⟩
      · rw [if_pos p2] at h2 ⊢
        have := linS.trans h1 h2
        rw [if_pos (fun e => p1 (this.2 e).1)]
        exact this
theorem Lin.lt_trans {α : Type} {cf : α → α → Int} (L : Lin cf) {a b c : α} (h1 : cf a b < 0) (h2 : cf b c < 0) : cf a c < 0 := by
  have := L.trans (a := a) (b := b) (c := c) (by omega) (by omega)
  by_cases h : cf a c = 0
  · have := this.2 h; omega
  · omega
/-- Strictly ascending. -/
def Asc {α : Type} (cf : α → α → Int) (l : List α) : Prop := l.Pairwise (fun a b => cf a b < 0)
/-- Two ascending lists of the same elements are one. -/
theorem Asc.unique {α : Type} {cf : α → α → Int} (L : Lin cf) : ∀ {l m : List α}, Asc cf l → Asc cf m → (∀ x, x ∈ l ↔ x ∈ m) → l = m
  | [], [], _, _, _ => rfl
  | [], b :: m, _, _, h => absurd ((h b).2 (List.mem_cons_self ..)) (by simp)
  | a :: l, [], _, _, h => absurd ((h a).1 (List.mem_cons_self ..)) (by simp)
  | a :: l, b :: m, h1, h2, h => by
    have h1' := List.pairwise_cons.1 h1
    have h2' := List.pairwise_cons.1 h2
    have hab : a = b := by
      rcases List.mem_cons.1 ((h a).1 (List.mem_cons_self ..)) with e | ha
      · exact e
      · rcases List.mem_cons.1 ((h b).2 (List.mem_cons_self ..)) with e | hb
        · exact e.symm
        · have x1 := h2'.1 a ha
          have x2 := h1'.1 b hb
          have := L.lt_trans x1 x2
          rw [L.self] at this; omega
    subst hab
    rw [Asc.unique L h1'.2 h2'.2 (fun x => by
      constructor
      · intro hx
        rcases List.mem_cons.1 ((h x).1 (List.mem_cons_of_mem _ hx)) with e | hm
        · have := h1'.1 x hx; rw [e, L.self] at this; omega
        · exact hm
      · intro hx
        rcases List.mem_cons.1 ((h x).2 (List.mem_cons_of_mem _ hx)) with e | hm
        · have := h2'.1 x hx; rw [e, L.self] at this; omega
        · exact hm)]

/-- One more, at its place, once. -/
def put {α : Type} (cf : α → α → Int) (x : α) : List α → List α
  | [] => [x]
  | a :: r => if cf a x < 0 then a :: put cf x r else if cf a x = 0 then a :: r else x :: a :: r
theorem mem_put {α : Type} {cf : α → α → Int} (L : Lin cf) {x y : α} : ∀ {l : List α}, y ∈ put cf x l ↔ y = x ∨ y ∈ l
  | [] => by simp [put]
  | a :: r => by
    unfold put
    split
    · rw [List.mem_cons, mem_put L, List.mem_cons]
      constructor
      · rintro (h | h | h)
        · exact .inr (.inl h)
        · exact .inl h
        · exact .inr (.inr h)
      · rintro (h | h | h)
        · exact .inr (.inl h)
        · exact .inl h
        · exact .inr (.inr h)
    · split
      · rename_i h
        have := L.eq h
        subst this
        simp
      · simp
theorem asc_put {α : Type} {cf : α → α → Int} (L : Lin cf) {x : α} : ∀ {l : List α}, Asc cf l → Asc cf (put cf x l)
  | [], _ => by simp [put, Asc]
  | a :: r, h => by
    have h' := List.pairwise_cons.1 h
    unfold put
    split
    · rename_i hlt
      refine List.pairwise_cons.2 ⟨?_, asc_put L h'.2⟩
      intro y hy
      rcases (mem_put L).1 hy with rfl | hy
      · exact hlt
      · exact h'.1 y hy
    · split
      · exact h
      · rename_i h1 h2
        refine List.pairwise_cons.2 ⟨?_, h⟩
        have hxa : cf x a < 0 := by have := L.swap a x; omega
        intro y hy
        rcases List.mem_cons.1 hy with rfl | hy
        · exact hxa
        · exact L.lt_trans hxa (h'.1 y hy)
/-- The elements, ascending, each once. -/
def asc {α : Type} (cf : α → α → Int) (l : List α) : List α := l.foldl (fun m x => put cf x m) []
theorem asc_fold {α : Type} {cf : α → α → Int} (L : Lin cf) : ∀ (l m : List α), Asc cf m → Asc cf (l.foldl (fun m x => put cf x m) m) ∧ ∀ y, y ∈ l.foldl (fun m x => put cf x m) m ↔ y ∈ l ∨ y ∈ m
  | [], m, h => ⟨h, by simp⟩
  | a :: l, m, h => by
    have := asc_fold L l (put cf a m) (asc_put L h)
    refine ⟨this.1, fun y => (this.2 y).trans ?_⟩
    rw [mem_put L, List.mem_cons]
    constructor
    · rintro (h | h | h)
      · exact .inl (.inr h)
      · exact .inl (.inl h)
      · exact .inr h
    · rintro ((h | h) | h)
      · exact .inr (.inl h)
      · exact .inl h
      · exact .inr (.inr h)
theorem asc_asc {α : Type} {cf : α → α → Int} (L : Lin cf) (l : List α) : Asc cf (asc cf l) := (asc_fold L l [] List.Pairwise.nil).1
theorem mem_asc {α : Type} {cf : α → α → Int} (L : Lin cf) {l : List α} {y : α} : y ∈ asc cf l ↔ y ∈ l := by
  rw [asc, (asc_fold L l [] List.Pairwise.nil).2 y]; simp
/-- What is sorted, without repetitions, and has the same elements is this. -/
theorem asc_of_sorted {α : Type} {cf : α → α → Int} (L : Lin cf) {l m : List α} (hn : m.Nodup) (hs : m.Pairwise (fun a b => ¬ cf b a < 0)) (h : ∀ x, x ∈ m ↔ x ∈ l) : m = asc cf l := by
  refine Asc.unique L ?_ (asc_asc L l) (fun x => (h x).trans (mem_asc L).symm)
  have := List.Pairwise.and hn hs
  refine this.imp ?_
  rintro a b ⟨h1, h2⟩
  have := L.swap a b
  have h0 : cf a b ≠ 0 := fun e => h1 (L.eq e)
  omega
end Np
end Go.Proofs.YtohlhihhadbphaaGreatDoor

/- Classes in memory. -/
namespace Go.Proofs.YtohlhihhadbphaaGreatDoor
open Go.RowKit
namespace Np

/-- A list of classes lies in a row, below block n. -/
def RowIn (W : World) (n : Nat) (a : Option Addr) (l : List CT) : Prop :=
  l.length ≤ maxLen ∧ (l ≠ [] → ∃ b o, a = some ⟨b, o, none⟩ ∧ b < n ∧ ∀ j (h : j < l.length) i v, (l[j]).cells[i]? = some v → W.cell? ⟨b, o + j * 6 + i, none⟩ = some v)
def Name.fit (n : Name) : Prop := n.sp.size ≤ maxLen ∧ n.lc.size ≤ maxLen
mutual
/-- The lists of a class lie in the world, below block n. -/
def CT.In (W : World) (n : Nat) : CT → Prop
  | .mk _ nm s ea _ ex aa _ ar => nm.fit ∧ s.size ≤ maxLen ∧ RowIn W n ea ex ∧ RowIn W n aa ar ∧ CT.InL W n ex ∧ CT.InL W n ar
def CT.InL (W : World) (n : Nat) : List CT → Prop
  | [] => True
  | t :: r => t.In W n ∧ CT.InL W n r
end
theorem CT.inL_iff {W : World} {n : Nat} : ∀ {l : List CT}, CT.InL W n l ↔ ∀ t ∈ l, t.In W n
  | [] => by simp [CT.InL]
  | a :: r => by rw [CT.InL, CT.inL_iff]; simp
def CT.ea : CT → Option Addr | .mk _ _ _ ea .. => ea
def CT.aa : CT → Option Addr | .mk _ _ _ _ _ _ aa .. => aa
def CT.ec : CT → Nat | .mk _ _ _ _ ec .. => ec
def CT.ac : CT → Nat | .mk _ _ _ _ _ _ _ ac _ => ac
theorem CT.exv_eq (t : CT) : t.exv = .slice t.ea t.ex.length t.ec := by cases t; rfl
theorem CT.arv_eq (t : CT) : t.arv = .slice t.aa t.ar.length t.ac := by cases t; rfl
theorem CT.in_iff {W : World} {n : Nat} {t : CT} : t.In W n ↔ t.name.fit ∧ t.space.size ≤ maxLen ∧ RowIn W n t.ea t.ex ∧ RowIn W n t.aa t.ar ∧ (∀ u ∈ t.ex, u.In W n) ∧ (∀ u ∈ t.ar, u.In W n) := by
  cases t; rw [CT.In, CT.inL_iff, CT.inL_iff]; rfl
theorem RowIn.below {W W' : World} {n m : Nat} {a : Option Addr} {l : List CT} (h : RowIn W n a l) (hb : Below m W W') (hn : n ≤ m) : RowIn W' n a l :=
  ⟨h.1, fun hl => by
    obtain ⟨b, o, e, hlt, hc⟩ := h.2 hl
    exact ⟨b, o, e, hlt, fun j hj i v hv => (hb.cell (p := ⟨b, o + j * 6 + i, none⟩) (show b < m by omega)).trans (hc j hj i v hv)⟩⟩
theorem RowIn.mono {W : World} {n m : Nat} {a : Option Addr} {l : List CT} (h : RowIn W n a l) (hn : n ≤ m) : RowIn W m a l :=
  ⟨h.1, fun hl => by obtain ⟨b, o, e, hlt, hc⟩ := h.2 hl; exact ⟨b, o, e, by omega, hc⟩⟩
theorem CT.In.below {W W' : World} {n m : Nat} {t : CT} (h : t.In W n) (hb : Below m W W') (hn : n ≤ m) : t.In W' n := by
  revert h
  refine CT.ind (M := fun t => t.In W n → t.In W' n) ?_ t
  intro k nm s ea ec ex aa ac ar h1 h2 h
  rw [CT.In, CT.inL_iff, CT.inL_iff] at h ⊢
  exact ⟨h.1, h.2.1, h.2.2.1.below hb hn, h.2.2.2.1.below hb hn, fun t ht => h1 t ht (h.2.2.2.2.1 t ht), fun t ht => h2 t ht (h.2.2.2.2.2 t ht)⟩
theorem CT.In.mono {W : World} {n m : Nat} {t : CT} (h : t.In W n) (hn : n ≤ m) : t.In W m := by
  revert h
  refine CT.ind (M := fun t => t.In W n → t.In W m) ?_ t
  intro k nm s ea ec ex aa ac ar h1 h2 h
  rw [CT.In, CT.inL_iff, CT.inL_iff] at h ⊢
  exact ⟨h.1, h.2.1, h.2.2.1.mono hn, h.2.2.2.1.mono hn, fun t ht => h1 t ht (h.2.2.2.2.1 t ht), fun t ht => h2 t ht (h.2.2.2.2.2 t ht)⟩
theorem CT.In.parts {W : World} {n : Nat} {t : CT} (h : t.In W n) : ∀ d, ∀ x ∈ t.parts d, x.1.In W n := by
  revert h
  refine CT.ind (M := fun t => t.In W n → ∀ d, ∀ x ∈ t.parts d, x.1.In W n) ?_ t
  intro k nm s ea ec ex aa ac ar h1 h2 h d x hx
  have hL : ∀ l : List CT, (∀ t ∈ l, t.In W n) → (∀ t ∈ l, t.In W n → ∀ d, ∀ x ∈ t.parts d, x.1.In W n) → ∀ d, ∀ x ∈ CT.partsL l d, x.1.In W n := by
    intro l
    induction l with
    | nil => intro _ _ d x hx; cases hx
    | cons a r ih =>
      intro g1 g2 d x hx
      rw [CT.partsL, List.mem_append] at hx
      rcases hx with hx | hx
      · exact g2 a (List.mem_cons_self ..) (g1 a (List.mem_cons_self ..)) d x hx
      · exact ih (fun t ht => g1 t (List.mem_cons_of_mem _ ht)) (fun t ht => g2 t (List.mem_cons_of_mem _ ht)) d x hx
  have h' := h
  rw [CT.In, CT.inL_iff, CT.inL_iff] at h'
  rw [CT.parts, List.mem_cons, List.mem_append] at hx
  rcases hx with rfl | hx | hx
  · exact h
  · exact hL ex h'.2.2.2.2.1 h1 _ x hx
  · exact hL ar h'.2.2.2.2.2 h2 _ x hx
end Np
end Go.Proofs.YtohlhihhadbphaaGreatDoor

/- Maps to bools, as functions: over any key type that the reader reads. -/
namespace Go.Proofs.YtohlhihhadbphaaGreatDoor
open Go.RowKit Go.Maps
namespace Np

/-- How keys are written as values, and read. -/
structure KeyEnc (P : Program) (k : TypeId) {κ : Type} (val : κ → Value) (lit : κ → Lit) (ok : κ → Prop) : Prop where
  K : Keyed P k
  of : ∀ {x}, ok x → keyOf P k (val x) = some (lit x)
  inv : ∀ {v l}, keyOf P k v = some l → ∃ x, ok x ∧ v = val x ∧ l = lit x
  inj : ∀ {x y}, val x = val y → x = y
section
variable {P : Program} {k : TypeId} {κ : Type} {val : κ → Value} {lit : κ → Lit} {ok : κ → Prop}
theorem KeyEnc.lit_inj (E : KeyEnc P k val lit ok) {x y : κ} (hx : ok x) (hy : ok y) (h : lit x = lit y) : x = y :=
  E.inj (E.K.inj (E.of hx) (by rw [h]; exact E.of hy))

/-- Block b is a map of at most n entries, which is this function. -/
def BMap (P : Program) (k e : TypeId) (lit : κ → Lit) (ok : κ → Prop) (W : World) (b n : Nat) (m : κ → Option Bool) : Prop :=
  ∃ D : DataW Unit, W.ownsMap P k (plainElem P e) b n D ∧ (∀ x, ok x → has D (lit x) = (m x).isSome) ∧ ∀ x, ok x → D.atKey (lit x) (.lit (.bool false)) = .lit (.bool ((m x).getD false))

variable {t e : TypeId} {W : World} {b n : Nat} {m : κ → Option Bool}
theorem BMap.made (W : World) : BMap P k e lit ok (W.alloc (.map #[] 0)) W.heap.size 0 (fun _ => none) :=
  ⟨_, World.ownsMap_made W P k _, fun _ _ => rfl, fun _ _ => rfl⟩
theorem BMap.lt (h : BMap P k e lit ok W b n m) : b < W.heap.size := by obtain ⟨D, h, _⟩ := h; exact h.lt
theorem BMap.mono (h : BMap P k e lit ok W b n m) {n' : Nat} (hn : n ≤ n') : BMap P k e lit ok W b n' m := by
  obtain ⟨D, h, h1⟩ := h; exact ⟨D, h.mono hn, h1⟩
theorem BMap.kept {W' : World} {row : Option Nat} (h : BMap P k e lit ok W b n m) (hg : W.grownBy W' row) (hne : some b ≠ row) : BMap P k e lit ok W' b n m := by
  obtain ⟨D, h, h1⟩ := h; exact ⟨D, h.kept hg hne, h1⟩
theorem BMap.alloc (h : BMap P k e lit ok W b n m) (o : Obj) : BMap P k e lit ok (W.alloc o) b n m := by
  obtain ⟨D, h, h1⟩ := h; exact ⟨D, h.alloc o, h1⟩
theorem BMap.same {W' : World} (h : BMap P k e lit ok W b n m) (hs : W'.heap[b]? = W.heap[b]?) : BMap P k e lit ok W' b n m := by
  obtain ⟨D, ⟨es, clock, hb, F, h2, h3⟩, h1⟩ := h
  exact ⟨D, ⟨es, clock, hs.trans hb, F, h2, h3⟩, h1⟩
theorem BMap.below {W' : World} (h : BMap P k e lit ok W b n m) {N : Nat} (hb : Below N W W') (hn : b < N) : BMap P k e lit ok W' b n m := h.same (hb.block _ hn)
theorem BMap.ext {m' : κ → Option Bool} (h : BMap P k e lit ok W b n m) (hm : ∀ x, ok x → m x = m' x) : BMap P k e lit ok W b n m' := by
  obtain ⟨D, h, h1, h2⟩ := h
  exact ⟨D, h, fun x hx => by rw [← hm x hx]; exact h1 x hx, fun x hx => by rw [← hm x hx]; exact h2 x hx⟩
theorem plain_bool_inv (he : P.underlying e = some .bool) {v : Value} {z : DataW Unit × List MemPlace} (h : plainElem P e v = some z) : ∃ a, v = .bool a ∧ z = (.lit (.bool a), []) := by
  unfold plainElem at h
  rw [he] at h
  cases v <;> simp at h
  rename_i a
  exact ⟨a, rfl, h.symm⟩
theorem BMap.look (E : KeyEnc P k val lit ok) (ht : P.underlying t = some (.map k e)) (he : P.underlying e = some .bool) (hz : (zeroValue e).run P W = .ok (.bool false) W) (h : BMap P k e lit ok W b n m) {x : κ} (hx : ok x) :
    (Instr.lookup t (.map (some b)) (val x) false).run P W = .ok (.bool ((m x).getD false)) W := by
  obtain ⟨D, h, h1, h2⟩ := h
  obtain ⟨v, ps, hrun, hv⟩ := h.lookup E.K ht hz (plainElem_bool he false) (E.of hx)
  rw [h2 x hx] at hv
  obtain ⟨a, rfl, ha⟩ := plain_bool_inv he hv
  simp only [Prod.mk.injEq, DataW.lit.injEq, Lit.bool.injEq] at ha
  rw [hrun, ← ha.1]
theorem look_nil (E : KeyEnc P k val lit ok) (ht : P.underlying t = some (.map k e)) (hz : (zeroValue e).run P W = .ok (.bool false) W) {x : κ} (hx : ok x) :
    (Instr.lookup t (.map none) (val x) false).run P W = .ok (.bool false) W := Maps.look_nil false E.K ht hz (E.of hx)
theorem BMap.update [DecidableEq κ] (E : KeyEnc P k val lit ok) (ht : P.underlying t = some (.map k e)) (he : P.underlying e = some .bool) (h : BMap P k e lit ok W b n m) (hn : n < maxLen) {x : κ} (hx : ok x) (v : Bool) :
    ∃ W', (Instr.mapUpdate t (.map (some b)) (val x) (.bool v)).run P W = .ok () W' ∧ BMap P k e lit ok W' b (n + 1) (fun y => if y = x then some v else m y) ∧ W.grownBy W' (some b) := by
  obtain ⟨D, h, h1, h2⟩ := h
  obtain ⟨W', hrun, h', hg⟩ := h.update E.K ht hn (E.of hx) (plainElem_bool he v)
  refine ⟨W', hrun, ⟨_, h', fun y hy => ?_, fun y hy => ?_⟩, hg⟩
  · by_cases e0 : y = x
    · subst e0; simp only [if_true]; exact has_put_same h.isMap (E.K.key (E.of hx)) _
    · simp only [if_neg e0]; rw [has_put_other (fun e1 => e0 (E.lit_inj hy hx e1))]; exact h1 y hy
  · by_cases e0 : y = x
    · subst e0; simp only [if_true]; rw [atKey_put_same h.isMap (E.K.key (E.of hx))]; rfl
    · simp only [if_neg e0]; rw [atKey_put_other (fun e1 => e0 (E.lit_inj hy hx e1))]; exact h2 y hy
/-- What is left of a map that is ranged over, and what has come. -/
structure Came (lit : κ → Lit) (ok : κ → Prop) (m : κ → Option Bool) (left : Lit → Bool) (ss : List κ) : Prop where
  nodup : ss.Nodup
  oks : ∀ x ∈ ss, ok x
  mem : ∀ x, ok x → ((m x).isSome = true ↔ x ∈ ss ∨ left (lit x) = true)
  apart : ∀ x ∈ ss, left (lit x) = false
theorem Came.start {D : DataW Unit} (h : ∀ x, ok x → has D (lit x) = (m x).isSome) : Came lit ok m (has D) [] :=
  ⟨List.nodup_nil, by simp, fun x hx => by rw [h x hx]; simp, by simp⟩
theorem Came.step (E : KeyEnc P k val lit ok) {left : Lit → Bool} {ss : List κ} (h : Came lit ok m left ss) {x : κ} (hx : ok x) (hl : left (lit x) = true) : Came lit ok m (fun z => left z && !z.sameKey (lit x)) (ss ++ [x]) where
  nodup := by
    refine List.nodup_append.2 ⟨h.nodup, by simp, ?_⟩
    intro a ha b hb e
    rw [List.mem_singleton.1 hb] at e
    rw [e] at ha
    rw [h.apart x ha] at hl; cases hl
  oks y hy := by
    rcases List.mem_append.1 hy with hy | hy
    · exact h.oks y hy
    · rw [List.mem_singleton.1 hy]; exact hx
  mem y hy := by
    rw [h.mem y hy, List.mem_append, List.mem_singleton]
    constructor
    · rintro (h1 | h1)
      · exact .inl (.inl h1)
      · by_cases e : y = x
        · exact .inl (.inr e)
        · refine .inr ?_
          rw [h1, sameKey_ne (fun e1 => e (E.lit_inj hy hx e1))]; rfl
    · rintro ((h1 | h1) | h1)
      · exact .inl h1
      · rw [h1]; exact .inr hl
      · rw [Bool.and_eq_true] at h1; exact .inr h1.1
  apart y hy := by
    rcases List.mem_append.1 hy with hy | hy
    · rw [h.apart y hy]; rfl
    · rw [List.mem_singleton.1 hy, WideAt.sameKey_self (E.K.key (E.of hx))]; simp
theorem Came.done {left : Lit → Bool} {ss : List κ} (h : Came lit ok m left ss) (h0 : ∀ kl, left kl = false) : ∀ x, ok x → ((m x).isSome = true ↔ x ∈ ss) := fun x hx => by
  rw [h.mem x hx, h0]; simp
end

theorem keyEnc_string {P : Program} {k : TypeId} (hk : P.underlying k = some .string) : KeyEnc P k (fun s : ByteArray => .string s) (fun s => .string s.data.toList) (fun s => s.size ≤ maxLen) where
  K := Keyed.of_law (WideMaps.string_law hk)
  of h := WideMaps.keyOf_string_mk hk h
  inv h := by obtain ⟨s, rfl, rfl, hs⟩ := WideMaps.string_of_keyOf hk h; exact ⟨s, hs, rfl, rfl⟩
  inj h := by injection h
end Np
end Go.Proofs.YtohlhihhadbphaaGreatDoor

/- What classes mention; fresh names; the candidates. -/
namespace Go.Proofs.YtohlhihhadbphaaGreatDoor
open Go.Lib
namespace Np

/-- The value of decimal digits. -/
def valD (l : List UInt8) : Nat := l.foldl (fun a b => 10 * a + (b.toNat - 48)) 0
theorem valD_snoc (l : List UInt8) (b : UInt8) : valD (l ++ [b]) = 10 * valD l + (b.toNat - 48) := by simp [valD, List.foldl_append]
theorem valD_dec (u : Nat) : valD (decDigits u) = u := by
  induction u using Nat.strongRecOn with
  | _ u ih =>
    by_cases h : u < 10
    · rw [decDigits_one h]
      simp [valD, UInt8.toNat_ofNat']; omega
    · rw [decDigits, dif_neg h, valD_snoc, ih (u / 10) (by omega)]
      simp [UInt8.toNat_ofNat']; omega
theorem decDigits_ne (u : Nat) : decDigits u ≠ [] := by
  intro h
  have := decDigits_length u
  rw [h] at this
  have := nDigits_pos u
  simp at *; omega
/-- The stem alone, or with a number behind it. -/
def word (stem : ByteArray) (i : Nat) : ByteArray := if i = 0 then stem else stem ++ ⟨(decDigits i).toArray⟩
theorem word_inj {stem : ByteArray} {i j : Nat} (h : word stem i = word stem j) : i = j := by
  have e : ∀ i, (word stem i).data.toList = stem.data.toList ++ (if i = 0 then [] else decDigits i) := by
    intro i; unfold word
    split
    · simp
    · simp [ByteArray.data_append]
  have h1 := congrArg (fun b : ByteArray => b.data.toList) h
  simp only [e] at h1
  have h2 := List.append_cancel_left h1
  by_cases hi : i = 0
  · by_cases hj : j = 0
    · omega
    · rw [if_pos hi, if_neg hj] at h2; exact absurd h2.symm (decDigits_ne j)
  · by_cases hj : j = 0
    · rw [if_neg hi, if_pos hj] at h2; exact absurd h2 (decDigits_ne i)
    · rw [if_neg hi, if_neg hj] at h2
      rw [← valD_dec i, ← valD_dec j, h2]

theorem pigeon {α : Type} : ∀ (l : List α) (f : Nat → α), (∀ i j, f i = f j → i = j) → ∃ j, j ≤ l.length ∧ f j ∉ l
  | [], f, _ => ⟨0, Nat.le_refl _, by simp⟩
  | a :: r, f, hf => by
    obtain ⟨j, hj, hn⟩ := pigeon r f hf
    by_cases e : f j = a
    · obtain ⟨i, hi, hm⟩ := pigeon r (fun i => f (if i < j then i else i + 1)) (fun x y h => by
        have := hf _ _ h
        split at this <;> split at this <;> omega)
      refine ⟨if i < j then i else i + 1, by simp only [List.length_cons]; split <;> omega, ?_⟩
      rw [List.mem_cons]
      rintro (h | h)
      · have := hf _ _ (h.trans e.symm)
        split at this <;> omega
      · exact hm h
    · exact ⟨j, by simp only [List.length_cons]; omega, by rw [List.mem_cons]; rintro (h | h); exact e h; exact hn h⟩

/-- The first number from i on that is not taken (or i + f). -/
def ff (taken : Nat → Bool) : Nat → Nat → Nat
  | 0, i => i
  | f + 1, i => if taken i then ff taken f (i + 1) else i
theorem ff_spec (taken : Nat → Bool) : ∀ (f i j : Nat), i ≤ j → j ≤ i + f → taken j = false → taken (ff taken f i) = false ∧ i ≤ ff taken f i ∧ ff taken f i ≤ j ∧ ∀ k, i ≤ k → k < ff taken f i → taken k = true
  | 0, i, j, h1, h2, h3 => by
    obtain rfl : i = j := by omega
    exact ⟨h3, Nat.le_refl _, Nat.le_refl _, fun k a b => by simp only [ff] at b; omega⟩
  | f + 1, i, j, h1, h2, h3 => by
    unfold ff
    by_cases h : taken i = true
    · rw [if_pos h]
      have : i ≠ j := fun e => by rw [e, h3] at h; cases h
      obtain ⟨a, b, c, d⟩ := ff_spec taken f (i + 1) j (by omega) (by omega) h3
      refine ⟨a, by omega, c, fun k hk hl => ?_⟩
      by_cases e : k = i
      · rw [e]; exact h
      · exact d k (by omega) hl
    · rw [if_neg h]
      exact ⟨by simpa using h, Nat.le_refl _, h1, fun k a b => by omega⟩
theorem ff_is (taken : Nat → Bool) (N i : Nat) (hi : i ≤ N) (h0 : taken i = false) (h : ∀ k, k < i → taken k = true) : ff taken N 0 = i := by
  obtain ⟨a, _, c, _⟩ := ff_spec taken N 0 i (Nat.zero_le _) (by omega) h0
  rcases Nat.lt_or_ge (ff taken N 0) i with hl | hl
  · rw [h _ hl] at a; cases a
  · omega

def xS : ByteArray := ⟨#[120]⟩
def uS : ByteArray := ⟨#[117]⟩
/-- The fresh name of a space, where these names are there, and those are to be avoided. -/
def takenN (nms av : List Name) (sp : ByteArray) (i : Nat) : Bool := decide ((⟨sp, word xS i⟩ : Name) ∈ nms) || decide ((⟨sp, word xS i⟩ : Name) ∈ av)
def fresh (nms av : List Name) (sp : ByteArray) : Name := ⟨sp, word xS (ff (takenN nms av sp) (nms.length + av.length) 0)⟩
def hasS (l : List ByteArray) (x : ByteArray) : Bool := l.any fun s => decide (s = x)
theorem hasS_iff {l : List ByteArray} {x : ByteArray} : hasS l x = true ↔ x ∈ l := by
  unfold hasS; rw [List.any_eq_true]
  exact ⟨fun ⟨s, hs, h⟩ => by rw [← of_decide_eq_true h]; exact hs, fun h => ⟨x, h, by simp⟩⟩
theorem hasS_false {l : List ByteArray} {x : ByteArray} : hasS l x = false ↔ x ∉ l := by
  rw [← hasS_iff]; simp
def takenS (sps : List ByteArray) (i : Nat) : Bool := hasS sps (word uS i)
def newS (sps : List ByteArray) : ByteArray := word uS (ff (takenS sps) sps.length 0)
theorem fresh_free (nms av : List Name) (sp : ByteArray) : ∃ j, j ≤ nms.length + av.length ∧ takenN nms av sp j = false := by
  obtain ⟨j, hj, hn⟩ := pigeon (nms ++ av) (fun i => (⟨sp, word xS i⟩ : Name)) (fun i j h => by
    have := congrArg Name.lc h
    exact word_inj this)
  rw [List.length_append] at hj
  rw [List.mem_append, not_or] at hn
  exact ⟨j, hj, by simp [takenN, hn.1, hn.2]⟩
theorem newS_free (sps : List ByteArray) : ∃ j, j ≤ sps.length ∧ takenS sps j = false := by
  obtain ⟨j, hj, hn⟩ := pigeon sps (fun i => word uS i) (fun i j h => word_inj h)
  exact ⟨j, hj, hasS_false.2 hn⟩
theorem fresh_spec (nms av : List Name) (sp : ByteArray) : fresh nms av sp ∉ nms ∧ fresh nms av sp ∉ av := by
  obtain ⟨j, hj, hf⟩ := fresh_free nms av sp
  obtain ⟨a, _⟩ := ff_spec (takenN nms av sp) (nms.length + av.length) 0 j (Nat.zero_le _) (by omega) hf
  unfold takenN at a
  rw [Bool.or_eq_false_iff, decide_eq_false_iff_not, decide_eq_false_iff_not] at a
  exact a
theorem newS_spec (sps : List ByteArray) : newS sps ∉ sps := by
  obtain ⟨j, hj, hf⟩ := newS_free sps
  obtain ⟨a, _⟩ := ff_spec (takenS sps) sps.length 0 j (Nat.zero_le _) (by omega) hf
  exact hasS_false.1 a

/-- What parts mention. -/
def nmOf (t : Cls) : Option Name := if t.kind = 1 then some t.name else none
def spOf (t : Cls) : Option ByteArray := if t.kind = 1 then some t.name.sp else if t.kind = 2 then some t.space else none
def partsOf (l : List Cls) : List (Cls × Nat) := Cls.partsL l 1
def mnL (l : List Cls) : List Name := (partsOf l).filterMap fun x => nmOf x.1
def msL (l : List Cls) : List ByteArray := (partsOf l).filterMap fun x => spOf x.1
def nmsL (l : List Cls) : List Name := asc cmpN (mnL l)
def spsL (l : List Cls) : List ByteArray := asc cmpS (msL l)
/-- The candidates. -/
def candsG (nms : List Name) (sps : List ByteArray) (av : List Name) : List Name := nms ++ (sps.map fun s => fresh nms av s) ++ [fresh nms av (newS sps)]
def cands (l : List Cls) (av : List Name) : List Name := candsG (nmsL l) (spsL l) av

/-- Several classes together. -/
def together (l : List Cls) : List Cls := if l.length ≤ 1 then l else [.mk 4 ⟨⟨#[]⟩, ⟨#[]⟩⟩ ⟨#[]⟩ [] l]
def nameC (n : Name) : Cls := .mk 1 n ⟨#[]⟩ [] []
def oddN (nms : List Name) (inn : Name → Bool) (full : ByteArray → Bool) (s : ByteArray) : List Cls := (nms.filter fun n => decide (n.sp = s) && (inn n != full n.sp)).map nameC
def oddC (nms : List Name) (inn : Name → Bool) (full : ByteArray → Bool) (wide : Bool) (s : ByteArray) : List Cls :=
  if (full s != wide) = true then [.mk 2 ⟨⟨#[]⟩, ⟨#[]⟩⟩ s (together (oddN nms inn full s)) []] else oddN nms inn full s
def oddL (nms : List Name) (sps : List ByteArray) (inn : Name → Bool) (full : ByteArray → Bool) (wide : Bool) : List Cls := sps.flatMap (oddC nms inn full wide)
def anyC (ex : List Cls) : Cls := .mk 3 ⟨⟨#[]⟩, ⟨#[]⟩⟩ ⟨#[]⟩ ex []
def classG (odd : List Cls) (wide : Bool) : Cls :=
  if wide = true then anyC (together odd) else match together odd with | [] => anyC [anyC []] | c :: _ => c
/-- The normal class of the names that are wanted. -/
def normG (nms : List Name) (sps : List ByteArray) (wanted : Name → Bool) : Cls :=
  classG (oddL nms sps wanted (fun s => wanted (fresh nms [] s)) (wanted (fresh nms [] (newS sps)))) (wanted (fresh nms [] (newS sps)))
end Np
end Go.Proofs.YtohlhihhadbphaaGreatDoor

/- Normal classes: what they hold, that they depend on the set alone: plain mathematics. -/
namespace Go.Proofs.YtohlhihhadbphaaGreatDoor
open Go.Lib
namespace Np
/-- What is known of a set of names: the names and spaces that decide about it. -/
structure Sh (S : Name → Bool) (ln : List Name) (ls : List ByteArray) (inn : Name → Bool) (full : ByteArray → Bool) (wide : Bool) : Prop where
  an : Asc cmpN ln
  as : Asc cmpS ls
  nm : ∀ n ∈ ln, n.sp ∈ ls
  inn : ∀ n ∈ ln, inn n = S n
  full : ∀ s ∈ ls, ∀ x : Name, x ∉ ln → x.sp = s → S x = full s
  wide : ∀ x : Name, x.sp ∉ ls → S x = wide
theorem together_any (l : List Cls) (x : Name) : (together l).any (fun t => t.holds x) = l.any (fun t => t.holds x) := by
  unfold together
  split
  · rfl
  · simp only [List.any_cons, List.any_nil, Bool.or_false]
    rw [Cls.holds_eq]
    rfl
theorem together_le (l : List Cls) : (together l).length ≤ 1 := by
  unfold together; split
  · assumption
  · simp
theorem nameC_holds (n x : Name) : (nameC n).holds x = decide (n = x) := by rw [Cls.holds_eq]; rfl
theorem spaceC_holds (s : ByteArray) (ex : List Cls) (x : Name) : (Cls.mk 2 ⟨⟨#[]⟩, ⟨#[]⟩⟩ s ex []).holds x = (decide (s = x.sp) && !ex.any (fun t => t.holds x)) := by rw [Cls.holds_eq]; rfl
theorem anyC_holds (ex : List Cls) (x : Name) : (anyC ex).holds x = !ex.any (fun t => t.holds x) := by rw [Cls.holds_eq]; rfl
theorem oddN_any (ln : List Name) (inn : Name → Bool) (full : ByteArray → Bool) (s : ByteArray) (x : Name) : (oddN ln inn full s).any (fun t => t.holds x) = (decide (x ∈ ln) && (decide (x.sp = s) && (inn x != full x.sp))) := by
  rw [Bool.eq_iff_iff]
  simp only [oddN, List.any_eq_true, List.mem_map, List.mem_filter, Bool.and_eq_true, decide_eq_true_eq]
  constructor
  · rintro ⟨t, ⟨n, ⟨h1, h2, h3⟩, rfl⟩, h4⟩
    rw [nameC_holds, decide_eq_true_eq] at h4
    subst h4
    exact ⟨h1, h2, h3⟩
  · rintro ⟨h1, h2, h3⟩
    exact ⟨nameC x, ⟨x, ⟨h1, h2, h3⟩, rfl⟩, by rw [nameC_holds]; simp⟩
theorem classG_holds (odd : List Cls) (wide : Bool) (x : Name) : (classG odd wide).holds x = (odd.any (fun t => t.holds x) != wide) := by
  unfold classG
  cases wide
  · have h1 := together_any odd x
    have h2 := together_le odd
    rw [if_neg (by simp)]
    match e : together odd, h1, h2 with
    | [], h1, _ => rw [← h1, anyC_holds]; simp [anyC_holds]
    | [c], h1, _ => rw [← h1]; simp
    | _ :: _ :: _, _, h2 => simp at h2
  · rw [if_pos rfl, anyC_holds, together_any]; simp
section
variable {S : Name → Bool} {ln : List Name} {ls : List ByteArray} {inn : Name → Bool} {full : ByteArray → Bool} {wide : Bool}
theorem oddC_any (h : Sh S ln ls inn full wide) {s : ByteArray} (hs : s ∈ ls) (x : Name) : (oddC ln inn full wide s).any (fun t => t.holds x) = (decide (x.sp = s) && (S x != wide)) := by
  unfold oddC
  by_cases hx : x.sp = s
  · have hn : (oddN ln inn full s).any (fun t => t.holds x) = (S x != full s) := by
      rw [oddN_any]
      by_cases hl : x ∈ ln
      · simp [hl, hx, h.inn x hl]
      · simp [hl, h.full s hs x hl hx]
    split
    · rename_i hw
      simp only [List.any_cons, List.any_nil, Bool.or_false, spaceC_holds, together_any, hn, hx]
      cases hS : S x <;> cases hf : full s <;> cases hwd : wide <;> simp_all
    · rename_i hw
      rw [hn, hx]
      cases hS : S x <;> cases hf : full s <;> cases hwd : wide <;> simp_all
  · have hn : (oddN ln inn full s).any (fun t => t.holds x) = false := by rw [oddN_any]; simp [hx]
    have hx' : s ≠ x.sp := fun e => hx e.symm
    split
    · simp [spaceC_holds, hx, hx']
    · rw [hn]; simp [hx]
/-- The class has just the names of the set. -/
theorem Sh.holds (h : Sh S ln ls inn full wide) (x : Name) : (classG (oddL ln ls inn full wide) wide).holds x = S x := by
  rw [classG_holds]
  have e : (oddL ln ls inn full wide).any (fun t => t.holds x) = (S x != wide) := by
    unfold oddL
    rw [List.any_flatMap]
    by_cases hx : x.sp ∈ ls
    · rw [Bool.eq_iff_iff, List.any_eq_true]
      constructor
      · rintro ⟨s, hs, hh⟩
        rw [oddC_any h hs, Bool.and_eq_true] at hh
        exact hh.2
      · intro hh
        exact ⟨x.sp, hx, by rw [oddC_any h hx]; simpa using hh⟩
    · rw [h.wide x hx]
      simp only [bne_self_eq_false]
      rw [List.any_eq_false]
      intro s hs
      rw [oddC_any h hs]
      have : x.sp ≠ s := fun e => hx (e ▸ hs)
      simp [this]
  rw [e]
  cases S x <;> cases wide <;> rfl
/-- What is full, over all spaces. -/
def fullA (ls : List ByteArray) (full : ByteArray → Bool) (wide : Bool) (s : ByteArray) : Bool := if hasS ls s = true then full s else wide
theorem Sh.at (h : Sh S ln ls inn full wide) {x : Name} (hx : x ∉ ln) : S x = fullA ls full wide x.sp := by
  unfold fullA
  split
  · rename_i hs; exact h.full _ (hasS_iff.1 hs) x hx rfl
  · rename_i hs; exact h.wide x (fun e => hs (hasS_iff.2 e))
/-- The odd names of a space. -/
def oddS (S : Name → Bool) (F : ByteArray → Bool) (ln : List Name) (s : ByteArray) : List Name := ln.filter fun n => decide (n.sp = s) && (S n != F s)
theorem Sh.oddN (h : Sh S ln ls inn full wide) {s : ByteArray} (hs : s ∈ ls) : Np.oddN ln inn full s = (oddS S (fullA ls full wide) ln s).map nameC := by
  unfold Np.oddN oddS
  congr 1
  refine List.filter_congr fun n hn => ?_
  by_cases e : n.sp = s
  · subst e
    have : fullA ls full wide n.sp = full n.sp := by unfold fullA; rw [if_pos (hasS_iff.2 hs)]
    rw [h.inn n hn, this]
  · simp [e]
theorem Sh.mem_oddS (h : Sh S ln ls inn full wide) {s : ByteArray} {n : Name} : n ∈ oddS S (fullA ls full wide) ln s ↔ n.sp = s ∧ S n ≠ fullA ls full wide s := by
  unfold oddS
  rw [List.mem_filter, Bool.and_eq_true, decide_eq_true_eq, bne_iff_ne]
  constructor
  · exact fun h => h.2
  · rintro ⟨h1, h2⟩
    refine ⟨?_, h1, h2⟩
    by_cases hn : n ∈ ln
    · exact hn
    · exact absurd (h1 ▸ h.at hn) h2
def oddA (F : ByteArray → Bool) (wide : Bool) (N : ByteArray → List Name) (s : ByteArray) : List Cls := if (F s != wide) = true then [.mk 2 ⟨⟨#[]⟩, ⟨#[]⟩⟩ s (together ((N s).map nameC)) []] else (N s).map nameC
theorem Sh.oddC (h : Sh S ln ls inn full wide) {s : ByteArray} (hs : s ∈ ls) : Np.oddC ln inn full wide s = oddA (fullA ls full wide) wide (oddS S (fullA ls full wide) ln) s := by
  unfold Np.oddC oddA
  have : fullA ls full wide s = full s := by unfold fullA; rw [if_pos (hasS_iff.2 hs)]
  rw [this, h.oddN hs]
theorem Sh.odd_out (h : Sh S ln ls inn full wide) {s : ByteArray} (hs : s ∉ ls) : oddA (fullA ls full wide) wide (oddS S (fullA ls full wide) ln) s = [] := by
  have h1 : fullA ls full wide s = wide := by unfold fullA; rw [if_neg (fun e => hs (hasS_iff.1 e))]
  have h2 : oddS S (fullA ls full wide) ln s = [] := by
    rw [List.eq_nil_iff_forall_not_mem]
    intro n hn
    unfold oddS at hn
    rw [List.mem_filter, Bool.and_eq_true, decide_eq_true_eq] at hn
    exact hs (hn.2.1 ▸ h.nm n hn.1)
  unfold oddA
  rw [h1, h2]; simp
end
theorem asc_filter {α : Type} {cf : α → α → Int} {l : List α} (h : Asc cf l) (p : α → Bool) : Asc cf (l.filter p) := List.Pairwise.filter p h
theorem flatMap_filter {α β : Type} (f : α → List β) (p : α → Bool) : ∀ (l : List α), (∀ x ∈ l, p x = false → f x = []) → l.flatMap f = (l.filter p).flatMap f
  | [], _ => rfl
  | a :: r, h => by
    have ih := flatMap_filter f p r (fun x hx => h x (List.mem_cons_of_mem _ hx))
    rw [List.flatMap_cons, List.filter_cons]
    split
    · rw [List.flatMap_cons, ih]
    · rename_i hp
      rw [h a (List.mem_cons_self ..) (by simpa using hp), ih]; rfl
theorem flatMap_same {α β : Type} {f g : α → List β} : ∀ {l : List α}, (∀ x ∈ l, f x = g x) → l.flatMap f = l.flatMap g
  | [], _ => rfl
  | a :: r, h => by rw [List.flatMap_cons, List.flatMap_cons, h a (List.mem_cons_self ..), flatMap_same fun x hx => h x (List.mem_cons_of_mem _ hx)]
/-- Each set has one normal class. -/
theorem Sh.unique {S : Name → Bool} {ln ln' : List Name} {ls ls' : List ByteArray} {inn inn' : Name → Bool} {full full' : ByteArray → Bool} {wide wide' : Bool} (h : Sh S ln ls inn full wide) (h' : Sh S ln' ls' inn' full' wide') :
    wide = wide' ∧ oddL ln ls inn full wide = oddL ln' ls' inn' full' wide' := by
  have hw : wide = wide' := by
    have hn := newS_spec (ls ++ ls')
    rw [List.mem_append, not_or] at hn
    have e1 := h.wide ⟨newS (ls ++ ls'), xS⟩ hn.1
    have e2 := h'.wide ⟨newS (ls ++ ls'), xS⟩ hn.2
    rw [← e1, ← e2]
  subst hw
  have hF : fullA ls full wide = fullA ls' full' wide := by
    funext s
    have hn := (fresh_spec (ln ++ ln') [] s).1
    rw [List.mem_append, not_or] at hn
    have e1 := h.at hn.1
    have e2 := h'.at hn.2
    exact e1.symm.trans e2
  have hN : oddS S (fullA ls full wide) ln = oddS S (fullA ls' full' wide) ln' := by
    funext s
    exact Asc.unique linN (asc_filter h.an _) (asc_filter h'.an _) fun n => by
      have e1 := h.mem_oddS (s := s) (n := n)
      have e2 := h'.mem_oddS (s := s) (n := n)
      rw [e1, e2, hF]
  refine ⟨rfl, ?_⟩
  unfold oddL
  have e1 : ls.flatMap (Np.oddC ln inn full wide) = ls.flatMap (oddA (fullA ls full wide) wide (oddS S (fullA ls full wide) ln)) := flatMap_same fun s hs => h.oddC hs
  have e2 : ls'.flatMap (Np.oddC ln' inn' full' wide) = ls'.flatMap (oddA (fullA ls full wide) wide (oddS S (fullA ls full wide) ln)) := by
    rw [hN, hF]; exact flatMap_same fun s hs => h'.oddC hs
  rw [e1, e2]
  have o1 : ∀ s, s ∉ ls → oddA (fullA ls full wide) wide (oddS S (fullA ls full wide) ln) s = [] := fun s hs => h.odd_out hs
  have o2 : ∀ s, s ∉ ls' → oddA (fullA ls full wide) wide (oddS S (fullA ls full wide) ln) s = [] := fun s hs => by rw [hN, hF]; exact h'.odd_out hs
  generalize oddA (fullA ls full wide) wide (oddS S (fullA ls full wide) ln) = O at o1 o2 ⊢
  rw [flatMap_filter O (fun s => !(O s).isEmpty) ls (fun s _ hs => by simpa using hs), flatMap_filter O (fun s => !(O s).isEmpty) ls' (fun s _ hs => by simpa using hs)]
  congr 1
  refine Asc.unique linS (asc_filter h.as _) (asc_filter h'.as _) fun s => ?_
  rw [List.mem_filter, List.mem_filter]
  constructor
  · rintro ⟨_, h2⟩
    refine ⟨?_, h2⟩
    by_cases hs : s ∈ ls'
    · exact hs
    · rw [o2 s hs] at h2; simp at h2
  · rintro ⟨_, h2⟩
    refine ⟨?_, h2⟩
    by_cases hs : s ∈ ls
    · exact hs
    · rw [o1 s hs] at h2; simp at h2

/-! ### Sets that classes tell -/
theorem Cls.partsL_iff {l : List Cls} {d : Nat} {p : Cls × Nat} : p ∈ Cls.partsL l d ↔ ∃ u ∈ l, p ∈ u.parts d := by
  induction l with
  | nil => simp [Cls.partsL]
  | cons a r ih => rw [Cls.partsL, List.mem_append, ih]; simp
theorem Cls.parts_fst (t : Cls) : ∀ d e, (t.parts d).map Prod.fst = (t.parts e).map Prod.fst := by
  refine Cls.ind (M := fun t => ∀ d e, (t.parts d).map Prod.fst = (t.parts e).map Prod.fst) ?_ t
  intro k n s ex ar h1 h2 d e
  have aux : ∀ (l : List Cls), (∀ t ∈ l, ∀ d e, (t.parts d).map Prod.fst = (t.parts e).map Prod.fst) → ∀ d e, (Cls.partsL l d).map Prod.fst = (Cls.partsL l e).map Prod.fst := by
    intro l
    induction l with
    | nil => intro _ _ _; rfl
    | cons a r ih =>
      intro h d e
      rw [Cls.partsL, Cls.partsL, List.map_append, List.map_append, h a (List.mem_cons_self ..) d e, ih (fun t ht => h t (List.mem_cons_of_mem _ ht)) d e]
  rw [Cls.parts, Cls.parts, List.map_cons, List.map_cons, List.map_append, List.map_append, aux ex h1 (d + 1) (e + 1), aux ar h2 (d + 1) (e + 1)]
/-- The classes in a class, itself first. -/
def Cls.subs (t : Cls) : List Cls := (t.parts 1).map Prod.fst
theorem Cls.subs_mem {t v : Cls} : v ∈ t.subs ↔ v = t ∨ (∃ u ∈ t.ex, v ∈ u.subs) ∨ ∃ u ∈ t.ar, v ∈ u.subs := by
  unfold Cls.subs
  have aux : ∀ l : List Cls, v ∈ (Cls.partsL l (1 + 1)).map Prod.fst ↔ ∃ u ∈ l, v ∈ (u.parts 1).map Prod.fst := by
    intro l
    induction l with
    | nil => simp [Cls.partsL]
    | cons a r ih => rw [Cls.partsL, List.map_append, List.mem_append, ih, Cls.parts_fst a (1 + 1) 1]; simp
  rw [Cls.parts_eq, List.map_cons, List.map_append, List.mem_cons, List.mem_append, aux, aux]
/-- What is mentioned in a class is among these. -/
def MentIn (c : Cls) (nms : List Name) (sps : List ByteArray) : Prop := ∀ v ∈ c.subs, (∀ n, nmOf v = some n → n ∈ nms) ∧ ∀ s, spOf v = some s → s ∈ sps
theorem MentIn.ex {c u : Cls} {nms : List Name} {sps : List ByteArray} (h : MentIn c nms sps) (hu : u ∈ c.ex) : MentIn u nms sps := fun v hv => h v (Cls.subs_mem.2 (.inr (.inl ⟨u, hu, hv⟩)))
theorem MentIn.ar {c u : Cls} {nms : List Name} {sps : List ByteArray} (h : MentIn c nms sps) (hu : u ∈ c.ar) : MentIn u nms sps := fun v hv => h v (Cls.subs_mem.2 (.inr (.inr ⟨u, hu, hv⟩)))
theorem MentIn.self {c : Cls} {nms : List Name} {sps : List ByteArray} (h : MentIn c nms sps) : (c.kind = 1 → c.name ∈ nms ∧ c.name.sp ∈ sps) ∧ (c.kind = 2 → c.space ∈ sps) := by
  have := h c (Cls.subs_mem.2 (.inl rfl))
  refine ⟨fun hk => ⟨this.1 _ (by unfold nmOf; rw [if_pos hk]), this.2 _ (by unfold spOf; rw [if_pos hk])⟩, fun hk => this.2 _ (by unfold spOf; rw [if_neg (by omega), if_pos hk])⟩
theorem any_same {α : Type} {f g : α → Bool} : ∀ {l : List α}, (∀ x ∈ l, f x = g x) → l.any f = l.any g
  | [], _ => rfl
  | a :: r, h => by rw [List.any_cons, List.any_cons, h a (List.mem_cons_self ..), any_same fun x hx => h x (List.mem_cons_of_mem _ hx)]
/-- Names and spaces decide about a set. -/
structure Dec (nms : List Name) (sps : List ByteArray) (S : Name → Bool) : Prop where
  sp : ∀ x y : Name, x ∉ nms → y ∉ nms → x.sp = y.sp → S x = S y
  out : ∀ x y : Name, x.sp ∉ sps → y.sp ∉ sps → S x = S y
theorem Dec.of_class {nms : List Name} {sps : List ByteArray} (c : Cls) : MentIn c nms sps → Dec nms sps (fun x => c.holds x) := by
  refine Cls.ind (M := fun c => MentIn c nms sps → Dec nms sps (fun x => c.holds x)) ?_ c
  intro k n s ex ar h1 h2 hm
  have hs := hm.self
  have he : ∀ t ∈ ex, Dec nms sps (fun x => t.holds x) := fun t ht => h1 t ht (hm.ex (u := t) ht)
  have ha : ∀ t ∈ ar, Dec nms sps (fun x => t.holds x) := fun t ht => h2 t ht (hm.ar (u := t) ht)
  constructor
  · intro x y hx hy hxy
    show (Cls.mk k n s ex ar).holds x = (Cls.mk k n s ex ar).holds y
    rw [Cls.holds_eq, Cls.holds_eq]
    have ee : ex.any (fun t => t.holds x) = ex.any (fun t => t.holds y) := any_same fun t ht => (he t ht).sp x y hx hy hxy
    have ea : ar.any (fun t => t.holds x) = ar.any (fun t => t.holds y) := any_same fun t ht => (ha t ht).sp x y hx hy hxy
    show (if k = 1 then decide (n = x) else if k = 2 then decide (s = x.sp) && !ex.any (fun t => t.holds x) else if k = 4 then ar.any (fun t => t.holds x) else !ex.any (fun t => t.holds x)) = (if k = 1 then decide (n = y) else if k = 2 then decide (s = y.sp) && !ex.any (fun t => t.holds y) else if k = 4 then ar.any (fun t => t.holds y) else !ex.any (fun t => t.holds y))
    rw [ee, ea, hxy]
    split
    · rename_i hk
      have h3 : n ∈ nms := (hs.1 hk).1
      have e1 : n ≠ x := fun e => hx (e ▸ h3)
      have e2 : n ≠ y := fun e => hy (e ▸ h3)
      simp [e1, e2]
    · rfl
  · intro x y hx hy
    show (Cls.mk k n s ex ar).holds x = (Cls.mk k n s ex ar).holds y
    rw [Cls.holds_eq, Cls.holds_eq]
    have ee : ex.any (fun t => t.holds x) = ex.any (fun t => t.holds y) := any_same fun t ht => (he t ht).out x y hx hy
    have ea : ar.any (fun t => t.holds x) = ar.any (fun t => t.holds y) := any_same fun t ht => (ha t ht).out x y hx hy
    show (if k = 1 then decide (n = x) else if k = 2 then decide (s = x.sp) && !ex.any (fun t => t.holds x) else if k = 4 then ar.any (fun t => t.holds x) else !ex.any (fun t => t.holds x)) = (if k = 1 then decide (n = y) else if k = 2 then decide (s = y.sp) && !ex.any (fun t => t.holds y) else if k = 4 then ar.any (fun t => t.holds y) else !ex.any (fun t => t.holds y))
    rw [ee, ea]
    split
    · rename_i hk
      have h3 : n.sp ∈ sps := (hs.1 hk).2
      have e1 : n ≠ x := fun e => hx (e ▸ h3)
      have e2 : n ≠ y := fun e => hy (e ▸ h3)
      simp [e1, e2]
    · split
      · rename_i _ hk
        have h3 : s ∈ sps := hs.2 hk
        have e1 : s ≠ x.sp := fun e => hx (e ▸ h3)
        have e2 : s ≠ y.sp := fun e => hy (e ▸ h3)
        simp [e1, e2]
      · rfl
theorem Dec.two {nms : List Name} {sps : List ByteArray} {S T : Name → Bool} (h : Dec nms sps S) (k : Dec nms sps T) (f : Bool → Bool → Bool) : Dec nms sps (fun x => f (S x) (T x)) :=
  ⟨fun x y hx hy e => by rw [h.sp x y hx hy e, k.sp x y hx hy e], fun x y hx hy => by rw [h.out x y hx hy, k.out x y hx hy]⟩
/-- No candidate, no name. -/
theorem Dec.never {nms : List Name} {sps : List ByteArray} {S : Name → Bool} (h : Dec nms sps S) (C : List Name) (h1 : ∀ x ∈ nms, x ∈ C) (h2 : ∀ s ∈ sps, fresh nms [] s ∈ C) (h3 : fresh nms [] (newS sps) ∈ C) : (∀ x ∈ C, S x = false) ↔ ∀ x, S x = false := by
  constructor
  · intro hc x
    by_cases hx : x ∈ nms
    · exact hc x (h1 x hx)
    · by_cases hs : x.sp ∈ sps
      · rw [h.sp x (fresh nms [] x.sp) hx (fresh_spec nms [] _).1 rfl]; exact hc _ (h2 _ hs)
      · rw [h.out x (fresh nms [] (newS sps)) hs (newS_spec sps)]; exact hc _ h3
  · exact fun hc x _ => hc x
theorem Dec.sh {nms : List Name} {sps : List ByteArray} {S : Name → Bool} (h : Dec nms sps S) (hn : ∀ n ∈ nms, n.sp ∈ sps) {inn : Name → Bool} {full : ByteArray → Bool} {wide : Bool} (h1 : ∀ n ∈ nms, inn n = S n) (h2 : ∀ s ∈ sps, full s = S (fresh nms [] s)) (h3 : wide = S (fresh nms [] (newS sps))) :
    Sh S (asc cmpN nms) (asc cmpS sps) inn full wide where
  an := asc_asc linN _
  as := asc_asc linS _
  nm n hh := (mem_asc linS).2 (hn n ((mem_asc linN).1 hh))
  inn n hh := h1 n ((mem_asc linN).1 hh)
  full s hs x hx e := by
    rw [h2 s ((mem_asc linS).1 hs)]
    exact h.sp _ _ (fun e => hx ((mem_asc linN).2 e)) (fresh_spec nms [] s).1 e
  wide x hx := by
    rw [h3]
    exact h.out _ _ (fun e => hx ((mem_asc linS).2 e)) (newS_spec sps)
/-- A class is the normal class of a set. -/
def IsNorm (S : Name → Bool) (c : Cls) : Prop := ∃ ln ls inn full wide, Sh S ln ls inn full wide ∧ c = classG (oddL ln ls inn full wide) wide ∧ (∀ n ∈ ln, validN n = true) ∧ ∀ s ∈ ls, s.size ≤ 200
theorem IsNorm.holds {S : Name → Bool} {c : Cls} (h : IsNorm S c) (x : Name) : c.holds x = S x := by
  obtain ⟨ln, ls, inn, full, wide, h, rfl, _⟩ := h; exact h.holds x
theorem IsNorm.unique {S : Name → Bool} {c c' : Cls} (h : IsNorm S c) (h' : IsNorm S c') : c = c' := by
  obtain ⟨ln, ls, inn, full, wide, h, rfl, _⟩ := h
  obtain ⟨ln', ls', inn', full', wide', h', rfl, _⟩ := h'
  obtain ⟨e1, e2⟩ := h.unique h'
  rw [e2, e1]
theorem fitsAll_subs (t : Cls) : t.fitsAll = t.subs.all (fun v => v.fits) := by unfold Cls.fitsAll Cls.subs; rw [List.all_map]; rfl
theorem fitsAll_iff (t : Cls) : t.fitsAll = true ↔ t.fits = true ∧ (∀ u ∈ t.ex, u.fitsAll = true) ∧ ∀ u ∈ t.ar, u.fitsAll = true := by
  simp only [fitsAll_subs, List.all_eq_true]
  constructor
  · intro h
    exact ⟨h t (Cls.subs_mem.2 (.inl rfl)), fun u hu v hv => h v (Cls.subs_mem.2 (.inr (.inl ⟨u, hu, hv⟩))), fun u hu v hv => h v (Cls.subs_mem.2 (.inr (.inr ⟨u, hu, hv⟩)))⟩
  · rintro ⟨h1, h2, h3⟩ v hv
    rcases Cls.subs_mem.1 hv with rfl | ⟨u, hu, h⟩ | ⟨u, hu, h⟩
    · exact h1
    · exact h2 u hu v h
    · exact h3 u hu v h
theorem together_fits {l : List Cls} (h : ∀ u ∈ l, u.fitsAll = true) : ∀ u ∈ together l, u.fitsAll = true := by
  unfold together
  split
  · exact h
  · rename_i hl
    intro u hu
    rw [List.mem_singleton] at hu
    subst hu
    refine (fitsAll_iff _).2 ⟨?_, by simp [Cls.ex], h⟩
    have : 1 ≤ l.length := by omega
    simp [Cls.fits, fitsG, Cls.kind, Cls.name, Cls.space, Cls.ex, Cls.ar, noName, this, ByteArray.size]
theorem nameC_fits {n : Name} (h : validN n = true) : (nameC n).fitsAll = true := by
  refine (fitsAll_iff _).2 ⟨?_, by simp [Cls.ex, nameC], by simp [Cls.ar, nameC]⟩
  simp [Cls.fits, fitsG, Cls.kind, Cls.name, Cls.space, Cls.ex, Cls.ar, h, nameC, ByteArray.size]
theorem anyC_fits {ex : List Cls} (hl : ex.length ≤ 1) (h : ∀ u ∈ ex, u.fitsAll = true) : (anyC ex).fitsAll = true := by
  refine (fitsAll_iff _).2 ⟨?_, h, by simp [Cls.ar, anyC]⟩
  simp [Cls.fits, fitsG, Cls.kind, Cls.name, Cls.space, Cls.ex, Cls.ar, noName, anyC, hl, ByteArray.size]
theorem spaceC_fits {s : ByteArray} {ex : List Cls} (hs : s.size ≤ 200) (hl : ex.length ≤ 1) (h : ∀ u ∈ ex, u.fitsAll = true) : (Cls.mk 2 ⟨⟨#[]⟩, ⟨#[]⟩⟩ s ex []).fitsAll = true := by
  refine (fitsAll_iff _).2 ⟨?_, h, by simp [Cls.ar]⟩
  simp [Cls.fits, fitsG, Cls.kind, Cls.name, Cls.space, Cls.ex, Cls.ar, noName, hl, hs]
theorem IsNorm.fits {S : Name → Bool} {c : Cls} (h : IsNorm S c) : c.fitsAll = true := by
  obtain ⟨ln, ls, inn, full, wide, _, rfl, h1, h2⟩ := h
  have hN : ∀ s, ∀ u ∈ oddN ln inn full s, u.fitsAll = true := by
    intro s u hu
    unfold oddN at hu
    obtain ⟨n, hn, rfl⟩ := List.mem_map.1 hu
    exact nameC_fits (h1 n (List.mem_filter.1 hn).1)
  have hO : ∀ u ∈ oddL ln ls inn full wide, u.fitsAll = true := by
    intro u hu
    unfold oddL at hu
    obtain ⟨s, hs, hu⟩ := List.mem_flatMap.1 hu
    unfold oddC at hu
    split at hu
    · rw [List.mem_singleton] at hu
      subst hu
      exact spaceC_fits (h2 s hs) (together_le _) (together_fits (hN s))
    · exact hN s u hu
  unfold classG
  split
  · exact anyC_fits (together_le _) (together_fits hO)
  · have := together_fits hO
    split
    · exact anyC_fits (by simp) (fun u hu => by rw [List.mem_singleton] at hu; subst hu; exact anyC_fits (by simp) (by simp))
    · rename_i e
      rw [e] at this
      exact this _ (List.mem_cons_self ..)
end Np
end Go.Proofs.YtohlhihhadbphaaGreatDoor
