/- Plain mathematics of Unescape: digits, numbers, escapes, and how a text is taken apart. -/
import Derived.Test.YthfmnhhennbjnaaDoorCkDec
import Derived.Lib.IndexMore
import Derived.Lib.IndexBytes
namespace Go.Proofs.YthfmnhhennbjnaaDoor
namespace Ck
open Go.Lib

def digV (b : UInt8) : Int := if 48 ≤ b.toNat ∧ b.toNat ≤ 57 then (b.toNat : Int) - 48 else if 97 ≤ b.toNat ∧ b.toNat ≤ 102 then (b.toNat : Int) - 97 + 10 else if 65 ≤ b.toNat ∧ b.toNat ≤ 70 then (b.toNat : Int) - 65 + 10 else -1
theorem digV_range (b : UInt8) : -1 ≤ digV b ∧ digV b ≤ 15 := by
  unfold digV
  repeat' split
  all_goals omega
/-- The program's reading of a number. -/
def numP (base : Int) : Int → List UInt8 → Option Int
  | c, [] => some c
  | c, b :: t => if digV b < 0 ∨ base ≤ digV b then none else if 1114111 < c * base + digV b then none else numP base (c * base + digV b) t
/-- The reference's. -/
def numR (base : Int) : Int → List UInt8 → Option Int
  | c, [] => some c
  | c, b :: t => if digV b < 0 ∨ base ≤ digV b then none else numR base (min (c * base + digV b) 2000000) t
def vld (o : Option Int) : Option Int := o.bind fun c => if validB c then some c else none
def numV (base : Int) (l : List UInt8) : Option Int := if l = [] ∨ 20 < l.length then none else vld (numP base 0 l)
theorem numR_big (base : Int) (hb : base = 10 ∨ base = 16) : ∀ (l : List UInt8) (c r : Int), 1114111 < c → numR base c l = some r → 1114111 < r
  | [], c, r, hc, h => by cases h; exact hc
  | b :: t, c, r, hc, h => by
    unfold numR at h
    split at h
    · cases h
    · rename_i hd
      refine numR_big base hb t _ r ?_ h
      have := digV_range b
      rcases hb with rfl | rfl <;> omega
theorem num_same (base : Int) (hb : base = 10 ∨ base = 16) : ∀ (l : List UInt8) (c : Int), 0 ≤ c → c ≤ 1114111 → vld (numR base c l) = vld (numP base c l)
  | [], c, _, _ => rfl
  | b :: t, c, h0, h1 => by
    unfold numR numP
    have hr := digV_range b
    by_cases hd : digV b < 0 ∨ base ≤ digV b
    · rw [if_pos hd, if_pos hd]
    · rw [if_neg hd, if_neg hd]
      have hc0 : 0 ≤ c * base + digV b := by rcases hb with rfl | rfl <;> omega
      by_cases hbig : 1114111 < c * base + digV b
      · rw [if_pos hbig]
        cases hn : numR base (min (c * base + digV b) 2000000) t with
        | none => rfl
        | some r =>
          have := numR_big base hb t _ r (by omega) hn
          have hv : validB r = false := by
            cases h : validB r with
            | false => rfl
            | true => have := valid_pos h; omega
          simp [vld, hv]
      · rw [if_neg hbig, show min (c * base + digV b) 2000000 = c * base + digV b by omega]
        exact num_same base hb t _ hc0 (by omega)

/-- The character of an escape, without its ampersand and semicolon. -/
def escV (l : List UInt8) : Option Int :=
  if l = [108, 116] then some 60 else if l = [103, 116] then some 62 else if l = [97, 109, 112] then some 38 else if l = [113, 117, 111, 116] then some 34 else if l = [97, 112, 111, 115] then some 39
  else match l with
    | 35 :: 120 :: t => numV 16 t
    | 35 :: t => numV 10 t
    | _ => none
theorem vld_some {o : Option Int} {c : Int} (h : vld o = some c) : o = some c ∧ validB c = true := by
  cases o with
  | none => cases h
  | some x =>
    simp only [vld, Option.bind_some] at h
    split at h
    · cases h; exact ⟨rfl, ‹_›⟩
    · cases h
theorem numV_valid {base : Int} {l : List UInt8} {c : Int} (h : numV base l = some c) : validB c = true := by
  unfold numV at h
  split at h
  · cases h
  · exact (vld_some h).2
theorem escV_valid {l : List UInt8} {c : Int} (h : escV l = some c) : validB c = true := by
  unfold escV at h
  repeat' split at h
  all_goals first | (cases h; decide) | exact numV_valid h | cases h

/-- How a text without escapes comes out: the text, or the place of the first wrong ampersand. -/
inductive Un : Nat → List UInt8 → Except Nat (List UInt8) → Prop
  | done {p : Nat} {l : List UInt8} (h : (38 : UInt8) ∉ l) : Un p l (.ok l)
  | open_ {p : Nat} {pl r : List UInt8} (h : (38 : UInt8) ∉ pl) (hr : (59 : UInt8) ∉ r) : Un p (pl ++ 38 :: r) (.error (p + pl.length))
  | none_ {p : Nat} {pl body t : List UInt8} (h : (38 : UInt8) ∉ pl) (hb : (59 : UInt8) ∉ body) (he : escV body = none) : Un p (pl ++ 38 :: (body ++ 59 :: t)) (.error (p + pl.length))
  | step {p : Nat} {pl body t : List UInt8} {c : Int} {res : Except Nat (List UInt8)} (h : (38 : UInt8) ∉ pl) (hb : (59 : UInt8) ∉ body) (he : escV body = some c) (hn : Un (p + pl.length + (body.length + 2)) t res) :
      Un p (pl ++ 38 :: (body ++ 59 :: t)) (res.map fun o => pl ++ (enc1 c ++ o))

theorem split_at (x : UInt8) : ∀ l : List UInt8, (x ∉ l) ∨ ∃ a b, l = a ++ x :: b ∧ x ∉ a
  | [] => .inl (by simp)
  | y :: l => by
    by_cases h : y = x
    · exact .inr ⟨[], l, by simp [h], by simp⟩
    · rcases split_at x l with h1 | ⟨a, b, h1, h2⟩
      · exact .inl (by simp [h1, Ne.symm h])
      · exact .inr ⟨y :: a, b, by simp [h1], by simp [h2, Ne.symm h]⟩
theorem un_exists : ∀ (n : Nat) (l : List UInt8) (p : Nat), l.length ≤ n → ∃ res, Un p l res
  | 0, l, p, h => by
    obtain rfl := List.eq_nil_of_length_eq_zero (show l.length = 0 by omega)
    exact ⟨_, .done (by simp)⟩
  | n + 1, l, p, h => by
    rcases split_at 38 l with h1 | ⟨pl, r, rfl, h2⟩
    · exact ⟨_, .done h1⟩
    · rcases split_at 59 r with h3 | ⟨body, t, rfl, h4⟩
      · exact ⟨_, .open_ h2 h3⟩
      · cases he : escV body with
        | none => exact ⟨_, .none_ h2 h4 he⟩
        | some c =>
          simp only [List.length_append, List.length_cons] at h
          obtain ⟨res, hr⟩ := un_exists n t (p + pl.length + (body.length + 2)) (by omega)
          exact ⟨_, .step h2 h4 he hr⟩
/-- A byte in front that is no ampersand. -/
theorem Un.tail {p : Nat} {x : UInt8} {l : List UInt8} {res : Except Nat (List UInt8)} (hx : x ≠ 38) (h : Un p (x :: l) res) : ∃ res', Un (p + 1) l res' ∧ res = res'.map (x :: ·) := by
  generalize hl : x :: l = L at h
  cases h with
  | done h => subst hl; exact ⟨_, .done (fun hm => h (List.mem_cons_of_mem _ hm)), rfl⟩
  | @open_ _ pl r h hr =>
    cases pl with
    | nil => simp only [List.nil_append, List.cons.injEq] at hl; exact absurd hl.1 hx
    | cons y pl =>
      simp only [List.cons_append, List.cons.injEq] at hl
      obtain ⟨rfl, rfl⟩ := hl
      refine ⟨_, .open_ (p := p + 1) (fun hm => h (List.mem_cons_of_mem _ hm)) hr, ?_⟩
      simp only [Except.map, List.length_cons]
      congr 1; omega
  | @none_ _ pl body t h hb he =>
    cases pl with
    | nil => simp only [List.nil_append, List.cons.injEq] at hl; exact absurd hl.1 hx
    | cons y pl =>
      simp only [List.cons_append, List.cons.injEq] at hl
      obtain ⟨rfl, rfl⟩ := hl
      refine ⟨_, .none_ (p := p + 1) (fun hm => h (List.mem_cons_of_mem _ hm)) hb he, ?_⟩
      simp only [Except.map, List.length_cons]
      congr 1; omega
  | @step _ pl body t c res h hb he hn =>
    cases pl with
    | nil => simp only [List.nil_append, List.cons.injEq] at hl; exact absurd hl.1 hx
    | cons y pl =>
      simp only [List.cons_append, List.cons.injEq] at hl
      obtain ⟨rfl, rfl⟩ := hl
      have hn' : Un (p + 1 + pl.length + (body.length + 2)) t res := by
        rw [show p + 1 + pl.length + (body.length + 2) = p + (pl.length + 1) + (body.length + 2) by omega]; exact hn
      refine ⟨_, .step (p := p + 1) (fun hm => h (List.mem_cons_of_mem _ hm)) hb he hn', ?_⟩
      cases res <;> rfl
theorem indexByte_no {c : UInt8} : ∀ {l : List UInt8}, c ∉ l → indexByte l c = -1
  | [], _ => rfl
  | b :: l, h => by
    have h1 : b ≠ c := fun e => h (by simp [e])
    have h2 := indexByte_no (l := l) (c := c) (fun hm => h (List.mem_cons_of_mem _ hm))
    unfold indexByte
    rw [h2]
    simp [h1]
theorem indexByte_yes {c : UInt8} : ∀ {a b : List UInt8}, c ∉ a → indexByte (a ++ c :: b) c = a.length
  | [], b, _ => by unfold indexByte; simp
  | x :: a, b, h => by
    have h1 : x ≠ c := fun e => h (by simp [e])
    have h2 := indexByte_yes (a := a) (b := b) (c := c) (fun hm => h (List.mem_cons_of_mem _ hm))
    simp only [List.cons_append]
    unfold indexByte
    rw [h2]
    have h3 : ((a.length : Int) == -1) = false := by rw [beq_eq_false_iff_ne]; omega
    simp [h1, h3]
theorem cut_no {c : UInt8} {l : List UInt8} (h : c ∉ l) : Lib.cut l [c] = (l, [], false) := by
  unfold Lib.cut
  rw [index_one, indexByte_no h]; rfl
theorem cut_yes {c : UInt8} {a b : List UInt8} (h : c ∉ a) : Lib.cut (a ++ c :: b) [c] = (a, b, true) := by
  unfold Lib.cut
  rw [index_one, indexByte_yes h]
  simp
end Ck
end Go.Proofs.YthfmnhhennbjnaaDoor
