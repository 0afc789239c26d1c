/- Plain mathematics of layer 2 (chars): the sorts of characters as the program's table tells them. -/
import Derived.Lib.TrimU
import Derived.Lib.RuneBytes
namespace Go.Proofs.YthfmnhhennbjnaaDoor
namespace Ck

/-- The rows of the program's table: from, to, sort. -/
def tab : List (Int × Int × Int) := [(9, 10, 2), (13, 13, 2), (32, 32, 2), (33, 44, 1), (45, 46, 4), (47, 47, 1), (48, 57, 4), (58, 64, 1), (65, 90, 3), (91, 94, 1), (95, 95, 3), (96, 96, 1), (97, 122, 3), (123, 182, 1), (183, 183, 4), (184, 191, 1), (192, 214, 3), (215, 215, 1), (216, 246, 3), (247, 247, 1), (248, 55295, 3), (57344, 65533, 3), (65536, 1114111, 3)]
def lo (k : Nat) : Int := (tab.getD k (0, 0, 0)).1
def hi (k : Nat) : Int := (tab.getD k (0, 0, 0)).2.1
def st (k : Nat) : Int := (tab.getD k (0, 0, 0)).2.2

/-- What the program's search finds from row k on, with so many rows left. -/
def sortFrom (c : Int) : Nat → Nat → Int
  | 0, _ => 0
  | f + 1, k => if c ≤ hi k then (if c < lo k then 0 else st k) else sortFrom c f (k + 1)
def sortI (c : Int) : Int := sortFrom c 23 0

def validB (c : Int) : Bool := decide (c = 9 ∨ c = 10 ∨ c = 13 ∨ (32 ≤ c ∧ c ≤ 55295) ∨ (57344 ≤ c ∧ c ≤ 65533) ∨ (65536 ≤ c ∧ c ≤ 1114111))
def blankB (c : Int) : Bool := decide (c = 9 ∨ c = 10 ∨ c = 13 ∨ c = 32)
def firstB (c : Int) : Bool := decide ((97 ≤ c ∧ c ≤ 122) ∨ (65 ≤ c ∧ c ≤ 90) ∨ c = 95 ∨ (192 ≤ c ∧ c ≠ 215 ∧ c ≠ 247 ∧ validB c = true))
def innerB (c : Int) : Bool := decide (firstB c = true ∨ (48 ≤ c ∧ c ≤ 57) ∨ c = 45 ∨ c = 46 ∨ c = 183)

theorem sort_open (c : Int) : sortI c = if c ≤ 10 then (if c < 9 then 0 else 2) else if c ≤ 13 then (if c < 13 then 0 else 2) else if c ≤ 32 then (if c < 32 then 0 else 2) else if c ≤ 44 then (if c < 33 then 0 else 1) else if c ≤ 46 then (if c < 45 then 0 else 4) else if c ≤ 47 then (if c < 47 then 0 else 1) else if c ≤ 57 then (if c < 48 then 0 else 4) else if c ≤ 64 then (if c < 58 then 0 else 1) else if c ≤ 90 then (if c < 65 then 0 else 3) else if c ≤ 94 then (if c < 91 then 0 else 1) else if c ≤ 95 then (if c < 95 then 0 else 3) else if c ≤ 96 then (if c < 96 then 0 else 1) else if c ≤ 122 then (if c < 97 then 0 else 3) else if c ≤ 182 then (if c < 123 then 0 else 1) else if c ≤ 183 then (if c < 183 then 0 else 4) else if c ≤ 191 then (if c < 184 then 0 else 1) else if c ≤ 214 then (if c < 192 then 0 else 3) else if c ≤ 215 then (if c < 215 then 0 else 1) else if c ≤ 246 then (if c < 216 then 0 else 3) else if c ≤ 247 then (if c < 247 then 0 else 1) else if c ≤ 55295 then (if c < 248 then 0 else 3) else if c ≤ 65533 then (if c < 57344 then 0 else 3) else if c ≤ 1114111 then (if c < 65536 then 0 else 3) else 0 := rfl

theorem sort_range (c : Int) : 0 ≤ sortI c ∧ sortI c ≤ 4 := by rw [sort_open]; repeat' split
                                                               all_goals omega
theorem sort_valid (c : Int) : (sortI c != 0) = validB c := by
  unfold validB
  rw [Bool.eq_iff_iff, bne_iff_ne, decide_eq_true_iff, sort_open]
  repeat' split
  all_goals omega
theorem sort_blank (c : Int) : (sortI c == 2) = blankB c := by
  unfold blankB
  rw [Bool.eq_iff_iff, beq_iff_eq, decide_eq_true_iff, sort_open]
  repeat' split
  all_goals omega
theorem sort_first (c : Int) : (sortI c == 3) = firstB c := by
  unfold firstB validB
  rw [Bool.eq_iff_iff, beq_iff_eq, decide_eq_true_iff, decide_eq_true_iff, sort_open]
  repeat' split
  all_goals omega
theorem sort_inner (c : Int) : (sortI c == 3 || sortI c == 4) = innerB c := by
  unfold innerB firstB validB
  rw [Bool.eq_iff_iff, Bool.or_eq_true, beq_iff_eq, beq_iff_eq, decide_eq_true_iff, decide_eq_true_iff, decide_eq_true_iff, sort_open]
  repeat' split
  all_goals omega
end Ck
end Go.Proofs.YthfmnhhennbjnaaDoor
