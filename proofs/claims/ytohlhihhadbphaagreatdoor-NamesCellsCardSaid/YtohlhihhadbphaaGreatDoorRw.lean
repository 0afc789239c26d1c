/- NamesCells: plain facts: exactly one cell has the row of a name. -/
import Derived.Test.YtohlhihhadbphaaGreatDoorGk
import Derived.Test.YtohlhihhadbphaaGreatDoorGn
set_option linter.unusedSimpArgs false
set_option linter.unusedVariables false
namespace Go.Proofs.YtohlhihhadbphaaGreatDoor
open Go.RowKit Go.Shelf Go.Lib
namespace Np
theorem cellsF_nodup (lst : List CT) (cands : List Name) : ((cellsF lst cands).map Prod.snd).Nodup := by
  unfold cellsF
  suffices H : ∀ (cands : List Name) (cs : List (Name × List Bool)), (cs.map Prod.snd).Nodup → ((cands.foldl (stepC lst) cs).map Prod.snd).Nodup from H cands [] (by simp)
  intro cands
  induction cands with
  | nil => intro cs h; exact h
  | cons n r ih =>
    intro cs h
    refine ih _ ?_
    unfold stepC
    split
    · exact h
    · rename_i hn
      rw [List.map_append, List.nodup_append]
      refine ⟨h, by simp, fun a ha b hb => ?_⟩
      simp at hb
      subst hb
      exact fun e => hn (e ▸ ha)
theorem cellsF_sub (lst : List CT) (cands : List Name) (cs : List (Name × List Bool)) (r : List Bool) (h : r ∈ cs.map Prod.snd) : r ∈ (cands.foldl (stepC lst) cs).map Prod.snd := by
  induction cands generalizing cs with
  | nil => exact h
  | cons n q ih =>
    refine ih _ ?_
    unfold stepC
    split
    · exact h
    · rw [List.map_append]; exact List.mem_append_left _ h
theorem cellsF_mem (lst : List CT) (cands : List Name) (n : Name) (hn : n ∈ cands) : inR lst n ∈ (cellsF lst cands).map Prod.snd := by
  unfold cellsF
  suffices H : ∀ (cands : List Name) (cs : List (Name × List Bool)), n ∈ cands → inR lst n ∈ (cands.foldl (stepC lst) cs).map Prod.snd from H cands [] hn
  intro cands
  induction cands with
  | nil => intro cs h; cases h
  | cons m r ih =>
    intro cs h
    rcases List.mem_cons.1 h with rfl | h
    · refine cellsF_sub lst r _ _ ?_
      unfold stepC
      split
      · assumption
      · simp
    · exact ih _ h
theorem cand_row (lst : List CT) (n : Name) : ∃ y ∈ candsOf lst [], inR lst y = inR lst n := by
  have hD : ∀ u ∈ lst, Dec (nmsOf (CT.partsL lst 1)) (spsOf (CT.partsL lst 1)) u.holds := fun u hu => Dec.of_class u.er (ment_of hu)
  have key : ∀ y, (∀ u ∈ lst, u.holds y = u.holds n) → inR lst y = inR lst n := fun y h => List.map_congr_left h
  have m1 : ∀ x ∈ nmsOf (CT.partsL lst 1), x ∈ candsOf lst [] := fun x hx => by unfold candsOf candL; simp [(mem_asc linN).2 hx]
  have m2 : ∀ s ∈ spsOf (CT.partsL lst 1), fresh (nmsOf (CT.partsL lst 1)) [] s ∈ candsOf lst [] := fun s hs => by
    unfold candsOf candL
    simp only [List.mem_append, List.mem_map]
    exact .inl (.inr ⟨s, (mem_asc linS).2 hs, rfl⟩)
  have m3 : fresh (nmsOf (CT.partsL lst 1)) [] (newS (spsOf (CT.partsL lst 1))) ∈ candsOf lst [] := by unfold candsOf candL; simp
  by_cases hx : n ∈ nmsOf (CT.partsL lst 1)
  · exact ⟨n, m1 n hx, rfl⟩
  · by_cases hs : n.sp ∈ spsOf (CT.partsL lst 1)
    · exact ⟨_, m2 _ hs, key _ fun u hu => (hD u hu).sp _ _ (fresh_spec _ [] _).1 hx rfl⟩
    · exact ⟨_, m3, key _ fun u hu => (hD u hu).out _ _ (newS_spec _) hs⟩
theorem filter_one {α : Type} (f : α → List Bool) (r : List Bool) (l : List α) (hn : (l.map f).Nodup) (hm : r ∈ l.map f) : (l.filter fun c => decide (f c = r)).length = 1 := by
  induction l with
  | nil => cases hm
  | cons a q ih =>
    rw [List.map_cons, List.nodup_cons] at hn
    rw [List.map_cons, List.mem_cons] at hm
    by_cases e : f a = r
    · have h0 : (q.filter fun c => decide (f c = r)) = [] := by
        rw [List.filter_eq_nil_iff]
        intro c hc h
        exact hn.1 (List.mem_map.2 ⟨c, hc, by rw [of_decide_eq_true h, e]⟩)
      rw [List.filter_cons, if_pos (decide_eq_true e), List.length_cons, h0, List.length_nil]
    · rw [List.filter_cons, if_neg (by simpa using e)]
      exact ih hn.2 (hm.resolve_left fun h => e h.symm)
/-- Exactly one cell has the row of a name. -/
theorem one_cell (lst : List CT) (n : Name) : ((cellsF lst (candsOf lst [])).filter fun c => decide (c.2 = inR lst n)).length = 1 := by
  refine filter_one Prod.snd _ _ (cellsF_nodup _ _) ?_
  obtain ⟨y, hy, e⟩ := cand_row lst n
  rw [← e]
  exact cellsF_mem lst _ y hy
end Np
end Go.Proofs.YtohlhihhadbphaaGreatDoor
