/- What all is asked, what a kind asks beyond it, and both together. -/
import Derived.Test.YtdldblfopcbfeaaGreatDoorZAlI3
namespace Go.Proofs.YtdldblfopcbfeaaGreatDoor
open Go.RowKit

def memK (es : List Em) (xs : List En) (v : Ev) : Int := if selfB v = true then ownE es xs v (memR es xs v.author) else otherE es xs v (levR es xs v.author)
/-- Of all. -/
def allE (es : List Em) (xs : List En) (v : Ev) : Int :=
  if (v.kind == 1) = true then (if decide (0 < stAt xs 1 0) = true then 7 else 0)
  else if decide (0 < stAt xs 1 0) = true then (if selfB v = true then 0 else if (memR es xs v.author == 1) = true then 0 else 11)
  else 10
/-- By kind. -/
def ruleE (es : List Em) (xs : List En) (v : Ev) : Int :=
  if (v.kind == 1) = true then 0 else if (v.kind == 2) = true then memK es xs v
  else if (v.kind == 7) = true then 0 else if (v.kind == 8) = true then hideE es v (levR es xs v.author) else mightK es xs v (levR es xs v.author)
theorem ifE_code (b : Bool) : ifE b = 0 ∨ ifE b = 11 := by cases b <;> simp [ifE]
theorem own_code (es : List Em) (xs : List En) (v : Ev) (m : Int) : ownE es xs v m = 0 ∨ ownE es xs v m = 11 := by
  unfold ownE
  split
  · exact ifE_code _
  · split
    · exact ifE_code _
    · exact .inr rfl
theorem other_code (n t l pl : Int) : otherP n t l pl = 0 ∨ otherP n t l pl = 11 := by
  unfold otherP
  split
  · exact ifE_code _
  · split
    · exact ifE_code _
    · split
      · exact ifE_code _
      · exact .inr rfl
theorem rule_code (es : List Em) (xs : List En) (v : Ev) : ruleE es xs v = 0 ∨ ruleE es xs v = 6 ∨ ruleE es xs v = 11 := by
  have up : ∀ {k : Int}, k = 0 ∨ k = 11 → k = 0 ∨ k = 6 ∨ k = 11 := fun h => h.elim .inl (fun h => .inr (.inr h))
  unfold ruleE
  split
  · exact .inl rfl
  · split
    · unfold memK
      split
      · exact up (own_code _ _ _ _)
      · exact up (other_code _ _ _ _)
    · split
      · exact .inl rfl
      · split
        · unfold hideE
          split
          · exact up (ifE_code _)
          · exact .inr (.inl rfl)
        · unfold mightK
          split
          · exact up (ifE_code _)
          · exact up (ifE_code _)
theorem all_code (es : List Em) (xs : List En) (v : Ev) : allE es xs v = 0 ∨ allE es xs v = 7 ∨ allE es xs v = 10 ∨ allE es xs v = 11 := by
  unfold allE
  split
  · split
    · exact .inr (.inl rfl)
    · exact .inl rfl
  · split
    · split
      · exact .inl rfl
      · split
        · exact .inl rfl
        · exact .inr (.inr (.inr rfl))
    · exact .inr (.inr (.inl rfl))
/-- Both together. -/
theorem alw_parts (es : List Em) (xs : List En) (v : Ev) (hk : v.kind = 1 ∨ v.kind = 2 ∨ v.kind = 3 ∨ v.kind = 4 ∨ v.kind = 5 ∨ v.kind = 6 ∨ v.kind = 7 ∨ v.kind = 8) :
    alwE es xs v = if allE es xs v = 0 then ruleE es xs v else allE es xs v := by
  cases hz : decide (0 < stAt xs 1 0)
  · cases h1 : (v.kind == 1)
    · simp only [alwE, allE, hz, h1, Bool.false_eq_true, if_false]
      rfl
    · simp only [alwE, allE, ruleE, hz, h1, Bool.false_eq_true, if_false, if_true]
  · cases h1 : (v.kind == 1)
    · cases hs : selfB v
      · have hs' : (v.kind == 2 && v.key == v.author) = false := hs
        cases hm : (memR es xs v.author == 1)
        · have hm' : (memR es xs v.author != 1) = true := by simp only [bne, hm]; rfl
          simp only [alwE, allE, hz, h1, hs, hs', hm, hm', Bool.false_eq_true, if_false, if_true]
          rfl
        · have hm' : (memR es xs v.author != 1) = false := by simp only [bne, hm]; rfl
          simp only [alwE, allE, ruleE, hz, h1, hs, hs', hm, hm', Bool.false_eq_true, if_false, if_true, kindE, memK]
          rcases hk with h | h | h | h | h | h | h | h
          · rw [h] at h1
            exact absurd h1 (by decide)
          all_goals simp [h, mightK]
      · have hs' : (v.kind == 2 && v.key == v.author) = true := hs
        have h2 : (v.kind == 2) = true := by
          rw [Bool.and_eq_true] at hs'
          exact hs'.1
        simp only [alwE, allE, ruleE, hz, h1, h2, hs, Bool.true_and, Bool.false_eq_true, if_false, if_true, memK]
        rw [h2, Bool.true_and] at hs'
        simp only [hs', if_true]
    · simp only [alwE, allE, hz, h1, if_true]
      rfl
theorem kind_of {v : Ev} (h : rightB v = true) : v.kind = 1 ∨ v.kind = 2 ∨ v.kind = 3 ∨ v.kind = 4 ∨ v.kind = 5 ∨ v.kind = 6 ∨ v.kind = 7 ∨ v.kind = 8 := by
  have hb : bodyB v = true := by
    unfold rightB at h
    simp only [Bool.and_eq_true] at h
    exact h.2
  unfold bodyB at hb
  by_cases h1 : v.kind = 1
  · simp [h1]
  by_cases h2 : v.kind = 2
  · simp [h2]
  by_cases h3 : v.kind = 3
  · simp [h3]
  by_cases h4 : v.kind = 4
  · simp [h4]
  by_cases h5 : v.kind = 5
  · simp [h5]
  by_cases h6 : v.kind = 6
  · simp [h6]
  by_cases h7 : v.kind = 7
  · simp [h7]
  by_cases h8 : v.kind = 8
  · simp [h8]
  simp [h1, h2, h3, h4, h5, h6, h7, h8] at hb
theorem author_of {v : Ev} (h : rightB v = true) : 1 ≤ v.author ∧ v.author ≤ 6 := by
  unfold rightB headB at h
  simp only [Bool.and_eq_true] at h
  exact isB_yes h.1.1.1.2
theorem key_of {v : Ev} (h : rightB v = true) : 0 ≤ v.key ∧ v.key ≤ 1000000 := by
  have hk := kind_of h
  have hb : bodyB v = true := by
    unfold rightB at h
    simp only [Bool.and_eq_true] at h
    exact h.2
  have hz : ∀ {b : Bool}, (v.key == 0 && b) = true → 0 ≤ v.key ∧ v.key ≤ 1000000 := fun h => by
    rw [Bool.and_eq_true, beq_iff_eq] at h
    omega
  have hu : ∀ {b : Bool} {n : Int}, n ≤ 1000000 → (isB v.key 1 n && b) = true → 0 ≤ v.key ∧ v.key ≤ 1000000 := fun hn h => by
    rw [Bool.and_eq_true] at h
    have := isB_yes h.1
    omega
  unfold bodyB at hb
  rcases hk with h | h | h | h | h | h | h | h
  all_goals simp only [h, if_true, if_false, Bool.and_assoc, show ¬ ((2 : Int) = 1) by decide, show ¬ ((3 : Int) = 1) by decide, show ¬ ((3 : Int) = 2) by decide, show ¬ ((4 : Int) = 1) by decide, show ¬ ((4 : Int) = 2) by decide, show ¬ ((4 : Int) = 3) by decide, show ¬ ((5 : Int) = 1) by decide, show ¬ ((5 : Int) = 2) by decide, show ¬ ((5 : Int) = 3) by decide, show ¬ ((5 : Int) = 4) by decide, show ¬ ((6 : Int) = 1) by decide, show ¬ ((6 : Int) = 2) by decide, show ¬ ((6 : Int) = 3) by decide, show ¬ ((6 : Int) = 4) by decide, show ¬ ((6 : Int) = 5) by decide, show ¬ ((7 : Int) = 1) by decide, show ¬ ((7 : Int) = 2) by decide, show ¬ ((7 : Int) = 3) by decide, show ¬ ((7 : Int) = 4) by decide, show ¬ ((7 : Int) = 5) by decide, show ¬ ((7 : Int) = 6) by decide, show ¬ ((8 : Int) = 1) by decide, show ¬ ((8 : Int) = 2) by decide, show ¬ ((8 : Int) = 3) by decide, show ¬ ((8 : Int) = 4) by decide, show ¬ ((8 : Int) = 5) by decide, show ¬ ((8 : Int) = 6) by decide, show ¬ ((8 : Int) = 7) by decide] at hb
  all_goals first | exact hz hb | exact hu (by decide) hb
end Go.Proofs.YtdldblfopcbfeaaGreatDoor
