/- The order of lists of numbers is total, and the first collision is one. No conditions. -/
import Derived.Test.YtjhijmaolnngmaaSame
import Derived.Test.YtjhijmaolnngmaaImpl02
namespace Go.Proofs.Ytjhijmaolnngmaa
set_option linter.unusedSimpArgs false
set_option linter.unusedVariables false

theorem cmpI_range (x y : Int) : -1 ≤ cmpI x y ∧ cmpI x y ≤ 1 := by
  unfold cmpI
  by_cases h : x < y
  · rw [if_pos h]; omega
  · rw [if_neg h]
    by_cases h' : y < x
    · rw [if_pos h']; omega
    · rw [if_neg h']; omega
theorem cmpI_anti (x y : Int) : cmpI y x = - cmpI x y := by
  rcases Int.lt_trichotomy x y with h | h | h
  · rw [cmpI_lt h, cmpI_gt h]; rfl
  · rw [cmpI_eq h, cmpI_eq h.symm]; rfl
  · rw [cmpI_gt h, cmpI_lt h]
theorem cmpI_ne {x y : Int} (h : x ≠ y) : cmpI x y ≠ 0 := by
  rcases Int.lt_trichotomy x y with h' | h' | h'
  · rw [cmpI_lt h']; decide
  · exact absurd h' h
  · rw [cmpI_gt h']; decide
/-- two lists of one length are equal, or differ first at some place -/
theorem first_diff {a b : List Int} (hl : a.length = b.length) : (∀ i, i < a.length → a.getD i 0 = b.getD i 0) ∨ ∃ k, k < a.length ∧ (∀ i, i < k → a.getD i 0 = b.getD i 0) ∧ a.getD k 0 ≠ b.getD k 0 := by
  suffices h : ∀ n, n ≤ a.length → (∀ i, i < n → a.getD i 0 = b.getD i 0) ∨ ∃ k, k < n ∧ (∀ i, i < k → a.getD i 0 = b.getD i 0) ∧ a.getD k 0 ≠ b.getD k 0 by
    exact h a.length (Nat.le_refl _)
  intro n
  induction n with
  | zero => intro _; exact .inl fun i hi => by omega
  | succ n ih =>
    intro hn
    rcases ih (by omega) with h | ⟨k, hk, h⟩
    · by_cases he : a.getD n 0 = b.getD n 0
      · refine .inl fun i hi => ?_
        by_cases e : i = n
        · subst e; exact he
        · exact h i (by omega)
      · exact .inr ⟨n, by omega, h, he⟩
    · exact .inr ⟨k, by omega, h⟩
theorem compL_anti (p q : List Int) : compL q p = - compL p q := by
  by_cases hl : p.length = q.length
  · rw [compL_same hl, compL_same hl.symm]
    rcases first_diff hl with h | ⟨k, hk, h, hne⟩
    · rw [lexL_none hl h, lexL_none hl.symm fun i hi => (h i (by omega)).symm]; rfl
    · rw [lexL_at hl k hk h hne, lexL_at hl.symm k (by omega) (fun i hi => (h i hi).symm) (Ne.symm hne)]
      exact cmpI_anti _ _
  · rw [compL_diff hl, compL_diff (Ne.symm hl)]
    exact cmpI_anti _ _
theorem compL_range (p q : List Int) : -1 ≤ compL p q ∧ compL p q ≤ 1 := by
  by_cases hl : p.length = q.length
  · rw [compL_same hl]
    rcases first_diff hl with h | ⟨k, hk, h, hne⟩
    · rw [lexL_none hl h]; decide
    · rw [lexL_at hl k hk h hne]; exact cmpI_range _ _
  · rw [compL_diff hl]; exact cmpI_range _ _
theorem compL_zero (p q : List Int) : (compL p q == 0) = sameL p q := by
  by_cases hl : p.length = q.length
  · rw [compL_same hl]
    rcases first_diff hl with h | ⟨k, hk, h, hne⟩
    · rw [lexL_none hl h]
      have := list_ext hl h
      subst this
      simp [sameL]
    · rw [lexL_at hl k hk h hne]
      have hn : p ≠ q := by rintro rfl; exact hne rfl
      rw [show sameL p q = false from by simp [sameL, hn]]
      exact beq_eq_false_iff_ne.2 (cmpI_ne hne)
  · rw [compL_diff hl]
    have hn : p ≠ q := by rintro rfl; exact hl rfl
    have hc : cmpI (p.length : Int) (q.length : Int) ≠ 0 := cmpI_ne (by omega)
    simp [sameL, hn, hc]
theorem compL_self (p : List Int) : compL p p = 0 := by rw [compL_same rfl]; exact lexL_none rfl fun i hi => rfl

theorem clash_is {h : Nat → Int} {n i k : Nat} (hc : clash h n = some (i, k)) : i < k ∧ k < n ∧ h i = h k := by
  unfold clash at hc
  obtain ⟨k', hk', hm⟩ := List.exists_of_findSome?_eq_some hc
  cases ha : clashAt h k' with
  | none => rw [ha] at hm; simp at hm
  | some i' =>
    rw [ha] at hm
    simp at hm
    obtain ⟨rfl, rfl⟩ := hm
    unfold clashAt at ha
    have h1 := List.find?_some ha
    have h2 := List.mem_of_find?_eq_some ha
    simp at h1 h2 hk'
    exact ⟨h2, hk', h1⟩
end Go.Proofs.Ytjhijmaolnngmaa
