/- The props in order: which prop is thrown at each beat from 0 on, in plain mathematics. No conditions. -/
import Derived.Test.YtlpeigeadjojnabPat
namespace Go.Proofs.Ytlpeigeadjojnab
set_option linter.unusedSimpArgs false
set_option linter.unusedVariables false

/-- the props that are thrown at the first k beats, and how many of them there are -/
def ordS (p : List Int) : Nat → List Int × Nat
  | 0 => ([], 0)
  | k + 1 => if atL p (k : Int) = 0 then ((ordS p k).1 ++ [-1], (ordS p k).2)
     else if fromL p (k : Int) < 0 then ((ordS p k).1 ++ [((ordS p k).2 : Int)], (ordS p k).2 + 1)
     else ((ordS p k).1 ++ [(ordS p k).1.getD (fromL p (k : Int)).toNat 0], (ordS p k).2)
def ordA (p : List Int) (k : Nat) : List Int := (ordS p k).1
def ordN (p : List Int) (k : Nat) : Nat := (ordS p k).2
theorem ord_zero {p : List Int} {k : Nat} (h : atL p (k : Int) = 0) : ordA p (k + 1) = ordA p k ++ [-1] ∧ ordN p (k + 1) = ordN p k := by
  simp [ordA, ordN, ordS, h]
theorem ord_new {p : List Int} {k : Nat} (h : ¬ atL p (k : Int) = 0) (h2 : fromL p (k : Int) < 0) : ordA p (k + 1) = ordA p k ++ [(ordN p k : Int)] ∧ ordN p (k + 1) = ordN p k + 1 := by
  simp [ordA, ordN, ordS, h, h2]
theorem ord_old {p : List Int} {k : Nat} (h : ¬ atL p (k : Int) = 0) (h2 : ¬ fromL p (k : Int) < 0) : ordA p (k + 1) = ordA p k ++ [(ordA p k).getD (fromL p (k : Int)).toNat 0] ∧ ordN p (k + 1) = ordN p k := by
  simp [ordA, ordN, ordS, h, h2]
theorem ordA_zero (p : List Int) : ordA p 0 = [] := rfl
theorem ordN_zero (p : List Int) : ordN p 0 = 0 := rfl
theorem ordA_len (p : List Int) (k : Nat) : (ordA p k).length = k := by
  induction k with
  | zero => rfl
  | succ k ih =>
    by_cases h : atL p (k : Int) = 0
    · rw [(ord_zero h).1, List.length_append, ih]; rfl
    · by_cases h2 : fromL p (k : Int) < 0
      · rw [(ord_new h h2).1, List.length_append, ih]; rfl
      · rw [(ord_old h h2).1, List.length_append, ih]; rfl
theorem ordN_le (p : List Int) (k : Nat) : ordN p k ≤ k := by
  induction k with
  | zero => exact Nat.le_refl _
  | succ k ih =>
    by_cases h : atL p (k : Int) = 0
    · rw [(ord_zero h).2]; omega
    · by_cases h2 : fromL p (k : Int) < 0
      · rw [(ord_new h h2).2]; omega
      · rw [(ord_old h h2).2]; omega
/-- a throw that is not 0 lands from an earlier beat -/
theorem from_before {p : List Int} (hok : okPat p = true) {b : Int} (h : ¬ atL p b = 0) : b - 15 ≤ fromL p b ∧ fromL p b < b := by
  obtain ⟨t, ht, hf, hat, _⟩ := from_spec hok b
  refine ⟨by omega, ?_⟩
  have : t ≠ 0 := by
    intro e
    subst e
    rw [show b - ((0 : Nat) : Int) = b from by simp] at hat
    exact h (by simpa using hat)
  omega
theorem from_upto {p : List Int} (hok : okPat p = true) (b : Int) : b - 15 ≤ fromL p b ∧ fromL p b ≤ b := by
  obtain ⟨t, ht, hf, _, _⟩ := from_spec hok b
  omega
/-- more beats leave the first ones as they are -/
theorem ordA_take (p : List Int) (k m : Nat) : (ordA p (k + m)).take k = ordA p k := by
  induction m with
  | zero => rw [Nat.add_zero, List.take_of_length_le (by rw [ordA_len]; exact Nat.le_refl _)]
  | succ m ih =>
    have hl := ordA_len p (k + m)
    have : ∃ x, ordA p (k + (m + 1)) = ordA p (k + m) ++ [x] := by
      by_cases h : atL p ((k + m : Nat) : Int) = 0
      · exact ⟨_, (ord_zero h).1⟩
      · by_cases h2 : fromL p ((k + m : Nat) : Int) < 0
        · exact ⟨_, (ord_new h h2).1⟩
        · exact ⟨_, (ord_old h h2).1⟩
    obtain ⟨x, hx⟩ := this
    rw [hx, List.take_append_of_le_length (by omega), ih]
theorem ordA_at (p : List Int) {k n : Nat} (h : k < n) : (ordA p n).getD k 0 = (ordA p (k + 1)).getD k 0 := by
  have := ordA_take p (k + 1) (n - (k + 1))
  rw [show k + 1 + (n - (k + 1)) = n from by omega] at this
  rw [← this]
  simp [List.getD_eq_getElem?_getD]

/-- the codes: a pattern, then a number of beats from 0 on -/
def orC (p : List Int) (n hi : Int) : Int := if okPat p then (if inB n 0 hi then 0 else 2) else 1
theorem orC_bad {p : List Int} (n hi : Int) (h : okPat p = false) : orC p n hi = 1 := by simp [orC, h]
theorem orC_far {p : List Int} {n hi : Int} (h : okPat p = true) (h2 : inB n 0 hi = false) : orC p n hi = 2 := by simp [orC, h, h2]
theorem orC_ok {p : List Int} {n hi : Int} (h : okPat p = true) (h2 : inB n 0 hi = true) : orC p n hi = 0 := by simp [orC, h, h2]
/-- PropsInOrder -/
def orA (p : List Int) (n : Int) : List Int := if orC p n 200 = 0 then ordA p n.toNat else []
theorem orA_len (p : List Int) (n : Int) : (orA p n).length ≤ 200 := by
  unfold orA orC
  by_cases h : okPat p = true
  · by_cases h2 : inB n 0 200 = true
    · have := inB_iff.1 h2
      simp [h, h2, ordA_len]
      omega
    · simp [h, h2]
  · simp [h]
/-- PropAt -/
def paA (p : List Int) (n : Int) : Int := if orC p n 199 = 0 then (ordA p (n.toNat + 1)).getD n.toNat 0 else 0
/-- the beats at which a prop is thrown -/
def thF (x : Int) (L : List Int) : Nat → List Int
  | 0 => []
  | k + 1 => if L.getD k 0 = x then thF x L k ++ [(k : Int)] else thF x L k
theorem thF_yes {x : Int} {L : List Int} {k : Nat} (h : L.getD k 0 = x) : thF x L (k + 1) = thF x L k ++ [(k : Int)] := by rw [thF, if_pos h]
theorem thF_no {x : Int} {L : List Int} {k : Nat} (h : ¬ L.getD k 0 = x) : thF x L (k + 1) = thF x L k := by rw [thF, if_neg h]
theorem thF_len (x : Int) (L : List Int) (k : Nat) : (thF x L k).length ≤ k := by
  induction k with
  | zero => exact Nat.le_refl _
  | succ k ih =>
    by_cases h : L.getD k 0 = x
    · rw [thF_yes h, List.length_append]; simp; omega
    · rw [thF_no h]; omega
def thC (p : List Int) (x n : Int) : Int := if okPat p then (if inB n 0 200 && inB x 0 (propsA p - 1) then 0 else 2) else 1
theorem thC_bad {p : List Int} (x n : Int) (h : okPat p = false) : thC p x n = 1 := by simp [thC, h]
def thA (p : List Int) (x n : Int) : List Int := if thC p x n = 0 then thF x (ordA p n.toNat) n.toNat else []
theorem thA_len (p : List Int) (x n : Int) : (thA p x n).length ≤ 200 := by
  unfold thA thC
  by_cases h : okPat p = true
  · by_cases h2 : inB n 0 200 = true
    · by_cases h3 : inB x 0 (propsA p - 1) = true
      · have := inB_iff.1 h2
        have := thF_len x (ordA p n.toNat) n.toNat
        simp [h, h2, h3]
        omega
      · simp [h, h2, h3]
    · simp [h, h2]
  · simp [h]
end Go.Proofs.Ytlpeigeadjojnab
