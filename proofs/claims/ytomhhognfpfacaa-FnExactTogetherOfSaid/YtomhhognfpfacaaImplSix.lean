/- The program's chapter 3, fourth part: ReversePattern, IsSymmetric, DualPattern answer as the plain mathematics says. No conditions. -/
import Derived.Test.YtomhhognfpfacaaImplFiv
namespace Go.Proofs.Ytomhhognfpfacaa
open Go.RowKit
set_option linter.unusedSimpArgs false
set_option linter.unusedVariables false

/-- is a list a pattern that is its own reversal, up to rotation? -/
def symB (p : List Int) : Bool := okPat p && sameL (canL p) (canL (revL p))

/-- a list whose first and last k numbers are exchanged -/
def flipL (p : List Int) (k : Nat) : List Int := (List.range p.length).map (fun x => if x < k ∨ p.length ≤ x + k then p.getD (p.length - 1 - x) 0 else p.getD x 0)
theorem flipL_len (p : List Int) (k : Nat) : (flipL p k).length = p.length := by simp [flipL]
theorem flipL_get (p : List Int) (k x : Nat) (hx : x < p.length) : (flipL p k).getD x 0 = if x < k ∨ p.length ≤ x + k then p.getD (p.length - 1 - x) 0 else p.getD x 0 := getD_mk _ _ _ hx
theorem flipL_zero (p : List Int) : flipL p 0 = p := ext_getD (flipL_len _ _) fun i hi => by
  rw [flipL_len] at hi
  rw [flipL_get p 0 i hi, if_neg (by omega)]
theorem flipL_step (p : List Int) (k j : Nat) (h : k + j + 1 = p.length) (hkj : k < j) : ((flipL p k).set k (p.getD j 0)).set j (p.getD k 0) = flipL p (k + 1) := by
  refine ext_getD (by simp [flipL_len]) fun i hi => ?_
  simp [flipL_len] at hi
  rw [getD_upd _ _ _ _ (by simp [flipL_len]; omega), getD_upd _ _ _ _ (by rw [flipL_len]; omega), flipL_get p _ i hi, flipL_get p _ i hi]
  by_cases h1 : i = j
  · rw [if_pos h1, if_pos (by omega)]; congr 1; omega
  · rw [if_neg h1]
    by_cases h2 : i = k
    · rw [if_pos h2, if_pos (by omega)]; congr 1; omega
    · rw [if_neg h2]
      by_cases h3 : i < k ∨ p.length ≤ i + k
      · rw [if_pos h3, if_pos (by omega)]
      · rw [if_neg h3, if_neg (by omega)]
theorem flipL_end (p : List Int) (k j : Nat) (h : k + j + 1 = p.length) (hkj : ¬ k < j) : flipL p k = (List.range p.length).map (fun x => p.getD (p.length - 1 - x) 0) := by
  refine ext_getD (by simp [flipL_len]) fun i hi => ?_
  rw [flipL_len] at hi
  rw [flipL_get p k i hi, getD_mk _ _ _ hi]
  by_cases h3 : i < k ∨ p.length ≤ i + k
  · rw [if_pos h3]
  · rw [if_neg h3]; congr 1; omega

/-- a list backwards -/
def backL (p : List Int) : List Int := (List.range p.length).map (fun x => p.getD (p.length - 1 - x) 0)
theorem backL_len (p : List Int) : (backL p).length = p.length := by simp [backL]
theorem backL_get (p : List Int) (k : Nat) (hk : k < p.length) : (backL p).getD k 0 = p.getD (p.length - 1 - k) 0 := getD_mk _ _ _ hk
end Go.Proofs.Ytomhhognfpfacaa
