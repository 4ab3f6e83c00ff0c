/- Multiplex: SingleOf, the model's and the program's. Conditions: beats of at most 10^7 throws for the program's. -/
import Derived.Test.YtgjmhihomklooaaLandI
namespace Go.Proofs.Ytgjmhihomklooaa
open Go.RowKit
set_option linter.unusedSimpArgs false
set_option linter.unusedVariables false

def onesB (pss : List (List Int)) : Bool := pss.all (fun b => decide (b.length ≤ 1))
def heads (pss : List (List Int)) : List Int := pss.map (fun b => b.getD 0 0)
def singC (pss : List (List Int)) : Int := if okM pss then (if onesB pss then 0 else 10) else 1
def singR (pss : List (List Int)) : List Int := if okM pss then (if onesB pss then heads pss else []) else []
theorem heads_len (pss : List (List Int)) : (heads pss).length = pss.length := by simp [heads]
theorem heads_at (pss : List (List Int)) (k : Nat) (hk : k < pss.length) : (heads pss).getD k 0 = (pss.getD k []).getD 0 0 := by simp [heads, hk]
theorem heads_take (pss : List (List Int)) (k : Nat) (hk : k < pss.length) : (heads pss).take (k + 1) = (heads pss).take k ++ [(pss.getD k []).getD 0 0] := by
  rw [List.take_succ_eq_append_getElem (by rw [heads_len]; exact hk)]
  congr 2
  simp [heads, hk]
theorem heads_set (pss : List (List Int)) (k : Nat) (hk : k < pss.length) : ((heads pss).take k ++ List.replicate (pss.length - k) 0).set k ((pss.getD k []).getD 0 0) = (heads pss).take (k + 1) ++ List.replicate (pss.length - (k + 1)) 0 := by
  have h := take_set_next (heads pss) pss.length k hk (by rw [heads_len]; exact Nat.le_refl _)
  rwa [heads_at pss k hk] at h
theorem ones_bad {pss : List (List Int)} (k : Nat) (hk : k < pss.length) (h : 1 < (pss.getD k []).length) : onesB pss = false := by
  unfold onesB
  rw [List.all_eq_false]
  refine ⟨pss.getD k [], ?_, by simp; simpa using h⟩
  rw [show pss.getD k [] = pss[k] by simp [hk]]
  exact List.getElem_mem hk
theorem ones_good {pss : List (List Int)} (h : ∀ i, i < pss.length → (pss.getD i []).length ≤ 1) : onesB pss = true := by
  unfold onesB
  rw [List.all_eq_true]
  intro b hb
  obtain ⟨i, hi, rfl⟩ := List.getElem_of_mem hb
  have := h i hi
  rw [show pss.getD i [] = pss[i] by simp [hi]] at this
  simpa using this
theorem sing_bad {pss : List (List Int)} (h : okM pss = true) (h1 : onesB pss = false) : singC pss = 10 ∧ singR pss = [] := by simp [singC, singR, h, h1]
theorem sing_good {pss : List (List Int)} (h : okM pss = true) (h1 : onesB pss = true) : singC pss = 0 ∧ singR pss = heads pss := by simp [singC, singR, h, h1]
theorem singR_len (pss : List (List Int)) : (singR pss).length ≤ 12 := by
  unfold singR
  by_cases h : okM pss = true
  · rw [if_pos h]
    split
    · rw [heads_len]; exact (shapeL_num (okM_shape h)).2
    · simp
  · rw [if_neg h]; simp
/-- rows, with at least one throw each -/
theorem rows_pos {pss : List (List Int)} (hs : shapeL pss = true) (i : Nat) (hi : i < pss.length) : 1 ≤ (pss.getD i []).length := (rowOk_num (shapeL_at hs i hi)).1

end Go.Proofs.Ytgjmhihomklooaa
