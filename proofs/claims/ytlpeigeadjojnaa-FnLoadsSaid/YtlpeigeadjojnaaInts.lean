/- The law's own helpers on slices of int64: toInt64S copies, eqInt64S compares, markInt64S writes counting numbers, heldInt64S asks for them. No conditions but that a slice is of at most 2^20 elements. -/
import Derived.Test.YtlpeigeadjojnaaBase
namespace Go.Proofs.Ytlpeigeadjojnaa
open Go.RowKit
set_option linter.unusedSimpArgs false
set_option linter.unusedVariables false

theorem take_set_next (zs : List Int) (n k : Nat) (hk : k < n) (hn : n ≤ zs.length) :
    (zs.take k ++ List.replicate (n - k) 0).set k (zs.getD k 0) = zs.take (k + 1) ++ List.replicate (n - (k + 1)) 0 := by
  apply List.ext_getElem
  · simp; omega
  · intro i h1 h2
    simp at h1
    simp only [List.getElem_set, List.getElem_append, List.length_take, List.getElem_take, List.getElem_replicate]
    by_cases hik : k = i
    · subst hik
      simp [show k < min (k + 1) zs.length from by omega, List.getElem?_eq_getElem (show k < zs.length by omega)]
    · rw [if_neg hik]
      by_cases hlt : i < k
      · rw [dif_pos (by omega), dif_pos (by omega)]
      · rw [dif_neg (by omega), dif_neg (by omega)]

/-- The n numbers from k on. -/
def ups (k : Int) (n : Nat) : List Int := (List.range n).map (fun (i : Nat) => k + (i : Int))
theorem ups_len (k : Int) (n : Nat) : (ups k n).length = n := by simp [ups]
theorem ups_get (k : Int) (n j : Nat) (h : j < n) : (ups k n).getD j 0 = k + j := by
  unfold ups
  rw [List.getD_eq_getElem?_getD, List.getElem?_map, List.getElem?_range h]
  rfl
theorem ups_set (k : Int) (xs : List Int) (j : Nat) (h : j < xs.length) : (ups k j ++ xs.drop j).set j (k + j) = ups k (j + 1) ++ xs.drop (j + 1) := by
  apply List.ext_getElem
  · simp [ups]; omega
  · intro i h1 h2
    simp [ups] at h1
    simp only [ups, List.getElem_set, List.getElem_append, List.length_map, List.length_range, List.getElem_map, List.getElem_range, List.getElem_drop]
    by_cases hik : j = i
    · subst hik
      simp
    · rw [if_neg hik]
      by_cases hlt : i < j
      · rw [dif_pos (by omega), dif_pos (by omega)]
      · rw [dif_neg (by omega), dif_neg (by omega)]
        congr 1; omega

end Go.Proofs.Ytlpeigeadjojnaa
