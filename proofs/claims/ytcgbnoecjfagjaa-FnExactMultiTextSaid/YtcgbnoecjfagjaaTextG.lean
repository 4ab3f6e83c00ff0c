/- Plain mathematics of the texts of multiplex patterns. It imports no program but for the digits. No conditions. -/
import Derived.Test.YtcgbnoecjfagjaaText
import Derived.Test.YtcgbnoecjfagjaaMul
namespace Go.Proofs.Ytcgbnoecjfagjaa
open Go.RowKit
set_option linter.unusedSimpArgs false
set_option linter.unusedVariables false

/-- the text of a beat -/
def rowT (b : List Int) : List UInt8 := if 1 < b.length then 91 :: (textL b ++ [93]) else textL b
/-- the text of beats -/
def textG (p : List (List Int)) : List UInt8 := p.flatMap rowT
theorem rowT_many {b : List Int} (h : 1 < b.length) : rowT b = 91 :: (textL b ++ [93]) := by rw [rowT, if_pos h]
theorem rowT_one {b : List Int} (h : ¬ 1 < b.length) : rowT b = textL b := by rw [rowT, if_neg h]
theorem rowT_len {b : List Int} (h : b.length ≤ 4) : (rowT b).length ≤ 6 := by
  unfold rowT
  split
  · simp [textL_len]; omega
  · rw [textL_len]; omega
theorem textG_take (p : List (List Int)) (k : Nat) (hk : k < p.length) : textG (p.take (k + 1)) = textG (p.take k) ++ rowT (p.getD k []) := by
  rw [textG, textG, List.take_succ_eq_append_getElem hk, List.flatMap_append]
  congr 1
  simp [hk]
theorem textG_len : ∀ (p : List (List Int)), (∀ i, i < p.length → (p.getD i []).length ≤ 4) → (textG p).length ≤ 6 * p.length
  | [], _ => by simp [textG]
  | a :: r, h => by
    have h0 := h 0 (by simp)
    have h1 := textG_len r fun i hi => by have := h (i + 1) (by simp; omega); simpa using this
    have h2 := rowT_len (b := a) (by simpa using h0)
    simp only [textG, List.flatMap_cons, List.length_append, List.length_cons] at h1 ⊢
    omega
theorem textG_takes {p : List (List Int)} (hs : shapeL p = true) (k : Nat) : (textG (p.take k)).length ≤ 72 := by
  have hn := shapeL_num hs
  have := textG_len (p.take k) fun i hi => by
    rw [List.length_take] at hi
    have e : (p.take k).getD i [] = p.getD i [] := by
      rw [List.getD_eq_getElem?_getD, List.getElem?_take, if_pos (by omega), ← List.getD_eq_getElem?_getD]
    rw [e]
    exact (rowOk_num (shapeL_at hs i (by omega))).2
  rw [List.length_take] at this
  omega
theorem textG_pos {p : List (List Int)} (hs : shapeL p = true) : textG p ≠ [] := by
  have hn := shapeL_num hs
  have h0 := rowOk_num (shapeL_at hs 0 (by omega))
  match p, hn with
  | a :: r, _ =>
    have h0 : 1 ≤ a.length := by simpa using h0.1
    intro e
    have e2 : rowT a = [] := by
      have := congrArg List.length e
      simp only [textG, List.flatMap_cons, List.length_append, List.length_nil] at this
      exact List.length_eq_zero_iff.1 (by omega)
    unfold rowT at e2
    split at e2
    · cases e2
    · have := congrArg List.length e2
      rw [textL_len] at this
      simp at this
      simp [this] at h0
/-- what MultiText answers -/
def textM (p : List (List Int)) : ByteArray := if okM p then bytesOf (textG p) else bytesOf []
theorem textM_true {p : List (List Int)} (h : okM p = true) : textM p = bytesOf (textG p) := by rw [textM, if_pos h]
theorem textM_false {p : List (List Int)} (h : okM p = false) : textM p = bytesOf [] := by rw [textM, if_neg (by simp [h])]
theorem rowOk_throws {b : List Int} (h : rowOk b = true) (k : Nat) (hk : k < b.length) : 0 ≤ b.getD k 0 ∧ b.getD k 0 ≤ 15 := (okAtB_parts (rowOk_at h k hk)).1

end Go.Proofs.Ytcgbnoecjfagjaa
