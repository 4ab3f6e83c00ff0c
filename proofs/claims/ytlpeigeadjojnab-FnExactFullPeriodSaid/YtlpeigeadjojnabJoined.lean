/- The program's joined: the throws of all parts in new memory. Condition: the first part is not empty. -/
import Derived.Test.YtlpeigeadjojnabSees
import Derived.Test.YtlpeigeadjojnabImpl02
import Derived.Test.YtlpeigeadjojnabOps
namespace Go.Proofs.Ytlpeigeadjojnab
open Go.RowKit
set_option linter.unusedSimpArgs false
set_option linter.unusedVariables false

/-- a slice of slices that read as lists -/
def Parts (w : World) (v : Value) (ps : List (List Int)) : Prop :=
  (v = .slice none 0 0 ∧ ps = []) ∨ ∃ g cap, v = .slice (some ⟨g, 0, none⟩) ps.length cap ∧ g < w.heap.size ∧ ps.length ≤ 100 ∧ ∀ i, i < ps.length → ∃ u, w.cell? ⟨g, i, none⟩ = some u ∧ Sees w u (ps.getD i [])

theorem flat_take (ps : List (List Int)) (k : Nat) (hk : k < ps.length) : (ps.take (k + 1)).flatten = (ps.take k).flatten ++ ps.getD k [] := by
  rw [List.take_succ_eq_append_getElem hk, List.flatten_append]
  congr 1
  simp [hk]
theorem parts_len (ps : List (List Int)) (k : Nat) (hk : k ≤ ps.length) : (ps.take k).flatten.length ≤ ps.flatten.length := by
  conv => rhs; rw [← List.take_append_drop k ps]
  rw [List.flatten_append, List.length_append]
  omega

end Go.Proofs.Ytlpeigeadjojnab
