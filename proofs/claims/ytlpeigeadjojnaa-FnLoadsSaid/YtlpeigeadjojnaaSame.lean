/- The laws' helpers a2Same (are two lists equal?) and a2Long (are there more than 3000 bytes?). No conditions. -/
import Derived.Test.YtlpeigeadjojnaaComp
namespace Go.Proofs.Ytlpeigeadjojnaa
open Go.RowKit
set_option linter.unusedSimpArgs false
set_option linter.unusedVariables false

/-- are two lists equal? -/
def sameL (p q : List Int) : Bool := decide (p = q)
theorem list_ext {a b : List Int} (hl : a.length = b.length) (h : ∀ i, i < a.length → a.getD i 0 = b.getD i 0) : a = b := by
  apply List.ext_getElem hl
  intro i h1 h2
  have := h i h1
  rw [List.getD_eq_getElem?_getD, List.getD_eq_getElem?_getD, List.getElem?_eq_getElem h1, List.getElem?_eq_getElem h2] at this
  simpa using this

/-- is one of two lists of bytes too long? -/
def longL (n m : Nat) : Bool := decide (3000 < n) || decide (3000 < m)
end Go.Proofs.Ytlpeigeadjojnaa
