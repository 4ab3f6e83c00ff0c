/- Multiplex: MultiOf, the model's and the program's. Conditions: a list of at most 2^20 numbers. -/
import Derived.Test.YtgjmhihomklooaaSingleL
namespace Go.Proofs.Ytgjmhihomklooaa
open Go.RowKit
set_option linter.unusedSimpArgs false
set_option linter.unusedVariables false

/-- what MultiOf answers -/
def ofR (p : List Int) : List (List Int) := if okPat p then singles p else []
def ofC (p : List Int) : Int := if okPat p then 0 else 1
theorem of_bad {p : List Int} (h : okPat p = false) : ofR p = [] ∧ ofC p = 1 := by simp [ofR, ofC, h]
theorem ofR_tot (p : List Int) : totL (ofR p) ≤ 12 := by
  unfold ofR
  by_cases h : okPat p = true
  · rw [if_pos h]
    have h2 := (okPat_len h).2
    have : ∀ q : List Int, totL (singles q) = q.length := fun q => by
      induction q with
      | nil => rfl
      | cons a r ih => simp [singles, totL] at ih ⊢; omega
    rw [this]; exact h2
  · rw [if_neg h]; simp [totL]
theorem of_good {p : List Int} (h : okPat p = true) : ofR p = singles p ∧ ofC p = 0 := by simp [ofR, ofC, h]
theorem Var1.made (w : World) (v : Value) (T : TypeId) : Var1 (w.alloc (.cells #[v] T)) w.heap.size v := by
  have e : (w.alloc (.cells #[v] T)).heap[w.heap.size]? = some (.cells #[v] T) := by
    show (w.heap.push _)[w.heap.size]? = _
    exact Array.getElem?_push_size
  exact ⟨by simp only [World.cell?, e]; rfl, by simp only [World.frozen?, e]; rfl⟩
theorem Var1.below {w w' : World} {b : Nat} {v : Value} (h : Var1 w b v) (hb : Below w.heap.size w w') : Var1 w' b v := h.within (Within.of_below hb w.heap.size w.heap.size) (cell_block h.1)
/-- a result that is a struct of one slice, laid in its variable, and a code behind it -/
theorem grid_out {w1 : World} {b : Nat} {T : TypeId} {B C : Nat} {v : Value} {pss : List (List Int)} (h : Grid T w1 B C v pss) (hb : b < B) (y : Value) : Grid T (w1.setCell ⟨b, 0, none⟩ y) B C v pss :=
  h.keep fun q _ h1 _ => heap_far _ ⟨b, 0, none⟩ _ q (by show b < q; omega)

end Go.Proofs.Ytgjmhihomklooaa
