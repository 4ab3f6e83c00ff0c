/- What a walk is told of a state that came in, and how the laws copy and compare states. No conditions. -/
import Derived.Test.YtdghbbnddgngoaaStB
import Derived.Test.YtdghbbnddgngoaaRows
import Derived.WalkKit
import Derived.ProofKit
import Derived.OpenShut
import Derived.ShutString
import Derived.ChangeSame
namespace Go.Proofs.Ytdghbbnddgngoaa
open Go.ChangeShapes Go.WideShapes Go.ChangeAt Go.RowKit
set_option linter.unusedVariables false
set_option linter.unusedSimpArgs false

/-- a variable of two cells -/
def StTwo (w : World) (b : Nat) (u v : Value) : Prop := w.cell? ⟨b, 0, none⟩ = some u ∧ w.cell? ⟨b, 1, none⟩ = some v
theorem StTwo.lt {w : World} {b : Nat} {u v : Value} (h : StTwo w b u v) : b < w.heap.size := cell_block h.1
theorem StTwo.below {w w' : World} {b : Nat} {u v : Value} (h : StTwo w b u v) (hb : Below w.heap.size w w') : StTwo w' b u v :=
  ⟨(hb.cell (p := ⟨b, 0, none⟩) h.lt).trans h.1, (hb.cell (p := ⟨b, 1, none⟩) h.lt).trans h.2⟩
theorem StTwo.made (w : World) (u v : Value) (T : TypeId) : StTwo (w.alloc (.cells #[u, v] T)) w.heap.size u v := by
  refine ⟨?_, ?_⟩ <;> simp
theorem StTwo.block {w w' : World} {b : Nat} {u v : Value} (h : StTwo w b u v) (e : w'.heap[b]? = w.heap[b]?) : StTwo w' b u v := by
  refine ⟨?_, ?_⟩
  · rw [← h.1]; simp only [World.cell?, e]
  · rw [← h.2]; simp only [World.cell?, e]
theorem alT (w : World) (u v : Value) (T : TypeId) : Below w.heap.size w (w.alloc (.cells #[u, v] T)) := (Below.refl _ _).alloc (Nat.le_refl _) _

end Go.Proofs.Ytdghbbnddgngoaa
