/- The states of one kind, the model's: StateIndex, StateAt. No conditions. -/
import Derived.Test.YtdghbbnddgngoaaGpS
import Derived.Deep.RegionHeld3
namespace Go.Proofs.Ytdghbbnddgngoaa
open Go.RowKit
set_option linter.unusedSimpArgs false
set_option linter.unusedVariables false

theorem bel_alGp {w w' : World} (h : Below w.heap.size w w') (o : Obj) : Below w.heap.size w (w'.alloc o) := h.alloc h.size o

end Go.Proofs.Ytdghbbnddgngoaa
