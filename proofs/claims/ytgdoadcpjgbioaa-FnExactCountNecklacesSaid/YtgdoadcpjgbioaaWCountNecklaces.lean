/- The walk of the law FnExactCountNecklaces: it returns true, and writes nothing that was there. Conditions: none. -/
import Derived.Test.YtgdoadcpjgbioaaInts
import Derived.Test.YtgdoadcpjgbioaaCtE
namespace Go.Proofs.Ytgdoadcpjgbioaa
open Go.RowKit
set_option linter.unusedSimpArgs false
set_option linter.unusedVariables false

set_option maxHeartbeats 1000000 in
theorem walk_CountNecklaces (a0 : Int) (a1 : Int) (w0 : (Lit.int .i64 a0).wf = true) (w1 : (Lit.int .i64 a1).wf = true) (w : World) :
    Calls Try.prog 10 #[.int .i64 a0, .int .i64 a1] w fun e w' => e = .returned (.bool true) ∧ Below w.heap.size w w' := by
  have BB := Below.refl w.heap.size w
  go_enter Try.func10, Try.ntmps10
  go_wp2_with fail
  refine (countNecklaces_spec _ _ _ ).mono ?_
  rintro e u1 ⟨rfl, bb⟩
  have S1 : w.heap.size ≤ u1.heap.size := bb.size
  replace BB := BB.trans (bb.mono BB.size)
  clear bb
  go_wp2_with fail
  refine (countNecklaces_impl _ _ _ ).mono ?_
  rintro e u2 ⟨rfl, bb⟩
  have S2 : u1.heap.size ≤ u2.heap.size := bb.size
  replace BB := BB.trans (bb.mono BB.size)
  clear bb
  go_wp2
  go_ret
  exact ⟨rfl, BB⟩
end Go.Proofs.Ytgdoadcpjgbioaa
