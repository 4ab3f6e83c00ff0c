/- The walk of the law FnExactMobius: it returns true, and writes nothing that was there. Conditions: none. -/
import Derived.Test.YtgdoadcpjgbioaaInts
import Derived.Test.YtgdoadcpjgbioaaCtD
namespace Go.Proofs.Ytgdoadcpjgbioaa
open Go.RowKit
set_option linter.unusedSimpArgs false
set_option linter.unusedVariables false

set_option maxHeartbeats 1000000 in
theorem walk_Mobius (a0 : Int) (w0 : (Lit.int .i64 a0).wf = true) (w : World) :
    Calls Try.prog 11 #[.int .i64 a0] w fun e w' => e = .returned (.bool true) ∧ Below w.heap.size w w' := by
  have BB := Below.refl w.heap.size w
  go_enter Try.func11, Try.ntmps11
  go_wp2_with fail
  refine (mobius_spec _ _ ).mono ?_
  rintro e u1 ⟨rfl, bb⟩
  have S1 : w.heap.size ≤ u1.heap.size := bb.size
  replace BB := BB.trans (bb.mono BB.size)
  clear bb
  go_wp2_with fail
  refine (mobius_impl _ _ ).mono ?_
  rintro e u2 ⟨rfl, bb⟩
  have S2 : u1.heap.size ≤ u2.heap.size := bb.size
  replace BB := BB.trans (bb.mono BB.size)
  clear bb
  go_wp2
  go_ret
  exact ⟨rfl, BB⟩
end Go.Proofs.Ytgdoadcpjgbioaa
