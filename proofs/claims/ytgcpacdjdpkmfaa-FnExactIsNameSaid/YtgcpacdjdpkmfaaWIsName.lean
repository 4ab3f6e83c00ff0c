/- The walk of the law FnExactIsName: it returns true, and writes nothing that was there. Conditions: none. -/
import Derived.Test.YtgcpacdjdpkmfaaInts
import Derived.Test.YtgcpacdjdpkmfaaName
namespace Go.Proofs.Ytgcpacdjdpkmfaa
open Go.RowKit
set_option linter.unusedSimpArgs false
set_option linter.unusedVariables false

set_option maxHeartbeats 1000000 in
theorem walk_IsName (a0 : ByteArray) (w0 : a0.size ≤ maxLen) (w : World) :
    Calls Try.prog 3 #[.string a0] w fun e w' => e = .returned (.bool true) ∧ Below w.heap.size w w' := by
  by_cases hbig0 : a0.size ≤ 1048576
  · skip
    have BB := Below.refl w.heap.size w
    go_enter Try.func3, Try.ntmps3
    go_wp2_with fail
    refine (isName_spec a0 _ hbig0).mono ?_
    rintro e u1 ⟨rfl, bb⟩
    have S1 : w.heap.size ≤ u1.heap.size := bb.size
    replace BB := BB.trans (bb.mono BB.size)
    clear bb
    go_wp2_with fail
    refine (isName_impl a0 _ hbig0).mono ?_
    rintro e u2 ⟨rfl, bb⟩
    have S2 : u1.heap.size ≤ u2.heap.size := bb.size
    replace BB := BB.trans (bb.mono BB.size)
    clear bb
    go_wp2
    go_ret
    exact ⟨rfl, BB⟩
  · have hb0 : (1048576 : Int) < (a0.size : Int) := by omega
    have hm0 := w0
    unfold maxLen at hm0
    go_enter Try.func3, Try.ntmps3
    go_wp2
    go_ret
    exact ⟨rfl, Below.refl _ _⟩
end Go.Proofs.Ytgcpacdjdpkmfaa
