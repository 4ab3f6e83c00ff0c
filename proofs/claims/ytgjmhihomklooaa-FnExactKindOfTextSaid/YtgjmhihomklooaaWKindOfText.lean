/- The walk of the law FnExactKindOfText: it returns true, and writes nothing that was there. Conditions: none. -/
import Derived.Test.YtgjmhihomklooaaKind
namespace Go.Proofs.Ytgjmhihomklooaa
open Go.RowKit
set_option linter.unusedSimpArgs false
set_option linter.unusedVariables false

set_option maxHeartbeats 1000000 in
theorem walk_KindOfText (s0 : ByteArray) (w : World) (w0 : s0.size ≤ maxLen) :
    Calls Try.prog 8 #[.string s0] w fun e w' => e = .returned (.bool true) ∧ Below w.heap.size w w' := by
  by_cases hbig0 : s0.size ≤ 1048576
  · skip
    have BB := Below.refl w.heap.size w
    go_enter Try.func8, Try.ntmps8
    go_wp2_with fail
    refine (kindOfText_spec s0 _ hbig0).mono ?_
    rintro e u1 ⟨rfl, bb⟩
    have S1 : w.heap.size ≤ u1.heap.size := bb.size
    replace BB := BB.trans (bb.mono BB.size)
    clear bb
    go_wp2_with fail
    refine (kindOfText_impl s0 _ hbig0).mono ?_
    rintro e u2 ⟨rfl, bb⟩
    have S2 : u1.heap.size ≤ u2.heap.size := bb.size
    replace BB := BB.trans (bb.mono BB.size)
    clear bb
    go_wp2
    go_ret
    exact ⟨rfl, BB⟩
  · have hb0 : (1048576 : Int) < (s0.size : Int) := by omega
    have hm0 := w0
    unfold maxLen at hm0
    go_enter Try.func8, Try.ntmps8
    go_wp2
    go_ret
    exact ⟨rfl, Below.refl _ _⟩
end Go.Proofs.Ytgjmhihomklooaa
