/- The walk of the law FnExactReadHands: it returns true, and writes nothing that was there. Conditions: none. -/
import Derived.Test.YtbnmbodnjecajaaInts
import Derived.Test.YtbnmbodnjecajaaHdT
namespace Go.Proofs.Ytbnmbodnjecajaa
open Go.RowKit
set_option linter.unusedSimpArgs false
set_option linter.unusedVariables false

set_option maxHeartbeats 1000000 in
theorem walk_ReadHands (a0 : ByteArray) (w0 : a0.size ≤ maxLen) (w : World) :
    Calls Try.prog 13 #[.string a0] w fun e w' => e = .returned (.bool true) ∧ Below w.heap.size w w' := by
  by_cases hbig0 : a0.size ≤ 1048576
  · skip
    have hx0 := rhA_len a0
    have BB := Below.refl w.heap.size w
    go_enter Try.func13, Try.ntmps13
    go_wp2_with fail
    refine (readHands_spec a0 _ hbig0).mono ?_
    rintro e u1 ⟨v1, rfl, I1, bb⟩
    have S1 : w.heap.size ≤ u1.heap.size := bb.size
    replace BB := BB.trans (bb.mono BB.size)
    clear bb
    have UI1 := I1.under
    go_wp2_with fail
    refine (readHands_impl a0 _ hbig0).mono ?_
    rintro e u2 ⟨v2, rfl, I2, bb⟩
    replace I1 := I1.below bb
    have S2 : u1.heap.size ≤ u2.heap.size := bb.size
    replace BB := BB.trans (bb.mono BB.size)
    clear bb
    have UI2 := I2.under
    go_wp2_with fail
    refine (eqInt64S_any _ _ _ _ _ _ I2 I1).mono ?_
    rintro e u3 ⟨rfl, bb⟩
    replace I1 := I1.below bb
    replace I2 := I2.below bb
    have S3 : u2.heap.size ≤ u3.heap.size := bb.size
    replace BB := BB.trans (bb.mono BB.size)
    clear bb
    go_wp2_with fail
    refine (markInt64S_any _ _ _ _ _ I2 (by omega) (by omega)).mono ?_
    rintro e u4 ⟨rfl, NN, gr⟩
    have S4 : u3.heap.size ≤ u4.heap.size := gr.size
    replace BB := marked_below BB I2 (by omega) gr
    replace I1 := I1.kept_before UI1 gr I2 (by omega)
    replace I2 := NN
    clear NN gr
    go_wp2_with fail
    refine (heldInt64S_any _ _ _ _ _ I2 (by omega) (by omega)).mono ?_
    rintro e u5 ⟨rfl, bb⟩
    replace I1 := I1.below bb
    replace I2 := I2.below bb
    have S5 : u4.heap.size ≤ u5.heap.size := bb.size
    replace BB := BB.trans (bb.mono BB.size)
    clear bb
    go_wp2_with fail
    refine (readHands_impl a0 _ hbig0).mono ?_
    rintro e u6 ⟨v3, rfl, I3, bb⟩
    replace I1 := I1.below bb
    replace I2 := I2.below bb
    have S6 : u5.heap.size ≤ u6.heap.size := bb.size
    replace BB := BB.trans (bb.mono BB.size)
    clear bb
    have UI3 := I3.under
    go_wp2_with fail
    refine (eqInt64S_any _ _ _ _ _ _ I3 I1).mono ?_
    rintro e u7 ⟨rfl, bb⟩
    replace I1 := I1.below bb
    replace I2 := I2.below bb
    replace I3 := I3.below bb
    have S7 : u6.heap.size ≤ u7.heap.size := bb.size
    replace BB := BB.trans (bb.mono BB.size)
    clear bb
    go_wp2_with fail
    refine (heldInt64S_any _ _ _ _ _ I2 (by omega) (by omega)).mono ?_
    rintro e u8 ⟨rfl, bb⟩
    replace I1 := I1.below bb
    replace I2 := I2.below bb
    replace I3 := I3.below bb
    have S8 : u7.heap.size ≤ u8.heap.size := bb.size
    replace BB := BB.trans (bb.mono BB.size)
    clear bb
    go_wp2
    go_ret
    exact ⟨rfl, BB⟩
  · have hb0 : (1048576 : Int) < (a0.size : Int) := by omega
    have hm0 := w0
    unfold maxLen at hm0
    go_enter Try.func13, Try.ntmps13
    go_wp2
    go_ret
    exact ⟨rfl, Below.refl _ _⟩
end Go.Proofs.Ytbnmbodnjecajaa
