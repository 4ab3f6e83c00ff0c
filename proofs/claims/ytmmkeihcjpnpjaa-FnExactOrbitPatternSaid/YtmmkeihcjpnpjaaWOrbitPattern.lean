/- The walk of the law FnExactOrbitPattern: it returns true, and writes nothing that was there. Conditions: none. -/
import Derived.Test.YtmmkeihcjpnpjaaInts
import Derived.Test.YtmmkeihcjpnpjaaOrP
namespace Go.Proofs.Ytmmkeihcjpnpjaa
open Go.RowKit
set_option linter.unusedSimpArgs false
set_option linter.unusedVariables false

set_option maxHeartbeats 1000000 in
theorem walk_OrbitPattern (a0 : Option Addr) (len0 cap0 : Nat) (z0 : List Int) (a1 : Int) (w : World) (w0 : IsRow .i64 w a0 len0 cap0 z0) (w1 : (Lit.int .i64 a1).wf = true) :
    Calls Try.prog 8 #[.slice a0 len0 cap0, .int .i64 a1] w fun e w' => e = .returned (.bool true) ∧ Below w.heap.size w w' := by
  by_cases hbig0 : len0 ≤ 1048576
  · skip
    have hl0 := w0.parts.1
    have ht0 : (z0.take len0).length = len0 := by simp; omega
    have hle0 : (z0.take len0).length ≤ 1048576 := by omega
    clear hl0 ht0
    have hx0 := opA_len (z0.take len0) a1
    have BB := Below.refl w.heap.size w
    go_enter Try.func8, Try.ntmps8
    go_wp2_with fail
    refine (toInt64S_any a0 len0 cap0 z0 _ (w0.below BB) hbig0).mono ?_
    rintro e u1 ⟨rfl, I1, bb⟩
    have S1 : w.heap.size ≤ u1.heap.size := bb.size
    replace BB := BB.trans (bb.mono BB.size)
    clear bb
    have UI1 := I1.under
    go_wp2_with fail
    refine (orbitPattern_spec _ _ _ _ _ I1).mono ?_
    rintro e u2 ⟨v2, rfl, I2, bb⟩
    replace I1 := I1.below bb
    have S2 : u1.heap.size ≤ u2.heap.size := bb.size
    replace BB := BB.trans (bb.mono BB.size)
    clear bb
    have UI2 := I2.under
    clear UI1 I1
    go_wp2_with fail
    refine (toInt64S_any a0 len0 cap0 z0 _ (w0.below BB) hbig0).mono ?_
    rintro e u3 ⟨rfl, I3, bb⟩
    replace I2 := I2.below bb
    have S3 : u2.heap.size ≤ u3.heap.size := bb.size
    replace BB := BB.trans (bb.mono BB.size)
    clear bb
    have UI3 := I3.under
    go_wp2_with fail
    refine (orbitPattern_impl _ _ _ _ _ I3).mono ?_
    rintro e u4 ⟨v4, rfl, I4, bb⟩
    replace I2 := I2.below bb
    replace I3 := I3.below bb
    have S4 : u3.heap.size ≤ u4.heap.size := bb.size
    replace BB := BB.trans (bb.mono BB.size)
    clear bb
    have UI4 := I4.under
    go_wp2_with fail
    refine (eqInt64S_any _ _ _ _ _ _ I4 I2).mono ?_
    rintro e u5 ⟨rfl, bb⟩
    replace I2 := I2.below bb
    replace I3 := I3.below bb
    replace I4 := I4.below bb
    have S5 : u4.heap.size ≤ u5.heap.size := bb.size
    replace BB := BB.trans (bb.mono BB.size)
    clear bb
    go_wp2_with fail
    refine (toInt64S_any a0 len0 cap0 z0 _ (w0.below BB) hbig0).mono ?_
    rintro e u6 ⟨rfl, I5, bb⟩
    replace I2 := I2.below bb
    replace I3 := I3.below bb
    replace I4 := I4.below bb
    have S6 : u5.heap.size ≤ u6.heap.size := bb.size
    replace BB := BB.trans (bb.mono BB.size)
    clear bb
    have UI5 := I5.under
    go_wp2_with fail
    refine (eqInt64S_any _ _ _ _ _ _ I3 I5).mono ?_
    rintro e u7 ⟨rfl, bb⟩
    replace I2 := I2.below bb
    replace I3 := I3.below bb
    replace I4 := I4.below bb
    replace I5 := I5.below bb
    have S7 : u6.heap.size ≤ u7.heap.size := bb.size
    replace BB := BB.trans (bb.mono BB.size)
    clear bb
    clear UI5 I5
    go_wp2_with fail
    refine (markInt64S_any _ _ _ _ _ I3 (by omega) (by omega)).mono ?_
    rintro e u8 ⟨rfl, NN, gr⟩
    have S8 : u7.heap.size ≤ u8.heap.size := gr.size
    replace BB := marked_below BB I3 (by omega) gr
    replace I2 := I2.kept_before UI2 gr I3 (by omega)
    replace I4 := I4.kept_after gr UI3 (by omega)
    replace I3 := NN
    clear NN gr
    go_wp2_with fail
    refine (eqInt64S_any _ _ _ _ _ _ I4 I2).mono ?_
    rintro e u9 ⟨rfl, bb⟩
    replace I2 := I2.below bb
    replace I3 := I3.below bb
    replace I4 := I4.below bb
    have S9 : u8.heap.size ≤ u9.heap.size := bb.size
    replace BB := BB.trans (bb.mono BB.size)
    clear bb
    go_wp2_with fail
    refine (markInt64S_any _ _ _ _ _ I4 (by omega) (by omega)).mono ?_
    rintro e u10 ⟨rfl, NN, gr⟩
    have S10 : u9.heap.size ≤ u10.heap.size := gr.size
    replace BB := marked_below BB I4 (by omega) gr
    replace I2 := I2.kept_before UI2 gr I4 (by omega)
    replace I3 := I3.kept_before UI3 gr I4 (by omega)
    replace I4 := NN
    clear NN gr
    go_wp2_with fail
    refine (heldInt64S_any _ _ _ _ _ I4 (by omega) (by omega)).mono ?_
    rintro e u11 ⟨rfl, bb⟩
    replace I2 := I2.below bb
    replace I3 := I3.below bb
    replace I4 := I4.below bb
    have S11 : u10.heap.size ≤ u11.heap.size := bb.size
    replace BB := BB.trans (bb.mono BB.size)
    clear bb
    go_wp2_with fail
    refine (toInt64S_any a0 len0 cap0 z0 _ (w0.below BB) hbig0).mono ?_
    rintro e u12 ⟨rfl, I6, bb⟩
    replace I2 := I2.below bb
    replace I3 := I3.below bb
    replace I4 := I4.below bb
    have S12 : u11.heap.size ≤ u12.heap.size := bb.size
    replace BB := BB.trans (bb.mono BB.size)
    clear bb
    have UI6 := I6.under
    go_wp2_with fail
    refine (orbitPattern_impl _ _ _ _ _ I6).mono ?_
    rintro e u13 ⟨v7, rfl, I7, bb⟩
    replace I2 := I2.below bb
    replace I3 := I3.below bb
    replace I4 := I4.below bb
    replace I6 := I6.below bb
    have S13 : u12.heap.size ≤ u13.heap.size := bb.size
    replace BB := BB.trans (bb.mono BB.size)
    clear bb
    have UI7 := I7.under
    clear UI6 I6
    go_wp2_with fail
    refine (eqInt64S_any _ _ _ _ _ _ I7 I2).mono ?_
    rintro e u14 ⟨rfl, bb⟩
    replace I2 := I2.below bb
    replace I3 := I3.below bb
    replace I4 := I4.below bb
    replace I7 := I7.below bb
    have S14 : u13.heap.size ≤ u14.heap.size := bb.size
    replace BB := BB.trans (bb.mono BB.size)
    clear bb
    go_wp2_with fail
    refine (heldInt64S_any _ _ _ _ _ I4 (by omega) (by omega)).mono ?_
    rintro e u15 ⟨rfl, bb⟩
    replace I2 := I2.below bb
    replace I3 := I3.below bb
    replace I4 := I4.below bb
    replace I7 := I7.below bb
    have S15 : u14.heap.size ≤ u15.heap.size := bb.size
    replace BB := BB.trans (bb.mono BB.size)
    clear bb
    go_wp2
    go_ret
    exact ⟨rfl, BB⟩
  · have hb0 : (1048576 : Int) < (len0 : Int) := by omega
    have hm0 := w0.parts.2.1
    unfold maxLen at hm0
    go_enter Try.func8, Try.ntmps8
    go_wp2
    go_ret
    exact ⟨rfl, Below.refl _ _⟩
end Go.Proofs.Ytmmkeihcjpnpjaa
