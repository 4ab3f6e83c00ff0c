/- The walk of the law FnExactFullPeriod: it returns true, and writes nothing that was there. Conditions: none. -/
import Derived.Test.YtlpeigeadjojnabInts
import Derived.Test.YtlpeigeadjojnabOrQ
namespace Go.Proofs.Ytlpeigeadjojnab
open Go.RowKit
set_option linter.unusedSimpArgs false
set_option linter.unusedVariables false

set_option maxHeartbeats 1000000 in
theorem walk_FullPeriod (a0 : Option Addr) (len0 cap0 : Nat) (z0 : List Int) (w : World) (w0 : IsRow .i64 w a0 len0 cap0 z0) :
    Calls Try.prog 3 #[.slice a0 len0 cap0] w fun e w' => e = .returned (.bool true) ∧ Below w.heap.size w w' := by
  by_cases hbig0 : len0 ≤ 1048576
  · skip
    have hl0 := w0.parts.1
    have ht0 : (z0.take len0).length = len0 := by simp; omega
    have hle0 : (z0.take len0).length ≤ 1048576 := by omega
    clear hl0 ht0
    have BB := Below.refl w.heap.size w
    go_enter Try.func3, Try.ntmps3
    go_wp2_with fail
    refine (toInt64S_any a0 len0 cap0 z0 _ (w0.below BB) hbig0).mono ?_
    rintro e u1 ⟨rfl, I1, bb⟩
    have S1 : w.heap.size ≤ u1.heap.size := bb.size
    replace BB := BB.trans (bb.mono BB.size)
    clear bb
    go_wp2_with fail
    refine (fullPeriod_spec _ _ _ _ I1).mono ?_
    rintro e u2 ⟨rfl, bb⟩
    replace I1 := I1.below bb
    have S2 : u1.heap.size ≤ u2.heap.size := bb.size
    replace BB := BB.trans (bb.mono BB.size)
    clear bb
    clear I1
    go_wp2_with fail
    refine (toInt64S_any a0 len0 cap0 z0 _ (w0.below BB) hbig0).mono ?_
    rintro e u3 ⟨rfl, I2, bb⟩
    have S3 : u2.heap.size ≤ u3.heap.size := bb.size
    replace BB := BB.trans (bb.mono BB.size)
    clear bb
    go_wp2_with fail
    refine (fullPeriod_impl _ _ _ _ I2).mono ?_
    rintro e u4 ⟨rfl, bb⟩
    replace I2 := I2.below bb
    have S4 : u3.heap.size ≤ u4.heap.size := bb.size
    replace BB := BB.trans (bb.mono BB.size)
    clear bb
    go_wp2_with fail
    refine (toInt64S_any a0 len0 cap0 z0 _ (w0.below BB) hbig0).mono ?_
    rintro e u5 ⟨rfl, I3, bb⟩
    replace I2 := I2.below bb
    have S5 : u4.heap.size ≤ u5.heap.size := bb.size
    replace BB := BB.trans (bb.mono BB.size)
    clear bb
    go_wp2_with fail
    refine (eqInt64S_any _ _ _ _ _ _ I2 I3).mono ?_
    rintro e u6 ⟨rfl, bb⟩
    replace I2 := I2.below bb
    replace I3 := I3.below bb
    have S6 : u5.heap.size ≤ u6.heap.size := bb.size
    replace BB := BB.trans (bb.mono BB.size)
    clear bb
    clear I3
    go_wp2
    go_ret
    exact ⟨rfl, BB⟩
  · have hb0 : (1048576 : Int) < (len0 : Int) := by omega
    have hm0 := w0.parts.2.1
    unfold maxLen at hm0
    go_enter Try.func3, Try.ntmps3
    go_wp2
    go_ret
    exact ⟨rfl, Below.refl _ _⟩
end Go.Proofs.Ytlpeigeadjojnab
