/- The walk of the law FnExactStatesOf: it returns true. No conditions. -/
import Derived.Test.YtjhijmaolnngmaaStL
import Derived.Test.YtjhijmaolnngmaaStW
import Derived.Test.YtjhijmaolnngmaaInts
namespace Go.Proofs.Ytjhijmaolnngmaa
open Go.RowKit
set_option linter.unusedSimpArgs false
set_option linter.unusedVariables false

set_option maxRecDepth 10000 in
set_option maxHeartbeats 2000000 in
theorem walk_StatesOf (a0 : Option Addr) (len0 cap0 : Nat) (z0 : List Int) (n1 : Int) (w : World) (r0 : IsRow .i64 w a0 len0 cap0 z0) (n1a : -9223372036854775808 ≤ n1) (n1b : n1 ≤ 9223372036854775807) :
    Calls Try.prog 9 #[.slice a0 len0 cap0, .int .i64 n1] w fun e w' => e = .returned (.bool true) ∧ Below w.heap.size w w' := by
  have hm0 := r0.parts.2.1
  unfold maxLen at hm0
  by_cases hbig0 : len0 ≤ 1048576
  rotate_left
  · have hb0 : (1048576 : Int) < (len0 : Int) := by omega
    go_enter Try.func9, Try.ntmps9
    go_wp2
    go_ret
    exact ⟨rfl, Below.refl _ _⟩
  have hfit0 := r0.fit
  have hlen0 : (z0.take len0).length ≤ 1048576 := by simp; omega
  have BB := Below.refl w.heap.size w
  have HS := fun v B W hI => statesOf_spec v B (z0.take len0) n1 W hI
  have HI := fun v B W hI => statesOf_impl v B (z0.take len0) n1 W hI
  have hll := ofLA_len (z0.take len0) n1
  generalize ofLA (z0.take len0) n1 = ra at *
  generalize ofC (z0.take len0) 0 n1 = rc at *
  go_enter Try.func9, Try.ntmps9
  go_wp2_with fail
  refine (toInt64S_any a0 len0 cap0 z0 _ (r0.below BB) hbig0).mono ?_
  rintro e wd1 ⟨rfl, I1, bb⟩
  have S1 := bb.size
  replace BB := BB.trans (bb.mono BB.size)
  clear bb
  replace I1 := IRw.mk' I1
  go_wp2_with fail
  refine (HS _ _ _ I1.ints).mono ?_
  rintro e wd2 ⟨vI2, rfl, I2, bb⟩
  have S2 := bb.size
  replace I1 := I1.below bb
  replace BB := BB.trans (bb.mono BB.size)
  clear bb
  replace I2 := SRw.mk' I2
  clear I1
  go_wp2_with fail
  refine (toInt64S_any a0 len0 cap0 z0 _ (r0.below BB) hbig0).mono ?_
  rintro e wd3 ⟨rfl, I3, bb⟩
  have S3 := bb.size
  replace I2 := I2.below bb
  replace BB := BB.trans (bb.mono BB.size)
  clear bb
  replace I3 := IRw.mk' I3
  go_wp2_with fail
  refine (HI _ _ _ I3.ints).mono ?_
  rintro e wd4 ⟨vI4, rfl, I4, bb⟩
  have S4 := bb.size
  replace I2 := I2.below bb
  replace I3 := I3.below bb
  replace BB := BB.trans (bb.mono BB.size)
  clear bb
  replace I4 := SRw.mk' I4
  go_wp2_with fail
  refine (eqStateS_any _ _ _ _ _ _ I4.rows I2.rows).mono ?_
  rintro e wd5 ⟨rfl, bb⟩
  have S5 := bb.size
  replace I2 := I2.below bb
  replace I3 := I3.below bb
  replace I4 := I4.below bb
  replace BB := BB.trans (bb.mono BB.size)
  clear bb
  go_wp2_with fail
  refine (toInt64S_any a0 len0 cap0 z0 _ (r0.below BB) hbig0).mono ?_
  rintro e wd6 ⟨rfl, I6, bb⟩
  have S6 := bb.size
  replace I2 := I2.below bb
  replace I3 := I3.below bb
  replace I4 := I4.below bb
  replace BB := BB.trans (bb.mono BB.size)
  clear bb
  replace I6 := IRw.mk' I6
  go_wp2_with fail
  refine (eqInt64S_any _ _ _ _ _ _ I3.ints I6.ints).mono ?_
  rintro e wd7 ⟨rfl, bb⟩
  have S7 := bb.size
  replace I2 := I2.below bb
  replace I3 := I3.below bb
  replace I4 := I4.below bb
  replace I6 := I6.below bb
  replace BB := BB.trans (bb.mono BB.size)
  clear bb
  clear I6
  go_wp2_with fail
  refine (markInt64S_any _ _ _ 1 _ I3.ints (by omega) (by omega)).mono ?_
  rintro e wd8 ⟨rfl, NN, gr⟩
  have S8 := gr.size
  have ww := I3.marked gr
  replace NN := I3.again NN
  clear gr
  replace BB := ww.below BB (by omega) BB.size
  replace I2 := I2.within ww (by omega)
  replace I4 := I4.within ww (by omega)
  replace I3 := NN
  clear NN ww
  go_wp2_with fail
  refine (eqStateS_any _ _ _ _ _ _ I4.rows I2.rows).mono ?_
  rintro e wd9 ⟨rfl, bb⟩
  have S9 := bb.size
  replace I2 := I2.below bb
  replace I3 := I3.below bb
  replace I4 := I4.below bb
  replace BB := BB.trans (bb.mono BB.size)
  clear bb
  go_wp2_with fail
  refine (markStateS_any _ _ _ 1 _ I4.rows (by omega) (by omega)).mono ?_
  rintro e wd10 ⟨rfl, NN, gr⟩
  have S10 := gr.size
  have ww := I4.marked gr
  replace NN := I4.again NN
  clear gr
  replace BB := ww.below BB (by omega) BB.size
  replace I2 := I2.within ww (by omega)
  replace I3 := I3.within ww (by omega)
  replace I4 := NN
  clear NN ww
  go_wp2_with fail
  refine (heldStateS_any _ _ _ 1 _ I4.rows (by omega) (by omega)).mono ?_
  rintro e wd11 ⟨rfl, bb⟩
  have S11 := bb.size
  replace I2 := I2.below bb
  replace I3 := I3.below bb
  replace I4 := I4.below bb
  replace BB := BB.trans (bb.mono BB.size)
  clear bb
  go_wp2_with fail
  refine (toInt64S_any a0 len0 cap0 z0 _ (r0.below BB) hbig0).mono ?_
  rintro e wd12 ⟨rfl, I12, bb⟩
  have S12 := bb.size
  replace I2 := I2.below bb
  replace I3 := I3.below bb
  replace I4 := I4.below bb
  replace BB := BB.trans (bb.mono BB.size)
  clear bb
  replace I12 := IRw.mk' I12
  go_wp2_with fail
  refine (HI _ _ _ I12.ints).mono ?_
  rintro e wd13 ⟨vI13, rfl, I13, bb⟩
  have S13 := bb.size
  replace I2 := I2.below bb
  replace I3 := I3.below bb
  replace I4 := I4.below bb
  replace I12 := I12.below bb
  replace BB := BB.trans (bb.mono BB.size)
  clear bb
  replace I13 := SRw.mk' I13
  clear I12
  go_wp2_with fail
  refine (eqStateS_any _ _ _ _ _ _ I13.rows I2.rows).mono ?_
  rintro e wd14 ⟨rfl, bb⟩
  have S14 := bb.size
  replace I2 := I2.below bb
  replace I3 := I3.below bb
  replace I4 := I4.below bb
  replace I13 := I13.below bb
  replace BB := BB.trans (bb.mono BB.size)
  clear bb
  go_wp2_with fail
  refine (heldStateS_any _ _ _ 1 _ I4.rows (by omega) (by omega)).mono ?_
  rintro e wd15 ⟨rfl, bb⟩
  have S15 := bb.size
  replace I2 := I2.below bb
  replace I3 := I3.below bb
  replace I4 := I4.below bb
  replace I13 := I13.below bb
  replace BB := BB.trans (bb.mono BB.size)
  clear bb
  go_wp2
  go_ret
  exact ⟨rfl, BB⟩
end Go.Proofs.Ytjhijmaolnngmaa
