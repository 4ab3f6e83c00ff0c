/- The walk of the law FnExactArcsOf: it returns true. No conditions. -/
import Derived.Test.YtblllikenjofoaaDoorArK
import Derived.Test.YtblllikenjofoaaDoorArW
import Derived.Test.YtblllikenjofoaaDoorStO
namespace Go.Proofs.YtblllikenjofoaaDoor
open Go.RowKit
set_option linter.unusedSimpArgs false
set_option linter.unusedVariables false

set_option maxRecDepth 10000 in
set_option maxHeartbeats 2000000 in
theorem walk_ArcsOf (n0 : Int) (n1 : Int) (w : World) (n0a : -9223372036854775808 ≤ n0) (n0b : n0 ≤ 9223372036854775807) (n1a : -9223372036854775808 ≤ n1) (n1b : n1 ≤ 9223372036854775807) (hT : CtzTab w) :
    Calls Tryd.prog 4 #[.int .i64 n0, .int .i64 n1] w fun e w' => e = .returned (.bool true) ∧ Below w.heap.size w w' := by
  have BB := Below.refl w.heap.size w
  have HS := fun W => arcsOf_spec n0 n1 W
  have HI := fun W (hb : Below w.heap.size w W) => arcsOf_impl n0 n1 W (hT.below hb)
  have hll := arcA_len n0 n1
  generalize arcA n0 n1 = ra at *
  generalize gndC n0 n1 = rc at *
  go_enter Tryd.func4, Tryd.ntmps4
  go_wp2_with fail
  refine (HS _).mono ?_
  rintro e wd1 ⟨vI1, rfl, I1, bb⟩
  have S1 := bb.size
  replace BB := BB.trans (bb.mono BB.size)
  clear bb
  replace I1 := ARw.mk' I1
  go_wp2_with fail
  refine (HI _ BB).mono ?_
  rintro e wd2 ⟨vI2, rfl, I2, bb⟩
  have S2 := bb.size
  replace I1 := I1.below bb
  replace BB := BB.trans (bb.mono BB.size)
  clear bb
  replace I2 := ARw.mk' I2
  go_wp2_with fail
  refine (eqArcS_any _ _ _ _ _ _ I2.rows I1.rows).mono ?_
  rintro e wd3 ⟨rfl, bb⟩
  have S3 := bb.size
  replace I1 := I1.below bb
  replace I2 := I2.below bb
  replace BB := BB.trans (bb.mono BB.size)
  clear bb
  go_wp2_with fail
  refine (markArcS_any _ _ _ 1 _ I2.rows (by omega) (by omega)).mono ?_
  rintro e wd4 ⟨rfl, NN, gr⟩
  have S4 := gr.size
  have ww := I2.marked gr
  replace NN := I2.again NN
  clear gr
  replace BB := ww.below BB (by omega) BB.size
  replace I1 := I1.within ww (by omega)
  replace I2 := NN
  clear NN ww
  go_wp2_with fail
  refine (heldArcS_any _ _ _ 1 _ I2.rows (by omega) (by omega)).mono ?_
  rintro e wd5 ⟨rfl, bb⟩
  have S5 := bb.size
  replace I1 := I1.below bb
  replace I2 := I2.below bb
  replace BB := BB.trans (bb.mono BB.size)
  clear bb
  go_wp2_with fail
  refine (HI _ BB).mono ?_
  rintro e wd6 ⟨vI6, rfl, I6, bb⟩
  have S6 := bb.size
  replace I1 := I1.below bb
  replace I2 := I2.below bb
  replace BB := BB.trans (bb.mono BB.size)
  clear bb
  replace I6 := ARw.mk' I6
  go_wp2_with fail
  refine (eqArcS_any _ _ _ _ _ _ I6.rows I1.rows).mono ?_
  rintro e wd7 ⟨rfl, bb⟩
  have S7 := bb.size
  replace I1 := I1.below bb
  replace I2 := I2.below bb
  replace I6 := I6.below bb
  replace BB := BB.trans (bb.mono BB.size)
  clear bb
  go_wp2_with fail
  refine (heldArcS_any _ _ _ 1 _ I2.rows (by omega) (by omega)).mono ?_
  rintro e wd8 ⟨rfl, bb⟩
  have S8 := bb.size
  replace I1 := I1.below bb
  replace I2 := I2.below bb
  replace I6 := I6.below bb
  replace BB := BB.trans (bb.mono BB.size)
  clear bb
  go_wp2
  go_ret
  exact ⟨rfl, BB⟩
end Go.Proofs.YtblllikenjofoaaDoor
