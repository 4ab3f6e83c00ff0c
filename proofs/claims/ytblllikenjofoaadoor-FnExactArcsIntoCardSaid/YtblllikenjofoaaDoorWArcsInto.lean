/- The walk of the law FnExactArcsInto: it returns true. No conditions. -/
import Derived.Test.YtblllikenjofoaaDoorArT
import Derived.Test.YtblllikenjofoaaDoorArW
import Derived.Test.YtblllikenjofoaaDoorStO
namespace Go.Proofs.YtblllikenjofoaaDoor
open Go.RowKit
set_option linter.unusedSimpArgs false
set_option linter.unusedVariables false

set_option maxRecDepth 10000 in
set_option maxHeartbeats 2000000 in
theorem walk_ArcsInto (h0 m0 : Int) (w : World) (h0a : -9223372036854775808 ≤ h0) (h0b : h0 ≤ 9223372036854775807) (m0a : -9223372036854775808 ≤ m0) (m0b : m0 ≤ 9223372036854775807) (hT : CtzTab w) :
    Calls Tryd.prog 6 #[.agg #[.int .i64 h0, .int .i64 m0]] w fun e w' => e = .returned (.bool true) ∧ Below w.heap.size w w' := by
  have BB := Below.refl w.heap.size w
  have HS := fun W => arcsInto_spec h0 m0 W
  have HI := fun W (hb : Below w.heap.size w W) => arcsInto_impl h0 m0 W m0a m0b (hT.below hb)
  have hll := intoA_len h0 m0
  generalize intoA h0 m0 = ra at *
  generalize stC h0 m0 = rc at *
  have al := alT w (.int .i64 h0) (.int .i64 m0) 45
  have nv := StTwo.made w (.int .i64 h0) (.int .i64 m0) 45
  replace BB := BB.trans (al.mono BB.size)
  have V1 := nv
  clear al nv
  go_enter Tryd.func6, Tryd.ntmps6
  have cV10 := V1.1
  have cV11 := V1.2
  go_wp2_with fail
  refine (toState_any h0 m0 _).mono ?_
  rintro e wd1 ⟨rfl, bb⟩
  have S1 := bb.size
  clear cV10 cV11
  replace V1 := V1.below bb
  replace BB := BB.trans (bb.mono BB.size)
  clear bb
  have LV11 := V1.lt
  have cV10 := V1.1
  have cV11 := V1.2
  go_wp2_with fail
  refine (HS _).mono ?_
  rintro e wd2 ⟨vI2, rfl, I2, bb⟩
  have S2 := bb.size
  clear cV10 cV11
  replace V1 := V1.below bb
  replace BB := BB.trans (bb.mono BB.size)
  clear bb
  have LV12 := V1.lt
  replace I2 := ARw.mk' I2
  have cV10 := V1.1
  have cV11 := V1.2
  go_wp2_with fail
  refine (toState_any h0 m0 _).mono ?_
  rintro e wd3 ⟨rfl, bb⟩
  have S3 := bb.size
  clear cV10 cV11
  replace I2 := I2.below bb
  replace V1 := V1.below bb
  replace BB := BB.trans (bb.mono BB.size)
  clear bb
  have LV13 := V1.lt
  have cV10 := V1.1
  have cV11 := V1.2
  go_wp2_with fail
  refine (HI _ BB).mono ?_
  rintro e wd4 ⟨vI4, rfl, I4, bb⟩
  have S4 := bb.size
  clear cV10 cV11
  replace I2 := I2.below bb
  replace V1 := V1.below bb
  replace BB := BB.trans (bb.mono BB.size)
  clear bb
  have LV14 := V1.lt
  replace I4 := ARw.mk' I4
  have cV10 := V1.1
  have cV11 := V1.2
  go_wp2_with fail
  refine (eqArcS_any _ _ _ _ _ _ I4.rows I2.rows).mono ?_
  rintro e wd5 ⟨rfl, bb⟩
  have S5 := bb.size
  clear cV10 cV11
  replace I2 := I2.below bb
  replace I4 := I4.below bb
  replace V1 := V1.below bb
  replace BB := BB.trans (bb.mono BB.size)
  clear bb
  have LV15 := V1.lt
  have cV10 := V1.1
  have cV11 := V1.2
  go_wp2_with fail
  refine (markArcS_any _ _ _ 1 _ I4.rows (by omega) (by omega)).mono ?_
  rintro e wd6 ⟨rfl, NN, gr⟩
  have S6 := gr.size
  clear cV10 cV11
  have ww := I4.marked gr
  replace NN := I4.again NN
  clear gr
  replace V1 := V1.block (ww.block _ V1.lt (.inl (by omega)))
  replace BB := ww.below BB (by omega) BB.size
  replace I2 := I2.within ww (by omega)
  replace I4 := NN
  clear NN ww
  have LV16 := V1.lt
  have cV10 := V1.1
  have cV11 := V1.2
  go_wp2_with fail
  refine (heldArcS_any _ _ _ 1 _ I4.rows (by omega) (by omega)).mono ?_
  rintro e wd7 ⟨rfl, bb⟩
  have S7 := bb.size
  clear cV10 cV11
  replace I2 := I2.below bb
  replace I4 := I4.below bb
  replace V1 := V1.below bb
  replace BB := BB.trans (bb.mono BB.size)
  clear bb
  have LV17 := V1.lt
  have cV10 := V1.1
  have cV11 := V1.2
  go_wp2_with fail
  refine (toState_any h0 m0 _).mono ?_
  rintro e wd8 ⟨rfl, bb⟩
  have S8 := bb.size
  clear cV10 cV11
  replace I2 := I2.below bb
  replace I4 := I4.below bb
  replace V1 := V1.below bb
  replace BB := BB.trans (bb.mono BB.size)
  clear bb
  have LV18 := V1.lt
  have cV10 := V1.1
  have cV11 := V1.2
  go_wp2_with fail
  refine (HI _ BB).mono ?_
  rintro e wd9 ⟨vI9, rfl, I9, bb⟩
  have S9 := bb.size
  clear cV10 cV11
  replace I2 := I2.below bb
  replace I4 := I4.below bb
  replace V1 := V1.below bb
  replace BB := BB.trans (bb.mono BB.size)
  clear bb
  have LV19 := V1.lt
  replace I9 := ARw.mk' I9
  have cV10 := V1.1
  have cV11 := V1.2
  go_wp2_with fail
  refine (eqArcS_any _ _ _ _ _ _ I9.rows I2.rows).mono ?_
  rintro e wd10 ⟨rfl, bb⟩
  have S10 := bb.size
  clear cV10 cV11
  replace I2 := I2.below bb
  replace I4 := I4.below bb
  replace I9 := I9.below bb
  replace V1 := V1.below bb
  replace BB := BB.trans (bb.mono BB.size)
  clear bb
  have LV110 := V1.lt
  have cV10 := V1.1
  have cV11 := V1.2
  go_wp2_with fail
  refine (heldArcS_any _ _ _ 1 _ I4.rows (by omega) (by omega)).mono ?_
  rintro e wd11 ⟨rfl, bb⟩
  have S11 := bb.size
  clear cV10 cV11
  replace I2 := I2.below bb
  replace I4 := I4.below bb
  replace I9 := I9.below bb
  replace V1 := V1.below bb
  replace BB := BB.trans (bb.mono BB.size)
  clear bb
  have LV111 := V1.lt
  have cV10 := V1.1
  have cV11 := V1.2
  go_wp2
  go_ret
  exact ⟨rfl, BB⟩
end Go.Proofs.YtblllikenjofoaaDoor
