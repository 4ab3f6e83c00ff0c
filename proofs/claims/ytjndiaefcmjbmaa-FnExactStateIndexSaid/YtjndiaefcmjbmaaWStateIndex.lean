/- The walk of the law FnExactStateIndex: it returns true. No conditions. -/
import Derived.Test.YtjndiaefcmjbmaaGpK
import Derived.Test.YtjndiaefcmjbmaaStO
namespace Go.Proofs.Ytjndiaefcmjbmaa
open Go.RowKit
set_option linter.unusedSimpArgs false
set_option linter.unusedVariables false

set_option maxRecDepth 10000 in
set_option maxHeartbeats 400000 in
theorem walk_StateIndex (h0 m0 : Int) (w : World) (h0a : -9223372036854775808 ≤ h0) (h0b : h0 ≤ 9223372036854775807) (m0a : -9223372036854775808 ≤ m0) (m0b : m0 ≤ 9223372036854775807) :
    Calls Try.prog 6 #[.agg #[.int .i64 h0, .int .i64 m0]] w fun e w' => e = .returned (.bool true) ∧ Below w.heap.size w w' := by
  have BB := Below.refl w.heap.size w
  have HS := fun W => stateIndex_spec h0 m0 W
  have HI := fun W => stateIndex_impl h0 m0 W m0a m0b
  generalize (if okSt h0 m0 then (idxN m0.toNat : Int) else 0) = ra at *
  generalize stC h0 m0 = rc at *
  have al := alT w (.int .i64 h0) (.int .i64 m0) 23
  have nv := StTwo.made w (.int .i64 h0) (.int .i64 m0) 23
  replace BB := BB.trans (al.mono BB.size)
  have V1 := nv
  clear al nv
  go_enter Try.func6, Try.ntmps6
  have cV10 := V1.1
  have cV11 := V1.2
  go_wp2_with fail
  refine (toState_any h0 m0 _).mono ?_
  rintro e wd1 ⟨rfl, bb⟩
  clear cV10 cV11
  replace V1 := V1.below bb
  replace BB := BB.trans (bb.mono BB.size)
  clear bb
  have cV10 := V1.1
  have cV11 := V1.2
  go_wp2_with fail
  refine (HS _).mono ?_
  rintro e wd2 ⟨rfl, bb⟩
  clear cV10 cV11
  replace V1 := V1.below bb
  replace BB := BB.trans (bb.mono BB.size)
  clear bb
  have cV10 := V1.1
  have cV11 := V1.2
  go_wp2_with fail
  refine (toState_any h0 m0 _).mono ?_
  rintro e wd3 ⟨rfl, bb⟩
  clear cV10 cV11
  replace V1 := V1.below bb
  replace BB := BB.trans (bb.mono BB.size)
  clear bb
  have cV10 := V1.1
  have cV11 := V1.2
  go_wp2_with fail
  refine (HI _).mono ?_
  rintro e wd4 ⟨rfl, bb⟩
  clear cV10 cV11
  replace V1 := V1.below bb
  replace BB := BB.trans (bb.mono BB.size)
  clear bb
  have cV10 := V1.1
  have cV11 := V1.2
  go_wp2
  go_ret
  exact ⟨rfl, BB⟩
end Go.Proofs.Ytjndiaefcmjbmaa
