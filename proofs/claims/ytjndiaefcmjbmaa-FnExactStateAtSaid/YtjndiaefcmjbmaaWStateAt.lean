/- The walk of the law FnExactStateAt: it returns true. No conditions. -/
import Derived.Test.YtjndiaefcmjbmaaGpK
import Derived.Test.YtjndiaefcmjbmaaStO
namespace Go.Proofs.Ytjndiaefcmjbmaa
open Go.RowKit
set_option linter.unusedSimpArgs false
set_option linter.unusedVariables false

set_option maxRecDepth 10000 in
set_option maxHeartbeats 1000000 in
theorem walk_StateAt (n0 : Int) (n1 : Int) (n2 : Int) (w : World) (n0a : -9223372036854775808 ≤ n0) (n0b : n0 ≤ 9223372036854775807) (n1a : -9223372036854775808 ≤ n1) (n1b : n1 ≤ 9223372036854775807) (n2a : -9223372036854775808 ≤ n2) (n2b : n2 ≤ 9223372036854775807) :
    Calls Try.prog 7 #[.int .i64 n0, .int .i64 n1, .int .i64 n2] w fun e w' => e = .returned (.bool true) ∧ Below w.heap.size w w' := by
  have BB := Below.refl w.heap.size w
  have HS := fun W => stateAt_spec n0 n1 n2 W n2a n2b
  have HI := fun W => stateAt_impl n0 n1 n2 W n2a n2b
  generalize atH n0 n1 n2 = ra at *
  generalize atM n0 n1 n2 = rb at *
  generalize atC n0 n1 n2 = rc at *
  go_enter Try.func7, Try.ntmps7
  go_wp2_with fail
  refine (HS _).mono ?_
  rintro e wd1 ⟨rfl, bb⟩
  replace BB := BB.trans (bb.mono BB.size)
  clear bb
  have al := alT wd1 (.int .i64 ra) (.int .i64 rb) 26
  have nv := StTwo.made wd1 (.int .i64 ra) (.int .i64 rb) 26
  replace BB := BB.trans (al.mono BB.size)
  have V1 := nv
  clear al nv
  have cV10 := V1.1
  have cV11 := V1.2
  go_wp2_with fail
  refine (HI _).mono ?_
  rintro e wd2 ⟨rfl, bb⟩
  clear cV10 cV11
  replace V1 := V1.below bb
  replace BB := BB.trans (bb.mono BB.size)
  clear bb
  have al := alT wd2 (.int .i64 ra) (.int .i64 rb) 26
  have nv := StTwo.made wd2 (.int .i64 ra) (.int .i64 rb) 26
  replace V1 := V1.below al
  replace BB := BB.trans (al.mono BB.size)
  have V2 := nv
  clear al nv
  have cV10 := V1.1
  have cV11 := V1.2
  have cV20 := V2.1
  have cV21 := V2.2
  go_wp2_with fail
  refine (eqState_any ra rb _).mono ?_
  rintro e wd3 ⟨rfl, bb⟩
  clear cV10 cV11 cV20 cV21
  replace V1 := V1.below bb
  replace V2 := V2.below bb
  replace BB := BB.trans (bb.mono BB.size)
  clear bb
  have cV10 := V1.1
  have cV11 := V1.2
  have cV20 := V2.1
  have cV21 := V2.2
  go_wp2
  go_ret
  exact ⟨rfl, BB⟩
end Go.Proofs.Ytjndiaefcmjbmaa
