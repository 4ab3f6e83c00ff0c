/- The walk of the law FnExactReadState: it returns true. No conditions. -/
import Derived.Test.YtjhijmaolnngmaaStRe
namespace Go.Proofs.Ytjhijmaolnngmaa
open Go.RowKit
set_option linter.unusedSimpArgs false
set_option linter.unusedVariables false

set_option maxRecDepth 10000 in
set_option maxHeartbeats 400000 in
theorem walk_ReadState (s0 : ByteArray) (w : World) (w0 : s0.size ≤ maxLen) :
    Calls Try.prog 12 #[.string s0] w fun e w' => e = .returned (.bool true) ∧ Below w.heap.size w w' := by
  by_cases hbig0 : s0.size ≤ 1048576
  rotate_left
  · have hb0 : (1048576 : Int) < (s0.size : Int) := by omega
    go_enter Try.func12, Try.ntmps12
    go_wp2
    go_ret
    exact ⟨rfl, Below.refl _ _⟩
  have BB := Below.refl w.heap.size w
  have HS := fun W => readState_spec s0 W hbig0
  have HI := fun W => readState_impl s0 W hbig0
  generalize rdA s0 = ra at *
  generalize rdB s0 = rb at *
  generalize rdOk s0 = rc at *
  go_enter Try.func12, Try.ntmps12
  go_wp2_with fail
  refine (HS _).mono ?_
  rintro e wd1 ⟨rfl, bb⟩
  replace BB := BB.trans (bb.mono BB.size)
  clear bb
  have al := alT wd1 (.int .i64 ra) (.int .i64 rb) 25
  have nv := Two.made wd1 (.int .i64 ra) (.int .i64 rb) 25
  replace BB := BB.trans (al.mono BB.size)
  have V1 := nv
  clear al nv
  have cV10 := V1.1
  have cV11 := V1.2
  go_wp2_with fail
  refine (HI _).mono ?_
  rintro e wd2 ⟨rfl, bb⟩
  clear cV10 cV11
  replace V1 := V1.below bb
  replace BB := BB.trans (bb.mono BB.size)
  clear bb
  have al := alT wd2 (.int .i64 ra) (.int .i64 rb) 25
  have nv := Two.made wd2 (.int .i64 ra) (.int .i64 rb) 25
  replace V1 := V1.below al
  replace BB := BB.trans (al.mono BB.size)
  have V2 := nv
  clear al nv
  have cV10 := V1.1
  have cV11 := V1.2
  have cV20 := V2.1
  have cV21 := V2.2
  go_wp2_with fail
  refine (eqState_any ra rb _).mono ?_
  rintro e wd3 ⟨rfl, bb⟩
  clear cV10 cV11 cV20 cV21
  replace V1 := V1.below bb
  replace V2 := V2.below bb
  replace BB := BB.trans (bb.mono BB.size)
  clear bb
  have cV10 := V1.1
  have cV11 := V1.2
  have cV20 := V2.1
  have cV21 := V2.2
  go_wp2
  go_ret
  exact ⟨rfl, BB⟩
end Go.Proofs.Ytjhijmaolnngmaa
