/- The walk of the law FnExactArcCount: it returns true. No conditions. -/
import Derived.Test.YtblllikenjofoaaDoorArK
import Derived.Test.YtblllikenjofoaaDoorStO
namespace Go.Proofs.YtblllikenjofoaaDoor
open Go.RowKit
set_option linter.unusedSimpArgs false
set_option linter.unusedVariables false

set_option maxRecDepth 10000 in
set_option maxHeartbeats 400000 in
theorem walk_ArcCount (n0 : Int) (n1 : Int) (w : World) (n0a : -9223372036854775808 ≤ n0) (n0b : n0 ≤ 9223372036854775807) (n1a : -9223372036854775808 ≤ n1) (n1b : n1 ≤ 9223372036854775807) (hT : CtzTab w) :
    Calls Tryd.prog 5 #[.int .i64 n0, .int .i64 n1] w fun e w' => e = .returned (.bool true) ∧ Below w.heap.size w w' := by
  have BB := Below.refl w.heap.size w
  have HS := fun W => arcCount_spec n0 n1 W
  have HI := fun W (hb : Below w.heap.size w W) => arcCount_impl n0 n1 W (hT.below hb)
  generalize ((arcA n0 n1).length : Int) = ra at *
  generalize gndC n0 n1 = rc at *
  go_enter Tryd.func5, Tryd.ntmps5
  go_wp2_with fail
  refine (HS _).mono ?_
  rintro e wd1 ⟨rfl, bb⟩
  replace BB := BB.trans (bb.mono BB.size)
  clear bb
  go_wp2_with fail
  refine (HI _ BB).mono ?_
  rintro e wd2 ⟨rfl, bb⟩
  replace BB := BB.trans (bb.mono BB.size)
  clear bb
  go_wp2
  go_ret
  exact ⟨rfl, BB⟩
end Go.Proofs.YtblllikenjofoaaDoor
