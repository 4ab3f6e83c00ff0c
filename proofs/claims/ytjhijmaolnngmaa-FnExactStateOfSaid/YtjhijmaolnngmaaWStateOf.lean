/- The walk of the law FnExactStateOf: it returns true. No conditions. -/
import Derived.Test.YtjhijmaolnngmaaStG
import Derived.Test.YtjhijmaolnngmaaInts
namespace Go.Proofs.Ytjhijmaolnngmaa
open Go.RowKit
set_option linter.unusedSimpArgs false
set_option linter.unusedVariables false

set_option maxRecDepth 10000 in
set_option maxHeartbeats 1000000 in
theorem walk_StateOf (a0 : Option Addr) (len0 cap0 : Nat) (z0 : List Int) (n1 : Int) (n2 : Int) (w : World) (r0 : IsRow .i64 w a0 len0 cap0 z0) (n1a : -9223372036854775808 ≤ n1) (n1b : n1 ≤ 9223372036854775807) (n2a : -9223372036854775808 ≤ n2) (n2b : n2 ≤ 9223372036854775807) :
    Calls Try.prog 8 #[.slice a0 len0 cap0, .int .i64 n1, .int .i64 n2] w fun e w' => e = .returned (.bool true) ∧ Below w.heap.size w w' := by
  have hm0 := r0.parts.2.1
  unfold maxLen at hm0
  by_cases hbig0 : len0 ≤ 1048576
  rotate_left
  · have hb0 : (1048576 : Int) < (len0 : Int) := by omega
    go_enter Try.func8, Try.ntmps8
    go_wp2
    go_ret
    exact ⟨rfl, Below.refl _ _⟩
  have hfit0 := r0.fit
  have hlen0 : (z0.take len0).length ≤ 1048576 := by simp; omega
  have BB := Below.refl w.heap.size w
  have HS := fun v B W hI => stateOf_spec v B (z0.take len0) n1 n2 W hI
  have HI := fun v B W hI => stateOf_impl v B (z0.take len0) n1 n2 W hI
  generalize ofA (z0.take len0) n1 n2 = ra at *
  generalize ofB (z0.take len0) n1 n2 = rb at *
  generalize ofC (z0.take len0) n1 n2 = rc at *
  go_enter Try.func8, Try.ntmps8
  go_wp2_with fail
  refine (toInt64S_any a0 len0 cap0 z0 _ (r0.below BB) hbig0).mono ?_
  rintro e wd1 ⟨rfl, I1, bb⟩
  replace BB := BB.trans (bb.mono BB.size)
  clear bb
  try simp only [World.size_alloc] at I1
  go_wp2_with fail
  refine (HS _ _ _ I1).mono ?_
  rintro e wd2 ⟨rfl, bb⟩
  replace I1 := I1.below bb
  replace BB := BB.trans (bb.mono BB.size)
  clear bb
  clear I1
  have al := alT wd2 (.int .i64 ra) (.int .i64 rb) 25
  have nv := StTwo.made wd2 (.int .i64 ra) (.int .i64 rb) 25
  replace BB := BB.trans (al.mono BB.size)
  have V1 := nv
  clear al nv
  have cV10 := V1.1
  have cV11 := V1.2
  go_wp2_with fail
  refine (toInt64S_any a0 len0 cap0 z0 _ (r0.below BB) hbig0).mono ?_
  rintro e wd3 ⟨rfl, I3, bb⟩
  clear cV10 cV11
  replace V1 := V1.below bb
  replace BB := BB.trans (bb.mono BB.size)
  clear bb
  try simp only [World.size_alloc] at I3
  have cV10 := V1.1
  have cV11 := V1.2
  go_wp2_with fail
  refine (HI _ _ _ I3).mono ?_
  rintro e wd4 ⟨rfl, bb⟩
  clear cV10 cV11
  replace I3 := I3.below bb
  replace V1 := V1.below bb
  replace BB := BB.trans (bb.mono BB.size)
  clear bb
  have al := alT wd4 (.int .i64 ra) (.int .i64 rb) 25
  have nv := StTwo.made wd4 (.int .i64 ra) (.int .i64 rb) 25
  replace I3 := I3.below al
  replace V1 := V1.below al
  replace BB := BB.trans (al.mono BB.size)
  have V2 := nv
  clear al nv
  have cV10 := V1.1
  have cV11 := V1.2
  have cV20 := V2.1
  have cV21 := V2.2
  go_wp2_with fail
  refine (eqState_any ra rb _).mono ?_
  rintro e wd5 ⟨rfl, bb⟩
  clear cV10 cV11 cV20 cV21
  replace I3 := I3.below bb
  replace V1 := V1.below bb
  replace V2 := V2.below bb
  replace BB := BB.trans (bb.mono BB.size)
  clear bb
  have cV10 := V1.1
  have cV11 := V1.2
  have cV20 := V2.1
  have cV21 := V2.2
  go_wp2_with fail
  refine (toInt64S_any a0 len0 cap0 z0 _ (r0.below BB) hbig0).mono ?_
  rintro e wd6 ⟨rfl, I6, bb⟩
  clear cV10 cV11 cV20 cV21
  replace I3 := I3.below bb
  replace V1 := V1.below bb
  replace V2 := V2.below bb
  replace BB := BB.trans (bb.mono BB.size)
  clear bb
  try simp only [World.size_alloc] at I6
  have cV10 := V1.1
  have cV11 := V1.2
  have cV20 := V2.1
  have cV21 := V2.2
  go_wp2_with fail
  refine (eqInt64S_any _ _ _ _ _ _ I3 I6).mono ?_
  rintro e wd7 ⟨rfl, bb⟩
  clear cV10 cV11 cV20 cV21
  replace I3 := I3.below bb
  replace I6 := I6.below bb
  replace V1 := V1.below bb
  replace V2 := V2.below bb
  replace BB := BB.trans (bb.mono BB.size)
  clear bb
  clear I6
  have cV10 := V1.1
  have cV11 := V1.2
  have cV20 := V2.1
  have cV21 := V2.2
  go_wp2
  go_ret
  exact ⟨rfl, BB⟩
end Go.Proofs.Ytjhijmaolnngmaa
