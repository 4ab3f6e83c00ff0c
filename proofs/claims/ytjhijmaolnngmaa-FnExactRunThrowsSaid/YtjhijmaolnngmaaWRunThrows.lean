/- The walk of the law FnExactRunThrows: it returns true. No conditions. -/
import Derived.Test.YtjhijmaolnngmaaStRi
import Derived.Test.YtjhijmaolnngmaaInts
namespace Go.Proofs.Ytjhijmaolnngmaa
open Go.RowKit
set_option linter.unusedSimpArgs false
set_option linter.unusedVariables false

set_option maxRecDepth 10000 in
set_option maxHeartbeats 1000000 in
theorem walk_RunThrows (h0 m0 : Int) (a1 : Option Addr) (len1 cap1 : Nat) (z1 : List Int) (w : World) (h0a : -9223372036854775808 ≤ h0) (h0b : h0 ≤ 9223372036854775807) (m0a : -9223372036854775808 ≤ m0) (m0b : m0 ≤ 9223372036854775807) (r1 : IsRow .i64 w a1 len1 cap1 z1) :
    Calls Try.prog 10 #[.agg #[.int .i64 h0, .int .i64 m0], .slice a1 len1 cap1] w fun e w' => e = .returned (.bool true) ∧ Below w.heap.size w w' := by
  have hm1 := r1.parts.2.1
  unfold maxLen at hm1
  by_cases hbig1 : len1 ≤ 1048576
  rotate_left
  · have hb0 : (1048576 : Int) < (len1 : Int) := by omega
    go_enter Try.func10, Try.ntmps10
    go_wp2
    go_ret
    exact ⟨rfl, alT _ _ _ _⟩
  have hfit1 := r1.fit
  have hlen1 : (z1.take len1).length ≤ 1048576 := by simp; omega
  have BB := Below.refl w.heap.size w
  have HS := fun v B W hI => runThrows_spec h0 m0 v B (z1.take len1) W hI hfit1 hlen1
  have HI := fun v B W hI => runThrows_impl h0 m0 v B (z1.take len1) W m0a m0b hI hfit1 hlen1
  generalize runH h0 m0 = ra at *
  generalize runM h0 m0 (z1.take len1) = rb at *
  generalize runN h0 m0 (z1.take len1) = rc at *
  generalize runC h0 m0 (z1.take len1) = rd at *
  have al := alT w (.int .i64 h0) (.int .i64 m0) 23
  have nv := Two.made w (.int .i64 h0) (.int .i64 m0) 23
  replace BB := BB.trans (al.mono BB.size)
  have V1 := nv
  clear al nv
  go_enter Try.func10, Try.ntmps10
  have cV10 := V1.1
  have cV11 := V1.2
  go_wp2_with fail
  refine (toState_any h0 m0 _).mono ?_
  rintro e wd1 ⟨rfl, bb⟩
  clear cV10 cV11
  replace V1 := V1.below bb
  replace BB := BB.trans (bb.mono BB.size)
  clear bb
  have cV10 := V1.1
  have cV11 := V1.2
  go_wp2_with fail
  refine (toInt64S_any a1 len1 cap1 z1 _ (r1.below BB) hbig1).mono ?_
  rintro e wd2 ⟨rfl, I2, bb⟩
  clear cV10 cV11
  replace V1 := V1.below bb
  replace BB := BB.trans (bb.mono BB.size)
  clear bb
  try simp only [World.size_alloc] at I2
  have cV10 := V1.1
  have cV11 := V1.2
  go_wp2_with fail
  refine (HS _ _ _ I2).mono ?_
  rintro e wd3 ⟨rfl, bb⟩
  clear cV10 cV11
  replace I2 := I2.below bb
  replace V1 := V1.below bb
  replace BB := BB.trans (bb.mono BB.size)
  clear bb
  clear I2
  have al := alT wd3 (.int .i64 ra) (.int .i64 rb) 25
  have nv := Two.made wd3 (.int .i64 ra) (.int .i64 rb) 25
  replace V1 := V1.below al
  replace BB := BB.trans (al.mono BB.size)
  have V2 := nv
  clear al nv
  have cV10 := V1.1
  have cV11 := V1.2
  have cV20 := V2.1
  have cV21 := V2.2
  go_wp2_with fail
  refine (toInt64S_any a1 len1 cap1 z1 _ (r1.below BB) hbig1).mono ?_
  rintro e wd4 ⟨rfl, I4, bb⟩
  clear cV10 cV11 cV20 cV21
  replace V1 := V1.below bb
  replace V2 := V2.below bb
  replace BB := BB.trans (bb.mono BB.size)
  clear bb
  try simp only [World.size_alloc] at I4
  have cV10 := V1.1
  have cV11 := V1.2
  have cV20 := V2.1
  have cV21 := V2.2
  go_wp2_with fail
  refine (toState_any h0 m0 _).mono ?_
  rintro e wd5 ⟨rfl, bb⟩
  clear cV10 cV11 cV20 cV21
  replace I4 := I4.below bb
  replace V1 := V1.below bb
  replace V2 := V2.below bb
  replace BB := BB.trans (bb.mono BB.size)
  clear bb
  have cV10 := V1.1
  have cV11 := V1.2
  have cV20 := V2.1
  have cV21 := V2.2
  go_wp2_with fail
  refine (HI _ _ _ I4).mono ?_
  rintro e wd6 ⟨rfl, bb⟩
  clear cV10 cV11 cV20 cV21
  replace I4 := I4.below bb
  replace V1 := V1.below bb
  replace V2 := V2.below bb
  replace BB := BB.trans (bb.mono BB.size)
  clear bb
  have al := alT wd6 (.int .i64 ra) (.int .i64 rb) 25
  have nv := Two.made wd6 (.int .i64 ra) (.int .i64 rb) 25
  replace I4 := I4.below al
  replace V1 := V1.below al
  replace V2 := V2.below al
  replace BB := BB.trans (al.mono BB.size)
  have V3 := nv
  clear al nv
  have cV10 := V1.1
  have cV11 := V1.2
  have cV20 := V2.1
  have cV21 := V2.2
  have cV30 := V3.1
  have cV31 := V3.2
  go_wp2_with fail
  refine (eqState_any ra rb _).mono ?_
  rintro e wd7 ⟨rfl, bb⟩
  clear cV10 cV11 cV20 cV21 cV30 cV31
  replace I4 := I4.below bb
  replace V1 := V1.below bb
  replace V2 := V2.below bb
  replace V3 := V3.below bb
  replace BB := BB.trans (bb.mono BB.size)
  clear bb
  have cV10 := V1.1
  have cV11 := V1.2
  have cV20 := V2.1
  have cV21 := V2.2
  have cV30 := V3.1
  have cV31 := V3.2
  go_wp2_with fail
  refine (toInt64S_any a1 len1 cap1 z1 _ (r1.below BB) hbig1).mono ?_
  rintro e wd8 ⟨rfl, I8, bb⟩
  clear cV10 cV11 cV20 cV21 cV30 cV31
  replace I4 := I4.below bb
  replace V1 := V1.below bb
  replace V2 := V2.below bb
  replace V3 := V3.below bb
  replace BB := BB.trans (bb.mono BB.size)
  clear bb
  try simp only [World.size_alloc] at I8
  have cV10 := V1.1
  have cV11 := V1.2
  have cV20 := V2.1
  have cV21 := V2.2
  have cV30 := V3.1
  have cV31 := V3.2
  go_wp2_with fail
  refine (eqInt64S_any _ _ _ _ _ _ I4 I8).mono ?_
  rintro e wd9 ⟨rfl, bb⟩
  clear cV10 cV11 cV20 cV21 cV30 cV31
  replace I4 := I4.below bb
  replace I8 := I8.below bb
  replace V1 := V1.below bb
  replace V2 := V2.below bb
  replace V3 := V3.below bb
  replace BB := BB.trans (bb.mono BB.size)
  clear bb
  clear I8
  have cV10 := V1.1
  have cV11 := V1.2
  have cV20 := V2.1
  have cV21 := V2.2
  have cV30 := V3.1
  have cV31 := V3.2
  go_wp2
  go_ret
  exact ⟨rfl, BB⟩
end Go.Proofs.Ytjhijmaolnngmaa
