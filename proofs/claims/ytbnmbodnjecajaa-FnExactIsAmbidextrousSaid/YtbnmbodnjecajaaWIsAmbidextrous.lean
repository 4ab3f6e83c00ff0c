/- The walk of the law FnExactIsAmbidextrous: it returns true, and writes nothing that was there. Conditions: none. -/
import Derived.Test.YtbnmbodnjecajaaInts
import Derived.Test.YtbnmbodnjecajaaHdO
namespace Go.Proofs.Ytbnmbodnjecajaa
open Go.RowKit
set_option linter.unusedSimpArgs false
set_option linter.unusedVariables false

set_option maxHeartbeats 1000000 in
theorem walk_IsAmbidextrous (a0 : Option Addr) (len0 cap0 : Nat) (z0 : List Int) (a1 : Option Addr) (len1 cap1 : Nat) (z1 : List Int) (w : World) (w0 : IsRow .i64 w a0 len0 cap0 z0) (w1 : IsRow .i64 w a1 len1 cap1 z1) :
    Calls Try.prog 11 #[.slice a0 len0 cap0, .slice a1 len1 cap1] w fun e w' => e = .returned (.bool true) ∧ Below w.heap.size w w' := by
  by_cases hbig0 : len0 ≤ 1048576
  · skip
    by_cases hbig1 : len1 ≤ 1048576
    · skip
      have hl0 := w0.parts.1
      have ht0 : (z0.take len0).length = len0 := by simp; omega
      have hle0 : (z0.take len0).length ≤ 1048576 := by omega
      clear hl0 ht0
      have hl1 := w1.parts.1
      have ht1 : (z1.take len1).length = len1 := by simp; omega
      have hle1 : (z1.take len1).length ≤ 1048576 := by omega
      clear hl1 ht1
      have BB := Below.refl w.heap.size w
      go_enter Try.func11, Try.ntmps11
      go_wp2_with fail
      refine (toInt64S_any a0 len0 cap0 z0 _ (w0.below BB) hbig0).mono ?_
      rintro e u1 ⟨rfl, I1, bb⟩
      have S1 : w.heap.size ≤ u1.heap.size := bb.size
      replace BB := BB.trans (bb.mono BB.size)
      clear bb
      go_wp2_with fail
      refine (toInt64S_any a1 len1 cap1 z1 _ (w1.below BB) hbig1).mono ?_
      rintro e u2 ⟨rfl, I2, bb⟩
      replace I1 := I1.below bb
      have S2 : u1.heap.size ≤ u2.heap.size := bb.size
      replace BB := BB.trans (bb.mono BB.size)
      clear bb
      go_wp2_with fail
      refine (isAmbidextrous_spec _ _ _ _ _ _ _ I1 I2).mono ?_
      rintro e u3 ⟨rfl, bb⟩
      replace I1 := I1.below bb
      replace I2 := I2.below bb
      have S3 : u2.heap.size ≤ u3.heap.size := bb.size
      replace BB := BB.trans (bb.mono BB.size)
      clear bb
      clear I1
      clear I2
      go_wp2_with fail
      refine (toInt64S_any a0 len0 cap0 z0 _ (w0.below BB) hbig0).mono ?_
      rintro e u4 ⟨rfl, I3, bb⟩
      have S4 : u3.heap.size ≤ u4.heap.size := bb.size
      replace BB := BB.trans (bb.mono BB.size)
      clear bb
      go_wp2_with fail
      refine (toInt64S_any a1 len1 cap1 z1 _ (w1.below BB) hbig1).mono ?_
      rintro e u5 ⟨rfl, I4, bb⟩
      replace I3 := I3.below bb
      have S5 : u4.heap.size ≤ u5.heap.size := bb.size
      replace BB := BB.trans (bb.mono BB.size)
      clear bb
      go_wp2_with fail
      refine (isAmbidextrous_impl _ _ _ _ _ _ _ I3 I4).mono ?_
      rintro e u6 ⟨rfl, bb⟩
      replace I3 := I3.below bb
      replace I4 := I4.below bb
      have S6 : u5.heap.size ≤ u6.heap.size := bb.size
      replace BB := BB.trans (bb.mono BB.size)
      clear bb
      go_wp2_with fail
      refine (toInt64S_any a0 len0 cap0 z0 _ (w0.below BB) hbig0).mono ?_
      rintro e u7 ⟨rfl, I5, bb⟩
      replace I3 := I3.below bb
      replace I4 := I4.below bb
      have S7 : u6.heap.size ≤ u7.heap.size := bb.size
      replace BB := BB.trans (bb.mono BB.size)
      clear bb
      go_wp2_with fail
      refine (eqInt64S_any _ _ _ _ _ _ I3 I5).mono ?_
      rintro e u8 ⟨rfl, bb⟩
      replace I3 := I3.below bb
      replace I4 := I4.below bb
      replace I5 := I5.below bb
      have S8 : u7.heap.size ≤ u8.heap.size := bb.size
      replace BB := BB.trans (bb.mono BB.size)
      clear bb
      clear I5
      go_wp2_with fail
      refine (toInt64S_any a1 len1 cap1 z1 _ (w1.below BB) hbig1).mono ?_
      rintro e u9 ⟨rfl, I6, bb⟩
      replace I3 := I3.below bb
      replace I4 := I4.below bb
      have S9 : u8.heap.size ≤ u9.heap.size := bb.size
      replace BB := BB.trans (bb.mono BB.size)
      clear bb
      go_wp2_with fail
      refine (eqInt64S_any _ _ _ _ _ _ I4 I6).mono ?_
      rintro e u10 ⟨rfl, bb⟩
      replace I3 := I3.below bb
      replace I4 := I4.below bb
      replace I6 := I6.below bb
      have S10 : u9.heap.size ≤ u10.heap.size := bb.size
      replace BB := BB.trans (bb.mono BB.size)
      clear bb
      clear I6
      go_wp2
      go_ret
      exact ⟨rfl, BB⟩
    · have hb1 : (1048576 : Int) < (len1 : Int) := by omega
      have hm1 := w1.parts.2.1
      unfold maxLen at hm1
      go_enter Try.func11, Try.ntmps11
      go_wp2
      go_ret
      exact ⟨rfl, Below.refl _ _⟩
  · have hb0 : (1048576 : Int) < (len0 : Int) := by omega
    have hm0 := w0.parts.2.1
    unfold maxLen at hm0
    go_enter Try.func11, Try.ntmps11
    go_wp2
    go_ret
    exact ⟨rfl, Below.refl _ _⟩
end Go.Proofs.Ytbnmbodnjecajaa
