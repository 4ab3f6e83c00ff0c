/- The walk of the law FnExactSortBeat: it returns true, and writes nothing that was there. Conditions: none. -/
import Derived.Test.YtmnkfflmljeokaaRange
import Derived.Deep.RegionHeld3
import Derived.Test.YtmnkfflmljeokaaSortS
namespace Go.Proofs.Ytmnkfflmljeokaa
open Go.RowKit
set_option linter.unusedSimpArgs false
set_option linter.unusedVariables false

set_option maxRecDepth 10000 in
set_option maxHeartbeats 1000000 in
theorem walk_SortBeat (a0 : Option Addr) (len0 cap0 : Nat) (z0 : List Int) (w : World) (w0 : IsRow .i64 w a0 len0 cap0 z0) :
    Calls Try.prog 11 #[.slice a0 len0 cap0] w fun e w' => e = .returned (.bool true) ∧ Below w.heap.size w w' := by
  by_cases hbig0 : len0 ≤ 1048576
  · skip
    have hl0 := w0.parts.1
    have hle0 : (z0.take len0).length ≤ 1048576 := by simp; omega
    clear hl0
    have hx0 := sortR_len (z0.take len0)
    have BB := Below.refl w.heap.size w
    go_enter Try.func11, Try.ntmps11
    go_wp2_with fail
    refine (toInt64S_any a0 len0 cap0 z0 _ (w0.below BB) hbig0).mono ?_
    rintro e u1 ⟨rfl, F1, bb⟩
    have S1 : w.heap.size ≤ u1.heap.size := bb.size
    replace BB := BB.trans (bb.mono BB.size)
    clear bb
    replace F1 := Row.mk F1
    go_wp2_with fail
    refine (sortBeat_spec _ _ _ _ F1.1 (by omega)).mono ?_
    rintro e u2 ⟨vF2, rfl, F2, bb⟩
    replace F1 := F1.below bb
    have S2 : u1.heap.size ≤ u2.heap.size := bb.size
    replace BB := BB.trans (bb.mono BB.size)
    clear bb
    replace F2 := Row.mk F2
    clear F1
    go_wp2_with fail
    refine (toInt64S_any a0 len0 cap0 z0 _ (w0.below BB) hbig0).mono ?_
    rintro e u3 ⟨rfl, F3, bb⟩
    replace F2 := F2.below bb
    have S3 : u2.heap.size ≤ u3.heap.size := bb.size
    replace BB := BB.trans (bb.mono BB.size)
    clear bb
    replace F3 := Row.mk F3
    go_wp2_with fail
    refine (sortBeat_impl _ _ _ _ F3.1 (by omega)).mono ?_
    rintro e u4 ⟨vF4, rfl, F4, bb⟩
    replace F2 := F2.below bb
    replace F3 := F3.below bb
    have S4 : u3.heap.size ≤ u4.heap.size := bb.size
    replace BB := BB.trans (bb.mono BB.size)
    clear bb
    replace F4 := Row.mk F4
    go_wp2_with fail
    refine (eqInt64S_any _ _ _ _ _ _ F4.1 F2.1).mono ?_
    rintro e u5 ⟨rfl, bb⟩
    replace F2 := F2.below bb
    replace F3 := F3.below bb
    replace F4 := F4.below bb
    have S5 : u4.heap.size ≤ u5.heap.size := bb.size
    replace BB := BB.trans (bb.mono BB.size)
    clear bb
    go_wp2_with fail
    refine (toInt64S_any a0 len0 cap0 z0 _ (w0.below BB) hbig0).mono ?_
    rintro e u6 ⟨rfl, F5, bb⟩
    replace F2 := F2.below bb
    replace F3 := F3.below bb
    replace F4 := F4.below bb
    have S6 : u5.heap.size ≤ u6.heap.size := bb.size
    replace BB := BB.trans (bb.mono BB.size)
    clear bb
    replace F5 := Row.mk F5
    go_wp2_with fail
    refine (eqInt64S_any _ _ _ _ _ _ F3.1 F5.1).mono ?_
    rintro e u7 ⟨rfl, bb⟩
    replace F2 := F2.below bb
    replace F3 := F3.below bb
    replace F4 := F4.below bb
    replace F5 := F5.below bb
    have S7 : u6.heap.size ≤ u7.heap.size := bb.size
    replace BB := BB.trans (bb.mono BB.size)
    clear bb
    clear F5
    go_wp2_with fail
    refine (markInt64S_any _ _ _ _ _ F3.1 (by omega) (by omega)).mono ?_
    rintro e u8 ⟨rfl, NN, gr⟩
    have ww := Row.marked F3 gr
    replace NN := Row.again F3 gr NN
    clear gr
    have S8 : u7.heap.size ≤ u8.heap.size := ww.size
    replace BB := ww.below BB (by omega) (by omega)
    replace F2 := F2.within ww (by omega)
    replace F4 := F4.within ww (by omega)
    replace F3 := NN
    clear NN ww
    go_wp2_with fail
    refine (eqInt64S_any _ _ _ _ _ _ F4.1 F2.1).mono ?_
    rintro e u9 ⟨rfl, bb⟩
    replace F2 := F2.below bb
    replace F3 := F3.below bb
    replace F4 := F4.below bb
    have S9 : u8.heap.size ≤ u9.heap.size := bb.size
    replace BB := BB.trans (bb.mono BB.size)
    clear bb
    go_wp2_with fail
    refine (markInt64S_any _ _ _ _ _ F4.1 (by omega) (by omega)).mono ?_
    rintro e u10 ⟨rfl, NN, gr⟩
    have ww := Row.marked F4 gr
    replace NN := Row.again F4 gr NN
    clear gr
    have S10 : u9.heap.size ≤ u10.heap.size := ww.size
    replace BB := ww.below BB (by omega) (by omega)
    replace F2 := F2.within ww (by omega)
    replace F3 := F3.within ww (by omega)
    replace F4 := NN
    clear NN ww
    go_wp2_with fail
    refine (heldInt64S_any _ _ _ _ _ F4.1 (by omega) (by omega)).mono ?_
    rintro e u11 ⟨rfl, bb⟩
    replace F2 := F2.below bb
    replace F3 := F3.below bb
    replace F4 := F4.below bb
    have S11 : u10.heap.size ≤ u11.heap.size := bb.size
    replace BB := BB.trans (bb.mono BB.size)
    clear bb
    go_wp2_with fail
    refine (toInt64S_any a0 len0 cap0 z0 _ (w0.below BB) hbig0).mono ?_
    rintro e u12 ⟨rfl, F6, bb⟩
    replace F2 := F2.below bb
    replace F3 := F3.below bb
    replace F4 := F4.below bb
    have S12 : u11.heap.size ≤ u12.heap.size := bb.size
    replace BB := BB.trans (bb.mono BB.size)
    clear bb
    replace F6 := Row.mk F6
    go_wp2_with fail
    refine (sortBeat_impl _ _ _ _ F6.1 (by omega)).mono ?_
    rintro e u13 ⟨vF7, rfl, F7, bb⟩
    replace F2 := F2.below bb
    replace F3 := F3.below bb
    replace F4 := F4.below bb
    replace F6 := F6.below bb
    have S13 : u12.heap.size ≤ u13.heap.size := bb.size
    replace BB := BB.trans (bb.mono BB.size)
    clear bb
    replace F7 := Row.mk F7
    clear F6
    go_wp2_with fail
    refine (eqInt64S_any _ _ _ _ _ _ F7.1 F2.1).mono ?_
    rintro e u14 ⟨rfl, bb⟩
    replace F2 := F2.below bb
    replace F3 := F3.below bb
    replace F4 := F4.below bb
    replace F7 := F7.below bb
    have S14 : u13.heap.size ≤ u14.heap.size := bb.size
    replace BB := BB.trans (bb.mono BB.size)
    clear bb
    go_wp2_with fail
    refine (heldInt64S_any _ _ _ _ _ F4.1 (by omega) (by omega)).mono ?_
    rintro e u15 ⟨rfl, bb⟩
    replace F2 := F2.below bb
    replace F3 := F3.below bb
    replace F4 := F4.below bb
    replace F7 := F7.below bb
    have S15 : u14.heap.size ≤ u15.heap.size := bb.size
    replace BB := BB.trans (bb.mono BB.size)
    clear bb
    go_wp2
    go_ret
    exact ⟨rfl, BB⟩
  · have hb0 : (1048576 : Int) < (len0 : Int) := by omega
    have hm0 := w0.parts.2.1
    unfold maxLen at hm0
    go_enter Try.func11, Try.ntmps11
    go_wp2
    go_ret
    exact ⟨rfl, Below.refl _ _⟩
end Go.Proofs.Ytmnkfflmljeokaa
