/- The walk of the law FnExactSyncText: it returns true, and writes nothing that was there. Conditions: none. -/
import Derived.Test.YtdgmmaghmdbnjaaDoorSynY
import Derived.Test.YtdgmmaghmdbnjaaDoorSynZ
namespace Go.Proofs.YtdgmmaghmdbnjaaDoor
open Go.RowKit
set_option linter.unusedSimpArgs false
set_option linter.unusedVariables false

set_option maxHeartbeats 1000000 in
theorem walk_SyncText (a0 : Option Addr) (len0 cap0 : Nat) (z0 : List Syn) (w : World) (w0 : IsSyncs w a0 len0 cap0 z0) (hM0 : Marks w) :
    Calls Tryd.prog 4 #[.slice a0 len0 cap0] w fun e w' => e = .returned (.bool true) ∧ Below w.heap.size w w' := by
  have BB := Below.refl w.heap.size w
  go_enter Tryd.func4, Tryd.ntmps4
  go_wp2_with fail
  refine (szSyncBeatS_any a0 len0 cap0 z0 1048576 _ (w0.below synV_len BB) (by omega) (by omega)).mono ?_
  rintro e u1 ⟨r0, rfl, hr0, bb⟩
  have S1 : w.heap.size ≤ u1.heap.size := bb.size
  replace BB := BB.trans (bb.mono BB.size)
  clear bb
  rcases hr0 with rfl | ⟨hrp0, hrv0⟩
  · go_wp2
    go_ret
    exact ⟨rfl, BB⟩
  have hbig0 : len0 ≤ 1048576 := by omega
  have hrq0 : r0 ≤ 1048576 := by omega
  clear hrv0
  have hle0 : z0.length ≤ 1048576 := by have := w0.num; omega
  go_wp2_with fail
  refine (toSyncBeatS_any a0 len0 cap0 z0 _ (w0.below synV_len BB) hbig0).mono ?_
  rintro e u2 ⟨rfl, I1, bb⟩
  have S2 : u1.heap.size ≤ u2.heap.size := bb.size
  replace BB := BB.trans (bb.mono BB.size)
  clear bb
  go_wp2_with fail
  refine (syncText_spec _ _ _ _ I1).mono ?_
  rintro e u3 ⟨rfl, bb⟩
  replace I1 := I1.below bb
  have S3 : u2.heap.size ≤ u3.heap.size := bb.size
  replace BB := BB.trans (bb.mono BB.size)
  clear bb
  clear I1
  go_wp2_with fail
  refine (toSyncBeatS_any a0 len0 cap0 z0 _ (w0.below synV_len BB) hbig0).mono ?_
  rintro e u4 ⟨rfl, I2, bb⟩
  have S4 : u3.heap.size ≤ u4.heap.size := bb.size
  replace BB := BB.trans (bb.mono BB.size)
  clear bb
  go_wp2_with fail
  refine (syncText_impl _ _ _ _ I2 (hM0.below BB hM0.1)).mono ?_
  rintro e u5 ⟨rfl, bb⟩
  replace I2 := I2.below bb
  have S5 : u4.heap.size ≤ u5.heap.size := bb.size
  replace BB := BB.trans (bb.mono BB.size)
  clear bb
  go_wp2_with fail
  refine (toSyncBeatS_any a0 len0 cap0 z0 _ (w0.below synV_len BB) hbig0).mono ?_
  rintro e u6 ⟨rfl, I3, bb⟩
  replace I2 := I2.below bb
  have S6 : u5.heap.size ≤ u6.heap.size := bb.size
  replace BB := BB.trans (bb.mono BB.size)
  clear bb
  go_wp2_with fail
  refine (eqSyncBeatS_any _ _ _ _ _ _ I2 I3).mono ?_
  rintro e u7 ⟨rfl, bb⟩
  replace I2 := I2.below bb
  replace I3 := I3.below bb
  have S7 : u6.heap.size ≤ u7.heap.size := bb.size
  replace BB := BB.trans (bb.mono BB.size)
  clear bb
  clear I3
  go_wp2
  go_ret
  exact ⟨rfl, BB⟩
end Go.Proofs.YtdgmmaghmdbnjaaDoor
