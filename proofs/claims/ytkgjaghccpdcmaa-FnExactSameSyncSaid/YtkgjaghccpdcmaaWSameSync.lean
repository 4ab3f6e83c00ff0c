/- The walk of the law FnExactSameSync: it returns true, and writes nothing that was there. Conditions: none. -/
import Derived.Test.YtkgjaghccpdcmaaSynL
namespace Go.Proofs.Ytkgjaghccpdcmaa
open Go.RowKit
set_option linter.unusedSimpArgs false
set_option linter.unusedVariables false

set_option maxHeartbeats 1000000 in
theorem walk_SameSync (a0 : Option Addr) (len0 cap0 : Nat) (z0 : List Syn) (a1 : Option Addr) (len1 cap1 : Nat) (z1 : List Syn) (w : World) (w0 : IsSyncs w a0 len0 cap0 z0) (w1 : IsSyncs w a1 len1 cap1 z1) :
    Calls Try.prog 6 #[.slice a0 len0 cap0, .slice a1 len1 cap1] w fun e w' => e = .returned (.bool true) ∧ Below w.heap.size w w' := by
  have BB := Below.refl w.heap.size w
  go_enter Try.func6, Try.ntmps6
  go_wp2_with fail
  refine (szSyncBeatS_any a0 len0 cap0 z0 1048576 _ (w0.below synV_len BB) (by omega) (by omega)).mono ?_
  rintro e u1 ⟨r0, rfl, hr0, bb⟩
  have S1 : w.heap.size ≤ u1.heap.size := bb.size
  replace BB := BB.trans (bb.mono BB.size)
  clear bb
  rcases hr0 with rfl | ⟨hrp0, hrv0⟩
  · go_wp2
    go_ret
    exact ⟨rfl, BB⟩
  have hbig0 : len0 ≤ 1048576 := by omega
  have hrq0 : r0 ≤ 1048576 := by omega
  clear hrv0
  have hle0 : z0.length ≤ 1048576 := by have := w0.num; omega
  go_wp2_with fail
  refine (szSyncBeatS_any a1 len1 cap1 z1 r0 _ (w1.below synV_len BB) (by omega) (by omega)).mono ?_
  rintro e u2 ⟨r1, rfl, hr1, bb⟩
  have S2 : u1.heap.size ≤ u2.heap.size := bb.size
  replace BB := BB.trans (bb.mono BB.size)
  clear bb
  rcases hr1 with rfl | ⟨hrp1, hrv1⟩
  · go_wp2
    go_ret
    exact ⟨rfl, BB⟩
  have hbig1 : len1 ≤ 1048576 := by omega
  have hrq1 : r1 ≤ 1048576 := by omega
  clear hrv1
  have hle1 : z1.length ≤ 1048576 := by have := w1.num; omega
  go_wp2_with fail
  refine (toSyncBeatS_any a0 len0 cap0 z0 _ (w0.below synV_len BB) hbig0).mono ?_
  rintro e u3 ⟨rfl, I1, bb⟩
  have S3 : u2.heap.size ≤ u3.heap.size := bb.size
  replace BB := BB.trans (bb.mono BB.size)
  clear bb
  go_wp2_with fail
  refine (toSyncBeatS_any a1 len1 cap1 z1 _ (w1.below synV_len BB) hbig1).mono ?_
  rintro e u4 ⟨rfl, I2, bb⟩
  replace I1 := I1.below bb
  have S4 : u3.heap.size ≤ u4.heap.size := bb.size
  replace BB := BB.trans (bb.mono BB.size)
  clear bb
  go_wp2_with fail
  refine (sameSync_spec _ _ _ _ _ _ _ I1 I2).mono ?_
  rintro e u5 ⟨rfl, bb⟩
  replace I1 := I1.below bb
  replace I2 := I2.below bb
  have S5 : u4.heap.size ≤ u5.heap.size := bb.size
  replace BB := BB.trans (bb.mono BB.size)
  clear bb
  clear I1
  clear I2
  go_wp2_with fail
  refine (toSyncBeatS_any a0 len0 cap0 z0 _ (w0.below synV_len BB) hbig0).mono ?_
  rintro e u6 ⟨rfl, I3, bb⟩
  have S6 : u5.heap.size ≤ u6.heap.size := bb.size
  replace BB := BB.trans (bb.mono BB.size)
  clear bb
  go_wp2_with fail
  refine (toSyncBeatS_any a1 len1 cap1 z1 _ (w1.below synV_len BB) hbig1).mono ?_
  rintro e u7 ⟨rfl, I4, bb⟩
  replace I3 := I3.below bb
  have S7 : u6.heap.size ≤ u7.heap.size := bb.size
  replace BB := BB.trans (bb.mono BB.size)
  clear bb
  go_wp2_with fail
  refine (sameSync_impl _ _ _ _ _ _ _ I3 I4).mono ?_
  rintro e u8 ⟨rfl, bb⟩
  replace I3 := I3.below bb
  replace I4 := I4.below bb
  have S8 : u7.heap.size ≤ u8.heap.size := bb.size
  replace BB := BB.trans (bb.mono BB.size)
  clear bb
  go_wp2_with fail
  refine (toSyncBeatS_any a0 len0 cap0 z0 _ (w0.below synV_len BB) hbig0).mono ?_
  rintro e u9 ⟨rfl, I5, bb⟩
  replace I3 := I3.below bb
  replace I4 := I4.below bb
  have S9 : u8.heap.size ≤ u9.heap.size := bb.size
  replace BB := BB.trans (bb.mono BB.size)
  clear bb
  go_wp2_with fail
  refine (eqSyncBeatS_any _ _ _ _ _ _ I3 I5).mono ?_
  rintro e u10 ⟨rfl, bb⟩
  replace I3 := I3.below bb
  replace I4 := I4.below bb
  replace I5 := I5.below bb
  have S10 : u9.heap.size ≤ u10.heap.size := bb.size
  replace BB := BB.trans (bb.mono BB.size)
  clear bb
  clear I5
  go_wp2_with fail
  refine (toSyncBeatS_any a1 len1 cap1 z1 _ (w1.below synV_len BB) hbig1).mono ?_
  rintro e u11 ⟨rfl, I6, bb⟩
  replace I3 := I3.below bb
  replace I4 := I4.below bb
  have S11 : u10.heap.size ≤ u11.heap.size := bb.size
  replace BB := BB.trans (bb.mono BB.size)
  clear bb
  go_wp2_with fail
  refine (eqSyncBeatS_any _ _ _ _ _ _ I4 I6).mono ?_
  rintro e u12 ⟨rfl, bb⟩
  replace I3 := I3.below bb
  replace I4 := I4.below bb
  replace I6 := I6.below bb
  have S12 : u11.heap.size ≤ u12.heap.size := bb.size
  replace BB := BB.trans (bb.mono BB.size)
  clear bb
  clear I6
  go_wp2
  go_ret
  exact ⟨rfl, BB⟩
end Go.Proofs.Ytkgjaghccpdcmaa
