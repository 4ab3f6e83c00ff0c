/- The walk of the law FnExactRestsOf: it returns true, and writes nothing that was there. Conditions: none. -/
import Derived.Test.YtbnmbodnjecajaaInts
import Derived.Test.YtbnmbodnjecajaaHdH
namespace Go.Proofs.Ytbnmbodnjecajaa
open Go.RowKit
set_option linter.unusedSimpArgs false
set_option linter.unusedVariables false

set_option maxHeartbeats 1000000 in
theorem walk_RestsOf (a0 : Option Addr) (len0 cap0 : Nat) (z0 : List Int) (a1 : Option Addr) (len1 cap1 : Nat) (z1 : List Int) (w : World) (w0 : IsRow .i64 w a0 len0 cap0 z0) (w1 : IsRow .i64 w a1 len1 cap1 z1) :
    Calls Try.prog 9 #[.slice a0 len0 cap0, .slice a1 len1 cap1] w fun e w' => e = .returned (.bool true) ∧ Below w.heap.size w w' := by
  by_cases hbig0 : len0 ≤ 1048576
  · skip
    by_cases hbig1 : len1 ≤ 1048576
    · skip
      have hl0 := w0.parts.1
      have ht0 : (z0.take len0).length = len0 := by simp; omega
      have hle0 : (z0.take len0).length ≤ 1048576 := by omega
      clear hl0 ht0
      have hl1 := w1.parts.1
      have ht1 : (z1.take len1).length = len1 := by simp; omega
      have hle1 : (z1.take len1).length ≤ 1048576 := by omega
      clear hl1 ht1
      have hx0 := rsA_len (z0.take len0) (z1.take len1)
      have BB := Below.refl w.heap.size w
      go_enter Try.func9, Try.ntmps9
      go_wp2_with fail
      refine (toInt64S_any a0 len0 cap0 z0 _ (w0.below BB) hbig0).mono ?_
      rintro e u1 ⟨rfl, I1, bb⟩
      have S1 : w.heap.size ≤ u1.heap.size := bb.size
      replace BB := BB.trans (bb.mono BB.size)
      clear bb
      have UI1 := I1.under
      go_wp2_with fail
      refine (toInt64S_any a1 len1 cap1 z1 _ (w1.below BB) hbig1).mono ?_
      rintro e u2 ⟨rfl, I2, bb⟩
      replace I1 := I1.below bb
      have S2 : u1.heap.size ≤ u2.heap.size := bb.size
      replace BB := BB.trans (bb.mono BB.size)
      clear bb
      have UI2 := I2.under
      go_wp2_with fail
      refine (restsOf_spec _ _ _ _ _ _ _ I1 I2).mono ?_
      rintro e u3 ⟨v3, rfl, I3, bb⟩
      replace I1 := I1.below bb
      replace I2 := I2.below bb
      have S3 : u2.heap.size ≤ u3.heap.size := bb.size
      replace BB := BB.trans (bb.mono BB.size)
      clear bb
      have UI3 := I3.under
      clear UI1 I1
      clear UI2 I2
      go_wp2_with fail
      refine (toInt64S_any a0 len0 cap0 z0 _ (w0.below BB) hbig0).mono ?_
      rintro e u4 ⟨rfl, I4, bb⟩
      replace I3 := I3.below bb
      have S4 : u3.heap.size ≤ u4.heap.size := bb.size
      replace BB := BB.trans (bb.mono BB.size)
      clear bb
      have UI4 := I4.under
      go_wp2_with fail
      refine (toInt64S_any a1 len1 cap1 z1 _ (w1.below BB) hbig1).mono ?_
      rintro e u5 ⟨rfl, I5, bb⟩
      replace I3 := I3.below bb
      replace I4 := I4.below bb
      have S5 : u4.heap.size ≤ u5.heap.size := bb.size
      replace BB := BB.trans (bb.mono BB.size)
      clear bb
      have UI5 := I5.under
      go_wp2_with fail
      refine (restsOf_impl _ _ _ _ _ _ _ I4 I5).mono ?_
      rintro e u6 ⟨v6, rfl, I6, bb⟩
      replace I3 := I3.below bb
      replace I4 := I4.below bb
      replace I5 := I5.below bb
      have S6 : u5.heap.size ≤ u6.heap.size := bb.size
      replace BB := BB.trans (bb.mono BB.size)
      clear bb
      have UI6 := I6.under
      go_wp2_with fail
      refine (eqInt64S_any _ _ _ _ _ _ I6 I3).mono ?_
      rintro e u7 ⟨rfl, bb⟩
      replace I3 := I3.below bb
      replace I4 := I4.below bb
      replace I5 := I5.below bb
      replace I6 := I6.below bb
      have S7 : u6.heap.size ≤ u7.heap.size := bb.size
      replace BB := BB.trans (bb.mono BB.size)
      clear bb
      go_wp2_with fail
      refine (toInt64S_any a0 len0 cap0 z0 _ (w0.below BB) hbig0).mono ?_
      rintro e u8 ⟨rfl, I7, bb⟩
      replace I3 := I3.below bb
      replace I4 := I4.below bb
      replace I5 := I5.below bb
      replace I6 := I6.below bb
      have S8 : u7.heap.size ≤ u8.heap.size := bb.size
      replace BB := BB.trans (bb.mono BB.size)
      clear bb
      have UI7 := I7.under
      go_wp2_with fail
      refine (eqInt64S_any _ _ _ _ _ _ I4 I7).mono ?_
      rintro e u9 ⟨rfl, bb⟩
      replace I3 := I3.below bb
      replace I4 := I4.below bb
      replace I5 := I5.below bb
      replace I6 := I6.below bb
      replace I7 := I7.below bb
      have S9 : u8.heap.size ≤ u9.heap.size := bb.size
      replace BB := BB.trans (bb.mono BB.size)
      clear bb
      clear UI7 I7
      go_wp2_with fail
      refine (toInt64S_any a1 len1 cap1 z1 _ (w1.below BB) hbig1).mono ?_
      rintro e u10 ⟨rfl, I8, bb⟩
      replace I3 := I3.below bb
      replace I4 := I4.below bb
      replace I5 := I5.below bb
      replace I6 := I6.below bb
      have S10 : u9.heap.size ≤ u10.heap.size := bb.size
      replace BB := BB.trans (bb.mono BB.size)
      clear bb
      have UI8 := I8.under
      go_wp2_with fail
      refine (eqInt64S_any _ _ _ _ _ _ I5 I8).mono ?_
      rintro e u11 ⟨rfl, bb⟩
      replace I3 := I3.below bb
      replace I4 := I4.below bb
      replace I5 := I5.below bb
      replace I6 := I6.below bb
      replace I8 := I8.below bb
      have S11 : u10.heap.size ≤ u11.heap.size := bb.size
      replace BB := BB.trans (bb.mono BB.size)
      clear bb
      clear UI8 I8
      go_wp2_with fail
      refine (markInt64S_any _ _ _ _ _ I4 (by omega) (by omega)).mono ?_
      rintro e u12 ⟨rfl, NN, gr⟩
      have S12 : u11.heap.size ≤ u12.heap.size := gr.size
      replace BB := marked_below BB I4 (by omega) gr
      replace I3 := I3.kept_before UI3 gr I4 (by omega)
      replace I5 := I5.kept_after gr UI4 (by omega)
      replace I6 := I6.kept_after gr UI4 (by omega)
      replace I4 := NN
      clear NN gr
      go_wp2_with fail
      refine (markInt64S_any _ _ _ _ _ I5 (by omega) (by omega)).mono ?_
      rintro e u13 ⟨rfl, NN, gr⟩
      have S13 : u12.heap.size ≤ u13.heap.size := gr.size
      replace BB := marked_below BB I5 (by omega) gr
      replace I3 := I3.kept_before UI3 gr I5 (by omega)
      replace I4 := I4.kept_before UI4 gr I5 (by omega)
      replace I6 := I6.kept_after gr UI5 (by omega)
      replace I5 := NN
      clear NN gr
      go_wp2_with fail
      refine (eqInt64S_any _ _ _ _ _ _ I6 I3).mono ?_
      rintro e u14 ⟨rfl, bb⟩
      replace I3 := I3.below bb
      replace I4 := I4.below bb
      replace I5 := I5.below bb
      replace I6 := I6.below bb
      have S14 : u13.heap.size ≤ u14.heap.size := bb.size
      replace BB := BB.trans (bb.mono BB.size)
      clear bb
      go_wp2_with fail
      refine (markInt64S_any _ _ _ _ _ I6 (by omega) (by omega)).mono ?_
      rintro e u15 ⟨rfl, NN, gr⟩
      have S15 : u14.heap.size ≤ u15.heap.size := gr.size
      replace BB := marked_below BB I6 (by omega) gr
      replace I3 := I3.kept_before UI3 gr I6 (by omega)
      replace I4 := I4.kept_before UI4 gr I6 (by omega)
      replace I5 := I5.kept_before UI5 gr I6 (by omega)
      replace I6 := NN
      clear NN gr
      go_wp2_with fail
      refine (heldInt64S_any _ _ _ _ _ I6 (by omega) (by omega)).mono ?_
      rintro e u16 ⟨rfl, bb⟩
      replace I3 := I3.below bb
      replace I4 := I4.below bb
      replace I5 := I5.below bb
      replace I6 := I6.below bb
      have S16 : u15.heap.size ≤ u16.heap.size := bb.size
      replace BB := BB.trans (bb.mono BB.size)
      clear bb
      go_wp2_with fail
      refine (toInt64S_any a0 len0 cap0 z0 _ (w0.below BB) hbig0).mono ?_
      rintro e u17 ⟨rfl, I9, bb⟩
      replace I3 := I3.below bb
      replace I4 := I4.below bb
      replace I5 := I5.below bb
      replace I6 := I6.below bb
      have S17 : u16.heap.size ≤ u17.heap.size := bb.size
      replace BB := BB.trans (bb.mono BB.size)
      clear bb
      have UI9 := I9.under
      go_wp2_with fail
      refine (toInt64S_any a1 len1 cap1 z1 _ (w1.below BB) hbig1).mono ?_
      rintro e u18 ⟨rfl, I10, bb⟩
      replace I3 := I3.below bb
      replace I4 := I4.below bb
      replace I5 := I5.below bb
      replace I6 := I6.below bb
      replace I9 := I9.below bb
      have S18 : u17.heap.size ≤ u18.heap.size := bb.size
      replace BB := BB.trans (bb.mono BB.size)
      clear bb
      have UI10 := I10.under
      go_wp2_with fail
      refine (restsOf_impl _ _ _ _ _ _ _ I9 I10).mono ?_
      rintro e u19 ⟨v11, rfl, I11, bb⟩
      replace I3 := I3.below bb
      replace I4 := I4.below bb
      replace I5 := I5.below bb
      replace I6 := I6.below bb
      replace I9 := I9.below bb
      replace I10 := I10.below bb
      have S19 : u18.heap.size ≤ u19.heap.size := bb.size
      replace BB := BB.trans (bb.mono BB.size)
      clear bb
      have UI11 := I11.under
      clear UI9 I9
      clear UI10 I10
      go_wp2_with fail
      refine (eqInt64S_any _ _ _ _ _ _ I11 I3).mono ?_
      rintro e u20 ⟨rfl, bb⟩
      replace I3 := I3.below bb
      replace I4 := I4.below bb
      replace I5 := I5.below bb
      replace I6 := I6.below bb
      replace I11 := I11.below bb
      have S20 : u19.heap.size ≤ u20.heap.size := bb.size
      replace BB := BB.trans (bb.mono BB.size)
      clear bb
      go_wp2_with fail
      refine (heldInt64S_any _ _ _ _ _ I6 (by omega) (by omega)).mono ?_
      rintro e u21 ⟨rfl, bb⟩
      replace I3 := I3.below bb
      replace I4 := I4.below bb
      replace I5 := I5.below bb
      replace I6 := I6.below bb
      replace I11 := I11.below bb
      have S21 : u20.heap.size ≤ u21.heap.size := bb.size
      replace BB := BB.trans (bb.mono BB.size)
      clear bb
      go_wp2
      go_ret
      exact ⟨rfl, BB⟩
    · have hb1 : (1048576 : Int) < (len1 : Int) := by omega
      have hm1 := w1.parts.2.1
      unfold maxLen at hm1
      go_enter Try.func9, Try.ntmps9
      go_wp2
      go_ret
      exact ⟨rfl, Below.refl _ _⟩
  · have hb0 : (1048576 : Int) < (len0 : Int) := by omega
    have hm0 := w0.parts.2.1
    unfold maxLen at hm0
    go_enter Try.func9, Try.ntmps9
    go_wp2
    go_ret
    exact ⟨rfl, Below.refl _ _⟩
end Go.Proofs.Ytbnmbodnjecajaa
