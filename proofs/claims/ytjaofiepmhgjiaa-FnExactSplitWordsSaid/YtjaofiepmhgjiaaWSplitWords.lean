/- The walk of the law FnExactSplitWords: it returns true, and writes nothing that was there. Conditions: none. -/
import Derived.Test.YtjaofiepmhgjiaaWords
namespace Go.Proofs.Ytjaofiepmhgjiaa
open Go.RowKit
set_option linter.unusedSimpArgs false
set_option linter.unusedVariables false

theorem wordsL_len (s : ByteArray) : (wordsL s).length ≤ s.size + 1 := by
  have h := wordsK_len s (cuts s).length
  rw [wordsK_all] at h
  exact Nat.le_trans h (cuts_len s)

set_option maxHeartbeats 1000000 in
theorem walk_SplitWords (a0 : ByteArray) (w0 : a0.size ≤ maxLen) (w : World) :
    Calls Try.prog 3 #[.string a0] w fun e w' => e = .returned (.bool true) ∧ Below w.heap.size w w' := by
  unfold maxLen at w0
  by_cases hbig : a0.size ≤ 1048576
  · have hL := wordsL_len a0
    have BB := Below.refl w.heap.size w
    have HS := fun w => splitWords_spec a0 w hbig
    have HI := fun w => splitWords_impl a0 w hbig
    generalize wordsL a0 = L at *
    go_enter Try.func3, Try.ntmps3
    go_wp2_with fail
    refine (HS _).mono ?_
    rintro e u1 ⟨v1, rfl, I1, bb⟩
    have S1 := bb.size
    replace BB := BB.trans (bb.mono BB.size)
    clear bb
    have U1 := I1.under
    go_wp2_with fail
    refine (HI _).mono ?_
    rintro e u2 ⟨v2, rfl, I2, bb⟩
    replace I1 := I1.below bb
    have S2 := bb.size
    replace BB := BB.trans (bb.mono BB.size)
    clear bb
    have U2 := I2.under
    go_wp2_with fail
    refine (eqStringS_any _ _ _ _ _ _ I2 I1).mono ?_
    rintro e u3 ⟨rfl, bb⟩
    replace I1 := I1.below bb
    replace I2 := I2.below bb
    have S3 := bb.size
    replace BB := BB.trans (bb.mono BB.size)
    clear bb
    go_wp2_with fail
    refine (markStringS_any _ _ _ 1 _ I2 (by omega) (by omega)).mono ?_
    rintro e u4 ⟨rfl, NN, gr⟩
    have S4 := gr.size
    replace BB := Own.marked BB I2 (by omega) gr
    replace I1 := I1.kept_before U1 gr I2 (by omega)
    replace I2 := NN
    clear NN gr
    go_wp2_with fail
    refine (heldStringS_any _ _ _ 1 _ I2 (by omega) (by omega)).mono ?_
    rintro e u5 ⟨rfl, bb⟩
    replace I1 := I1.below bb
    replace I2 := I2.below bb
    have S5 := bb.size
    replace BB := BB.trans (bb.mono BB.size)
    clear bb
    go_wp2_with fail
    refine (HI _).mono ?_
    rintro e u6 ⟨v6, rfl, I6, bb⟩
    replace I1 := I1.below bb
    replace I2 := I2.below bb
    have S6 := bb.size
    replace BB := BB.trans (bb.mono BB.size)
    clear bb
    go_wp2_with fail
    refine (eqStringS_any _ _ _ _ _ _ I6 I1).mono ?_
    rintro e u7 ⟨rfl, bb⟩
    replace I2 := I2.below bb
    have S7 := bb.size
    replace BB := BB.trans (bb.mono BB.size)
    clear bb
    go_wp2_with fail
    refine (heldStringS_any _ _ _ 1 _ I2 (by omega) (by omega)).mono ?_
    rintro e u8 ⟨rfl, bb⟩
    have S8 := bb.size
    replace BB := BB.trans (bb.mono BB.size)
    clear bb
    go_wp2
    go_ret
    exact ⟨rfl, BB⟩
  · have hb0 : (1048576 : Int) < (a0.size : Int) := by omega
    go_enter Try.func3, Try.ntmps3
    go_wp2
    go_ret
    exact ⟨rfl, Below.refl _ _⟩
end Go.Proofs.Ytjaofiepmhgjiaa
