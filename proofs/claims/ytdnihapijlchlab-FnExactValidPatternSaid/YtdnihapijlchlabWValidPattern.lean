/- The walk of the law FnExactValidPattern: it returns true. No conditions. -/
import Derived.Test.YtdnihapijlchlabInts
import Derived.Test.YtdnihapijlchlabImpl02
namespace Go.Proofs.Ytdnihapijlchlab
open Go.RowKit
set_option linter.unusedSimpArgs false
set_option linter.unusedVariables false

theorem walk_ValidPattern (a : Option Addr) (len cap : Nat) (z : List Int) (w : World) (h : IsRow .i64 w a len cap z) :
    Calls Try.prog 11 #[.slice a len cap] w fun e w' => e = .returned (.bool true) ∧ Below w.heap.size w w' := by
  by_cases hbig : len ≤ 1048576
  · go_enter Try.func11, Try.ntmps11
    go_wp2_with fail
    refine (toInt64S_any a len cap z _ h hbig).mono ?_
    rintro e w1 ⟨rfl, i1, b1⟩
    go_wp2_with fail
    refine (validPattern_spec _ _ _ _ i1).mono ?_
    rintro e w2 ⟨rfl, b2⟩
    have B2 := b1.trans (b2.mono b1.size)
    clear b2
    have h2 := h.below B2
    go_wp2_with fail
    refine (toInt64S_any a len cap z _ h2 hbig).mono ?_
    rintro e w3 ⟨rfl, i3, b3⟩
    have B3 := B2.trans (b3.mono B2.size)
    clear b3
    go_wp2_with fail
    refine (validPattern_impl _ _ _ _ i3).mono ?_
    rintro e w4 ⟨rfl, b4⟩
    have B4 := B3.trans (b4.mono B3.size)
    have i4 := i3.below b4
    have h4 := h.below B4
    clear b4 i3
    go_wp2_with fail
    refine (toInt64S_any a len cap z _ h4 hbig).mono ?_
    rintro e w5 ⟨rfl, i5, b5⟩
    have B5 := B4.trans (b5.mono B4.size)
    have i6 := i4.below b5
    clear b5 i4
    go_wp2_with fail
    refine (eqInt64S_any _ _ _ _ _ _ i6 i5).mono ?_
    rintro e w6 ⟨rfl, b6⟩
    have B6 := B5.trans (b6.mono B5.size)
    go_wp2
    go_ret
    exact ⟨rfl, B6⟩
  · have hb : (1048576 : Int) < (len : Int) := by omega
    have hm := h.parts.2.1
    unfold maxLen at hm
    go_enter Try.func11, Try.ntmps11
    go_wp2
    go_ret
    exact ⟨rfl, Below.refl _ _⟩
end Go.Proofs.Ytdnihapijlchlab
