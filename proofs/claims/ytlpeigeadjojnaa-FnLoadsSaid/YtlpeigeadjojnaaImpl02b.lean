/- The program's chapter 2, second part: PropsOf, at, ThrowAt, LandsFrom answer as the plain mathematics says. No conditions. -/
import Derived.Test.YtlpeigeadjojnaaImpl02
namespace Go.Proofs.Ytlpeigeadjojnaa
open Go.RowKit
set_option linter.unusedSimpArgs false
set_option linter.unusedVariables false

theorem isNearBeat_any (beat : Int) (w : World) :
    Calls Try.prog 41 #[.int .i64 beat] w fun e w' => e = .returned (.bool (inB beat (-1000000) 1000000)) ∧ w = w' := by
  by_cases h1 : -1000000 ≤ beat
  · by_cases h2 : beat ≤ 1000000
    · rw [inB_true ⟨h1, h2⟩]
      go_enter Try.func41, Try.ntmps41
      go_wp2
      go_ret
      exact ⟨rfl, rfl⟩
    · rw [inB_false (by omega)]
      go_enter Try.func41, Try.ntmps41
      go_wp2
      go_ret
      exact ⟨rfl, rfl⟩
  · rw [inB_false (by omega)]
    go_enter Try.func41, Try.ntmps41
    go_wp2
    go_ret
    exact ⟨rfl, rfl⟩

theorem at_any (v : Value) (B : Nat) (p : List Int) (beat : Int) (w : World) (h : Ints w B v p) (h1 : 1 ≤ p.length) (h2 : p.length ≤ 100000) (ha : -1000000000000 ≤ beat) (ha2 : beat ≤ 1000000000000) :
    Calls Try.prog 62 #[v, .int .i64 beat] w fun e w' => e = .returned (.int .i64 (atL p beat)) ∧ w = w' := by
  rcases h.shape with ⟨rfl, rfl⟩ | ⟨g, cap, rfl, _, _, _⟩
  · simp at h1
  · have e0 := Int.emod_nonneg beat (show (p.length : Int) ≠ 0 by omega)
    have e1 := Int.emod_lt_of_pos beat (show 0 < (p.length : Int) by omega)
    have hc := h.cell (beat % (p.length : Int)).toNat (by omega)
    have hfold : p.getD (beat % (p.length : Int)).toNat 0 = atL p beat := rfl
    rw [hfold] at hc
    clear h hfold
    generalize atL p beat = x at *
    generalize p.length = n at *
    go_enter Try.func62, Try.ntmps62
    go_wp2_with fail
    refine (period_any _ _ _ _).mono ?_
    rintro e w' ⟨rfl, rfl⟩
    go_wp2_with fail
    refine (modulo_any beat n _ (by omega) (by omega) ha ha2).mono ?_
    rintro e w' ⟨rfl, rfl⟩
    go_wp2
    go_ret
    exact ⟨rfl, rfl⟩

end Go.Proofs.Ytlpeigeadjojnaa
