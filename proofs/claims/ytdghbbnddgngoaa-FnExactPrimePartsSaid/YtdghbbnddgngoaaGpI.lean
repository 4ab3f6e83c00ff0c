/- The states of one kind, the program's: kind, states, kindOf, AllStates, StateCount. No conditions. -/
import Derived.Test.YtdghbbnddgngoaaGpT
import Derived.Test.YtdghbbnddgngoaaStJ
import Derived.Deep.DeepCutAuto
namespace Go.Proofs.Ytdghbbnddgngoaa
open Go.RowKit
set_option linter.unusedSimpArgs false
set_option linter.unusedVariables false

theorem eq_cast (a b : Nat) : ((a : Int) == (b : Int)) = decide (a = b) := by
  by_cases h : a = b
  · simp [h]
  · rw [decide_eq_false h]; exact beq_eq_false_iff_ne.2 (by omega)

theorem gndL_as {n h : Int} (k : gndOk n h = true) : ∃ p a : Nat, n = p ∧ h = a ∧ 1 ≤ a ∧ a ≤ 10 ∧ p ≤ a ∧ gndL n h = mskS a p (2 ^ a) := by
  obtain ⟨p, a, rfl, rfl, h1, h2, h3⟩ := gndOk_nat k
  exact ⟨p, a, rfl, rfl, h1, h2, h3, by rw [gndL_ok k, Int.toNat_natCast, Int.toNat_natCast]⟩

theorem sts_slO {w : World} {B : Nat} {v : Value} {xs : List Sta} (h : Sts w B v xs) : ∃ a cap, v = .slice a xs.length cap := by
  rcases OwnK.shape h with ⟨rfl, rfl⟩ | ⟨g, cap, rfl, _⟩
  · exact ⟨_, _, rfl⟩
  · exact ⟨_, _, rfl⟩

end Go.Proofs.Ytdghbbnddgngoaa
