/- ComparePatterns and HighestOf, the model's and the program's. No conditions. -/
import Derived.Test.YtlpeigeadjojnaaImpl02
namespace Go.Proofs.Ytlpeigeadjojnaa
open Go.RowKit
set_option linter.unusedSimpArgs false
set_option linter.unusedVariables false

/-- a row of numbers as two walks of two rows ask it -/
theorem Ints.open {w : World} {B : Nat} {v : Value} {xs : List Int} (h : Ints w B v xs) : ∃ a g cap, v = .slice a xs.length cap ∧ (xs.length = 0 ∨ a = some ⟨g, 0, none⟩) ∧ (xs.length = 0 ∨ g < w.heap.size) ∧ ∀ i, i < xs.length → w.cell? ⟨g, i, none⟩ = some (.int .i64 (xs.getD i 0)) := by
  rcases h.shape with ⟨rfl, rfl⟩ | ⟨g, cap, rfl, _, hg, _⟩
  · exact ⟨none, 0, 0, rfl, .inl rfl, .inl rfl, fun i hi => by simp at hi⟩
  · exact ⟨_, g, cap, rfl, .inr rfl, .inr hg, fun i hi => h.cell i hi⟩

end Go.Proofs.Ytlpeigeadjojnaa
