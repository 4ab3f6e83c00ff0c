/- The model's l02Draw answers a pattern. Conditions: the source has read at most a million bytes, the greatest period is 1 to 7. -/
import Derived.Test.YtgjmhihomklooaaDraw
namespace Go.Proofs.Ytgjmhihomklooaa
open Go.RowKit
set_option linter.unusedSimpArgs false
set_option linter.unusedVariables false

theorem Ints.keepb {w w' : World} {C b : Nat} {v : Value} {p : List Int} (h : Ints w C v p) (g : w.grownBy w' (some b)) (hb : b < C) : Ints w' C v p :=
  h.block fun q hq hlt => g.block q hlt (by intro e; cases e; have := h.own_ge hq; omega)

/-- the throws that are drawn for landings -/
def Drawn (L p : List Int) (n q : Nat) : Prop := p.length = q ∧ ∀ i, i < q → (0 ≤ p.getD i 0 ∧ p.getD i 0 ≤ 15) ∧ ((i : Int) + p.getD i 0) % (n : Int) = L.getD i 0
theorem Drawn.nil (L : List Int) (n : Nat) : Drawn L [] n 0 := ⟨rfl, fun i hi => by omega⟩
theorem Drawn.more {L p : List Int} {n q : Nat} (h : Drawn L p n q) {t : Int} (h0 : 0 ≤ t) (h1 : t ≤ 15) (hn : 1 ≤ n) (hl : 0 ≤ L.getD q 0 ∧ L.getD q 0 < n) (ht : t % (n : Int) = (L.getD q 0 - q) % (n : Int)) : Drawn L (p ++ [t]) n (q + 1) := by
  refine ⟨by simp [h.1], fun i hi => ?_⟩
  rw [getD_push, h.1]
  by_cases e : i = q
  · subst e
    rw [if_pos rfl]
    refine ⟨⟨h0, h1⟩, ?_⟩
    rw [Int.add_emod, ht, ← Int.add_emod, show (i : Int) + (L.getD i 0 - i) = L.getD i 0 from by omega]
    exact Int.emod_eq_of_lt hl.1 hl.2
  · rw [if_neg e]
    exact h.2 i (by omega)

end Go.Proofs.Ytgjmhihomklooaa
