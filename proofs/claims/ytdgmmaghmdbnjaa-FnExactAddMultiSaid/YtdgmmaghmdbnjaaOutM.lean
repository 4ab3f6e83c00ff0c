/- Where a result that is a struct of one slice lies when its variable was made at any time of the region. No conditions. -/
import Derived.Test.YtdgmmaghmdbnjaaMultiOf
namespace Go.Proofs.Ytdgmmaghmdbnjaa
open Go.RowKit
/-- block b of U is a variable that holds v, whose rows lie elsewhere, all of it new since w0 -/
def OutM (T : TypeId) (N : Nat) (w0 U : World) (b : Nat) (v : Value) (L : List (List Int)) : Prop :=
  ∃ lo hi, Grid T U lo hi v L ∧ Below N w0 U ∧ U.cell? ⟨b, 0, none⟩ = some v ∧ N ≤ b ∧ b + 1 ≤ U.heap.size ∧ N ≤ lo ∧ hi ≤ U.heap.size ∧ (b < lo ∨ hi ≤ b)
theorem out_set {T : TypeId} {w0 u : World} {N b lo hi : Nat} {v z : Value} {L : List (List Int)} (h : Grid T u lo hi v L) (hv : Var1 u b z) (hb : Below N w0 u) (h1 : N ≤ b) (h2 : b < lo) (h4 : hi ≤ u.heap.size) :
    OutM T N w0 (u.setCell ⟨b, 0, none⟩ v) b v L :=
  ⟨lo, hi, grid_out h h2 _, hb.setCell (p := ⟨b, 0, none⟩) h1 _, World.cell?_setCell_same _ _ _ hv.1, h1, by have := cell_block hv.1; simp at this ⊢; omega, by omega, by simpa using h4, .inl h2⟩
theorem out_alloc {T T' : TypeId} {w0 u : World} {N lo hi : Nat} {v : Value} {L : List (List Int)} (h : Grid T u lo hi v L) (hb : Below N w0 u) (h1 : N ≤ lo) (h3 : N ≤ u.heap.size) (h4 : hi ≤ u.heap.size) :
    OutM T N w0 (u.alloc (.cells #[v] T')) u.heap.size v L :=
  ⟨lo, hi, h.below (below_alM (Below.refl _ _) _), hb.alloc h3 _, by simp, h3, by simp, h1, by simp; omega, .inr h4⟩
end Go.Proofs.Ytdgmmaghmdbnjaa
