/- Lists of hand throws with the range of blocks in which they lie. No conditions. -/
import Derived.Test.YtbnmbodnjecajaaHdV
import Derived.Test.YtbnmbodnjecajaaGrid
namespace Go.Proofs.Ytbnmbodnjecajaa
open Go.RowKit
set_option linter.unusedSimpArgs false
set_option linter.unusedVariables false

structure HRw (w : World) (lo hi : Nat) (v : Value) (xs : List HthT) : Prop where
  rows : Hths w lo v xs
  top : Under hi v
theorem HRw.mk' {w : World} {lo : Nat} {v : Value} {xs : List HthT} (h : Hths w lo v xs) : HRw w lo w.heap.size v xs := ⟨h, h.under⟩
theorem HRw.below {w w' : World} {lo hi : Nat} {v : Value} {xs : List HthT} (h : HRw w lo hi v xs) (hb : Below w.heap.size w w') : HRw w' lo hi v xs := ⟨h.rows.below hb, h.top⟩
theorem HRw.within {w w' : World} {lo hi B C : Nat} {v : Value} {xs : List HthT} (h : HRw w lo hi v xs) (hk : Within B C w w') (hd : hi ≤ B ∨ C ≤ lo) : HRw w' lo hi v xs :=
  ⟨h.rows.block fun g hg hlt => hk.block g hlt (by have := h.top g hg; have := h.rows.own_ge hg; omega), h.top⟩
theorem HRw.marked {w w' : World} {lo hi : Nat} {v : Value} {xs : List HthT} (h : HRw w lo hi v xs) (gr : w.grownBy w' v.ownBlock) : Within lo hi w w' :=
  Within.of_grown gr fun g hg => ⟨h.rows.own_ge hg, h.top g hg⟩
theorem HRw.again {w w' : World} {lo hi : Nat} {v : Value} {xs ys : List HthT} (h : HRw w lo hi v xs) (hn : Hths w' lo v ys) : HRw w' lo hi v ys := ⟨hn, h.top⟩
end Go.Proofs.Ytbnmbodnjecajaa
