/- Lists of numbers and of states with the range of blocks in which they lie, for the laws of states. No conditions. -/
import Derived.Test.YtblllikenjofoaaDoorStV
import Derived.Test.YtblllikenjofoaaDoorGrid
namespace Go.Proofs.YtblllikenjofoaaDoor
open Go.RowKit
set_option linter.unusedSimpArgs false
set_option linter.unusedVariables false

structure IRw (w : World) (lo hi : Nat) (v : Value) (xs : List Int) : Prop where
  ints : Ints w lo v xs
  top : Under hi v
theorem IRw.mk' {w : World} {lo : Nat} {v : Value} {xs : List Int} (h : Ints w lo v xs) : IRw w lo w.heap.size v xs := ⟨h, h.under⟩
theorem IRw.below {w w' : World} {lo hi : Nat} {v : Value} {xs : List Int} (h : IRw w lo hi v xs) (hb : Below w.heap.size w w') : IRw w' lo hi v xs := ⟨h.ints.below hb, h.top⟩
theorem IRw.within {w w' : World} {lo hi B C : Nat} {v : Value} {xs : List Int} (h : IRw w lo hi v xs) (hk : Within B C w w') (hd : hi ≤ B ∨ C ≤ lo) : IRw w' lo hi v xs :=
  ⟨h.ints.block fun g hg hlt => hk.block g hlt (by have := h.top g hg; have := h.ints.own_ge hg; omega), h.top⟩
theorem IRw.marked {w w' : World} {lo hi : Nat} {v : Value} {xs : List Int} (h : IRw w lo hi v xs) (gr : w.grownBy w' v.ownBlock) : Within lo hi w w' :=
  Within.of_grown gr fun g hg => ⟨h.ints.own_ge hg, h.top g hg⟩
theorem IRw.again {w w' : World} {lo hi : Nat} {v : Value} {xs ys : List Int} (h : IRw w lo hi v xs) (hn : Ints w' lo v ys) : IRw w' lo hi v ys := ⟨hn, h.top⟩
structure SRw (w : World) (lo hi : Nat) (v : Value) (xs : List Sta) : Prop where
  rows : Sts w lo v xs
  top : Under hi v
theorem SRw.mk' {w : World} {lo : Nat} {v : Value} {xs : List Sta} (h : Sts w lo v xs) : SRw w lo w.heap.size v xs := ⟨h, h.under⟩
theorem SRw.below {w w' : World} {lo hi : Nat} {v : Value} {xs : List Sta} (h : SRw w lo hi v xs) (hb : Below w.heap.size w w') : SRw w' lo hi v xs := ⟨h.rows.below hb, h.top⟩
theorem SRw.within {w w' : World} {lo hi B C : Nat} {v : Value} {xs : List Sta} (h : SRw w lo hi v xs) (hk : Within B C w w') (hd : hi ≤ B ∨ C ≤ lo) : SRw w' lo hi v xs :=
  ⟨h.rows.block fun g hg hlt => hk.block g hlt (by have := h.top g hg; have := h.rows.own_ge hg; omega), h.top⟩
theorem SRw.marked {w w' : World} {lo hi : Nat} {v : Value} {xs : List Sta} (h : SRw w lo hi v xs) (gr : w.grownBy w' v.ownBlock) : Within lo hi w w' :=
  Within.of_grown gr fun g hg => ⟨h.rows.own_ge hg, h.top g hg⟩
theorem SRw.again {w w' : World} {lo hi : Nat} {v : Value} {xs ys : List Sta} (h : SRw w lo hi v xs) (hn : Sts w' lo v ys) : SRw w' lo hi v ys := ⟨hn, h.top⟩
end Go.Proofs.YtblllikenjofoaaDoor
