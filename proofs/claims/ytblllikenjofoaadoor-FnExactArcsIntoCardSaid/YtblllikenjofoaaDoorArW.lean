/- Lists of arcs with the range of blocks in which they lie. No conditions. -/
import Derived.Test.YtblllikenjofoaaDoorArV
import Derived.Test.YtblllikenjofoaaDoorStW
namespace Go.Proofs.YtblllikenjofoaaDoor
open Go.RowKit
set_option linter.unusedSimpArgs false
set_option linter.unusedVariables false

structure ARw (w : World) (lo hi : Nat) (v : Value) (xs : List ArcT) : Prop where
  rows : Arcs w lo v xs
  top : Under hi v
theorem ARw.mk' {w : World} {lo : Nat} {v : Value} {xs : List ArcT} (h : Arcs w lo v xs) : ARw w lo w.heap.size v xs := ⟨h, h.under⟩
theorem ARw.below {w w' : World} {lo hi : Nat} {v : Value} {xs : List ArcT} (h : ARw w lo hi v xs) (hb : Below w.heap.size w w') : ARw w' lo hi v xs := ⟨h.rows.below hb, h.top⟩
theorem ARw.within {w w' : World} {lo hi B C : Nat} {v : Value} {xs : List ArcT} (h : ARw w lo hi v xs) (hk : Within B C w w') (hd : hi ≤ B ∨ C ≤ lo) : ARw w' lo hi v xs :=
  ⟨h.rows.block fun g hg hlt => hk.block g hlt (by have := h.top g hg; have := h.rows.own_ge hg; omega), h.top⟩
theorem ARw.marked {w w' : World} {lo hi : Nat} {v : Value} {xs : List ArcT} (h : ARw w lo hi v xs) (gr : w.grownBy w' v.ownBlock) : Within lo hi w w' :=
  Within.of_grown gr fun g hg => ⟨h.rows.own_ge hg, h.top g hg⟩
theorem ARw.again {w w' : World} {lo hi : Nat} {v : Value} {xs ys : List ArcT} (h : ARw w lo hi v xs) (hn : Arcs w' lo v ys) : ARw w' lo hi v ys := ⟨hn, h.top⟩
end Go.Proofs.YtblllikenjofoaaDoor
