/- Lists of numbers and blocks of variables with the range of blocks in which they lie, for the laws of passing patterns. No conditions. -/
import Derived.Test.YtjhhldfhfebboaaPasW
namespace Go.Proofs.Ytjhhldfhfebboaa
open Go.RowKit
set_option linter.unusedSimpArgs false
set_option linter.unusedVariables false

/-- the slice v holds xs in a row of its own, in a block from lo on below hi -/
structure Rw (w : World) (lo hi : Nat) (v : Value) (xs : List Int) : Prop where
  ints : Ints w lo v xs
  top : Under hi v
theorem Rw.mk' {w : World} {lo : Nat} {v : Value} {xs : List Int} (h : Ints w lo v xs) : Rw w lo w.heap.size v xs := ⟨h, h.under⟩
theorem Rw.below {w w' : World} {lo hi : Nat} {v : Value} {xs : List Int} (h : Rw w lo hi v xs) (hb : Below w.heap.size w w') : Rw w' lo hi v xs := ⟨h.ints.below hb, h.top⟩
theorem Rw.within {w w' : World} {lo hi B C : Nat} {v : Value} {xs : List Int} (h : Rw w lo hi v xs) (hk : Within B C w w') (hd : hi ≤ B ∨ C ≤ lo) : Rw w' lo hi v xs :=
  ⟨h.ints.block fun g hg hlt => hk.block g hlt (by have := h.top g hg; have := h.ints.own_ge hg; omega), h.top⟩
theorem Rw.marked {w w' : World} {lo hi : Nat} {v : Value} {xs : List Int} (h : Rw w lo hi v xs) (gr : w.grownBy w' v.ownBlock) : Within lo hi w w' :=
  Within.of_grown gr fun g hg => ⟨h.ints.own_ge hg, h.top g hg⟩
theorem Rw.again {w w' : World} {lo hi : Nat} {v : Value} {xs ys : List Int} (h : Rw w lo hi v xs) (hn : Ints w' lo v ys) : Rw w' lo hi v ys := ⟨hn, h.top⟩
/-- a variable of two cells -/
def Va2 (w : World) (b : Nat) (u v : Value) : Prop := Blk w b [u, v] 31
theorem Va2.made (w : World) (u v : Value) : Va2 (w.alloc (.cells #[u, v] 31)) w.heap.size u v := Blk.made w #[u, v] _
theorem Va2.below {w w' : World} {b : Nat} {u v : Value} (h : Va2 w b u v) (hb : Below w.heap.size w w') : Va2 w' b u v := Blk.below h hb (Blk.lt h)
theorem Va2.within {w w' : World} {b B C : Nat} {u v : Value} (h : Va2 w b u v) (hk : Within B C w w') (hd : b < B ∨ C ≤ b) : Va2 w' b u v := Blk.block h (hk.block b (Blk.lt h) hd)
theorem Va2.fst {w : World} {b : Nat} {u v : Value} (h : Va2 w b u v) : w.cell? ⟨b, 0, none⟩ = some u := by simpa using Blk.cell h 0
theorem Va2.snd {w : World} {b : Nat} {u v : Value} (h : Va2 w b u v) : w.cell? ⟨b, 1, none⟩ = some v := by simpa using Blk.cell h 1
theorem Va2.lt {w : World} {b : Nat} {u v : Value} (h : Va2 w b u v) : b < w.heap.size := Blk.lt h
theorem al2 (w : World) (u v : Value) : Below w.heap.size w (w.alloc (.cells #[u, v] 31)) := (Below.refl _ _).alloc (Nat.le_refl _) _
/-- a parameter's two cells -/
def VaT (w : World) (b : Nat) (u v : Value) (T : TypeId) : Prop := Blk w b [u, v] T
theorem VaT.below {w w' : World} {b : Nat} {u v : Value} {T : TypeId} (h : VaT w b u v T) (hb : Below w.heap.size w w') : VaT w' b u v T := Blk.below h hb (Blk.lt h)
theorem VaT.within {w w' : World} {b B C : Nat} {u v : Value} {T : TypeId} (h : VaT w b u v T) (hk : Within B C w w') (hd : b < B ∨ C ≤ b) : VaT w' b u v T := Blk.block h (hk.block b (Blk.lt h) hd)
theorem VaT.fst {w : World} {b : Nat} {u v : Value} {T : TypeId} (h : VaT w b u v T) : w.cell? ⟨b, 0, none⟩ = some u := by simpa using Blk.cell h 0
theorem VaT.snd {w : World} {b : Nat} {u v : Value} {T : TypeId} (h : VaT w b u v T) : w.cell? ⟨b, 1, none⟩ = some v := by simpa using Blk.cell h 1
theorem VaT.lt {w : World} {b : Nat} {u v : Value} {T : TypeId} (h : VaT w b u v T) : b < w.heap.size := Blk.lt h
theorem PasP.drew {w : World} {B C : Nat} {va vb : Value} {a b : List Pt} (h : PasP w B C va vb a b) : PasP w.drew B C va vb a b := ⟨h.fst, h.snd, h.fstU, h.sndU, h.apart⟩
/-- (Va2T) -/
theorem two_par (w : World) (u v x y : Value) (T : TypeId) : VaT ((w.alloc (.cells #[u, v] T)).alloc (.cells #[x, y] T)) w.heap.size u v T ∧ VaT ((w.alloc (.cells #[u, v] T)).alloc (.cells #[x, y] T)) (w.heap.size + 1) x y T :=
  ⟨(Blk.made w #[u, v] T).alloc _, by have := Blk.made (w.alloc (.cells #[u, v] T)) #[x, y] T; simpa [VaT] using this⟩
theorem one_par (w : World) (u v : Value) (T : TypeId) : VaT (w.alloc (.cells #[u, v] T)) w.heap.size u v T := Blk.made w #[u, v] T
end Go.Proofs.Ytjhhldfhfebboaa
