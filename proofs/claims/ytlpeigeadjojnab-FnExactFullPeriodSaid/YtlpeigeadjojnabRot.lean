/- The program's rotated, root and canonical. Conditions: lists of 1 to 1000 numbers. -/
import Derived.Test.YtlpeigeadjojnabJoined
import Derived.Test.YtlpeigeadjojnabSame
import Derived.Deep.RegionWith
namespace Go.Proofs.Ytlpeigeadjojnab
open Go.RowKit
set_option linter.unusedSimpArgs false
set_option linter.unusedVariables false

theorem Sees.alloc {w : World} {v : Value} {xs : List Int} (h : Sees w v xs) (o : Obj) : Sees (w.alloc o) v xs := h.below ((Below.refl _ _).alloc (Nat.le_refl _) o)
theorem Sees.drew {w : World} {v : Value} {xs : List Int} (h : Sees w v xs) : Sees w.drew v xs := h
/-- the throws behind a place, and those ahead of it -/
theorem Ints.drop_ {w : World} {B g cap : Nat} {p : List Int} (h : Ints w B (.slice (some ⟨g, 0, none⟩) p.length cap) p) (m : Nat) (hg : g < w.heap.size) (hc : p.length ≤ cap) (hm : cap ≤ 9223372036854775807) (hmn : m ≤ p.length) :
    Sees w (.slice (some ⟨g, m, none⟩) (p.length - m) (cap - m)) (p.drop m) := by
  refine ⟨g, m, cap - m, by simp, hg, by simp; omega, by omega, fun i hi => ?_⟩
  simp at hi
  rw [h.cell (m + i) (by omega)]
  simp [List.getD_eq_getElem?_getD]
theorem Ints.take_ {w : World} {B g cap : Nat} {p : List Int} (h : Ints w B (.slice (some ⟨g, 0, none⟩) p.length cap) p) (m : Nat) (hg : g < w.heap.size) (hc : p.length ≤ cap) (hm : cap ≤ 9223372036854775807) (hmn : m ≤ p.length) :
    Sees w (.slice (some ⟨g, 0, none⟩) m cap) (p.take m) := by
  have hl : (p.take m).length = m := by simp; omega
  refine ⟨g, 0, cap, by rw [hl], hg, by omega, by omega, fun i hi => ?_⟩
  rw [hl] at hi
  rw [Nat.zero_add, h.cell i (by omega)]
  simp [List.getD_eq_getElem?_getD, List.getElem?_take, hi]

theorem below_drew1 {B : Nat} {a w : World} (h : Below B a w) : Below B a w.drew := ⟨h.os, h.tape, h.output, h.size, h.block⟩
/- slices.Equal -/
theorem sameL_yes {p q : List Int} (h : p = q) : sameL p q = true := by simp [sameL, h]
theorem sameL_no {p q : List Int} (h : p ≠ q) : sameL p q = false := by simp [sameL, h]

end Go.Proofs.Ytlpeigeadjojnab
