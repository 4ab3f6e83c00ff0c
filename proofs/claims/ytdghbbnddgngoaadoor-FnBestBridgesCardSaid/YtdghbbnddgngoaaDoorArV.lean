/- The laws' own helpers on slices of arcs: eqArcS, markArcS, heldArcS. Conditions: bounds on lengths. -/
import Derived.Test.YtdghbbnddgngoaaDoorArA
import Derived.Test.YtdghbbnddgngoaaDoorOwnK
import Derived.Test.YtdghbbnddgngoaaDoorInts
import Derived.Deep.RegionHeldLaw
import Derived.Deep.RegionLawGrows
namespace Go.Proofs.YtdghbbnddgngoaaDoor
open Go.RowKit
set_option linter.unusedSimpArgs false
set_option linter.unusedVariables false

def a0 : ArcT := (0, 0, 0)
def arcV (t : ArcT) : List Value := [.int .i64 t.1, .int .i64 t.2.1, .int .i64 t.2.2]
theorem arcV_len (t : ArcT) : (arcV t).length = 3 := rfl
abbrev Arcs (w : World) (B : Nat) (v : Value) (xs : List ArcT) : Prop := OwnK 91 3 arcV w B v xs
theorem Tryd.infoArc : (Tryd.prog.info? 91).map (fun i => (i.zero, i.size, i.bytes)) = some (some (.agg #[.int .i64 0, .int .i64 0, .int .i64 0]), 3, 24) := by kernel_rfl

/-- the three cells of an arc -/
def ThreeA (w : World) (b o : Nat) (t : ArcT) : Prop := w.cell? ⟨b, o, none⟩ = some (.int .i64 t.1) ∧ w.cell? ⟨b, o + 1, none⟩ = some (.int .i64 t.2.1) ∧ w.cell? ⟨b, o + 2, none⟩ = some (.int .i64 t.2.2)
theorem ThreeA.below {w w' : World} {N b o : Nat} {t : ArcT} (h : ThreeA w b o t) (hb : Below N w w') (hN : b < N) : ThreeA w' b o t :=
  ⟨(hb.cell (p := ⟨b, o, none⟩) hN).trans h.1, (hb.cell (p := ⟨b, o + 1, none⟩) hN).trans h.2.1, (hb.cell (p := ⟨b, o + 2, none⟩) hN).trans h.2.2⟩
theorem OwnK.threeA {w : World} {e : TypeId} {B g n cap : Nat} {xs : List ArcT} (h : OwnK e 3 arcV w B (.slice (some ⟨g, 0, none⟩) n cap) xs) (i : Nat) (hi : i < xs.length) : ThreeA w g (i * 3) (xs.getD i a0) :=
  ⟨h.cell arcV_len a0 i 0 hi (by decide), h.cell arcV_len a0 i 1 hi (by decide), h.cell arcV_len a0 i 2 hi (by decide)⟩
theorem OwnK.putA {w : World} {e : TypeId} {B g n cap : Nat} {xs : List ArcT} (h : OwnK e 3 arcV w B (.slice (some ⟨g, 0, none⟩) n cap) xs) (i : Nat) (hi : i < xs.length) (y : ArcT) :
    OwnK e 3 arcV (((w.setCell ⟨g, i * 3, none⟩ (.int .i64 y.1)).setCell ⟨g, i * 3 + 1, none⟩ (.int .i64 y.2.1)).setCell ⟨g, i * 3 + 2, none⟩ (.int .i64 y.2.2)) B (.slice (some ⟨g, 0, none⟩) n cap) (xs.set i y) := by
  have h1 := h.put arcV_len a0 i 0 (.int .i64 y.1) (y.1, (xs.getD i a0).2.1, (xs.getD i a0).2.2) hi (by decide) rfl
  have h2 := h1.put arcV_len a0 i 1 (.int .i64 y.2.1) (y.1, y.2.1, (xs.getD i a0).2.2) (by simpa using hi) (by decide) (by simp [hi, arcV])
  have h3 := h2.put arcV_len a0 i 2 (.int .i64 y.2.2) y (by simpa using hi) (by decide) (by simp [hi, arcV])
  simpa [List.set_set] using h3

/-! ### comparing -/
/-! ### marks -/
def mkA (k : Int) : ArcT := (k, k + 1, k + 2)
def upsA (k : Int) (n : Nat) : List ArcT := (List.range n).map fun i : Nat => mkA (k + 3 * (i : Int))
theorem upsA_len (k : Int) (n : Nat) : (upsA k n).length = n := by simp [upsA]
theorem upsA_get (k : Int) (n j : Nat) (h : j < n) : (upsA k n).getD j a0 = mkA (k + 3 * (j : Int)) := by simp [upsA, h]
theorem upsA_set (k : Int) (xs : List ArcT) (j : Nat) (h : j < xs.length) : (upsA k j ++ xs.drop j).set j (mkA (k + 3 * (j : Int))) = upsA k (j + 1) ++ xs.drop (j + 1) := by
  have e1 : upsA k (j + 1) = upsA k j ++ [mkA (k + 3 * (j : Int))] := by simp [upsA, List.range_succ]
  rw [List.set_append_right _ _ (by rw [upsA_len]; exact Nat.le_refl _), upsA_len, Nat.sub_self, e1, List.append_assoc]
  congr 1
  rw [List.drop_eq_getElem_cons h]
  rfl
theorem grown_threeA {w wr : World} {g o : Nat} (h : w.grownBy wr (some g)) (a b c : Value) : w.grownBy (((wr.setCell ⟨g, o, none⟩ a).setCell ⟨g, o + 1, none⟩ b).setCell ⟨g, o + 2, none⟩ c) (some g) := by
  have one : ∀ (wr : World) (o : Nat) (a : Value), w.grownBy wr (some g) → w.grownBy (wr.setCell ⟨g, o, none⟩ a) (some g) := fun wr o a h =>
    ⟨h.os, h.tape, h.output, by simpa using h.size, fun k hk hne => by rw [Below.heap_setCell _ _ _ _ (by simpa using fun e => hne (by rw [e]))]; exact h.block k hk hne⟩
  exact one _ _ _ (one _ _ _ (one _ _ _ h))

end Go.Proofs.YtdghbbnddgngoaaDoor
