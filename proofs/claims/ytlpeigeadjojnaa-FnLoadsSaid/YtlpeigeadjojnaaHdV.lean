/- The laws' own helpers on slices of hand throws: eqHandThrowS, markHandThrowS, heldHandThrowS. Conditions: bounds on lengths. -/
import Derived.Test.YtlpeigeadjojnaaHdA
import Derived.Test.YtlpeigeadjojnaaOwnK
import Derived.Test.YtlpeigeadjojnaaInts
import Derived.Deep.RegionHeldLaw
import Derived.Deep.RegionLawGrows
namespace Go.Proofs.Ytlpeigeadjojnaa
open Go.RowKit
set_option linter.unusedSimpArgs false
set_option linter.unusedVariables false

def ht0 : HthT := (0, 0, 0, 0)
def hthV (t : HthT) : List Value := [.int .i64 t.1, .int .i64 t.2.1, .int .i64 t.2.2.1, .int .i64 t.2.2.2]
theorem hthV_len (t : HthT) : (hthV t).length = 4 := rfl
abbrev Hths (w : World) (B : Nat) (v : Value) (xs : List HthT) : Prop := OwnK 37 4 hthV w B v xs
theorem Try.infoHth : (Try.prog.info? 37).map (fun i => (i.zero, i.size, i.bytes)) = some (some (.agg #[.int .i64 0, .int .i64 0, .int .i64 0, .int .i64 0]), 4, 32) := by kernel_rfl

/-- the four cells of a hand throw -/
def FourH (w : World) (b o : Nat) (t : HthT) : Prop := w.cell? ⟨b, o, none⟩ = some (.int .i64 t.1) ∧ w.cell? ⟨b, o + 1, none⟩ = some (.int .i64 t.2.1) ∧ w.cell? ⟨b, o + 2, none⟩ = some (.int .i64 t.2.2.1) ∧ w.cell? ⟨b, o + 3, none⟩ = some (.int .i64 t.2.2.2)
theorem FourH.below {w w' : World} {N b o : Nat} {t : HthT} (h : FourH w b o t) (hb : Below N w w') (hN : b < N) : FourH w' b o t :=
  ⟨(hb.cell (p := ⟨b, o, none⟩) hN).trans h.1, (hb.cell (p := ⟨b, o + 1, none⟩) hN).trans h.2.1, (hb.cell (p := ⟨b, o + 2, none⟩) hN).trans h.2.2.1, (hb.cell (p := ⟨b, o + 3, none⟩) hN).trans h.2.2.2⟩
theorem OwnK.fourH {w : World} {e : TypeId} {B g n cap : Nat} {xs : List HthT} (h : OwnK e 4 hthV w B (.slice (some ⟨g, 0, none⟩) n cap) xs) (i : Nat) (hi : i < xs.length) : FourH w g (i * 4) (xs.getD i ht0) :=
  ⟨h.cell hthV_len ht0 i 0 hi (by decide), h.cell hthV_len ht0 i 1 hi (by decide), h.cell hthV_len ht0 i 2 hi (by decide), h.cell hthV_len ht0 i 3 hi (by decide)⟩
theorem OwnK.putH {w : World} {e : TypeId} {B g n cap : Nat} {xs : List HthT} (h : OwnK e 4 hthV w B (.slice (some ⟨g, 0, none⟩) n cap) xs) (i : Nat) (hi : i < xs.length) (y : HthT) :
    OwnK e 4 hthV ((((w.setCell ⟨g, i * 4, none⟩ (.int .i64 y.1)).setCell ⟨g, i * 4 + 1, none⟩ (.int .i64 y.2.1)).setCell ⟨g, i * 4 + 2, none⟩ (.int .i64 y.2.2.1)).setCell ⟨g, i * 4 + 3, none⟩ (.int .i64 y.2.2.2)) B (.slice (some ⟨g, 0, none⟩) n cap) (xs.set i y) := by
  have h1 := h.put hthV_len ht0 i 0 (.int .i64 y.1) (y.1, (xs.getD i ht0).2.1, (xs.getD i ht0).2.2.1, (xs.getD i ht0).2.2.2) hi (by decide) rfl
  have h2 := h1.put hthV_len ht0 i 1 (.int .i64 y.2.1) (y.1, y.2.1, (xs.getD i ht0).2.2.1, (xs.getD i ht0).2.2.2) (by simpa using hi) (by decide) (by simp [hi, hthV])
  have h3 := h2.put hthV_len ht0 i 2 (.int .i64 y.2.2.1) (y.1, y.2.1, y.2.2.1, (xs.getD i ht0).2.2.2) (by simpa using hi) (by decide) (by simp [hi, hthV])
  have h4 := h3.put hthV_len ht0 i 3 (.int .i64 y.2.2.2) y (by simpa using hi) (by decide) (by simp [hi, hthV])
  simpa [List.set_set] using h4

/-! ### comparing -/
/-! ### marks -/
def mkH (k : Int) : HthT := (k, k + 1, k + 2, k + 3)
def upsH (k : Int) (n : Nat) : List HthT := (List.range n).map fun i : Nat => mkH (k + 4 * (i : Int))
theorem upsH_len (k : Int) (n : Nat) : (upsH k n).length = n := by simp [upsH]
theorem upsH_get (k : Int) (n j : Nat) (h : j < n) : (upsH k n).getD j ht0 = mkH (k + 4 * (j : Int)) := by simp [upsH, h]
theorem upsH_set (k : Int) (xs : List HthT) (j : Nat) (h : j < xs.length) : (upsH k j ++ xs.drop j).set j (mkH (k + 4 * (j : Int))) = upsH k (j + 1) ++ xs.drop (j + 1) := by
  have e1 : upsH k (j + 1) = upsH k j ++ [mkH (k + 4 * (j : Int))] := by simp [upsH, List.range_succ]
  rw [List.set_append_right _ _ (by rw [upsH_len]; exact Nat.le_refl _), upsH_len, Nat.sub_self, e1, List.append_assoc]
  congr 1
  rw [List.drop_eq_getElem_cons h]
  rfl
theorem grown_fourH {w wr : World} {g o : Nat} (h : w.grownBy wr (some g)) (a b c d : Value) : w.grownBy ((((wr.setCell ⟨g, o, none⟩ a).setCell ⟨g, o + 1, none⟩ b).setCell ⟨g, o + 2, none⟩ c).setCell ⟨g, o + 3, none⟩ d) (some g) := by
  have one : ∀ (wr : World) (o : Nat) (a : Value), w.grownBy wr (some g) → w.grownBy (wr.setCell ⟨g, o, none⟩ a) (some g) := fun wr o a h =>
    ⟨h.os, h.tape, h.output, by simpa using h.size, fun k hk hne => by rw [Below.heap_setCell _ _ _ _ (by simpa using fun e => hne (by rw [e]))]; exact h.block k hk hne⟩
  exact one _ _ _ (one _ _ _ (one _ _ _ (one _ _ _ h)))

end Go.Proofs.Ytlpeigeadjojnaa
