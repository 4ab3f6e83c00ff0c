/- The laws' own helpers on slices of states: eqStateS, markStateS, heldStateS. Conditions: bounds on lengths. -/
import Derived.Test.YtdghbbnddgngoaaOwnK
import Derived.Test.YtdghbbnddgngoaaInts
import Derived.Deep.RegionHeldLaw
import Derived.Deep.RegionLawGrows
namespace Go.Proofs.Ytdghbbnddgngoaa
open Go.RowKit
set_option linter.unusedSimpArgs false
set_option linter.unusedVariables false

/-- a state: its height and its mask -/
abbrev Sta := Int × Int
def s0 : Sta := (0, 0)
def stV (t : Sta) : List Value := [.int .i64 t.1, .int .i64 t.2]
theorem stV_len (t : Sta) : (stV t).length = 2 := rfl
abbrev Sts (w : World) (B : Nat) (v : Value) (xs : List Sta) : Prop := OwnK 60 2 stV w B v xs
def fitS (t : Sta) : Prop := -9223372036854775808 ≤ t.1 ∧ t.1 ≤ 9223372036854775807
abbrev IsSts (w : World) (a : Option Addr) (len cap : Nat) (zs : List Sta) : Prop := IsK 2 stV fitS w a len cap zs
theorem Try.infoSt : (Try.prog.info? 60).map (fun i => (i.zero, i.size, i.bytes)) = some (some (.agg #[.int .i64 0, .int .i64 0]), 2, 16) := by kernel_rfl

/-- the two cells of a throw -/
def TwoS (w : World) (b o : Nat) (t : Sta) : Prop := w.cell? ⟨b, o, none⟩ = some (.int .i64 t.1) ∧ w.cell? ⟨b, o + 1, none⟩ = some (.int .i64 t.2)
theorem TwoS.below {w w' : World} {N b o : Nat} {t : Sta} (h : TwoS w b o t) (hb : Below N w w') (hN : b < N) : TwoS w' b o t :=
  ⟨(hb.cell (p := ⟨b, o, none⟩) hN).trans h.1, (hb.cell (p := ⟨b, o + 1, none⟩) hN).trans h.2⟩
theorem OwnK.twoS {w : World} {e : TypeId} {B g n cap : Nat} {xs : List Sta} (h : OwnK e 2 stV w B (.slice (some ⟨g, 0, none⟩) n cap) xs) (i : Nat) (hi : i < xs.length) : TwoS w g (i * 2) (xs.getD i s0) :=
  ⟨h.cell stV_len s0 i 0 hi (by decide), h.cell stV_len s0 i 1 hi (by decide)⟩
/-- an element is written -/
theorem OwnK.putS {w : World} {e : TypeId} {B g n cap : Nat} {xs : List Sta} (h : OwnK e 2 stV w B (.slice (some ⟨g, 0, none⟩) n cap) xs) (i : Nat) (hi : i < xs.length) (y : Sta) :
    OwnK e 2 stV ((w.setCell ⟨g, i * 2, none⟩ (.int .i64 y.1)).setCell ⟨g, i * 2 + 1, none⟩ (.int .i64 y.2)) B (.slice (some ⟨g, 0, none⟩) n cap) (xs.set i y) := by
  have h1 := h.put stV_len s0 i 0 (.int .i64 y.1) (y.1, (xs.getD i s0).2) hi (by decide) rfl
  have h2 := h1.put stV_len s0 i 1 (.int .i64 y.2) y (by simpa using hi) (by decide) (by simp [hi, stV])
  simpa [List.set_set] using h2
theorem below_twoS {w w' : World} {N g o : Nat} (h : Below N w w') (hg : N ≤ g) (a b : Value) : Below N w ((w'.setCell ⟨g, o, none⟩ a).setCell ⟨g, o + 1, none⟩ b) :=
  (h.setCell (p := ⟨g, o, none⟩) hg a).setCell (p := ⟨g, o + 1, none⟩) hg b
theorem take_set_st (zs : List Sta) (n k : Nat) (hk : k < n) (hn : n ≤ zs.length) :
    (zs.take k ++ List.replicate (n - k) s0).set k (zs.getD k s0) = zs.take (k + 1) ++ List.replicate (n - (k + 1)) s0 := by
  have e1 : zs.take (k + 1) = zs.take k ++ [zs.getD k s0] := by
    rw [List.take_succ_eq_append_getElem (by omega)]
    simp [show k < zs.length by omega]
  have hl : (zs.take k).length = k := by simp; omega
  rw [List.set_append_right _ _ (by omega), hl, Nat.sub_self, e1, List.append_assoc]
  congr 1
  rw [show n - k = (n - (k + 1)) + 1 by omega, List.replicate_succ]
  rfl

/-! ### comparing -/
/-! ### marks -/
def mkS (k : Int) : Sta := (k, k + 1)
def upsS (k : Int) (n : Nat) : List Sta := (List.range n).map fun i : Nat => mkS (k + 2 * (i : Int))
theorem upsS_len (k : Int) (n : Nat) : (upsS k n).length = n := by simp [upsS]
theorem upsS_get (k : Int) (n j : Nat) (h : j < n) : (upsS k n).getD j s0 = mkS (k + 2 * (j : Int)) := by simp [upsS, h]
theorem upsS_set (k : Int) (xs : List Sta) (j : Nat) (h : j < xs.length) : (upsS k j ++ xs.drop j).set j (mkS (k + 2 * (j : Int))) = upsS k (j + 1) ++ xs.drop (j + 1) := by
  have e1 : upsS k (j + 1) = upsS k j ++ [mkS (k + 2 * (j : Int))] := by simp [upsS, List.range_succ]
  rw [List.set_append_right _ _ (by rw [upsS_len]; exact Nat.le_refl _), upsS_len, Nat.sub_self, e1, List.append_assoc]
  congr 1
  rw [List.drop_eq_getElem_cons h]
  rfl
theorem grown_twoS {w wr : World} {g o : Nat} (h : w.grownBy wr (some g)) (a b : Value) : w.grownBy ((wr.setCell ⟨g, o, none⟩ a).setCell ⟨g, o + 1, none⟩ b) (some g) := by
  have one : ∀ (wr : World) (o : Nat) (a : Value), w.grownBy wr (some g) → w.grownBy (wr.setCell ⟨g, o, none⟩ a) (some g) := fun wr o a h =>
    ⟨h.os, h.tape, h.output, by simpa using h.size, fun k hk hne => by rw [Below.heap_setCell _ _ _ _ (by simpa using fun e => hne (by rw [e]))]; exact h.block k hk hne⟩
  exact one _ _ _ (one _ _ _ h)

end Go.Proofs.Ytdghbbnddgngoaa
