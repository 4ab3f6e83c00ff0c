/- The laws' own helpers on slices of slices of numbers: szInt64SS, toInt64SS, eqInt64SS, markInt64SS, heldInt64SS. Conditions: bounds on lengths. -/
import Derived.Test.YtlpeigeadjojnabGrid
import Derived.Test.YtlpeigeadjojnabInts
import Derived.Deep.RegionHeld3
import Derived.Deep.DeepCutAuto
namespace Go.Proofs.Ytlpeigeadjojnab
open Go.RowKit
set_option linter.unusedSimpArgs false
set_option linter.unusedVariables false

/-- rows that came in -/
def IsRows (w : World) (a : Option Addr) (len cap : Nat) (A : Nat → Option Addr) (L C : Nat → Nat) (Z : Nat → List Int) : Prop :=
  (a = none ∧ len = 0 ∧ cap = 0) ∨ ∃ x, a = some x ∧ len ≤ cap ∧ cap ≤ maxLen ∧ ∀ r, r < cap → w.cell? (x.add r) = some (.slice (A r) (L r) (C r)) ∧ IsRow .i64 w (A r) (L r) (C r) (Z r)
/-- what they hold -/
def rowsL (len : Nat) (L : Nat → Nat) (Z : Nat → List Int) : List (List Int) := (List.range len).map fun r => (Z r).take (L r)
theorem rowsL_len (len : Nat) (L : Nat → Nat) (Z : Nat → List Int) : (rowsL len L Z).length = len := by simp [rowsL]
theorem rowsL_at (len : Nat) (L : Nat → Nat) (Z : Nat → List Int) (r : Nat) (h : r < len) : (rowsL len L Z).getD r [] = (Z r).take (L r) := by simp [rowsL, h]

/-- how many numbers rows hold -/
def totL (pss : List (List Int)) : Nat := (pss.map List.length).sum
theorem totL_take (pss : List (List Int)) (i : Nat) (h : i < pss.length) : totL (pss.take (i + 1)) = totL (pss.take i) + (pss.getD i []).length := by
  unfold totL
  rw [List.take_succ_eq_append_getElem h, List.map_append, List.sum_append]
  simp [h]
theorem totL_take_le (pss : List (List Int)) (i : Nat) : totL (pss.take i) ≤ totL pss := by
  have h : totL pss = totL (pss.take i) + totL (pss.drop i) := by
    unfold totL
    rw [← List.sum_append, ← List.map_append, List.take_append_drop]
  omega
/-- rows of marks from k on -/
def upsG : Int → List (List Int) → List (List Int)
  | _, [] => []
  | k, p :: r => ups k p.length :: upsG (k + p.length) r
theorem upsG_len : ∀ (k : Int) (pss : List (List Int)), (upsG k pss).length = pss.length
  | _, [] => rfl
  | k, p :: r => by simp [upsG, upsG_len]
theorem upsG_snoc : ∀ (k : Int) (pss : List (List Int)) (p : List Int), upsG k (pss ++ [p]) = upsG k pss ++ [ups (k + (totL pss : Int)) p.length]
  | k, [], p => by simp [upsG, totL]
  | k, q :: r, p => by
    rw [List.cons_append, upsG, upsG_snoc (k + q.length) r p, upsG]
    have e : k + (q.length : Int) + (totL r : Int) = k + (totL (q :: r) : Int) := by simp [totL]; omega
    rw [e, List.cons_append]
theorem upsG_at (k : Int) (pss : List (List Int)) (i : Nat) (h : i < pss.length) : (upsG k pss).getD i [] = ups (k + (totL (pss.take i) : Int)) (pss.getD i []).length := by
  induction pss generalizing k i with
  | nil => simp at h
  | cons p r ih =>
    cases i with
    | zero => simp [upsG, totL]
    | succ i =>
      have := ih (k + p.length) i (by simpa using h)
      rw [show (upsG k (p :: r)).getD (i + 1) [] = (upsG (k + p.length) r).getD i [] by simp [upsG], this]
      have e : k + (p.length : Int) + (totL (r.take i) : Int) = k + (totL ((p :: r).take (i + 1)) : Int) := by simp [totL]; omega
      rw [e]
      simp
theorem upsG_step (k : Int) (pss : List (List Int)) (i : Nat) (h : i < pss.length) :
    (upsG k (pss.take i) ++ pss.drop i).set i (ups (k + (totL (pss.take i) : Int)) (pss.getD i []).length) = upsG k (pss.take (i + 1)) ++ pss.drop (i + 1) := by
  have hl : (upsG k (pss.take i)).length = i := by rw [upsG_len]; simp; omega
  rw [List.take_succ_eq_append_getElem h, upsG_snoc, List.set_append_right _ _ (by omega), hl, Nat.sub_self, List.drop_eq_getElem_cons h, List.set_cons_zero, List.append_assoc]
  simp [h]
theorem upsG_cur (k : Int) (pss : List (List Int)) (i : Nat) (h : i < pss.length) : (upsG k (pss.take i) ++ pss.drop i).getD i [] = pss.getD i [] := by
  have hl : (upsG k (pss.take i)).length = i := by rw [upsG_len]; simp; omega
  rw [List.getD_eq_getElem?_getD, List.getElem?_append_right (by omega), hl, Nat.sub_self, List.drop_eq_getElem_cons h]
  simp [h]

/-- what szInt64S answers -/
def szR (left n : Int) : Int := if left - n < 0 then -1 else left - n
end Go.Proofs.Ytlpeigeadjojnab
