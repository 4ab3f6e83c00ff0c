/- Multiplex: RotateMulti, the model's and the program's. Conditions: beats of at most 10^7 throws for the program's. -/
import Derived.Test.YtgjmhihomklooaaClone
import Derived.Test.YtgjmhihomklooaaMultiOf
namespace Go.Proofs.Ytgjmhihomklooaa
open Go.RowKit
set_option linter.unusedSimpArgs false
set_option linter.unusedVariables false

/-- the beats, from the by-th on, round and round -/
def rotG (pss : List (List Int)) (by_ : Int) : List (List Int) := (List.range pss.length).map fun i : Nat => pss.getD (((i : Int) + by_ % (pss.length : Int)) % (pss.length : Int)).toNat []
def rotMR (pss : List (List Int)) (by_ : Int) : List (List Int) := if okM pss then rotG pss by_ else []
def rotMC (pss : List (List Int)) : Int := if okM pss then 0 else 1
theorem rotG_len (pss : List (List Int)) (b : Int) : (rotG pss b).length = pss.length := by simp [rotG]
theorem rotG_at (pss : List (List Int)) (b : Int) (k : Nat) (hk : k < pss.length) : (rotG pss b).getD k [] = pss.getD (((k : Int) + b % (pss.length : Int)) % (pss.length : Int)).toNat [] := by
  simp [rotG, hk]
theorem rotG_take (pss : List (List Int)) (b : Int) (k : Nat) (hk : k < pss.length) : (rotG pss b).take (k + 1) = (rotG pss b).take k ++ [pss.getD (((k : Int) + b % (pss.length : Int)) % (pss.length : Int)).toNat []] := by
  rw [List.take_succ_eq_append_getElem (by rw [rotG_len]; exact hk)]
  congr 2
  simp [rotG, hk]
theorem rotM_bad {pss : List (List Int)} (b : Int) (h : okM pss = false) : rotMR pss b = [] ∧ rotMC pss = 1 := by simp [rotMR, rotMC, h]
theorem rotM_good {pss : List (List Int)} (b : Int) (h : okM pss = true) : rotMR pss b = rotG pss b ∧ rotMC pss = 0 := by simp [rotMR, rotMC, h]
theorem rowsAt_tot {pss : List (List Int)} : ∀ (q : List (List Int)), (∀ i, i < q.length → (q.getD i []).length ≤ 4) → totL q ≤ 4 * q.length
  | [], _ => by simp [totL]
  | a :: r, h => by
    have h0 := h 0 (by simp)
    have h1 := rowsAt_tot (pss := pss) r fun i hi => by have := h (i + 1) (by simp; omega); simpa using this
    simp [totL] at h0 h1 ⊢
    omega
theorem rotMR_tot (pss : List (List Int)) (b : Int) : totL (rotMR pss b) ≤ 48 := by
  cases h : okM pss with
  | false => rw [(rotM_bad b h).1]; simp [totL]
  | true =>
    rw [(rotM_good b h).1]
    have hs := okM_shape h
    have hn := shapeL_num hs
    have := rowsAt_tot (pss := pss) (rotG pss b) fun i hi => by
      rw [rotG_len] at hi
      rw [rotG_at pss b i hi]
      have e0 := Int.emod_nonneg ((i : Int) + b % (pss.length : Int)) (show (pss.length : Int) ≠ 0 by omega)
      have e1 := Int.emod_lt_of_pos ((i : Int) + b % (pss.length : Int)) (show 0 < (pss.length : Int) by omega)
      exact (rowOk_num (shapeL_at hs _ (by omega))).2
    rw [rotG_len] at this
    omega

/-- every row: its cell, and what it holds; no row is empty -/
def RowsI (w : World) (g n B : Nat) (pss : List (List Int)) : Prop :=
  ∀ j, j < n → ∃ gb cb m, m = (pss.getD j []).length ∧ w.cell? ⟨g, j, none⟩ = some (.slice (some ⟨gb, 0, none⟩) m cb) ∧ Ints w B (.slice (some ⟨gb, 0, none⟩) m cb) (pss.getD j []) ∧ 1 ≤ m ∧ m ≤ 4
theorem Grid.rowsI {E : TypeId} {w : World} {B C g n cap : Nat} {pss : List (List Int)} (h : Grid E w B C (.slice (some ⟨g, 0, none⟩) n cap) pss) (hn : n = pss.length) (hs : shapeL pss = true) : RowsI w g n B pss := fun j hj => by
  obtain ⟨u, hc, hi, _⟩ := h.row j (by omega)
  have h1 := rows_pos hs j (by omega)
  obtain ⟨gb, cb, rfl, _, _, _, _⟩ := hi.shape2 h1
  exact ⟨gb, cb, _, rfl, hc, hi, h1, (rowOk_num (shapeL_at hs j (by omega))).2⟩
theorem RowsI.below {w w' : World} {g n B : Nat} {pss : List (List Int)} (h : RowsI w g n B pss) (hg : g < w.heap.size) (hb : Below w.heap.size w w') : RowsI w' g n B pss := fun j hj => by
  obtain ⟨gb, cb, m, h1, h2, h3, h4⟩ := h j hj
  exact ⟨gb, cb, m, h1, (hb.cell (p := ⟨g, j, none⟩) hg).trans h2, h3.below hb, h4⟩
theorem idx_nat (k : Nat) (s n : Int) (hn : 0 < n) : ∃ j : Nat, ((k : Int) + s) % n = (j : Int) ∧ (j : Int) < n := by
  have e0 := Int.emod_nonneg ((k : Int) + s) (show n ≠ 0 by omega)
  have e1 := Int.emod_lt_of_pos ((k : Int) + s) hn
  exact ⟨(((k : Int) + s) % n).toNat, by omega, by omega⟩
theorem tmod_both (a n : Int) (hn : 0 < n) : -n ≤ a.tmod n ∧ a.tmod n < n := by
  have h := emod_tmod a n hn
  have e0 := Int.emod_nonneg a (show n ≠ 0 by omega)
  have e1 := Int.emod_lt_of_pos a hn
  by_cases h0 : a.tmod n < 0
  · rw [if_pos h0] at h; omega
  · rw [if_neg h0] at h; omega

end Go.Proofs.Ytgjmhihomklooaa
