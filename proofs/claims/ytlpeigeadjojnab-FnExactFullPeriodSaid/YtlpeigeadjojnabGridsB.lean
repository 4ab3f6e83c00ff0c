/- The laws' own helpers on slices of slices of numbers that came in: szInt64SS counts, toInt64SS copies. Conditions: bounds on lengths. -/
import Derived.Test.YtlpeigeadjojnabGrids
namespace Go.Proofs.Ytlpeigeadjojnab
open Go.RowKit
set_option linter.unusedSimpArgs false
set_option linter.unusedVariables false

theorem IsRows.len {w : World} {a : Option Addr} {len cap : Nat} {A : Nat → Option Addr} {L C : Nat → Nat} {Z : Nat → List Int} (h : IsRows w a len cap A L C Z) : len ≤ cap ∧ cap ≤ maxLen := by
  rcases h with ⟨_, rfl, rfl⟩ | ⟨x, _, h1, h2, _⟩
  · exact ⟨Nat.le_refl _, Nat.zero_le _⟩
  · exact ⟨h1, h2⟩
theorem IsRow.len {w : World} {k : IntKind} {a : Option Addr} {len cap : Nat} {zs : List Int} (h : IsRow k w a len cap zs) : len ≤ zs.length ∧ len ≤ 9223372036854775807 := by
  rcases h with ⟨_, rfl, rfl, rfl⟩ | ⟨x, _, h1, h2, h3, _⟩
  · exact ⟨Nat.le_refl _, by omega⟩
  · unfold maxLen at h2
    exact ⟨by omega, by omega⟩
theorem IsRows.below {w w' : World} {a : Option Addr} {len cap : Nat} {A : Nat → Option Addr} {L C : Nat → Nat} {Z : Nat → List Int} (h : IsRows w a len cap A L C Z) (hb : Below w.heap.size w w') : IsRows w' a len cap A L C Z := by
  rcases h with h | ⟨x, h1, h2, h3, h4⟩
  · exact .inl h
  · refine .inr ⟨x, h1, h2, h3, fun r hr => ?_⟩
    obtain ⟨g1, g2⟩ := h4 r hr
    exact ⟨by rw [hb.cell (cell_block g1)]; exact g1, g2.below hb⟩

/-- what a walk wants of rows that came in -/
theorem IsRows.parts {w : World} {a : Option Addr} {len cap : Nat} {A : Nat → Option Addr} {L C : Nat → Nat} {Z : Nat → List Int} (h : IsRows w a len cap A L C Z) (hz : len ≠ 0) :
    ∃ b off, a = some ⟨b, off, none⟩ ∧ b < w.heap.size ∧ ∀ r, r < len → w.cell? ⟨b, off + r, none⟩ = some (.slice (A r) (L r) (C r)) ∧ IsRow .i64 w (A r) (L r) (C r) (Z r) := by
  rcases h with ⟨_, h0, _⟩ | ⟨x, rfl, h1, h2, hc⟩
  · exact absurd h0 hz
  · obtain ⟨b, off, spot⟩ := x
    have hc0 := (hc 0 (by omega)).1
    have hspot : spot = none := by simpa [Addr.add] using World.cell?_spot hc0
    subst hspot
    exact ⟨b, off, rfl, cell_block hc0, fun i hi => ⟨by rw [← (hc i (by omega)).1]; by_cases h0 : i = 0 <;> simp [Addr.add, h0], (hc i (by omega)).2⟩⟩

theorem rows_tot {w : World} {a : Option Addr} {len cap : Nat} {A : Nat → Option Addr} {L C : Nat → Nat} {Z : Nat → List Int} (h : IsRows w a len cap A L C Z) (k : Nat) (hk : k < len) :
    totL ((rowsL len L Z).take (k + 1)) = totL ((rowsL len L Z).take k) + L k := by
  rw [totL_take _ k (by rw [rowsL_len]; exact hk), rowsL_at len L Z k hk]
  rcases h with ⟨_, rfl, _⟩ | ⟨x, h1, h2, h3, h4⟩
  · omega
  · have := (h4 k (by omega)).2.len
    rw [List.length_take]
    omega

theorem Try.infoR : (Try.prog.info? 22).map (fun i => (i.zero, i.size, i.bytes)) = some (some (.slice none 0 0), 1, 24) := by kernel_rfl
theorem grid_made {w w1 : World} {len : Nat} (hE : 22 ≠ 2) (hown : Own 22 hdV w1 w.heap.size (.slice (some ⟨w.heap.size, 0, none⟩) len len) (List.replicate len none)) (hlt : w.heap.size < w1.heap.size) :
    Grid 22 w1 w.heap.size w1.heap.size (.slice (some ⟨w.heap.size, 0, none⟩) len len) (List.replicate len []) := by
  refine ⟨List.replicate len none, by simp, hown, fun g hg => by simp [Value.ownBlock] at hg; omega, fun i hi => ?_, fun i j g hi hj h1 _ => ?_⟩
  · simp at hi
    rw [show (List.replicate len (none : Hd)).getD i none = none by simp [hi], show (List.replicate len ([] : List Int)).getD i [] = [] by simp [hi]]
    exact ⟨Ints.nil _ _, fun g hg => by simp [hdV, Value.ownBlock] at hg⟩
  · simp at hi
    rw [show (List.replicate len (none : Hd)).getD i none = none by simp [hi]] at h1
    simp [hdV, Value.ownBlock] at h1
theorem rows_step (R : List (List Int)) (len k : Nat) (hl : R.length = len) (hk : k < len) :
    (R.take k ++ List.replicate (len - k) []).set k (R.getD k []) = R.take (k + 1) ++ List.replicate (len - (k + 1)) [] := by
  have h1 : (R.take k).length = k := by simp; omega
  rw [List.set_append_right _ _ (by omega), h1, Nat.sub_self, List.take_succ_eq_append_getElem (by omega), show len - k = (len - (k + 1)) + 1 by omega, List.replicate_succ, List.set_cons_zero, List.append_assoc]
  simp [show k < R.length by omega]

end Go.Proofs.Ytlpeigeadjojnab
