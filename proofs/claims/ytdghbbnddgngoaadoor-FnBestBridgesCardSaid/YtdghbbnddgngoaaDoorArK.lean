/- ArcsOf, ArcCount, the model's and the program's. Conditions: the library's table as its text lays it. -/
import Derived.Test.YtdghbbnddgngoaaDoorArC
namespace Go.Proofs.YtdghbbnddgngoaaDoor
open Go.RowKit
set_option linter.unusedSimpArgs false
set_option linter.unusedVariables false

theorem gphG_row (h p j : Nat) (hh : h ≤ 10) (hj : j < (gphG h p).length) : 1 ≤ ((gphG h p).getD j []).length := by
  rw [gphG_len] at hj
  rw [gphG_at hj, rowG_len]
  have := thrN_some h (by omega) _ (mskG_at hj).1
  omega
theorem arcG_pos (h p : Nat) (hp : p ≤ h) (hh : h ≤ 10) : 1 ≤ (gphG h p).flatten.length := by
  have h0 := cntG_pos hp hh
  have h1 : 0 < (gphG h p).length := by rw [gphG_len]; omega
  have h2 := gphG_row h p 0 hh h1
  have h3 := flat_le (gphG h p) 1
  rw [flat_take (k := 0) h1, List.take_zero, List.flatten_nil, List.nil_append] at h3
  omega

/-- what ArcsOf answers -/
def arcA (n h : Int) : List ArcT := if gndOk n h then arcG h.toNat n.toNat else []
theorem arcA_len (n h : Int) : (arcA n h).length ≤ 12000 := by
  unfold arcA
  split
  · rename_i k
    obtain ⟨p, a, rfl, rfl, h1, h2, h3⟩ := gndOk_nat k
    exact arcG_len _ _ (by rw [Int.toNat_natCast]; exact h2)
  · simp

end Go.Proofs.YtdghbbnddgngoaaDoor
