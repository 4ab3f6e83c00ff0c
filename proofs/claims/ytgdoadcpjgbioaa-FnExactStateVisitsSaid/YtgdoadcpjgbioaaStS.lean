/- States, the model's: l08Height, l08Ok, l08Bit, l08Can, l08Next. No conditions but sizes. -/
import Derived.Test.YtgdoadcpjgbioaaSpec02b
import Derived.Test.YtgdoadcpjgbioaaStB
namespace Go.Proofs.Ytgdoadcpjgbioaa
open Go.RowKit
set_option linter.unusedSimpArgs false
set_option linter.unusedVariables false

theorem pow_bounds {h : Int} (h1 : 1 ≤ h) (h2 : h ≤ 10) : ∃ P : Int, (2 : Int) ^ h.toNat = P ∧ 2 ≤ P ∧ P ≤ 1024 := by
  refine ⟨_, rfl, ?_⟩
  have : h = 1 ∨ h = 2 ∨ h = 3 ∨ h = 4 ∨ h = 5 ∨ h = 6 ∨ h = 7 ∨ h = 8 ∨ h = 9 ∨ h = 10 := by omega
  rcases this with rfl | rfl | rfl | rfl | rfl | rfl | rfl | rfl | rfl | rfl <;> decide

theorem popK_top (m k : Nat) : popK m k ≤ 10 ∨ 10 < k := by have := popK_le m k; omega
theorem div_step (m k : Nat) : m / 2 ^ k / 2 = m / 2 ^ (k + 1) := by rw [Nat.div_div_eq_div_mul, Nat.pow_succ]

theorem popK_zero (m k : Nat) (h : m / 2 ^ k = 0) (j : Nat) : popK m (k + j) = popK m k := by
  induction j with
  | zero => rfl
  | succ j ih =>
    show popK m (k + j) + m / 2 ^ (k + j) % 2 = popK m k
    rw [ih, Nat.pow_add, ← Nat.div_div_eq_div_mul, h]
    simp
theorem popK_done (m k : Nat) (hk : k ≤ 10) (h : m / 2 ^ k = 0) : popK m k = popN m := by
  have := popK_zero m k h (10 - k)
  rw [show k + (10 - k) = 10 from by omega] at this
  exact this.symm

theorem groundPow (n : Int) (h1 : 0 ≤ n) (h2 : n ≤ 11) : ∃ P : Int, (2 : Int) ^ n.toNat = P ∧ 1 ≤ P ∧ P ≤ 2048 := by
  refine ⟨_, rfl, ?_⟩
  have : n = 0 ∨ n = 1 ∨ n = 2 ∨ n = 3 ∨ n = 4 ∨ n = 5 ∨ n = 6 ∨ n = 7 ∨ n = 8 ∨ n = 9 ∨ n = 10 ∨ n = 11 := by omega
  rcases this with rfl | rfl | rfl | rfl | rfl | rfl | rfl | rfl | rfl | rfl | rfl | rfl <;> decide

/-- what GroundState answers -/
def gndOk (n h : Int) : Bool := inB h 1 10 && inB n 0 h
end Go.Proofs.Ytgdoadcpjgbioaa
