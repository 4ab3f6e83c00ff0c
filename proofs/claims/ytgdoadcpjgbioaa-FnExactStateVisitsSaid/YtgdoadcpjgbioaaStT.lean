/- States, the model's: throws that are possible, the state behind one. No conditions. -/
import Derived.Test.YtgdoadcpjgbioaaStS
import Derived.Test.YtgdoadcpjgbioaaStD
namespace Go.Proofs.Ytgdoadcpjgbioaa
open Go.RowKit
set_option linter.unusedSimpArgs false
set_option linter.unusedVariables false

theorem canI_zero (h m : Nat) : canI h m 0 = !decide (m % 2 = 1) := by
  unfold canI
  by_cases k : m % 2 = 1
  · rw [if_pos k, inB_false (by omega)]; simp [k]
  · rw [if_neg k]; simp [k]
theorem canI_even {h m : Nat} {t : Int} (k : ¬ m % 2 = 1) (ht : t ≠ 0) : canI h m t = false := by
  unfold canI
  rw [if_neg k]; simpa using ht
theorem canI_odd {h m : Nat} {t : Int} (k : m % 2 = 1) : canI h m t = (inB t 1 h && !decide (m / 2 ^ t.toNat % 2 = 1)) := by
  unfold canI
  rw [if_pos k]
  congr 1
  by_cases q : m / 2 ^ t.toNat % 2 = 1
  · have : ¬ m / 2 ^ t.toNat % 2 = 0 := by omega
    simp [q]
  · have : m / 2 ^ t.toNat % 2 = 0 := by omega
    simp [this]

/-- what CanThrow answers -/
def canS (h m t : Int) : Bool := okSt h m && canI h.toNat m.toNat t
theorem nextPow (t : Nat) (ht : t ≤ 10) : ∃ P : Int, (2 : Int) ^ t = P ∧ P = ((2 ^ t : Nat) : Int) ∧ 1 ≤ P ∧ P ≤ 1024 := by
  refine ⟨_, rfl, by simp, ?_⟩
  have : t = 0 ∨ t = 1 ∨ t = 2 ∨ t = 3 ∨ t = 4 ∨ t = 5 ∨ t = 6 ∨ t = 7 ∨ t = 8 ∨ t = 9 ∨ t = 10 := by omega
  rcases this with rfl | rfl | rfl | rfl | rfl | rfl | rfl | rfl | rfl | rfl | rfl <;> decide

/-- the state behind a throw, and the code -/
def nxtH (h m t : Int) : Int := if canS h m t then h else 0
def nxtM (h m t : Int) : Int := if canS h m t then (nextM m.toNat t.toNat : Nat) else 0
def nxtC (h m t : Int) : Int := if okSt h m then (if canI h.toNat m.toNat t then 0 else 6) else 1

end Go.Proofs.Ytgdoadcpjgbioaa
