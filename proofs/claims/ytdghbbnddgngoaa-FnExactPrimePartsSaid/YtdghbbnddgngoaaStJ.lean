/- States, the program's: throws that are possible, the state behind one. No conditions. -/
import Derived.Test.YtdghbbnddgngoaaStI
namespace Go.Proofs.Ytdghbbnddgngoaa
open Go.RowKit
set_option linter.unusedSimpArgs false
set_option linter.unusedVariables false

theorem bit_keyP (P t : Nat) (hP : P < 9223372036854775808) : (bits .and .i64 ((P : Int) / 2 ^ min t 64) 1 == 1) = decide (P / 2 ^ min t 64 % 2 = 1) := bit_key P (min t 64) hP

/-- the mask of possible throws tells them -/
theorem poss_can (h m t : Nat) (hh : h ≤ 10) (hm : m < 2 ^ h) : decide (possM h m / 2 ^ t % 2 = 1) = canI h m (t : Int) := by
  have hm4 : m < 1024 := by have := pow_lt_1024 hh; omega
  unfold possM canI
  by_cases hodd : m % 2 = 1
  · rw [if_pos hodd, if_pos hodd, Int.toNat_natCast]
    by_cases ht : t < 12
    · rw [poss_bit h (by omega) m hm4 hm t ht]
      by_cases h0 : t = 0
      · subst h0
        rw [inB_false (by omega)]
        have : ¬ m / 2 ^ 0 % 2 = 0 := by simp; omega
        rw [decide_eq_false this]
        simp
      · congr 1
        by_cases hle : t ≤ h
        · rw [decide_eq_true hle, inB_true (by omega)]
        · rw [decide_eq_false hle, inB_false (by omega)]
    · have hlt : 2 ^ (h + 1) - 1 - m < 2 ^ t := by
        have : (2 : Nat) ^ (h + 1) ≤ 2 ^ t := Nat.pow_le_pow_right (by decide) (by omega)
        have := Nat.one_le_two_pow (n := h + 1)
        omega
      rw [Nat.div_eq_of_lt hlt, inB_false (by omega)]
      rfl
  · rw [if_neg hodd, if_neg hodd]
    by_cases h0 : t = 0
    · subst h0; rfl
    · have : 1 < 2 ^ t := Nat.one_lt_two_pow h0
      rw [Nat.div_eq_of_lt this, decide_eq_false (show ¬ ((t : Int) = 0) by omega)]
      rfl
theorem poss_lt (h m : Nat) (hh : h ≤ 10) : possM h m < 2048 := by
  have : (2 : Nat) ^ (h + 1) ≤ 2 ^ 11 := Nat.pow_le_pow_right (by decide) (by omega)
  unfold possM
  split <;> omega

end Go.Proofs.Ytdghbbnddgngoaa
