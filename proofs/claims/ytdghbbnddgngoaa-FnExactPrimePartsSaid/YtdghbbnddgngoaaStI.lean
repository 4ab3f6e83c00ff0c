/- States, the program's: heights, masks, Len64, OnesCount64, isValid. No conditions but sizes. -/
import Derived.Test.YtdghbbnddgngoaaStT
import Derived.Lib.BitFns
namespace Go.Proofs.Ytdghbbnddgngoaa
open Go.RowKit
set_option linter.unusedSimpArgs false
set_option linter.unusedVariables false

theorem bitLen_iff (x k : Nat) (hx : x < 18446744073709551616) (hk : k ≤ 10) : decide (Lib.bitLen x ≤ k) = decide (x < 2 ^ k) := by
  by_cases h : x < 2 ^ k
  · have := Lib.bitLen_le x k (by omega) h
    rw [decide_eq_true h, decide_eq_true (by omega)]
  · rw [decide_eq_false h]
    have h1 := Lib.bitLen_shift k x (by omega) hx
    have hd : 1 ≤ x / 2 ^ k := (Nat.le_div_iff_mul_le (Nat.two_pow_pos k)).2 (by omega)
    have h2 := Lib.bitLen_half (x / 2 ^ k) (by omega) (Nat.lt_of_le_of_lt (Nat.div_le_self _ _) hx)
    exact decide_eq_false (by omega)

theorem len8_int' (y : Int) (h0 : 0 ≤ y) (h1 : y ≤ 255) : 0 ≤ Lib.len8 y ∧ Lib.len8 y ≤ 8 := by
  rw [Lib.len8_of y h0 h1]
  have := Lib.bitLen_le8' y h0 h1
  omega

set_option maxRecDepth 100000 in
theorem tab_size : (Lib.len8tab.size : Int) = 256 := by
  have : Lib.len8tab.size = 256 := by decide
  omega
theorem tab_at (y : Int) (h : y.toNat < Lib.len8tab.size) (h0 : 0 ≤ y) (h1 : y ≤ 255) : ((Lib.len8tab[y.toNat]'h).toNat : Int) = (Lib.bitLen y.toNat : Nat) := by
  rw [← Lib.len8_of y h0 h1]
  unfold Lib.len8
  rw [getElem?_pos Lib.len8tab y.toNat h]
  rfl
theorem wrap_two (k a b : Nat) (hk : k ≤ 56) (ha : a ≤ 8) (hb : b = k + a) : wrap64 ((k : Int) + wrap64 (a : Int)) = (b : Int) := by
  unfold wrap64
  omega
theorem wrap_one (a : Nat) (ha : a ≤ 8) : wrap64 (a : Int) = (a : Int) := by
  unfold wrap64
  omega
set_option maxRecDepth 100000 in
theorem tab_lt (y : Int) (h0 : 0 ≤ y) (h1 : y ≤ 255) : y.toNat < Lib.len8tab.size := by
  have : Lib.len8tab.size = 256 := by decide
  omega

theorem isHeight_any (n : Int) (w : World) :
    Calls Try.prog 123 #[.int .i64 n] w fun e w' => e = .returned (.bool (inB n 1 10)) ∧ w' = w := by
  by_cases h1 : 1 ≤ n
  · by_cases h2 : n ≤ 10
    · rw [inB_true ⟨h1, h2⟩]
      go_enter Try.func123, Try.ntmps123
      go_wp2
      go_ret
      exact ⟨rfl, rfl⟩
    · rw [inB_false (by omega)]
      go_enter Try.func123, Try.ntmps123
      go_wp2
      go_ret
      exact ⟨rfl, rfl⟩
  · rw [inB_false (by omega)]
    go_enter Try.func123, Try.ntmps123
    go_wp2
    go_ret
    exact ⟨rfl, rfl⟩

theorem lowestBits_any (n : Int) (w : World) (h1 : 0 ≤ n) (h2 : n ≤ 11) :
    Calls Try.prog 42 #[.int .i64 n] w fun e w' => e = .returned (.int .i64 (2 ^ n.toNat - 1)) ∧ w' = w := by
  obtain ⟨P, hP, p1, p2⟩ := groundPow n h1 h2
  rw [hP]
  go_enter Try.func42, Try.ntmps42
  go_wp2
  go_ret
  exact ⟨rfl, rfl⟩

theorem u64_of (m : Int) (b1 : -9223372036854775808 ≤ m) (b2 : m ≤ 9223372036854775807) : ∃ u : Int, IntKind.u64.wrap m = u ∧ 0 ≤ u ∧ u ≤ 18446744073709551615 ∧ ((0 ≤ m ∧ u = m) ∨ (m < 0 ∧ u = m + 18446744073709551616)) := by
  refine ⟨_, rfl, ?_⟩
  rw [IntKind.wrap_u64]
  omega

set_option maxRecDepth 100000 in
theorem onesCount_any (m : Nat) (w : World) (hm : m < 1024) :
    Calls Try.prog 99 #[.int .u64 m] w fun e w' => e = .returned (.int .i64 (popN m)) ∧ w' = w := by
  go_enter Try.func99, Try.ntmps99
  go_wp2
  go_ret
  refine ⟨congrArg Ending.returned (congrArg (Value.int IntKind.i64) ?_), rfl⟩
  clear w
  revert hm
  revert m
  decide +kernel

end Go.Proofs.Ytdghbbnddgngoaa
