/- States, the model's: l08Height, l08Ok, l08Bit, l08Can, l08Next. No conditions but sizes. -/
import Derived.Test.YtdghbbnddgngoaaSpec02b
import Derived.Test.YtdghbbnddgngoaaStB
namespace Go.Proofs.Ytdghbbnddgngoaa
open Go.RowKit
set_option linter.unusedSimpArgs false
set_option linter.unusedVariables false

theorem pow_bounds {h : Int} (h1 : 1 ≤ h) (h2 : h ≤ 10) : ∃ P : Int, (2 : Int) ^ h.toNat = P ∧ 2 ≤ P ∧ P ≤ 1024 := by
  refine ⟨_, rfl, ?_⟩
  have : h = 1 ∨ h = 2 ∨ h = 3 ∨ h = 4 ∨ h = 5 ∨ h = 6 ∨ h = 7 ∨ h = 8 ∨ h = 9 ∨ h = 10 := by omega
  rcases this with rfl | rfl | rfl | rfl | rfl | rfl | rfl | rfl | rfl | rfl <;> decide

theorem l08Bit_any (m t : Nat) (w : World) (hm : m < 9223372036854775808) (ht : t ≤ 60) :
    Calls Try.prog 134 #[.int .i64 m, .int .i64 t] w fun e w' => e = .returned (.bool (decide (m / 2 ^ t % 2 = 1))) ∧ w = w' := by
  go_enter Try.func134, Try.ntmps134
  go_wp2
  go_ret
  exact ⟨ret_bool (bit_key m t hm), rfl⟩

theorem popK_top (m k : Nat) : popK m k ≤ 10 ∨ 10 < k := by have := popK_le m k; omega
theorem div_step (m k : Nat) : m / 2 ^ k / 2 = m / 2 ^ (k + 1) := by rw [Nat.div_div_eq_div_mul, Nat.pow_succ]

theorem popK_zero (m k : Nat) (h : m / 2 ^ k = 0) (j : Nat) : popK m (k + j) = popK m k := by
  induction j with
  | zero => rfl
  | succ j ih =>
    show popK m (k + j) + m / 2 ^ (k + j) % 2 = popK m k
    rw [ih, Nat.pow_add, ← Nat.div_div_eq_div_mul, h]
    simp
theorem popK_done (m k : Nat) (hk : k ≤ 10) (h : m / 2 ^ k = 0) : popK m k = popN m := by
  have := popK_zero m k h (10 - k)
  rw [show k + (10 - k) = 10 from by omega] at this
  exact this.symm

theorem l08Count_any (m : Nat) (w : World) (hm : m < 1024) :
    Calls Try.prog 115 #[.int .i64 m] w fun e w' => e = .returned (.int .i64 (popN m)) ∧ Below w.heap.size w w' := by
  go_enter Try.func115, Try.ntmps115
  go_wp2
  go_loopw [0, 3] (fun a n wr => ∃ k : Nat, k ≤ 10 ∧ a = .int .i64 ((m / 2 ^ k : Nat) : Int) ∧ n = .int .i64 ((popK m k : Nat) : Int) ∧ Below w.heap.size w wr) (fun a _ _ => (intOf a).toNat)
  case atStart => exact ⟨0, Nat.zero_le _, by simp, rfl, Below.refl _ _⟩
  case round =>
    obtain ⟨k, hk, rfl, rfl, hb⟩ := hrel
    have hp := popK_le m k
    by_cases h0 : m / 2 ^ k = 0
    · have HD := Lib.hid (popK_done m k hk h0)
      rw [h0]
      go_wp2
      go_ret
      exact ⟨by rw [HD.out]; rfl, hb⟩
    · have hk9 : k < 10 := by
        rcases Nat.lt_or_ge k 10 with h | h
        · exact h
        · exfalso; apply h0
          obtain rfl : k = 10 := by omega
          exact Nat.div_eq_of_lt hm
      have HN := Lib.hid (show popK m (k + 1) = popK m k + m / 2 ^ k % 2 from rfl)
      have HS := Lib.hid (div_step m k)
      have hle : m / 2 ^ k ≤ m := Nat.div_le_self _ _
      have hand := and_i64 (m / 2 ^ k) 1 (by omega) (by decide)
      rw [Nat.and_one_is_mod] at hand
      generalize popK m k = q at *
      generalize m / 2 ^ k = x at *
      have hx : 0 < x := by omega
      have hx2 : x % 2 ≤ 1 := by omega
      have hand' : bits BinOp.and IntKind.i64 (x : Int) 1 = ((x % 2 : Nat) : Int) := hand
      clear hand
      generalize hr : x % 2 = r at *
      clear hr
      go_wp2
      go_roundw
      case rel => exact ⟨k + 1, by omega, by rw [← HS.out]; first | rfl | simp, by rw [HN.out]; first | rfl | simp, hb⟩
      case measure => simp [intOf]; omega

theorem groundPow (n : Int) (h1 : 0 ≤ n) (h2 : n ≤ 11) : ∃ P : Int, (2 : Int) ^ n.toNat = P ∧ 1 ≤ P ∧ P ≤ 2048 := by
  refine ⟨_, rfl, ?_⟩
  have : n = 0 ∨ n = 1 ∨ n = 2 ∨ n = 3 ∨ n = 4 ∨ n = 5 ∨ n = 6 ∨ n = 7 ∨ n = 8 ∨ n = 9 ∨ n = 10 ∨ n = 11 := by omega
  rcases this with rfl | rfl | rfl | rfl | rfl | rfl | rfl | rfl | rfl | rfl | rfl | rfl <;> decide

/-- what GroundState answers -/
def gndOk (n h : Int) : Bool := inB h 1 10 && inB n 0 h
end Go.Proofs.Ytdghbbnddgngoaa
