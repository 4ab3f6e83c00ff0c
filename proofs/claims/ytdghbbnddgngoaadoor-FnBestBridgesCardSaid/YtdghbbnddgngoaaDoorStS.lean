/- States, the model's: l08Height, l08Ok, l08Bit, l08Can, l08Next. No conditions but sizes. -/
import Derived.Test.YtdghbbnddgngoaaDoorSpec02b
import Derived.Test.YtdghbbnddgngoaaDoorStB
namespace Go.Proofs.YtdghbbnddgngoaaDoor
open Go.RowKit
set_option linter.unusedSimpArgs false
set_option linter.unusedVariables false

theorem l08Height_any (n : Int) (w : World) :
    Calls Tryd.prog 56 #[.int .i64 n] w fun e w' => e = .returned (.bool (inB n 1 10)) ∧ w = w' := by
  go_enter Tryd.func56, Tryd.ntmps56
  go_wp2_with fail
  refine (l00In_any _ _ _ _).mono ?_
  rintro e w' ⟨rfl, rfl⟩
  go_wp2
  go_ret
  exact ⟨rfl, rfl⟩

theorem pow_bounds {h : Int} (h1 : 1 ≤ h) (h2 : h ≤ 10) : ∃ P : Int, (2 : Int) ^ h.toNat = P ∧ 2 ≤ P ∧ P ≤ 1024 := by
  refine ⟨_, rfl, ?_⟩
  have : h = 1 ∨ h = 2 ∨ h = 3 ∨ h = 4 ∨ h = 5 ∨ h = 6 ∨ h = 7 ∨ h = 8 ∨ h = 9 ∨ h = 10 := by omega
  rcases this with rfl | rfl | rfl | rfl | rfl | rfl | rfl | rfl | rfl | rfl <;> decide

theorem l08Ok_any (h m : Int) (w : World) :
    Calls Tryd.prog 36 #[.agg #[.int .i64 h, .int .i64 m]] w fun e w' => e = .returned (.bool (okSt h m)) ∧ Below w.heap.size w w' := by
  cases hk : inB h 1 10 with
  | false =>
    rw [show okSt h m = false from by rw [okSt, hk]; rfl]
    go_enter Tryd.func36, Tryd.ntmps36
    go_wp2_with fail
    refine (l08Height_any _ _).mono ?_
    rintro e w' ⟨rfl, rfl⟩
    rw [hk]
    go_wp2
    go_ret
    exact ⟨rfl, by first | exact Below.refl _ _ | exact (Below.refl _ _).alloc (Nat.le_refl _) _⟩
  | true =>
    obtain ⟨h1, h2⟩ := inB_iff.1 hk
    obtain ⟨P, hP, p1, p2⟩ := pow_bounds h1 h2
    rw [show okSt h m = inB m 0 (P - 1) from by rw [okSt, hk, hP]; rfl]
    go_enter Tryd.func36, Tryd.ntmps36
    go_wp2_with fail
    refine (l08Height_any _ _).mono ?_
    rintro e w' ⟨rfl, rfl⟩
    rw [hk]
    go_wp2_with fail
    refine (l00In_any _ _ _ _).mono ?_
    rintro e w' ⟨rfl, rfl⟩
    go_wp2
    go_ret
    exact ⟨rfl, by first | exact Below.refl _ _ | exact (Below.refl _ _).alloc (Nat.le_refl _) _⟩

theorem l08Bit_any (m t : Nat) (w : World) (hm : m < 9223372036854775808) (ht : t ≤ 60) :
    Calls Tryd.prog 123 #[.int .i64 m, .int .i64 t] w fun e w' => e = .returned (.bool (decide (m / 2 ^ t % 2 = 1))) ∧ w = w' := by
  go_enter Tryd.func123, Tryd.ntmps123
  go_wp2
  go_ret
  exact ⟨ret_bool (bit_key m t hm), rfl⟩

theorem popK_top (m k : Nat) : popK m k ≤ 10 ∨ 10 < k := by have := popK_le m k; omega
theorem div_step (m k : Nat) : m / 2 ^ k / 2 = m / 2 ^ (k + 1) := by rw [Nat.div_div_eq_div_mul, Nat.pow_succ]

theorem popK_zero (m k : Nat) (h : m / 2 ^ k = 0) (j : Nat) : popK m (k + j) = popK m k := by
  induction j with
  | zero => rfl
  | succ j ih =>
    show popK m (k + j) + m / 2 ^ (k + j) % 2 = popK m k
    rw [ih, Nat.pow_add, ← Nat.div_div_eq_div_mul, h]
    simp
theorem popK_done (m k : Nat) (hk : k ≤ 10) (h : m / 2 ^ k = 0) : popK m k = popN m := by
  have := popK_zero m k h (10 - k)
  rw [show k + (10 - k) = 10 from by omega] at this
  exact this.symm

theorem l08Count_any (m : Nat) (w : World) (hm : m < 1024) :
    Calls Tryd.prog 35 #[.int .i64 m] w fun e w' => e = .returned (.int .i64 (popN m)) ∧ Below w.heap.size w w' := by
  go_enter Tryd.func35, Tryd.ntmps35
  go_wp2
  go_loopw [0, 3] (fun a n wr => ∃ k : Nat, k ≤ 10 ∧ a = .int .i64 ((m / 2 ^ k : Nat) : Int) ∧ n = .int .i64 ((popK m k : Nat) : Int) ∧ Below w.heap.size w wr) (fun a _ _ => (intOf a).toNat)
  case atStart => exact ⟨0, Nat.zero_le _, by simp, rfl, Below.refl _ _⟩
  case round =>
    obtain ⟨k, hk, rfl, rfl, hb⟩ := hrel
    have hp := popK_le m k
    by_cases h0 : m / 2 ^ k = 0
    · have HD := Lib.hid (popK_done m k hk h0)
      rw [h0]
      go_wp2
      go_ret
      exact ⟨by rw [HD.out]; rfl, hb⟩
    · have hk9 : k < 10 := by
        rcases Nat.lt_or_ge k 10 with h | h
        · exact h
        · exfalso; apply h0
          obtain rfl : k = 10 := by omega
          exact Nat.div_eq_of_lt hm
      have HN := Lib.hid (show popK m (k + 1) = popK m k + m / 2 ^ k % 2 from rfl)
      have HS := Lib.hid (div_step m k)
      have hle : m / 2 ^ k ≤ m := Nat.div_le_self _ _
      have hand := and_i64 (m / 2 ^ k) 1 (by omega) (by decide)
      rw [Nat.and_one_is_mod] at hand
      generalize popK m k = q at *
      generalize m / 2 ^ k = x at *
      have hx : 0 < x := by omega
      have hx2 : x % 2 ≤ 1 := by omega
      have hand' : bits BinOp.and IntKind.i64 (x : Int) 1 = ((x % 2 : Nat) : Int) := hand
      clear hand
      generalize hr : x % 2 = r at *
      clear hr
      go_wp2
      go_roundw
      case rel => exact ⟨k + 1, by omega, by rw [← HS.out]; first | rfl | simp, by rw [HN.out]; first | rfl | simp, hb⟩
      case measure => simp [intOf]; omega

theorem groundPow (n : Int) (h1 : 0 ≤ n) (h2 : n ≤ 11) : ∃ P : Int, (2 : Int) ^ n.toNat = P ∧ 1 ≤ P ∧ P ≤ 2048 := by
  refine ⟨_, rfl, ?_⟩
  have : n = 0 ∨ n = 1 ∨ n = 2 ∨ n = 3 ∨ n = 4 ∨ n = 5 ∨ n = 6 ∨ n = 7 ∨ n = 8 ∨ n = 9 ∨ n = 10 ∨ n = 11 := by omega
  rcases this with rfl | rfl | rfl | rfl | rfl | rfl | rfl | rfl | rfl | rfl | rfl | rfl <;> decide

/-- what GroundState answers -/
def gndOk (n h : Int) : Bool := inB h 1 10 && inB n 0 h
end Go.Proofs.YtdghbbnddgngoaaDoor
