/- States, the model's: throws that are possible, the state behind one. No conditions. -/
import Derived.Test.YtdghbbnddgngoaaStS
import Derived.Test.YtdghbbnddgngoaaStD
namespace Go.Proofs.Ytdghbbnddgngoaa
open Go.RowKit
set_option linter.unusedSimpArgs false
set_option linter.unusedVariables false

theorem canI_zero (h m : Nat) : canI h m 0 = !decide (m % 2 = 1) := by
  unfold canI
  by_cases k : m % 2 = 1
  · rw [if_pos k, inB_false (by omega)]; simp [k]
  · rw [if_neg k]; simp [k]
theorem canI_even {h m : Nat} {t : Int} (k : ¬ m % 2 = 1) (ht : t ≠ 0) : canI h m t = false := by
  unfold canI
  rw [if_neg k]; simpa using ht
theorem canI_odd {h m : Nat} {t : Int} (k : m % 2 = 1) : canI h m t = (inB t 1 h && !decide (m / 2 ^ t.toNat % 2 = 1)) := by
  unfold canI
  rw [if_pos k]
  congr 1
  by_cases q : m / 2 ^ t.toNat % 2 = 1
  · have : ¬ m / 2 ^ t.toNat % 2 = 0 := by omega
    simp [q]
  · have : m / 2 ^ t.toNat % 2 = 0 := by omega
    simp [this]

set_option maxHeartbeats 400000 in
theorem l08Can_any (h m : Nat) (t : Int) (w : World) (hh : h ≤ 10) (hm : m < 2 ^ h) (b1 : -9223372036854775808 ≤ t) (b2 : t ≤ 9223372036854775807) :
    Calls Try.prog 129 #[.agg #[.int .i64 h, .int .i64 m], .int .i64 t] w fun e w' => e = .returned (.bool (canI h m t)) ∧ Below w.heap.size w w' := by
  have hm4 : m < 9223372036854775808 := by have := pow_lt_1024 hh; omega
  have HB0 := fun W => l08Bit_any m 0 W hm4 (by omega)
  rw [show m / 2 ^ 0 = m from by simp] at HB0
  have hM := Lib.hid hm
  clear hm
  by_cases ht0 : t = 0
  · subst ht0
    rw [canI_zero]
    by_cases hodd : m % 2 = 1
    · rw [decide_eq_true hodd] at HB0 ⊢
      go_enter Try.func129, Try.ntmps129
      go_wp2_with fail
      refine (HB0 _).mono ?_
      rintro e w1 ⟨rfl, rfl⟩
      go_wp2
      go_ret
      exact ⟨rfl, (Below.refl w.heap.size w).alloc (Nat.le_refl _) _⟩
    · rw [decide_eq_false hodd] at HB0 ⊢
      go_enter Try.func129, Try.ntmps129
      go_wp2_with fail
      refine (HB0 _).mono ?_
      rintro e w1 ⟨rfl, rfl⟩
      go_wp2
      go_ret
      exact ⟨rfl, (Below.refl w.heap.size w).alloc (Nat.le_refl _) _⟩
  · have hne : (t == 0) = false := by simpa using ht0
    by_cases hodd : m % 2 = 1
    · rw [canI_odd hodd]
      rw [decide_eq_true hodd] at HB0
      cases hin : inB t 1 h with
      | false =>
        go_enter Try.func129, Try.ntmps129
        go_wp2_with fail
        refine (HB0 _).mono ?_
        rintro e w1 ⟨rfl, rfl⟩
        go_wp2_with fail
        refine (l00In_any _ _ _ _).mono ?_
        rintro e w1 ⟨rfl, rfl⟩
        rw [hin]
        go_wp2
        go_ret
        exact ⟨rfl, (Below.refl w.heap.size w).alloc (Nat.le_refl _) _⟩
      | true =>
        obtain ⟨i1, i2⟩ := inB_iff.1 hin
        obtain ⟨k, rfl⟩ : ∃ k : Nat, t = k := ⟨t.toNat, by omega⟩
        rw [Int.toNat_natCast]
        have HBk := fun W => l08Bit_any m k W hm4 (by omega)
        generalize decide (m / 2 ^ k % 2 = 1) = r at *
        go_enter Try.func129, Try.ntmps129
        go_wp2_with fail
        refine (HB0 _).mono ?_
        rintro e w1 ⟨rfl, rfl⟩
        go_wp2_with fail
        refine (l00In_any _ _ _ _).mono ?_
        rintro e w1 ⟨rfl, rfl⟩
        rw [hin]
        go_wp2_with fail
        refine (HBk _).mono ?_
        rintro e w1 ⟨rfl, rfl⟩
        go_wp2
        go_ret
        exact ⟨rfl, (Below.refl w.heap.size w).alloc (Nat.le_refl _) _⟩
    · rw [canI_even hodd ht0]
      rw [decide_eq_false hodd] at HB0
      go_enter Try.func129, Try.ntmps129
      go_wp2_with fail
      refine (HB0 _).mono ?_
      rintro e w1 ⟨rfl, rfl⟩
      go_wp2
      go_ret
      exact ⟨rfl, (Below.refl w.heap.size w).alloc (Nat.le_refl _) _⟩

/-- what CanThrow answers -/
def canS (h m t : Int) : Bool := okSt h m && canI h.toNat m.toNat t
theorem nextPow (t : Nat) (ht : t ≤ 10) : ∃ P : Int, (2 : Int) ^ t = P ∧ P = ((2 ^ t : Nat) : Int) ∧ 1 ≤ P ∧ P ≤ 1024 := by
  refine ⟨_, rfl, by simp, ?_⟩
  have : t = 0 ∨ t = 1 ∨ t = 2 ∨ t = 3 ∨ t = 4 ∨ t = 5 ∨ t = 6 ∨ t = 7 ∨ t = 8 ∨ t = 9 ∨ t = 10 := by omega
  rcases this with rfl | rfl | rfl | rfl | rfl | rfl | rfl | rfl | rfl | rfl | rfl <;> decide

theorem l08Next_any (h m t : Nat) (w : World) (hh : h ≤ 10) (hm : m < 2 ^ h) (ht : t ≤ h) :
    Calls Try.prog 120 #[.agg #[.int .i64 h, .int .i64 m], .int .i64 t] w fun e w' => e = .returned (.agg #[.int .i64 h, .int .i64 (nextM m t)]) ∧ Below w.heap.size w w' := by
  have hm4 : m < 1024 := by have := pow_lt_1024 hh; omega
  by_cases ht0 : t = 0
  · subst ht0
    have hn : nextM m 0 = m / 2 := rfl
    rw [hn]
    have hM := Lib.hid hm
    clear hm hn
    go_enter Try.func120, Try.ntmps120
    go_wp2
    refine bodyPost_ret (v := .agg #[.int .i64 h, .int .i64 ((m : Int) / 2)]) (by simp [results, Try.results120, go_sem]) rfl ?_
    exact ⟨by first | rfl | simp, ((Below.refl w.heap.size w).alloc (Nat.le_refl _) _).alloc (by simp) _⟩
  · obtain ⟨s, rfl⟩ : ∃ s, t = s + 1 := ⟨t - 1, by omega⟩
    obtain ⟨P, hP, hP2, p1, p2⟩ := nextPow s (by omega)
    have hn : bits .or .i64 ((m : Int) / 2) P = (nextM m (s + 1) : Nat) := by
      rw [hP2, show (m : Int) / 2 = ((m / 2 : Nat) : Int) from by omega, or_i64 _ _ (by omega) (by omega)]
      rfl
    have HN := Lib.hid hn
    have hM := Lib.hid hm
    clear hm hn hP2
    go_enter Try.func120, Try.ntmps120
    go_wp2
    refine bodyPost_ret (v := .agg #[.int .i64 h, .int .i64 (bits .or .i64 ((m : Int) / 2) P)]) (by simp [results, Try.results120, go_sem]) rfl ?_
    exact ⟨by rw [HN.out], ((Below.refl w.heap.size w).alloc (Nat.le_refl _) _).alloc (by simp) _⟩

/-- the state behind a throw, and the code -/
def nxtH (h m t : Int) : Int := if canS h m t then h else 0
def nxtM (h m t : Int) : Int := if canS h m t then (nextM m.toNat t.toNat : Nat) else 0
def nxtC (h m t : Int) : Int := if okSt h m then (if canI h.toNat m.toNat t then 0 else 6) else 1

end Go.Proofs.Ytdghbbnddgngoaa
