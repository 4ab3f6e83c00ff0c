/- States, the program's: throws that are possible, the state behind one. No conditions. -/
import Derived.Test.YtdghbbnddgngoaaDoorStI
namespace Go.Proofs.YtdghbbnddgngoaaDoor
open Go.RowKit
set_option linter.unusedSimpArgs false
set_option linter.unusedVariables false

theorem bit_keyP (P t : Nat) (hP : P < 9223372036854775808) : (bits .and .i64 ((P : Int) / 2 ^ min t 64) 1 == 1) = decide (P / 2 ^ min t 64 % 2 = 1) := bit_key P (min t 64) hP

theorem lands_any (h m t : Nat) (w : World) (hm : m < 9223372036854775808) (ht : t ≤ 60) :
    Calls Tryd.prog 103 #[.agg #[.int .i64 h, .int .i64 m], .int .i64 t] w fun e w' => e = .returned (.bool (decide (m / 2 ^ t % 2 = 1))) ∧ Below w.heap.size w w' := by
  have hk := bit_key m t hm
  go_enter Tryd.func103, Tryd.ntmps103
  go_wp2
  go_ret
  exact ⟨rfl, (Below.refl _ _).alloc (Nat.le_refl _) _⟩

theorem possible_any (h m : Nat) (w : World) (hh : h ≤ 10) (hm : m < 2 ^ h) :
    Calls Tryd.prog 77 #[.agg #[.int .i64 h, .int .i64 m]] w fun e w' => e = .returned (.int .i64 (possM h m)) ∧ Below w.heap.size w w' := by
  have hm4 : m < 1024 := by have := pow_lt_1024 hh; omega
  have HL0 := fun W => lands_any h m 0 W (by omega) (by omega)
  rw [show m / 2 ^ 0 = m from by simp] at HL0
  by_cases hodd : m % 2 = 1
  · rw [show possM h m = 2 ^ (h + 1) - 1 - m from if_pos hodd]
    rw [decide_eq_true hodd] at HL0
    have HB := fun W => lowestBits_any ((h : Int) + 1) W (by omega) (by omega)
    have hp : (2 : Int) ^ ((h : Int) + 1).toNat - 1 = ((2 ^ (h + 1) - 1 : Nat) : Int) := by
      rw [show ((h : Int) + 1).toNat = h + 1 from by omega, Int.natCast_sub (Nat.one_le_two_pow)]
      simp
    rw [hp] at HB
    have hlt : 2 ^ (h + 1) - 1 < 9223372036854775808 := by
      have : (2 : Nat) ^ (h + 1) ≤ 2 ^ 11 := Nat.pow_le_pow_right (by decide) (by omega)
      omega
    have hn := andNot_i64 (2 ^ (h + 1) - 1) m hlt (by omega)
    rw [poss_full h (by omega) m hm4 hm] at hn
    have HN := Lib.hid hn
    clear hn hp hm
    generalize 2 ^ (h + 1) - 1 = P at *
    go_enter Tryd.func77, Tryd.ntmps77
    go_wp2_with fail
    refine (HL0 _).mono ?_
    rintro e w1 ⟨rfl, b3⟩
    obtain ⟨c0, c1, b3⟩ := two_kept b3
    go_wp2
    go_quiet ((go_at_call 104; exact Calls.quiet_of_same (HB _)))
    go_wp2
    go_ret
    exact ⟨ret_int HN.out, below_drewN b3 _⟩
  · rw [show possM h m = 1 from if_neg hodd]
    rw [decide_eq_false hodd] at HL0
    have HB := fun W => lowestBits_any 1 W (by omega) (by omega)
    go_enter Tryd.func77, Tryd.ntmps77
    go_wp2_with fail
    refine (HL0 _).mono ?_
    rintro e w1 ⟨rfl, b3⟩
    obtain ⟨c0, c1, b3⟩ := two_kept b3
    go_wp2_with fail
    refine (HB _).mono ?_
    rintro e w2 ⟨rfl, rfl⟩
    go_wp2
    go_ret
    exact ⟨rfl, b3⟩

/-- the mask of possible throws tells them -/
theorem poss_can (h m t : Nat) (hh : h ≤ 10) (hm : m < 2 ^ h) : decide (possM h m / 2 ^ t % 2 = 1) = canI h m (t : Int) := by
  have hm4 : m < 1024 := by have := pow_lt_1024 hh; omega
  unfold possM canI
  by_cases hodd : m % 2 = 1
  · rw [if_pos hodd, if_pos hodd, Int.toNat_natCast]
    by_cases ht : t < 12
    · rw [poss_bit h (by omega) m hm4 hm t ht]
      by_cases h0 : t = 0
      · subst h0
        rw [inB_false (by omega)]
        have : ¬ m / 2 ^ 0 % 2 = 0 := by simp; omega
        rw [decide_eq_false this]
        simp
      · congr 1
        by_cases hle : t ≤ h
        · rw [decide_eq_true hle, inB_true (by omega)]
        · rw [decide_eq_false hle, inB_false (by omega)]
    · have hlt : 2 ^ (h + 1) - 1 - m < 2 ^ t := by
        have : (2 : Nat) ^ (h + 1) ≤ 2 ^ t := Nat.pow_le_pow_right (by decide) (by omega)
        have := Nat.one_le_two_pow (n := h + 1)
        omega
      rw [Nat.div_eq_of_lt hlt, inB_false (by omega)]
      rfl
  · rw [if_neg hodd, if_neg hodd]
    by_cases h0 : t = 0
    · subst h0; rfl
    · have : 1 < 2 ^ t := Nat.one_lt_two_pow h0
      rw [Nat.div_eq_of_lt this, decide_eq_false (show ¬ ((t : Int) = 0) by omega)]
      rfl
theorem poss_lt (h m : Nat) (hh : h ≤ 10) : possM h m < 2048 := by
  have : (2 : Nat) ^ (h + 1) ≤ 2 ^ 11 := Nat.pow_le_pow_right (by decide) (by omega)
  unfold possM
  split <;> omega

theorem after_any (h m t : Nat) (w : World) (hh : h ≤ 10) (hm : m < 2 ^ h) (ht : t ≤ h) :
    Calls Tryd.prog 53 #[.agg #[.int .i64 h, .int .i64 m], .int .i64 t] w fun e w' => e = .returned (.agg #[.int .i64 h, .int .i64 (nextM m t)]) ∧ Below w.heap.size w w' := by
  have hm4 : m < 1024 := by have := pow_lt_1024 hh; omega
  obtain ⟨P, hP, hP2, p1, p2⟩ := nextPow t (by omega)
  have hn : bits .or .i64 (m : Int) P / 2 = (nextM m t : Nat) := by
    rw [hP2, or_i64 _ _ (by omega) (by omega), ← after_or m hm4 t (by omega)]
    omega
  have HN := Lib.hid hn
  clear hm hn hP2
  go_enter Tryd.func53, Tryd.ntmps53
  go_wp2
  go_region
  go_wp2
  refine bodyPost_ret (v := .agg #[.int .i64 h, .int .i64 (bits .or .i64 (m : Int) P / 2)]) (by simp [results, Tryd.results53, go_sem]) rfl ?_
  exact ⟨by rw [HN.out], by first | exact ((Below.refl w.heap.size w).alloc (Nat.le_refl _) _).alloc (by simp) _ | exact below_drewN (((Below.refl w.heap.size w).alloc (Nat.le_refl _) _).alloc (by simp) _) _⟩

end Go.Proofs.YtdghbbnddgngoaaDoor
