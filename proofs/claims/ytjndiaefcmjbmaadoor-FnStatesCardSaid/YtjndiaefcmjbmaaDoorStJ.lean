/- States, the program's: throws that are possible, the state behind one. No conditions. -/
import Derived.Test.YtjndiaefcmjbmaaDoorStI
namespace Go.Proofs.YtjndiaefcmjbmaaDoor
open Go.RowKit
set_option linter.unusedSimpArgs false
set_option linter.unusedVariables false

theorem bit_keyP (P t : Nat) (hP : P < 9223372036854775808) : (bits .and .i64 ((P : Int) / 2 ^ min t 64) 1 == 1) = decide (P / 2 ^ min t 64 % 2 = 1) := bit_key P (min t 64) hP

theorem lands_any (h m t : Nat) (w : World) (hm : m < 9223372036854775808) (ht : t ≤ 60) :
    Calls Tryd.prog 92 #[.agg #[.int .i64 h, .int .i64 m], .int .i64 t] w fun e w' => e = .returned (.bool (decide (m / 2 ^ t % 2 = 1))) ∧ Below w.heap.size w w' := by
  have hk := bit_key m t hm
  go_enter Tryd.func92, Tryd.ntmps92
  go_wp2
  go_ret
  exact ⟨rfl, (Below.refl _ _).alloc (Nat.le_refl _) _⟩

theorem possible_any (h m : Nat) (w : World) (hh : h ≤ 10) (hm : m < 2 ^ h) :
    Calls Tryd.prog 90 #[.agg #[.int .i64 h, .int .i64 m]] w fun e w' => e = .returned (.int .i64 (possM h m)) ∧ Below w.heap.size w w' := by
  have hm4 : m < 1024 := by have := pow_lt_1024 hh; omega
  have HL0 := fun W => lands_any h m 0 W (by omega) (by omega)
  rw [show m / 2 ^ 0 = m from by simp] at HL0
  by_cases hodd : m % 2 = 1
  · rw [show possM h m = 2 ^ (h + 1) - 1 - m from if_pos hodd]
    rw [decide_eq_true hodd] at HL0
    have HB := fun W => lowestBits_any ((h : Int) + 1) W (by omega) (by omega)
    have hp : (2 : Int) ^ ((h : Int) + 1).toNat - 1 = ((2 ^ (h + 1) - 1 : Nat) : Int) := by
      rw [show ((h : Int) + 1).toNat = h + 1 from by omega, Int.natCast_sub (Nat.one_le_two_pow)]
      simp
    rw [hp] at HB
    have hlt : 2 ^ (h + 1) - 1 < 9223372036854775808 := by
      have : (2 : Nat) ^ (h + 1) ≤ 2 ^ 11 := Nat.pow_le_pow_right (by decide) (by omega)
      omega
    have hn := andNot_i64 (2 ^ (h + 1) - 1) m hlt (by omega)
    rw [poss_full h (by omega) m hm4 hm] at hn
    have HN := Lib.hid hn
    clear hn hp hm
    generalize 2 ^ (h + 1) - 1 = P at *
    go_enter Tryd.func90, Tryd.ntmps90
    go_wp2_with fail
    refine (HL0 _).mono ?_
    rintro e w1 ⟨rfl, b3⟩
    obtain ⟨c0, c1, b3⟩ := two_kept b3
    go_wp2
    go_quiet ((go_at_call 117; exact Calls.quiet_of_same (HB _)))
    go_wp2
    go_ret
    exact ⟨ret_int HN.out, below_drewN b3 _⟩
  · rw [show possM h m = 1 from if_neg hodd]
    rw [decide_eq_false hodd] at HL0
    have HB := fun W => lowestBits_any 1 W (by omega) (by omega)
    go_enter Tryd.func90, Tryd.ntmps90
    go_wp2_with fail
    refine (HL0 _).mono ?_
    rintro e w1 ⟨rfl, b3⟩
    obtain ⟨c0, c1, b3⟩ := two_kept b3
    go_wp2_with fail
    refine (HB _).mono ?_
    rintro e w2 ⟨rfl, rfl⟩
    go_wp2
    go_ret
    exact ⟨rfl, b3⟩

/-- the mask of possible throws tells them -/
theorem poss_can (h m t : Nat) (hh : h ≤ 10) (hm : m < 2 ^ h) : decide (possM h m / 2 ^ t % 2 = 1) = canI h m (t : Int) := by
  have hm4 : m < 1024 := by have := pow_lt_1024 hh; omega
  unfold possM canI
  by_cases hodd : m % 2 = 1
  · rw [if_pos hodd, if_pos hodd, Int.toNat_natCast]
    by_cases ht : t < 12
    · rw [poss_bit h (by omega) m hm4 hm t ht]
      by_cases h0 : t = 0
      · subst h0
        rw [inB_false (by omega)]
        have : ¬ m / 2 ^ 0 % 2 = 0 := by simp; omega
        rw [decide_eq_false this]
        simp
      · congr 1
        by_cases hle : t ≤ h
        · rw [decide_eq_true hle, inB_true (by omega)]
        · rw [decide_eq_false hle, inB_false (by omega)]
    · have hlt : 2 ^ (h + 1) - 1 - m < 2 ^ t := by
        have : (2 : Nat) ^ (h + 1) ≤ 2 ^ t := Nat.pow_le_pow_right (by decide) (by omega)
        have := Nat.one_le_two_pow (n := h + 1)
        omega
      rw [Nat.div_eq_of_lt hlt, inB_false (by omega)]
      rfl
  · rw [if_neg hodd, if_neg hodd]
    by_cases h0 : t = 0
    · subst h0; rfl
    · have : 1 < 2 ^ t := Nat.one_lt_two_pow h0
      rw [Nat.div_eq_of_lt this, decide_eq_false (show ¬ ((t : Int) = 0) by omega)]
      rfl
theorem poss_lt (h m : Nat) (hh : h ≤ 10) : possM h m < 2048 := by
  have : (2 : Nat) ^ (h + 1) ≤ 2 ^ 11 := Nat.pow_le_pow_right (by decide) (by omega)
  unfold possM
  split <;> omega

theorem allows_any (h m : Nat) (t : Int) (w : World) (hh : h ≤ 10) (hm : m < 2 ^ h) (b1 : -9223372036854775808 ≤ t) (b2 : t ≤ 9223372036854775807) :
    Calls Tryd.prog 56 #[.agg #[.int .i64 h, .int .i64 m], .int .i64 t] w fun e w' => e = .returned (.bool (canI h m t)) ∧ Below w.heap.size w w' := by
  have HP := fun W => possible_any h m W hh hm
  by_cases h0 : 0 ≤ t
  · obtain ⟨k, rfl⟩ : ∃ k : Nat, t = k := ⟨t.toNat, by omega⟩
    rw [← poss_can h m k hh hm]
    have hPl := poss_lt h m hh
    generalize possM h m = P at *
    by_cases h64 : k ≤ 64
    · have hk := bit_key P k (by omega)
      clear hm
      go_enter Tryd.func56, Tryd.ntmps56
      go_wp2_with fail
      refine (HP _).mono ?_
      rintro e w1 ⟨rfl, b3⟩
      obtain ⟨c0, c1, b3⟩ := two_kept b3
      go_wp2
      go_ret
      exact ⟨rfl, b3⟩
    · have HQ : (bits .and .i64 ((P : Int) / 2 ^ min k 64) 1 == 1) = false := by
        have e : (2 : Int) ^ 64 = 18446744073709551616 := by decide
        rw [show min k 64 = 64 from by omega, Int.ediv_eq_zero_of_lt (by omega) (by omega)]; rfl
      have HQ := Lib.hid HQ
      have hz : P / 2 ^ k = 0 := Nat.div_eq_of_lt (Nat.lt_of_lt_of_le hPl (by have : (2 : Nat) ^ 11 ≤ 2 ^ k := Nat.pow_le_pow_right (by decide) (by omega); simpa using this))
      rw [hz]
      clear hm
      go_enter Tryd.func56, Tryd.ntmps56
      go_wp2_with fail
      refine (HP _).mono ?_
      rintro e w1 ⟨rfl, b3⟩
      obtain ⟨c0, c1, b3⟩ := two_kept b3
      go_wp2
      go_ret
      exact ⟨by first | rfl | exact ret_bool HQ.out, b3⟩
  · have : canI h m t = false := by
      cases hc : canI h m t with
      | false => rfl
      | true => have := canI_range hc; omega
    rw [this]
    go_enter Tryd.func56, Tryd.ntmps56
    go_wp2
    go_ret
    exact ⟨rfl, (Below.refl _ _).alloc (Nat.le_refl _) _⟩

theorem after_any (h m t : Nat) (w : World) (hh : h ≤ 10) (hm : m < 2 ^ h) (ht : t ≤ h) :
    Calls Tryd.prog 57 #[.agg #[.int .i64 h, .int .i64 m], .int .i64 t] w fun e w' => e = .returned (.agg #[.int .i64 h, .int .i64 (nextM m t)]) ∧ Below w.heap.size w w' := by
  have hm4 : m < 1024 := by have := pow_lt_1024 hh; omega
  obtain ⟨P, hP, hP2, p1, p2⟩ := nextPow t (by omega)
  have hn : bits .or .i64 (m : Int) P / 2 = (nextM m t : Nat) := by
    rw [hP2, or_i64 _ _ (by omega) (by omega), ← after_or m hm4 t (by omega)]
    omega
  have HN := Lib.hid hn
  clear hm hn hP2
  go_enter Tryd.func57, Tryd.ntmps57
  go_wp2
  go_region
  go_wp2
  refine bodyPost_ret (v := .agg #[.int .i64 h, .int .i64 (bits .or .i64 (m : Int) P / 2)]) (by simp [results, Tryd.results57, go_sem]) rfl ?_
  exact ⟨by rw [HN.out], by first | exact ((Below.refl w.heap.size w).alloc (Nat.le_refl _) _).alloc (by simp) _ | exact below_drewN (((Below.refl w.heap.size w).alloc (Nat.le_refl _) _).alloc (by simp) _) _⟩

theorem canThrow_impl (h m t : Int) (w : World) (m1 : -9223372036854775808 ≤ m) (m2 : m ≤ 9223372036854775807) (b1 : -9223372036854775808 ≤ t) (b2 : t ≤ 9223372036854775807) :
    Calls Tryd.prog 19 #[.agg #[.int .i64 h, .int .i64 m], .int .i64 t] w fun e w' => e = .returned (.bool (canS h m t)) ∧ Below w.heap.size w w' := by
  have HV := fun W => isValid_any h m W m1 m2
  cases hok : okSt h m with
  | false =>
    rw [show canS h m t = false from by rw [canS, hok]; rfl]
    rw [hok] at HV
    go_enter Tryd.func19, Tryd.ntmps19
    go_wp2_with fail
    refine (HV _).mono ?_
    rintro e w1 ⟨rfl, b3⟩
    go_wp2
    go_ret
    exact ⟨rfl, by first | exact b3 | exact (two_kept b3).2.2⟩
  | true =>
    rw [show canS h m t = canI h.toNat m.toNat t from by rw [canS, hok]; rfl]
    rw [hok] at HV
    obtain ⟨a, b, rfl, rfl, h1, h2, h3⟩ := okSt_nat hok
    rw [Int.toNat_natCast, Int.toNat_natCast]
    have HC := fun W => allows_any a b t W h2 h3 b1 b2
    generalize canI a b t = r at *
    go_enter Tryd.func19, Tryd.ntmps19
    go_wp2_with fail
    refine (HV _).mono ?_
    rintro e w1 ⟨rfl, b3⟩
    obtain ⟨c0, c1, b3⟩ := two_kept b3
    go_wp2_with fail
    refine (HC _).mono ?_
    rintro e w2 ⟨rfl, b4⟩
    go_wp2
    go_ret
    exact ⟨rfl, b3.trans (b4.mono b3.size)⟩

theorem nextState_impl (h m t : Int) (w : World) (m1 : -9223372036854775808 ≤ m) (m2 : m ≤ 9223372036854775807) (b1 : -9223372036854775808 ≤ t) (b2 : t ≤ 9223372036854775807) :
    Calls Tryd.prog 17 #[.agg #[.int .i64 h, .int .i64 m], .int .i64 t] w fun e w' => e = .returned (.tuple #[.agg #[.int .i64 (nxtH h m t), .int .i64 (nxtM h m t)], .int .i64 (nxtC h m t)]) ∧ Below w.heap.size w w' := by
  cases hok : okSt h m with
  | false =>
    rw [show nxtH h m t = 0 from by rw [nxtH, canS, hok]; rfl, show nxtM h m t = 0 from by rw [nxtM, canS, hok]; rfl, show nxtC h m t = 1 from by rw [nxtC, hok]; rfl]
    go_enter Tryd.func17, Tryd.ntmps17
    go_wp2_with fail
    refine (isValid_any h m _ m1 m2).mono ?_
    rintro e w1 ⟨rfl, b3⟩
    rw [hok]
    obtain ⟨c0, c1, d0, d1, fr, b3⟩ := four_kept b3
    have f0 := fr 0
    have f1 := fr 1
    obtain ⟨r0, r1⟩ := stc_set (.int .i64 0) (.int .i64 0) d0 d1
    go_wp2
    refine bodyPost_ret (v := .tuple #[.agg #[.int .i64 0, .int .i64 0], .int .i64 1]) (by simp [results, Tryd.results17, go_sem, r0, r1]) rfl ?_
    exact ⟨rfl, two_below b3 (by omega) _ _⟩
  | true =>
    obtain ⟨a, b, rfl, rfl, h1, h2, h3⟩ := okSt_nat hok
    have HCan := fun W => allows_any a b t W h2 h3 b1 b2
    cases hcan : canI a b t with
    | false =>
      have hS : canS a b t = false := by rw [canS, hok, Int.toNat_natCast, Int.toNat_natCast, hcan]; rfl
      rw [show nxtH a b t = 0 from by rw [nxtH, hS]; rfl, show nxtM a b t = 0 from by rw [nxtM, hS]; rfl, show nxtC a b t = 6 from by rw [nxtC, hok, Int.toNat_natCast, Int.toNat_natCast, hcan]; rfl]
      rw [hcan] at HCan
      go_enter Tryd.func17, Tryd.ntmps17
      go_wp2_with fail
      refine (isValid_any a b _ (by omega) (by omega)).mono ?_
      rintro e w1 ⟨rfl, b3⟩
      rw [hok]
      obtain ⟨c0, c1, d0, d1, fr, b3⟩ := four_kept b3
      go_wp2_with fail
      refine (HCan _).mono ?_
      rintro e w2 ⟨rfl, b4⟩
      have s1 := cell_block d0
      simp only at s1
      replace d0 := (b4.cell (p := ⟨w.heap.size + 1, 0, none⟩) s1).trans d0
      replace d1 := (b4.cell (p := ⟨w.heap.size + 1, 1, none⟩) s1).trans d1
      have f0 : w2.frozen? ⟨w.heap.size + 1, 0, none⟩ = false := (frozen_kept b4 s1 _).trans (fr 0)
      have f1 : w2.frozen? ⟨w.heap.size + 1, 1, none⟩ = false := (frozen_kept b4 s1 _).trans (fr 1)
      obtain ⟨r0, r1⟩ := stc_set (.int .i64 0) (.int .i64 0) d0 d1
      go_wp2
      refine bodyPost_ret (v := .tuple #[.agg #[.int .i64 0, .int .i64 0], .int .i64 6]) (by simp [results, Tryd.results17, go_sem, r0, r1]) rfl ?_
      exact ⟨rfl, two_below (b3.trans (b4.mono b3.size)) (by omega) _ _⟩
    | true =>
      have hr := canI_range hcan
      obtain ⟨k, rfl⟩ : ∃ k : Nat, t = k := ⟨t.toNat, by omega⟩
      have hS : canS a b k = true := by rw [canS, hok, Int.toNat_natCast, Int.toNat_natCast, hcan]; rfl
      rw [show nxtH a b k = a from by rw [nxtH, hS]; rfl, show nxtM a b k = (nextM b k : Nat) from by rw [nxtM, hS]; rfl, show nxtC a b k = 0 from by rw [nxtC, hok, Int.toNat_natCast, Int.toNat_natCast, hcan]; rfl]
      rw [hcan] at HCan
      have HN := fun W => after_any a b k W h2 h3 (by omega)
      generalize nextM b k = q at *
      go_enter Tryd.func17, Tryd.ntmps17
      go_wp2_with fail
      refine (isValid_any a b _ (by omega) (by omega)).mono ?_
      rintro e w1 ⟨rfl, b3⟩
      rw [hok]
      obtain ⟨c0, c1, d0, d1, fr, b3⟩ := four_kept b3
      go_wp2_with fail
      refine (HCan _).mono ?_
      rintro e w2 ⟨rfl, b4⟩
      have s0 := cell_block c0
      have s1 := cell_block d0
      simp only at s0 s1
      replace c0 := (b4.cell (p := ⟨w.heap.size, 0, none⟩) s0).trans c0
      replace c1 := (b4.cell (p := ⟨w.heap.size, 1, none⟩) s0).trans c1
      replace b4 := b4
      have s2 := b4.size
      go_wp2_with fail
      refine (HN _).mono ?_
      rintro e w3 ⟨rfl, b5⟩
      have b6 := b4.trans (b5.mono s2)
      replace d0 := (b6.cell (p := ⟨w.heap.size + 1, 0, none⟩) s1).trans d0
      replace d1 := (b6.cell (p := ⟨w.heap.size + 1, 1, none⟩) s1).trans d1
      have f0 : w3.frozen? ⟨w.heap.size + 1, 0, none⟩ = false := (frozen_kept b6 s1 _).trans (fr 0)
      have f1 : w3.frozen? ⟨w.heap.size + 1, 1, none⟩ = false := (frozen_kept b6 s1 _).trans (fr 1)
      obtain ⟨r0, r1⟩ := stc_set (.int .i64 a) (.int .i64 q) d0 d1
      clear c0 c1
      go_wp2
      refine bodyPost_ret (v := .tuple #[.agg #[.int .i64 a, .int .i64 q], .int .i64 0]) (by simp [results, Tryd.results17, go_sem, r0, r1]) rfl ?_
      exact ⟨rfl, two_below (b3.trans (b6.mono b3.size)) (by omega) _ _⟩
end Go.Proofs.YtjndiaefcmjbmaaDoor
