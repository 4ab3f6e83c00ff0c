/- Counting: powers, codes, CountFewer, CountPatterns, the model's and the program's. Conditions: as stated. -/
import Derived.Test.YtgdoadcpjgbioaaCtA
import Derived.Test.YtgdoadcpjgbioaaSpec02
namespace Go.Proofs.Ytgdoadcpjgbioaa
open Go.RowKit
set_option linter.unusedSimpArgs false
set_option linter.unusedVariables false

theorem l00Min_any (x y : Int) (w : World) :
    Calls Try.prog 74 #[.int .i64 x, .int .i64 y] w fun e w' => e = .returned (.int .i64 (min x y)) ∧ w = w' := by
  by_cases h : x < y
  · rw [Int.min_eq_left (by omega)]
    go_enter Try.func74, Try.ntmps74
    go_wp2
    go_ret
    exact ⟨rfl, rfl⟩
  · rw [Int.min_eq_right (by omega)]
    go_enter Try.func74, Try.ntmps74
    go_wp2
    go_ret
    exact ⟨rfl, rfl⟩

theorem capP_step (b k : Nat) : ((capP b (k + 1) : Nat) : Int) = min 1000000000001 (((capP b k : Nat) : Int) * (b : Int)) := by
  rw [capP, ← Int.natCast_mul]
  omega
theorem cap_times {p b : Int} (h0 : 0 ≤ p) (h1 : p ≤ 1000000000001) (h2 : 0 ≤ b) (h3 : b ≤ 101) : 0 ≤ p * b ∧ p * b ≤ 101000000000101 := by
  constructor
  · exact Int.mul_nonneg h0 h2
  · have : p * b ≤ 1000000000001 * 101 := Int.mul_le_mul h1 h3 h2 (by omega)
    omega

theorem l12Power_any (b n : Nat) (w : World) (hb : b ≤ 101) (hn : n ≤ 12) :
    Calls Try.prog 55 #[.int .i64 b, .int .i64 n] w fun e w' => e = .returned (.int .i64 (capP b n)) ∧ w = w' := by
  have HS := Lib.hid (capP_step b)
  have HL := Lib.hid (capP_le b)
  go_enter Try.func55, Try.ntmps55
  go_wp2
  go_loop [5, 6] (fun t i => ∃ k : Nat, k ≤ n ∧ i = .int .i64 k ∧ t = .int .i64 (capP b k : Nat)) (fun _ i => n - (intOf i).toNat)
  case atStart => exact ⟨0, Nat.zero_le _, rfl, rfl⟩
  case round =>
    obtain ⟨k, hk, rfl, rfl⟩ := hrel
    by_cases hlt : k < n
    · have h1 := HS.out k
      have h2 := HL.out k
      obtain ⟨c, hc⟩ : ∃ c : Int, ((capP b k : Nat) : Int) = c := ⟨_, rfl⟩
      obtain ⟨b', hb'⟩ : ∃ b' : Int, ((b : Nat) : Int) = b' := ⟨_, rfl⟩
      have hm := cap_times (p := c) (b := b') (by omega) (by omega) (by omega) (by omega)
      rw [hc, hb'] at h1
      rw [hc, hb']
      have HE := Lib.hid h1
      obtain ⟨q, hq⟩ : ∃ q : Int, c * b' = q := ⟨_, rfl⟩
      have hwr : IntKind.i64.wrap (c * b') = q := by rw [hq] at hm ⊢; exact IntWalk.i64_in _ (by omega)
      clear h1
      go_wp2_with fail
      refine (l00Min_any _ _ _).mono ?_
      rintro e w' ⟨rfl, rfl⟩
      go_wp2
      go_round
      case rel => exact ⟨k + 1, by omega, by go_num, by rw [HE.out, hq]⟩
      case measure => simp [intOf]; omega
    · obtain rfl : k = n := by omega
      go_wp2
      go_ret
      exact ⟨rfl, rfl⟩

theorem cap_over (b n : Nat) : (1000000000000 < capP b n) ↔ 1000000000000 < b ^ n := by rw [capP_is]; omega

theorem l12Code_any (b n : Int) (w : World) :
    Calls Try.prog 54 #[.int .i64 b, .int .i64 n] w fun e w' => e = .returned (.int .i64 (cntC b n)) ∧ w = w' := by
  cases hk : inB b 0 100 with
  | false =>
    rw [cntC_lowB hk]
    go_enter Try.func54, Try.ntmps54
    go_wp2_with fail
    refine (l00In_any _ _ _ _).mono ?_
    rintro e w1 ⟨rfl, rfl⟩
    rw [hk]
    go_wp2
    go_ret
    exact ⟨rfl, rfl⟩
  | true =>
    cases hn : inB n 1 12 with
    | false =>
      rw [cntC_lowN hn]
      go_enter Try.func54, Try.ntmps54
      go_wp2_with fail
      refine (l00In_any _ _ _ _).mono ?_
      rintro e w1 ⟨rfl, rfl⟩
      rw [hk]
      go_wp2_with fail
      refine (l00In_any _ _ _ _).mono ?_
      rintro e w1 ⟨rfl, rfl⟩
      rw [hn]
      go_wp2
      go_ret
      exact ⟨rfl, rfl⟩
    | true =>
      obtain ⟨b0, b1⟩ := inB_iff.1 hk
      obtain ⟨n0, n1⟩ := inB_iff.1 hn
      obtain ⟨p, rfl⟩ : ∃ k : Nat, b = k := ⟨b.toNat, by omega⟩
      obtain ⟨q, rfl⟩ : ∃ k : Nat, n = k := ⟨n.toNat, by omega⟩
      have HP := fun W => l12Power_any (p + 1) q W (by omega) (by omega)
      have hov := cap_over (p + 1) q
      by_cases ho : 1000000000000 < (p + 1) ^ q
      · rw [cntC_over (by omega) (by omega) (by omega) ho]
        have hc := hov.2 ho
        clear hov ho
        generalize capP (p + 1) q = c at *
        go_enter Try.func54, Try.ntmps54
        go_wp2_with fail
        refine (l00In_any _ _ _ _).mono ?_
        rintro e w1 ⟨rfl, rfl⟩
        rw [hk]
        go_wp2_with fail
        refine (l00In_any _ _ _ _).mono ?_
        rintro e w1 ⟨rfl, rfl⟩
        rw [hn]
        go_wp2_with fail
        refine (HP _).mono ?_
        rintro e w1 ⟨rfl, rfl⟩
        go_wp2
        go_ret
        exact ⟨rfl, rfl⟩
      · rw [cntC_ok (by omega) (by omega) (by omega) ho]
        have hc : ¬ 1000000000000 < capP (p + 1) q := fun h => ho (hov.1 h)
        clear hov ho
        generalize capP (p + 1) q = c at *
        go_enter Try.func54, Try.ntmps54
        go_wp2_with fail
        refine (l00In_any _ _ _ _).mono ?_
        rintro e w1 ⟨rfl, rfl⟩
        rw [hk]
        go_wp2_with fail
        refine (l00In_any _ _ _ _).mono ?_
        rintro e w1 ⟨rfl, rfl⟩
        rw [hn]
        go_wp2_with fail
        refine (HP _).mono ?_
        rintro e w1 ⟨rfl, rfl⟩
        go_wp2
        go_ret
        exact ⟨rfl, rfl⟩

theorem countFewer_spec (b n : Int) (w : World) :
    Calls Try.prog 33 #[.int .i64 b, .int .i64 n] w fun e w' => e = .returned (.tuple #[.int .i64 (fewA b n), .int .i64 (cntC b n)]) ∧ Below w.heap.size w w' := by
  have HC := fun W => l12Code_any b n W
  by_cases hz : cntC b n = 0
  · obtain ⟨⟨b0, b1⟩, ⟨n0, n1⟩, hp⟩ := cntC_zero hz
    unfold fewA
    rw [hz] at HC ⊢
    rw [if_pos rfl]
    obtain ⟨p, rfl⟩ : ∃ k : Nat, b = k := ⟨b.toNat, by omega⟩
    obtain ⟨q, rfl⟩ : ∃ k : Nat, n = k := ⟨n.toNat, by omega⟩
    simp only [Int.toNat_natCast] at hp ⊢
    have HP := fun W => l12Power_any p q W (by omega) (by omega)
    rw [capP_pow (pow_less hp)] at HP
    clear hz hp
    generalize p ^ q = c at *
    go_enter Try.func33, Try.ntmps33
    go_wp2_with fail
    refine (HC _).mono ?_
    rintro e w1 ⟨rfl, rfl⟩
    go_wp2_with fail
    refine (HP _).mono ?_
    rintro e w1 ⟨rfl, rfl⟩
    go_wp2
    go_ret2
    exact ⟨rfl, Below.refl _ _⟩
  · unfold fewA
    rw [if_neg hz]
    have hne : (cntC b n != 0) = true := by simpa using hz
    generalize cntC b n = c at *
    go_enter Try.func33, Try.ntmps33
    go_wp2_with fail
    refine (HC _).mono ?_
    rintro e w1 ⟨rfl, rfl⟩
    go_wp2
    go_ret2
    exact ⟨rfl, Below.refl _ _⟩

theorem same_flip {P : Program} {f : Nat} {args : Array Value} {w : World} {R : Ending → Prop} (h : Calls P f args w fun e w' => R e ∧ w = w') : Calls P f args w fun e w' => R e ∧ w' = w := h.mono fun e w' k => ⟨k.1, k.2.symm⟩

theorem l12Exact_any (p q : Nat) (w : World) (hb : p ≤ 100) (hn : q ≤ 12) (h : (p + 1) ^ q ≤ 1000000000000) :
    Calls Try.prog 58 #[.int .i64 p, .int .i64 q] w fun e w' => e = .returned (.int .i64 (exN p q)) ∧ w = w' := by
  have HP := Lib.hid (fun W => (l12Power_any (p + 1) q W (by omega) (by omega)))
  have HQ := Lib.hid (fun W => (l12Power_any p q W (by omega) (by omega)))
  have h2 := pow_less h
  have HE := Lib.hid (show exN p q = (((p + 1) ^ q : Nat) : Int) - ((p ^ q : Nat) : Int) from rfl)
  rw [capP_pow h] at HP
  rw [capP_pow h2] at HQ
  rw [HE.out]
  clear HE
  generalize (p + 1) ^ q = c at *
  generalize p ^ q = d at *
  go_enter Try.func58, Try.ntmps58
  go_wp2_with fail
  refine (HP.out _).mono ?_
  rintro e w1 ⟨rfl, rfl⟩
  go_wp2_with fail
  refine (HQ.out _).mono ?_
  rintro e w1 ⟨rfl, rfl⟩
  go_wp2
  go_ret
  exact ⟨rfl, rfl⟩

theorem countPatterns_spec (b n : Int) (w : World) :
    Calls Try.prog 35 #[.int .i64 b, .int .i64 n] w fun e w' => e = .returned (.tuple #[.int .i64 (patA b n), .int .i64 (cntC b n)]) ∧ Below w.heap.size w w' := by
  have HC := fun W => l12Code_any b n W
  by_cases hz : cntC b n = 0
  · obtain ⟨⟨b0, b1⟩, ⟨n0, n1⟩, hp⟩ := cntC_zero hz
    unfold patA
    rw [hz] at HC ⊢
    rw [if_pos rfl]
    obtain ⟨p, rfl⟩ : ∃ k : Nat, b = k := ⟨b.toNat, by omega⟩
    obtain ⟨q, rfl⟩ : ∃ k : Nat, n = k := ⟨n.toNat, by omega⟩
    simp only [Int.toNat_natCast] at hp ⊢
    have HP := fun W => l12Exact_any p q W (by omega) (by omega) hp
    clear hz hp
    generalize exN p q = c at *
    go_enter Try.func35, Try.ntmps35
    go_wp2_with fail
    refine (HC _).mono ?_
    rintro e w1 ⟨rfl, rfl⟩
    go_wp2_with fail
    refine (HP _).mono ?_
    rintro e w1 ⟨rfl, rfl⟩
    go_wp2
    go_ret2
    exact ⟨rfl, Below.refl _ _⟩
  · unfold patA
    rw [if_neg hz]
    have hne : (cntC b n != 0) = true := by simpa using hz
    generalize cntC b n = c at *
    go_enter Try.func35, Try.ntmps35
    go_wp2_with fail
    refine (HC _).mono ?_
    rintro e w1 ⟨rfl, rfl⟩
    go_wp2
    go_ret2
    exact ⟨rfl, Below.refl _ _⟩

theorem pow_step {b n k : Nat} (h : b ^ n ≤ 1000000000000) (hk : k < n) : (((b ^ (k + 1) : Nat)) : Int) = ((b ^ k : Nat) : Int) * (b : Int) ∧ 0 ≤ ((b ^ (k + 1) : Nat) : Int) ∧ ((b ^ (k + 1) : Nat) : Int) ≤ 1000000000000 := by
  have h1 := pow_mid h (show k + 1 ≤ n by omega)
  refine ⟨by rw [Nat.pow_succ, Int.natCast_mul], by omega, by omega⟩

theorem power_any (b n : Nat) (w : World) (hb : b ≤ 101) (hn : n ≤ 12) (h : b ^ n ≤ 1000000000000) :
    Calls Try.prog 57 #[.int .i64 b, .int .i64 n] w fun e w' => e = .returned (.int .i64 ((b ^ n : Nat) : Int)) ∧ w = w' := by
  have HS := Lib.hid (fun k (hk : k < n) => pow_step h hk)
  clear h
  go_enter Try.func57, Try.ntmps57
  go_wp2
  go_loop [5, 7] (fun t i => ∃ k : Nat, k ≤ n ∧ i = .int .i64 k ∧ t = .int .i64 ((b ^ k : Nat) : Int)) (fun _ i => n - (intOf i).toNat)
  case atStart => exact ⟨0, Nat.zero_le _, rfl, rfl⟩
  case round =>
    obtain ⟨k, hk, rfl, rfl⟩ := hrel
    by_cases hlt : k < n
    · obtain ⟨h1, h2, h3⟩ := HS.out k hlt
      obtain ⟨c, hc⟩ : ∃ c : Int, ((b ^ k : Nat) : Int) = c := ⟨_, rfl⟩
      obtain ⟨b', hb'⟩ : ∃ b' : Int, ((b : Nat) : Int) = b' := ⟨_, rfl⟩
      obtain ⟨q, hq⟩ : ∃ q : Int, c * b' = q := ⟨_, rfl⟩
      rw [hc, hb', hq] at h1
      rw [h1] at h2 h3
      rw [hc, hb']
      have HE := Lib.hid h1
      have hwr : IntKind.i64.wrap (c * b') = q := by rw [hq]; exact IntWalk.i64_in _ (by omega)
      clear h1
      go_wp2
      go_round
      case rel => exact ⟨k + 1, by omega, by go_num, by rw [HE.out]⟩
      case measure => simp [intOf]; omega
    · obtain rfl : k = n := by omega
      go_wp2
      go_ret
      exact ⟨rfl, rfl⟩

theorem patternsWith_any (p q : Nat) (w : World) (hb : p ≤ 100) (hn : q ≤ 12) (h : (p + 1) ^ q ≤ 1000000000000) :
    Calls Try.prog 59 #[.int .i64 p, .int .i64 q] w fun e w' => e = .returned (.int .i64 (exN p q)) ∧ w = w' := by
  have h2 := pow_less h
  have HP := Lib.hid (fun W => power_any (p + 1) q W (by omega) (by omega) h)
  have HQ := Lib.hid (fun W => power_any p q W (by omega) (by omega) h2)
  have HE := Lib.hid (show exN p q = (((p + 1) ^ q : Nat) : Int) - ((p ^ q : Nat) : Int) from rfl)
  rw [HE.out]
  clear HE
  generalize (p + 1) ^ q = c at *
  generalize p ^ q = d at *
  go_enter Try.func59, Try.ntmps59
  go_wp2_with fail
  refine (HP.out _).mono ?_
  rintro e w1 ⟨rfl, rfl⟩
  go_wp2_with fail
  refine (HQ.out _).mono ?_
  rintro e w1 ⟨rfl, rfl⟩
  go_wp2
  go_ret
  exact ⟨rfl, rfl⟩

theorem cdiv_step (p k : Nat) : (((1000000000000 / (p + 1) ^ (k + 1) : Nat)) : Int) = ((1000000000000 / (p + 1) ^ k : Nat) : Int) / ((p : Int) + 1) := by
  rw [← div_pow]
  exact Int.natCast_ediv _ _
theorem cdiv_le (p k : Nat) : 1000000000000 / (p + 1) ^ k ≤ 1000000000000 := Nat.div_le_self _ _

theorem countingError_any (b n : Int) (w : World) :
    Calls Try.prog 56 #[.int .i64 b, .int .i64 n] w fun e w' => e = .returned (.int .i64 (cntC b n)) ∧ w = w' := by
  by_cases hr : (0 ≤ b ∧ b ≤ 100) ∧ 1 ≤ n ∧ n ≤ 12
  · obtain ⟨⟨b0, b1⟩, n0, n1⟩ := hr
    obtain ⟨p, rfl⟩ : ∃ k : Nat, b = k := ⟨b.toNat, by omega⟩
    obtain ⟨q, rfl⟩ : ∃ k : Nat, n = k := ⟨n.toNat, by omega⟩
    have HS := Lib.hid (cdiv_step p)
    have HL := Lib.hid (cdiv_le p)
    have HZ := Lib.hid (show (1000000000000 / (p + 1) ^ q = 0 ↔ 1000000000000 < (p + 1) ^ q) from div_zero_iff (Nat.pow_pos (by omega)))
    have HC := Lib.hid (cntC_in (b := p) (n := q) (by omega) (by omega) (by omega))
    go_enter Try.func56, Try.ntmps56
    go_wp2
    go_loop [5, 21] (fun t i => ∃ k : Nat, k ≤ q ∧ i = .int .i64 k ∧ t = .int .i64 ((1000000000000 / (p + 1) ^ k : Nat) : Int)) (fun _ i => q - (intOf i).toNat)
    case atStart => exact ⟨0, Nat.zero_le _, rfl, by rw [Nat.pow_zero, Nat.div_one]; rfl⟩
    case round =>
      obtain ⟨k, hk, rfl, rfl⟩ := hrel
      have h2 := HL.out k
      by_cases hlt : k < q
      · have h1 := HS.out k
        obtain ⟨c, hc⟩ : ∃ c : Int, ((1000000000000 / (p + 1) ^ k : Nat) : Int) = c := ⟨_, rfl⟩
        rw [hc] at h1
        have hc0 : 0 ≤ c := by rw [← hc]; exact Int.natCast_nonneg _
        have hc1 : c ≤ 1000000000000 := by omega
        rw [hc]
        have htd : Int.tdiv c ((p : Int) + 1) = c / ((p : Int) + 1) := Int.tdiv_eq_ediv_of_nonneg hc0
        have hq0 : 0 ≤ c / ((p : Int) + 1) := Int.ediv_nonneg hc0 (by omega)
        have hq1 : c / ((p : Int) + 1) ≤ c := Int.ediv_le_self _ hc0
        have HE := Lib.hid h1
        clear h1 h2 hc
        go_wp2
        go_round
        case rel => exact ⟨k + 1, by omega, by go_num, by rw [HE.out]⟩
        case measure => simp [intOf]; omega
      · obtain rfl : k = q := by omega
        by_cases ho : 1000000000000 < (p + 1) ^ k
        · have hz := HZ.out.2 ho
          have HA := Lib.hid (show cntC (p : Int) (k : Int) = 5 by rw [HC.out, if_pos ho])
          clear ho
          generalize 1000000000000 / (p + 1) ^ k = c at *
          go_wp2
          go_ret
          exact ⟨by rw [HA.out]; rfl, rfl⟩
        · have hz : ¬ 1000000000000 / (p + 1) ^ k = 0 := fun h => ho (HZ.out.1 h)
          have HA := Lib.hid (show cntC (p : Int) (k : Int) = 0 by rw [HC.out, if_neg ho])
          clear ho
          generalize 1000000000000 / (p + 1) ^ k = c at *
          go_wp2
          go_ret
          exact ⟨by rw [HA.out]; rfl, rfl⟩
  · have HA := Lib.hid (show cntC b n = 2 by unfold cntC; rw [if_neg hr])
    by_cases h1 : b < 0
    · have k1 : decide (b < 0) = true := decide_eq_true h1
      clear hr
      go_enter Try.func56, Try.ntmps56
      go_wp2
      go_ret
      exact ⟨by rw [HA.out]; rfl, rfl⟩
    · have k1 : decide (b < 0) = false := decide_eq_false h1
      by_cases h2 : 100 < b
      · have k2 : decide (100 < b) = true := decide_eq_true h2
        clear hr
        go_enter Try.func56, Try.ntmps56
        go_wp2
        go_ret
        exact ⟨by rw [HA.out]; rfl, rfl⟩
      · have k2 : decide (100 < b) = false := decide_eq_false h2
        by_cases h3 : n < 1
        · have k3 : decide (n < 1) = true := decide_eq_true h3
          clear hr
          go_enter Try.func56, Try.ntmps56
          go_wp2
          go_ret
          exact ⟨by rw [HA.out]; rfl, rfl⟩
        · have k3 : decide (n < 1) = false := decide_eq_false h3
          have k4 : decide (12 < n) = true := decide_eq_true (by omega)
          clear hr
          go_enter Try.func56, Try.ntmps56
          go_wp2
          go_ret
          exact ⟨by rw [HA.out]; rfl, rfl⟩

theorem countFewer_impl (b n : Int) (w : World) :
    Calls Try.prog 34 #[.int .i64 b, .int .i64 n] w fun e w' => e = .returned (.tuple #[.int .i64 (fewA b n), .int .i64 (cntC b n)]) ∧ Below w.heap.size w w' := by
  have HC := fun W => countingError_any b n W
  by_cases hz : cntC b n = 0
  · obtain ⟨⟨b0, b1⟩, ⟨n0, n1⟩, hp⟩ := cntC_zero hz
    unfold fewA
    rw [hz] at HC ⊢
    rw [if_pos rfl]
    obtain ⟨p, rfl⟩ : ∃ k : Nat, b = k := ⟨b.toNat, by omega⟩
    obtain ⟨q, rfl⟩ : ∃ k : Nat, n = k := ⟨n.toNat, by omega⟩
    simp only [Int.toNat_natCast] at hp ⊢
    have HP := fun W => power_any p q W (by omega) (by omega) (pow_less hp)
    clear hz hp
    generalize p ^ q = c at *
    go_enter Try.func34, Try.ntmps34
    go_wp2_with fail
    refine (HC _).mono ?_
    rintro e w1 ⟨rfl, rfl⟩
    go_wp2_with fail
    refine (HP _).mono ?_
    rintro e w1 ⟨rfl, rfl⟩
    go_wp2
    go_ret2
    exact ⟨rfl, Below.refl _ _⟩
  · unfold fewA
    rw [if_neg hz]
    have hne : (cntC b n != 0) = true := by simpa using hz
    generalize cntC b n = c at *
    go_enter Try.func34, Try.ntmps34
    go_wp2_with fail
    refine (HC _).mono ?_
    rintro e w1 ⟨rfl, rfl⟩
    go_wp2
    go_ret2
    exact ⟨rfl, Below.refl _ _⟩

theorem countPatterns_impl (b n : Int) (w : World) :
    Calls Try.prog 36 #[.int .i64 b, .int .i64 n] w fun e w' => e = .returned (.tuple #[.int .i64 (patA b n), .int .i64 (cntC b n)]) ∧ Below w.heap.size w w' := by
  have HC := fun W => countingError_any b n W
  by_cases hz : cntC b n = 0
  · obtain ⟨⟨b0, b1⟩, ⟨n0, n1⟩, hp⟩ := cntC_zero hz
    unfold patA
    rw [hz] at HC ⊢
    rw [if_pos rfl]
    obtain ⟨p, rfl⟩ : ∃ k : Nat, b = k := ⟨b.toNat, by omega⟩
    obtain ⟨q, rfl⟩ : ∃ k : Nat, n = k := ⟨n.toNat, by omega⟩
    simp only [Int.toNat_natCast] at hp ⊢
    have HP := fun W => patternsWith_any p q W (by omega) (by omega) hp
    clear hz hp
    generalize exN p q = c at *
    go_enter Try.func36, Try.ntmps36
    go_wp2_with fail
    refine (HC _).mono ?_
    rintro e w1 ⟨rfl, rfl⟩
    go_wp2_with fail
    refine (HP _).mono ?_
    rintro e w1 ⟨rfl, rfl⟩
    go_wp2
    go_ret2
    exact ⟨rfl, Below.refl _ _⟩
  · unfold patA
    rw [if_neg hz]
    have hne : (cntC b n != 0) = true := by simpa using hz
    generalize cntC b n = c at *
    go_enter Try.func36, Try.ntmps36
    go_wp2_with fail
    refine (HC _).mono ?_
    rintro e w1 ⟨rfl, rfl⟩
    go_wp2
    go_ret2
    exact ⟨rfl, Below.refl _ _⟩
end Go.Proofs.Ytgdoadcpjgbioaa
