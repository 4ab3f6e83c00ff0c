/- The Moebius function, the model's and the program's; DivisorsOf, the model's. No conditions. -/
import Derived.Test.YtgdoadcpjgbioaaCtA
import Derived.Test.YtgdoadcpjgbioaaSpec02
namespace Go.Proofs.Ytgdoadcpjgbioaa
open Go.RowKit
set_option linter.unusedSimpArgs false
set_option linter.unusedVariables false

/-- where the search stands: what is left, and the sign -/
def MuAt (N p n : Nat) (v : Int) : Prop := 2 ≤ p ∧ p ≤ N + 2 ∧ 1 ≤ n ∧ n ≤ N ∧ (v = 1 ∨ v = -1) ∧ v * muF (N + 2 - p) p n = muN N ∧ noDiv p n
theorem MuAt.start {N : Nat} (h : 1 ≤ N) : MuAt N 2 N 1 := ⟨by omega, by omega, h, by omega, .inl rfl, by simp [muN], noDiv_two _⟩
theorem MuAt.fin {N p n : Nat} {v : Int} (h : MuAt N p n v) (hl : n < p) : muN N = v := by
  obtain ⟨_, _, _, _, _, h6, _⟩ := h
  rw [muF_done hl] at h6; omega
theorem MuAt.skip {N p n : Nat} {v : Int} (h : MuAt N p n v) (hl : ¬ n < p) (h0 : n % p ≠ 0) : MuAt N (p + 1) n v := by
  obtain ⟨h1, h2, h3, h4, h5, h6, h7⟩ := h
  have e : N + 2 - p = N + 2 - (p + 1) + 1 := by omega
  rw [e, muF_skip hl h0] at h6
  exact ⟨by omega, by omega, h3, h4, h5, h6, noDiv_skip h7 h0⟩
theorem MuAt.zero {N p n : Nat} {v : Int} (h : MuAt N p n v) (hl : ¬ n < p) (h0 : n % p = 0) (hz : (n / p) % p = 0) : muN N = 0 := by
  obtain ⟨h1, h2, h3, h4, h5, h6, h7⟩ := h
  have e : N + 2 - p = N + 2 - (p + 1) + 1 := by omega
  rw [e, muF_zero hl h0 hz] at h6; omega
theorem MuAt.take {N p n : Nat} {v : Int} (h : MuAt N p n v) (hl : ¬ n < p) (h0 : n % p = 0) (hz : (n / p) % p ≠ 0) : MuAt N (p + 1) (n / p) (-v) := by
  obtain ⟨h1, h2, h3, h4, h5, h6, h7⟩ := h
  have e : N + 2 - p = N + 2 - (p + 1) + 1 := by omega
  rw [e, muF_take hl h0 hz] at h6
  have hd : n / p ≤ n := Nat.div_le_self _ _
  have hd1 : 1 ≤ n / p := Nat.div_pos (by omega) (by omega)
  refine ⟨by omega, by omega, hd1, by omega, by omega, ?_, noDiv_take h7 h0 hz⟩
  rw [← h6, Int.neg_mul, Int.mul_neg]
theorem MuAt.one {N p n : Nat} {v : Int} (h : MuAt N p n v) : (n < p ↔ n = 1) := noDiv_end h.2.2.2.2.2.2 h.1 h.2.2.1

theorem mu_facts (n p : Nat) (hp : 1 ≤ p) : (n : Int) % (p : Int) = ((n % p : Nat) : Int) ∧ (n : Int) / (p : Int) = ((n / p : Nat) : Int) ∧ (n : Int) / (p : Int) % (p : Int) = ((n / p % p : Nat) : Int) ∧ 0 ≤ (n : Int) / (p : Int) ∧ (n : Int) / (p : Int) ≤ (n : Int) := by
  have ed : (n : Int) / (p : Int) = ((n / p : Nat) : Int) := (Int.natCast_ediv n p).symm
  have hd : n / p ≤ n := Nat.div_le_self _ _
  refine ⟨(Int.natCast_emod n p).symm, ed, by rw [ed]; exact (Int.natCast_emod _ _).symm, Int.ediv_nonneg (by omega) (by omega), Int.ediv_le_self _ (by omega)⟩

theorem l12Mobius_any (N : Nat) (w : World) (h1 : 1 ≤ N) (h2 : N ≤ 1000) :
    Calls Try.prog 60 #[.int .i64 N] w fun e w' => e = .returned (.int .i64 (muN N)) ∧ w = w' := by
  have HS := Lib.hid (MuAt.start h1)
  go_enter Try.func60, Try.ntmps60
  go_wp2
  go_loop [0, 3, 4] (fun n v p => ∃ (n' p' : Nat) (v' : Int), n = .int .i64 n' ∧ v = .int .i64 v' ∧ p = .int .i64 p' ∧ Hid (MuAt N p' n' v')) (fun _ _ p => N + 2 - (intOf p).toNat)
  case atStart => exact ⟨N, 2, 1, rfl, rfl, rfl, HS⟩
  case round =>
    obtain ⟨n, p, v, rfl, rfl, rfl, hM⟩ := hrel
    have hM' := hM.out
    obtain ⟨a1, a2, a3, a4, a5, _, _⟩ := hM'
    by_cases hl : n < p
    · have HA := Lib.hid (hM.out.fin hl)
      go_wp2
      go_ret
      exact ⟨by rw [HA.out]; rfl, rfl⟩
    · obtain ⟨em, ed, eq, q0, q1⟩ := mu_facts n p (by omega)
      by_cases h0 : n % p = 0
      · by_cases hz : n / p % p = 0
        · have HA := Lib.hid (hM.out.zero hl h0 hz)
          rw [h0] at em
          rw [hz] at eq
          clear hM HS ed
          go_wp2
          go_ret
          exact ⟨by rw [HA.out]; rfl, rfl⟩
        · have HA := Lib.hid (hM.out.take hl h0 hz)
          rw [h0] at em
          have ez : ¬ (n : Int) / (p : Int) % (p : Int) = 0 := by rw [eq]; omega
          have ez' : ((n : Int) / (p : Int) % (p : Int) == 0) = false := beq_eq_false_iff_ne.2 ez
          have HD := Lib.hid ed
          clear hM HS ed eq
          go_wp2
          go_round
          case rel => exact ⟨n / p, p + 1, -v, by rw [HD.out], by go_num, by go_num, HA⟩
          case measure => simp [intOf]; omega
      · have HA := Lib.hid (hM.out.skip hl h0)
        have ez : ¬ (n : Int) % (p : Int) = 0 := by rw [em]; omega
        have ez' : ((n : Int) % (p : Int) == 0) = false := beq_eq_false_iff_ne.2 ez
        clear hM HS em ed eq
        go_wp2
        go_round
        case rel => exact ⟨n, p + 1, v, rfl, rfl, by go_num, HA⟩
        case measure => simp [intOf]; omega

theorem mobius_any (N : Nat) (w : World) (h1 : 1 ≤ N) (h2 : N ≤ 1000) :
    Calls Try.prog 45 #[.int .i64 N] w fun e w' => e = .returned (.int .i64 (muN N)) ∧ w = w' := by
  have HS := Lib.hid (MuAt.start h1)
  go_enter Try.func45, Try.ntmps45
  go_wp2
  go_outline
  go_loop [0, 3, 4] (fun n v p => ∃ (n' p' : Nat) (v' : Int), n = .int .i64 n' ∧ v = .int .i64 v' ∧ p = .int .i64 p' ∧ Hid (MuAt N p' n' v')) (fun _ _ p => N + 2 - (intOf p).toNat)
  case atStart => exact ⟨N, 2, 1, rfl, rfl, rfl, HS⟩
  case round =>
    obtain ⟨n, p, v, rfl, rfl, rfl, hM⟩ := hrel
    have hM' := hM.out
    obtain ⟨a1, a2, a3, a4, a5, _, _⟩ := hM'
    have hone := hM.out.one
    by_cases hl : n < p
    · have HA := Lib.hid (hM.out.fin hl)
      have hn1 := hone.1 hl
      clear hone
      go_wp2
      go_ret
      exact ⟨by rw [HA.out]; rfl, rfl⟩
    · have hn1 : 1 < n := by omega
      clear hone
      obtain ⟨em, ed, eq, q0, q1⟩ := mu_facts n p (by omega)
      by_cases h0 : n % p = 0
      · by_cases hz : n / p % p = 0
        · have HA := Lib.hid (hM.out.zero hl h0 hz)
          rw [h0] at em
          rw [hz] at eq
          clear hM HS ed
          go_wp2
          go_ret
          exact ⟨by rw [HA.out]; rfl, rfl⟩
        · have HA := Lib.hid (hM.out.take hl h0 hz)
          rw [h0] at em
          have ez : ¬ (n : Int) / (p : Int) % (p : Int) = 0 := by rw [eq]; omega
          have ez' : ((n : Int) / (p : Int) % (p : Int) == 0) = false := beq_eq_false_iff_ne.2 ez
          have HD := Lib.hid ed
          clear hM HS ed eq
          go_wp2
          go_round
          case rel => exact ⟨n / p, p + 1, -v, by rw [HD.out], by go_num, by go_num, HA⟩
          case measure => simp [intOf]; omega
      · have HA := Lib.hid (hM.out.skip hl h0)
        have ez : ¬ (n : Int) % (p : Int) = 0 := by rw [em]; omega
        have ez' : ((n : Int) % (p : Int) == 0) = false := beq_eq_false_iff_ne.2 ez
        clear hM HS em ed eq
        go_wp2
        go_round
        case rel => exact ⟨n, p + 1, v, rfl, rfl, by go_num, HA⟩
        case measure => simp [intOf]; omega

theorem mobius_spec (n : Int) (w : World) :
    Calls Try.prog 39 #[.int .i64 n] w fun e w' => e = .returned (.tuple #[.int .i64 (muA n), .int .i64 (muC n)]) ∧ Below w.heap.size w w' := by
  cases hk : inB n 1 1000 with
  | false =>
    rw [(muC_no hk).1, (muC_no hk).2]
    go_enter Try.func39, Try.ntmps39
    go_wp2_with fail
    refine (l00In_any _ _ _ _).mono ?_
    rintro e w1 ⟨rfl, rfl⟩
    rw [hk]
    go_wp2
    go_ret2
    exact ⟨rfl, Below.refl _ _⟩
  | true =>
    rw [(muC_yes hk).1, (muC_yes hk).2]
    obtain ⟨h1, h2⟩ := inB_iff.1 hk
    obtain ⟨N, rfl⟩ : ∃ k : Nat, n = k := ⟨n.toNat, by omega⟩
    have HM := fun W => l12Mobius_any N W (by omega) (by omega)
    rw [Int.toNat_natCast]
    generalize muN N = m at *
    go_enter Try.func39, Try.ntmps39
    go_wp2_with fail
    refine (l00In_any _ _ _ _).mono ?_
    rintro e w1 ⟨rfl, rfl⟩
    rw [hk]
    go_wp2_with fail
    refine (HM _).mono ?_
    rintro e w1 ⟨rfl, rfl⟩
    go_wp2
    go_ret2
    exact ⟨rfl, Below.refl _ _⟩

theorem mobius_impl (n : Int) (w : World) :
    Calls Try.prog 17 #[.int .i64 n] w fun e w' => e = .returned (.tuple #[.int .i64 (muA n), .int .i64 (muC n)]) ∧ Below w.heap.size w w' := by
  cases hk : inB n 1 1000 with
  | false =>
    rw [(muC_no hk).1, (muC_no hk).2]
    by_cases h1 : n < 1
    · have k1 : decide (n < 1) = true := decide_eq_true h1
      clear hk
      go_enter Try.func17, Try.ntmps17
      go_wp2
      go_ret2
      exact ⟨rfl, Below.refl _ _⟩
    · have h2 : 1000 < n := by
        simp [inB] at hk; omega
      have k1 : decide (n < 1) = false := decide_eq_false h1
      have k2 : decide (1000 < n) = true := decide_eq_true h2
      clear hk
      go_enter Try.func17, Try.ntmps17
      go_wp2
      go_ret2
      exact ⟨rfl, Below.refl _ _⟩
  | true =>
    rw [(muC_yes hk).1, (muC_yes hk).2]
    obtain ⟨h1, h2⟩ := inB_iff.1 hk
    obtain ⟨N, rfl⟩ : ∃ k : Nat, n = k := ⟨n.toNat, by omega⟩
    have HM := fun W => mobius_any N W (by omega) (by omega)
    rw [Int.toNat_natCast]
    generalize muN N = m at *
    clear hk
    go_enter Try.func17, Try.ntmps17
    go_wp2_with fail
    refine (HM _).mono ?_
    rintro e w1 ⟨rfl, rfl⟩
    go_wp2
    go_ret2
    exact ⟨rfl, Below.refl _ _⟩

/-- the divisors up to k, as numbers of the program -/
def divI (n k : Nat) : List Int := (divT n k).map fun d : Nat => (d : Int)
def divA (n : Int) : List Int := if inB n 1 1000 then divI n.toNat n.toNat else []
theorem divA_yes {n : Int} (h : inB n 1 1000 = true) : divA n = divI n.toNat n.toNat := by simp [divA, h]
theorem divA_no {n : Int} (h : inB n 1 1000 = false) : divA n = [] := by simp [divA, h]
theorem divI_len (n k : Nat) : (divI n k).length ≤ k := by rw [divI, List.length_map]; exact divT_len n k
theorem divA_len (n : Int) : (divA n).length ≤ 1000 := by
  cases h : inB n 1 1000 with
  | false => rw [divA_no h]; simp
  | true =>
    rw [divA_yes h]
    have h1 := inB_iff.1 h
    have := divI_len n.toNat n.toNat
    omega
theorem divI_yes {n k : Nat} (h : n % (k + 1) = 0) : divI n (k + 1) = divI n k ++ [((k + 1 : Nat) : Int)] := by rw [divI, divT_yes h]; simp [divI]
theorem divI_no {n k : Nat} (h : n % (k + 1) ≠ 0) : divI n (k + 1) = divI n k := by rw [divI, divT_no h]; rfl

theorem divisorsOf_spec (n : Int) (w : World) :
    Calls Try.prog 40 #[.int .i64 n] w fun e w' => ∃ u, e = .returned (.tuple #[u, .int .i64 (muC n)]) ∧ Ints w' w.heap.size u (divA n) ∧ Below w.heap.size w w' := by
  cases hk : inB n 1 1000 with
  | false =>
    rw [(muC_no hk).1, divA_no hk]
    go_enter Try.func40, Try.ntmps40
    go_wp2_with fail
    refine (l00In_any _ _ _ _).mono ?_
    rintro e w1 ⟨rfl, rfl⟩
    rw [hk]
    go_wp2
    go_ret2
    exact ⟨_, rfl, Ints.nil _ _, Below.refl _ _⟩
  | true =>
    rw [(muC_yes hk).1, divA_yes hk]
    obtain ⟨h1, h2⟩ := inB_iff.1 hk
    obtain ⟨N, rfl⟩ : ∃ k : Nat, n = k := ⟨n.toNat, by omega⟩
    rw [Int.toNat_natCast]
    have I0 : Ints (w.alloc (.cells #[] 2)) w.heap.size (.slice (some ⟨w.heap.size, 0, none⟩) 0 0) [] := by
      have := World.ownsRow_lit (e := 2) (size := 1) w #[] 0 (Nat.le_refl _) (by simp [maxLen]) rfl
      simpa [Ints] using this
    have B0 : Below w.heap.size w (w.alloc (.cells #[] 2)) := (Below.refl _ w).alloc (Nat.le_refl _) _
    have HM1 := Lib.hid (fun k => divI_yes (n := N) (k := k))
    have HM2 := Lib.hid (fun k => divI_no (n := N) (k := k))
    have HML := Lib.hid (fun k => divI_len N k)
    go_enter Try.func40, Try.ntmps40
    go_wp2_with fail
    refine (l00In_any _ _ _ _).mono ?_
    rintro e w1 ⟨rfl, rfl⟩
    rw [hk]
    clear hk
    go_wp2
    go_loopw [4, 5] (fun v i wr => ∃ k : Nat, k ≤ N ∧ i = .int .i64 ((k + 1 : Nat) : Int) ∧ Ints wr w.heap.size v (divI N k) ∧ Below w.heap.size w wr) (fun _ i _ => N + 1 - (intOf i).toNat)
    case atStart => exact ⟨0, Nat.zero_le _, rfl, I0, B0⟩
    case round =>
      clear I0 B0
      obtain ⟨k, hk, rfl, hi, hb⟩ := hrel
      by_cases hlt : k < N
      · have hlen := HML.out k
        have h1 := HM1.out k
        have h2 := HM2.out k
        have hlt' : k + 1 ≤ N := hlt
        have em : (N : Int) % ((k + 1 : Nat) : Int) = ((N % (k + 1) : Nat) : Int) := (Int.natCast_emod N (k + 1)).symm
        have hBs := hb.size
        clear HM1 HM2 HML
        obtain ⟨q, hq⟩ : ∃ q : Int, ((k + 1 : Nat) : Int) = q := ⟨_, rfl⟩
        have hq1 : 1 ≤ q := by omega
        have hq2 : q ≤ (N : Int) := by omega
        rw [hq] at em h1 ⊢
        have HQ := Lib.hid hq
        by_cases h0 : N % (k + 1) = 0
        · rw [h0] at em
          have HE := Lib.hid (h1 h0)
          have hlen : (divI N k).length ≤ 1000000000 := by omega
          clear h1 h2 h0 hq
          go_wp2_with (at_builtin; refine append_int _ rfl _ _ rfl _ _ _ rfl hi q rfl hlen hBs ?_; intro v' w2 hi2 hg2; refine Hid.out ?_)
          have hb2 := hi.below_grown hb hBs hg2
          rw [← HE.out] at hi2
          clear hg2 hi hb
          refine Lib.hid ?_
          go_wp2
          go_roundw
          case rel => exact ⟨k + 1, by omega, by have := HQ.out; subst this; go_num, hi2, hb2⟩
          case measure => simp [intOf]; omega
        · have ez : ¬ (N : Int) % q = 0 := by rw [em]; omega
          have ez' : ((N : Int) % q == 0) = false := beq_eq_false_iff_ne.2 ez
          have HE := Lib.hid (h2 h0)
          clear h1 h2 em hq h0
          go_wp2
          go_roundw
          case rel => exact ⟨k + 1, by omega, by have := HQ.out; subst this; go_num, by rw [HE.out]; exact hi, hb⟩
          case measure => simp [intOf]; omega
      · obtain rfl : k = N := by omega
        clear HM1 HM2 HML
        go_wp2
        go_ret2
        exact ⟨_, rfl, hi, hb⟩
end Go.Proofs.Ytgdoadcpjgbioaa
