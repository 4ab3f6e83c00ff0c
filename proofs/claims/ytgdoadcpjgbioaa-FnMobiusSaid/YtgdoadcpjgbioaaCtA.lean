/- Counting's plain mathematics: powers with a limit, codes, the Moebius function, divisors. No conditions. -/
import Derived.Test.YtgdoadcpjgbioaaPat
namespace Go.Proofs.Ytgdoadcpjgbioaa
set_option linter.unusedSimpArgs false
set_option linter.unusedVariables false

/-- the power that the model takes: at most one more than may be counted -/
def capP (b : Nat) : Nat → Nat
  | 0 => 1
  | n + 1 => min 1000000000001 (capP b n * b)
theorem capP_is (b n : Nat) : capP b n = min 1000000000001 (b ^ n) := by
  induction n with
  | zero => simp [capP]
  | succ n ih =>
    rw [capP, ih, Nat.pow_succ]
    by_cases h : b ^ n ≤ 1000000000001
    · rw [Nat.min_eq_right h]
    · have h1 : 1000000000001 ≤ b ^ n := by omega
      rw [Nat.min_eq_left h1]
      by_cases hb : b = 0
      · subst hb; simp
      · have hb1 : 1 ≤ b := by omega
        have h2 : 1000000000001 ≤ 1000000000001 * b := Nat.le_mul_of_pos_right _ hb1
        have h3 : 1000000000001 ≤ b ^ n * b := Nat.le_trans h1 (Nat.le_mul_of_pos_right _ hb1)
        rw [Nat.min_eq_left h2, Nat.min_eq_left h3]
theorem capP_le (b n : Nat) : capP b n ≤ 1000000000001 := by rw [capP_is]; exact Nat.min_le_left _ _
theorem capP_pow {b n : Nat} (h : b ^ n ≤ 1000000000000) : capP b n = b ^ n := by rw [capP_is]; exact Nat.min_eq_right (by omega)
theorem pow_mid {b n k : Nat} (h : b ^ n ≤ 1000000000000) (hk : k ≤ n) : b ^ k ≤ 1000000000000 := by
  by_cases hb : b = 0
  · subst hb
    cases k with
    | zero => simp
    | succ k => simp
  · exact Nat.le_trans (Nat.pow_le_pow_right (by omega) hk) h
theorem pow_less {b n : Nat} (h : (b + 1) ^ n ≤ 1000000000000) : b ^ n ≤ 1000000000000 := Nat.le_trans (Nat.pow_le_pow_left (by omega) n) h

/-- the code of counting -/
def cntC (b n : Int) : Int := if (0 ≤ b ∧ b ≤ 100) ∧ 1 ≤ n ∧ n ≤ 12 then (if 1000000000000 < (b.toNat + 1) ^ n.toNat then 5 else 0) else 2
theorem cntC_zero {b n : Int} (h : cntC b n = 0) : (0 ≤ b ∧ b ≤ 100) ∧ (1 ≤ n ∧ n ≤ 12) ∧ (b.toNat + 1) ^ n.toNat ≤ 1000000000000 := by
  unfold cntC at h
  split at h
  · rename_i h1
    split at h
    · omega
    · rename_i h2; exact ⟨h1.1, h1.2, by omega⟩
  · omega
theorem cntC_lowB {b n : Int} (h : inB b 0 100 = false) : cntC b n = 2 := by
  unfold cntC
  rw [if_neg]
  intro k
  rw [inB_true k.1] at h
  cases h
theorem cntC_lowN {b n : Int} (h : inB n 1 12 = false) : cntC b n = 2 := by
  unfold cntC
  rw [if_neg]
  intro k
  rw [inB_true k.2] at h
  cases h
theorem cntC_in {b n : Nat} (hb : b ≤ 100) (h1 : 1 ≤ n) (hn : n ≤ 12) : cntC (b : Int) (n : Int) = if 1000000000000 < (b + 1) ^ n then 5 else 0 := by
  unfold cntC
  rw [if_pos (by omega)]
  rfl
theorem cntC_over {b n : Nat} (hb : b ≤ 100) (h1 : 1 ≤ n) (hn : n ≤ 12) (h : 1000000000000 < (b + 1) ^ n) : cntC (b : Int) (n : Int) = 5 := by rw [cntC_in hb h1 hn, if_pos h]
theorem cntC_ok {b n : Nat} (hb : b ≤ 100) (h1 : 1 ≤ n) (hn : n ≤ 12) (h : ¬ 1000000000000 < (b + 1) ^ n) : cntC (b : Int) (n : Int) = 0 := by rw [cntC_in hb h1 hn, if_neg h]
/-- what is counted -/
def fewA (b n : Int) : Int := if cntC b n = 0 then ((b.toNat ^ n.toNat : Nat) : Int) else 0
/-- the number of patterns with b props -/
def exN (b n : Nat) : Int := (((b + 1) ^ n : Nat) : Int) - ((b ^ n : Nat) : Int)
def patA (b n : Int) : Int := if cntC b n = 0 then exN b.toNat n.toNat else 0
theorem exN_bound {b n : Nat} (h : (b + 1) ^ n ≤ 1000000000000) : 0 ≤ exN b n ∧ exN b n ≤ 1000000000000 := by
  have h1 : b ^ n ≤ (b + 1) ^ n := Nat.pow_le_pow_left (by omega) n
  unfold exN
  omega
theorem div_pow (c b k : Nat) : c / b ^ k / b = c / b ^ (k + 1) := by rw [Nat.div_div_eq_div_mul, Nat.pow_succ]
theorem div_zero_iff {c p : Nat} (hp : 0 < p) : c / p = 0 ↔ c < p := by
  rw [Nat.div_eq_zero_iff]
  constructor
  · rintro (h | h)
    · omega
    · exact h
  · exact .inr

/-- the Moebius function: the search from p on, f steps at most -/
def muF : Nat → Nat → Nat → Int
  | 0, _, _ => 1
  | f + 1, p, n => if n < p then 1 else if n % p ≠ 0 then muF f (p + 1) n else if (n / p) % p = 0 then 0 else - muF f (p + 1) (n / p)
def muN (n : Nat) : Int := muF n 2 n
theorem muF_bound (f p n : Nat) : -1 ≤ muF f p n ∧ muF f p n ≤ 1 := by
  induction f generalizing p n with
  | zero => simp [muF]
  | succ f ih =>
    unfold muF
    split
    · omega
    · split
      · exact ih _ _
      · split
        · omega
        · have := ih (p + 1) (n / p); omega
/-- what Mobius answers -/
def muC (n : Int) : Int := if inB n 1 1000 then 0 else 2
def muA (n : Int) : Int := if inB n 1 1000 then muN n.toNat else 0
theorem muC_yes {n : Int} (h : inB n 1 1000 = true) : muC n = 0 ∧ muA n = muN n.toNat := by simp [muC, muA, h]
theorem muC_no {n : Int} (h : inB n 1 1000 = false) : muC n = 2 ∧ muA n = 0 := by simp [muC, muA, h]
/-- n has no divisor below p, but 1 -/
def noDiv (p n : Nat) : Prop := ∀ d, 2 ≤ d → d < p → n % d ≠ 0
theorem noDiv_two (n : Nat) : noDiv 2 n := fun d h1 h2 => by omega
theorem noDiv_skip {p n : Nat} (h : noDiv p n) (hp : n % p ≠ 0) : noDiv (p + 1) n := fun d h1 h2 => by
  by_cases e : d = p
  · subst e; exact hp
  · exact h d h1 (by omega)
theorem noDiv_take {p n : Nat} (h : noDiv p n) (h0 : n % p = 0) (hp : (n / p) % p ≠ 0) : noDiv (p + 1) (n / p) := fun d h1 h2 => by
  by_cases e : d = p
  · subst e; exact hp
  · intro hd
    apply h d h1 (by omega)
    have h3 : d ∣ n / p := Nat.dvd_of_mod_eq_zero hd
    have h4 : n / p ∣ n := Nat.div_dvd_of_dvd (Nat.dvd_of_mod_eq_zero h0)
    exact Nat.mod_eq_zero_of_dvd (Nat.dvd_trans h3 h4)
theorem noDiv_end {p n : Nat} (h : noDiv p n) (hp : 2 ≤ p) (hn : 1 ≤ n) : (n < p ↔ n = 1) := by
  constructor
  · intro hl
    by_cases e : n = 1
    · exact e
    · exact absurd (Nat.mod_self n) (h n (by omega) hl)
  · intro e; omega
/-- one step of the search, from what it is to what is left -/
theorem muF_done {f p n : Nat} (h : n < p) : muF f p n = 1 := by
  cases f with
  | zero => rfl
  | succ f => rw [muF, if_pos h]
theorem muF_skip {f p n : Nat} (h : ¬ n < p) (hp : n % p ≠ 0) : muF (f + 1) p n = muF f (p + 1) n := by rw [muF, if_neg h, if_pos hp]
theorem muF_zero {f p n : Nat} (h : ¬ n < p) (hp : n % p = 0) (h2 : (n / p) % p = 0) : muF (f + 1) p n = 0 := by rw [muF, if_neg h, if_neg (by omega), if_pos h2]
theorem muF_take {f p n : Nat} (h : ¬ n < p) (hp : n % p = 0) (h2 : (n / p) % p ≠ 0) : muF (f + 1) p n = - muF f (p + 1) (n / p) := by rw [muF, if_neg h, if_neg (by omega), if_neg h2]

/-- the divisors of n up to k -/
def divT (n : Nat) : Nat → List Nat
  | 0 => []
  | k + 1 => if n % (k + 1) = 0 then divT n k ++ [k + 1] else divT n k
def divL (n : Nat) : List Nat := divT n n
theorem divT_len (n k : Nat) : (divT n k).length ≤ k := by
  induction k with
  | zero => simp [divT]
  | succ k ih =>
    unfold divT
    split
    · simp; omega
    · omega
theorem divT_yes {n k : Nat} (h : n % (k + 1) = 0) : divT n (k + 1) = divT n k ++ [k + 1] := by rw [divT, if_pos h]
theorem divT_no {n k : Nat} (h : n % (k + 1) ≠ 0) : divT n (k + 1) = divT n k := by rw [divT, if_neg h]
theorem divT_mem {n k d : Nat} (h : d ∈ divT n k) : 1 ≤ d ∧ d ≤ k ∧ n % d = 0 := by
  induction k with
  | zero => simp [divT] at h
  | succ k ih =>
    unfold divT at h
    split at h
    · rename_i h0
      rw [List.mem_append] at h
      rcases h with h | h
      · have := ih h; exact ⟨this.1, by omega, this.2.2⟩
      · simp at h; subst h; exact ⟨by omega, by omega, h0⟩
    · have := ih h; exact ⟨this.1, by omega, this.2.2⟩

/-- the sum that counts necklaces: over the divisors that have been met -/
def rotS (b n : Nat) (ds : List Nat) : Int := (ds.map fun d => muN (n / d) * exN b d).sum
theorem rotS_snoc (b n : Nat) (ds : List Nat) (d : Nat) : rotS b n (ds ++ [d]) = rotS b n ds + muN (n / d) * exN b d := by simp [rotS]
def neckN (b n : Nat) : Int := rotS b n (divL n)
def neckA (b n : Int) : Int := if cntC b n = 0 then Int.tdiv (neckN b.toNat n.toNat) n else 0
theorem mu_times {m x c : Int} (hm : -1 ≤ m ∧ m ≤ 1) (hx : 0 ≤ x ∧ x ≤ c) : -c ≤ m * x ∧ m * x ≤ c := by
  rcases (show m = -1 ∨ m = 0 ∨ m = 1 by omega) with rfl | rfl | rfl <;> omega
theorem rotS_bound {b n : Nat} (h : (b + 1) ^ n ≤ 1000000000000) (ds : List Nat) (hd : ∀ d ∈ ds, d ≤ n) : -(1000000000000 * (ds.length : Int)) ≤ rotS b n ds ∧ rotS b n ds ≤ 1000000000000 * (ds.length : Int) := by
  induction ds with
  | nil => simp [rotS]
  | cons d ds ih =>
    have h1 := ih fun x hx => hd x (List.mem_cons_of_mem _ hx)
    have h2 := mu_times (muF_bound (n / d) 2 (n / d)) (exN_bound (pow_mid h (hd d (List.mem_cons_self ..))))
    have e : rotS b n (d :: ds) = muN (n / d) * exN b d + rotS b n ds := by simp [rotS]
    rw [e, List.length_cons]
    unfold muN
    push_cast
    omega
end Go.Proofs.Ytgdoadcpjgbioaa
