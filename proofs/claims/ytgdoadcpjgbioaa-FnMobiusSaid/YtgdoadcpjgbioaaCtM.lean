/- The sums of the Moebius function over all divisors, by the kernel, for numbers up to 1000. No conditions. -/
import Derived.Test.YtgdoadcpjgbioaaCtA
namespace Go.Proofs.Ytgdoadcpjgbioaa
set_option linter.unusedSimpArgs false
set_option linter.unusedVariables false
/-- the search, as the kernel reckons it fast -/
def muG (f : Nat) : Nat → Nat → Int := Nat.rec (fun _ _ => 1) (fun _ ih p n => bif Nat.ble p n then (bif Nat.beq (n % p) 0 then (bif Nat.beq ((n / p) % p) 0 then 0 else Int.neg (ih (p + 1) (n / p))) else ih (p + 1) n) else 1) f
theorem muG_is (f p n : Nat) : muG f p n = muF f p n := by
  induction f generalizing p n with
  | zero => rfl
  | succ f ih =>
    show (bif Nat.ble p n then (bif Nat.beq (n % p) 0 then (bif Nat.beq ((n / p) % p) 0 then 0 else Int.neg (muG f (p + 1) (n / p))) else muG f (p + 1) n) else 1) = muF (f + 1) p n
    rw [muF, ih, ih]
    by_cases h : n < p
    · have : Nat.ble p n = false := by
        cases e : Nat.ble p n with
        | false => rfl
        | true => have := Nat.le_of_ble_eq_true e; omega
      rw [this, if_pos h]; rfl
    · rw [Nat.ble_eq_true_of_le (by omega), if_neg h]
      by_cases h2 : n % p = 0
      · rw [if_neg (by omega), h2]
        by_cases h3 : n / p % p = 0
        · rw [if_pos h3, h3]; rfl
        · have : Nat.beq (n / p % p) 0 = false := by
            cases e : Nat.beq (n / p % p) 0 with
            | false => rfl
            | true => exact absurd (Nat.eq_of_beq_eq_true e) h3
          rw [if_neg h3, this]; rfl
      · have : Nat.beq (n % p) 0 = false := by
          cases e : Nat.beq (n % p) 0 with
          | false => rfl
          | true => exact absurd (Nat.eq_of_beq_eq_true e) h2
        rw [if_pos h2, this]; rfl
/-- the sum over the divisors up to k, as the kernel reckons it -/
def muT (n k : Nat) : Int := Nat.rec 0 (fun k ih => bif Nat.beq (n % (k + 1)) 0 then Int.add ih (muG (k + 1) 2 (k + 1)) else ih) k
theorem muT_is (n k : Nat) : muT n k = ((divT n k).map muN).sum := by
  induction k with
  | zero => rfl
  | succ k ih =>
    show (bif Nat.beq (n % (k + 1)) 0 then Int.add (muT n k) (muG (k + 1) 2 (k + 1)) else muT n k) = _
    by_cases h : n % (k + 1) = 0
    · rw [divT_yes h, h, ih, muG_is, List.map_append, List.sum_append]
      simp [muN]
    · have : Nat.beq (n % (k + 1)) 0 = false := by
        cases e : Nat.beq (n % (k + 1)) 0 with
        | false => rfl
        | true => exact absurd (Nat.eq_of_beq_eq_true e) h
      rw [divT_no h, this, ← ih]; rfl
def muS (n : Nat) : Int := ((divL n).map muN).sum
/-- all numbers up to k -/
def muAll (k : Nat) : Bool := Nat.rec true (fun k ih => (decide (muT (k + 1) (k + 1) = (bif Nat.ble k 0 then 1 else 0))) && ih) k
theorem mu_all : muAll 1000 = true := by decide +kernel
theorem muAll_at (k n : Nat) (h : muAll k = true) (h1 : 1 ≤ n) (h2 : n ≤ k) : muT n n = if n ≤ 1 then 1 else 0 := by
  induction k with
  | zero => omega
  | succ k ih =>
    have h' : ((decide (muT (k + 1) (k + 1) = (bif Nat.ble k 0 then 1 else 0))) && muAll k) = true := h
    rw [Bool.and_eq_true] at h'
    by_cases e : n = k + 1
    · subst e
      rw [of_decide_eq_true h'.1]
      cases k with
      | zero => rfl
      | succ k => rw [if_neg (by omega)]; rfl
    · exact ih h'.2 (by omega)
theorem muS_is {n : Nat} (h1 : 1 ≤ n) (h2 : n ≤ 1000) : muS n = if n ≤ 1 then 1 else 0 := by
  rw [← muAll_at 1000 n mu_all h1 h2, muT_is]; rfl
end Go.Proofs.Ytgdoadcpjgbioaa
