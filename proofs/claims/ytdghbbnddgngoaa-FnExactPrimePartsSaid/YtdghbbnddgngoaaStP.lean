/- Plain mathematics of states: which are valid, their bits, throws that are possible, the state behind a throw, texts. It imports no program. No conditions. -/
import Derived.Test.YtdghbbnddgngoaaOps
namespace Go.Proofs.Ytdghbbnddgngoaa

/-- a valid state -/
def okSt (h m : Int) : Bool := inB h 1 10 && inB m 0 (2 ^ h.toNat - 1)
/-- the code of a function of a state -/
def stC (h m : Int) : Int := if okSt h m then 0 else 1
theorem stC_true {h m : Int} (k : okSt h m = true) : stC h m = 0 := by rw [stC, if_pos k]
theorem stC_false {h m : Int} (k : okSt h m = false) : stC h m = 1 := by rw [stC, if_neg (by simp [k])]

theorem okSt_nat {h m : Int} (k : okSt h m = true) : ∃ a b : Nat, h = a ∧ m = b ∧ 1 ≤ a ∧ a ≤ 10 ∧ b < 2 ^ a := by
  simp only [okSt, Bool.and_eq_true, inB_iff] at k
  obtain ⟨⟨h1, h2⟩, h3, h4⟩ := k
  refine ⟨h.toNat, m.toNat, by omega, by omega, by omega, by omega, ?_⟩
  have : ((2 ^ h.toNat : Nat) : Int) = (2 : Int) ^ h.toNat := by simp
  omega
theorem pow_lt_1024 {a : Nat} (h : a ≤ 10) : 2 ^ a ≤ 1024 := by
  have : (2 : Nat) ^ a ≤ 2 ^ 10 := Nat.pow_le_pow_right (by decide) h
  simpa using this
theorem okSt_mk {a b : Nat} (h1 : 1 ≤ a) (h2 : a ≤ 10) (h3 : b < 2 ^ a) : okSt a b = true := by
  have : ((2 ^ a : Nat) : Int) = (2 : Int) ^ a := by simp
  simp only [okSt, Bool.and_eq_true, inB_iff, Int.toNat_natCast]
  omega

/-- the number of bits that are 1 below the bit k -/
def popK (m : Nat) : Nat → Nat
  | 0 => 0
  | k + 1 => popK m k + m / 2 ^ k % 2
def popN (m : Nat) : Nat := popK m 10
theorem popK_le (m k : Nat) : popK m k ≤ k := by
  induction k with
  | zero => exact Nat.le_refl _
  | succ k ih => simp only [popK]; omega

/-- whether a throw is possible -/
def canI (h m : Nat) (t : Int) : Bool := if m % 2 = 1 then inB t 1 h && decide (m / 2 ^ t.toNat % 2 = 0) else decide (t = 0)
/-- the mask behind a throw -/
def nextM (m t : Nat) : Nat := if t = 0 then m / 2 else m / 2 ||| 2 ^ (t - 1)
/-- the mask of all throws that are possible -/
def possM (h m : Nat) : Nat := if m % 2 = 1 then 2 ^ (h + 1) - 1 - m else 1
/-- the throws that are possible, in order -/
def throwsL (h m : Nat) : List Int := ((List.range (h + 1)).filter (fun t : Nat => canI h m (t : Int))).map (fun t : Nat => (t : Int))

theorem canI_range {h m : Nat} {t : Int} (k : canI h m t = true) : 0 ≤ t ∧ t ≤ h := by
  unfold canI at k
  split at k
  · simp only [Bool.and_eq_true, inB_iff] at k; omega
  · simp at k; omega
theorem nextM_lt {h m t : Nat} (h1 : 1 ≤ h) (hm : m < 2 ^ h) (ht : t ≤ h) : nextM m t < 2 ^ h := by
  unfold nextM
  split
  · omega
  · refine Nat.or_lt_two_pow (by omega) (Nat.pow_lt_pow_right (by decide) (by omega))

/-- a mask out of bits -/
def maskU (f : Nat → Bool) : Nat → Nat
  | 0 => 0
  | k + 1 => maskU f k ||| (if f k then 2 ^ k else 0)
theorem maskU_lt (f : Nat → Bool) (k : Nat) : maskU f k < 2 ^ k := by
  induction k with
  | zero => simp [maskU]
  | succ k ih =>
    simp only [maskU]
    have h1 : (2 : Nat) ^ (k + 1) = 2 ^ k + 2 ^ k := by rw [Nat.pow_succ]; omega
    have h2 : (2 : Nat) ^ k < 2 ^ (k + 1) := Nat.pow_lt_pow_right (by decide) (by omega)
    refine Nat.or_lt_two_pow (by omega) ?_
    split <;> omega
theorem maskU_congr {f g : Nat → Bool} (k : Nat) (h : ∀ i, i < k → f i = g i) : maskU f k = maskU g k := by
  induction k with
  | zero => rfl
  | succ k ih => simp only [maskU]; rw [ih fun i hi => h i (by omega), h k (by omega)]
end Go.Proofs.Ytdghbbnddgngoaa
