/- States: what FnStates says of them, as plain mathematics: a throw keeps the number of props, the states of a pattern follow one another by its throws. No conditions. -/
import Derived.Test.YtdghbbnddgngoaaStF
import Derived.Test.YtdghbbnddgngoaaStR
import Derived.Test.YtdghbbnddgngoaaOpsLaws
namespace Go.Proofs.Ytdghbbnddgngoaa
set_option linter.unusedSimpArgs false
set_option linter.unusedVariables false

theorem maskU_testBit (f : Nat → Bool) (k i : Nat) : (maskU f k).testBit i = (decide (i < k) && f i) := by
  induction k with
  | zero => simp [maskU]
  | succ k ih =>
    simp only [maskU, Nat.testBit_or, ih]
    by_cases hk : i = k
    · subst hk
      cases hf : f i <;> simp [hf]
    · have hz : (if f k = true then 2 ^ k else 0).testBit i = false := by
        split
        · rw [Nat.testBit_two_pow]; simp; omega
        · simp
      rw [hz, Bool.or_false]
      congr 1
      exact decide_eq_decide.2 (by omega)
theorem nextM_testBit (m t i : Nat) : (nextM m t).testBit i = (m.testBit (i + 1) || decide (t = i + 1)) := by
  unfold nextM
  split
  · rename_i h; subst h
    rw [Nat.testBit_succ]; simp
  · rw [Nat.testBit_or, Nat.testBit_two_pow, Nat.testBit_succ]
    congr 1
    exact decide_eq_decide.2 (by omega)
theorem ofM_testBit (p : List Int) (b : Int) (h i : Nat) : (ofM p b h).testBit i = (decide (i < h) && decide (fromL p (b + i) < b)) := maskU_testBit _ _ _

/-- the state behind a throw of the pattern -/
theorem ofM_next {p : List Int} (hok : okPat p = true) {h : Nat} (hh : ∀ x, atL p x < h) (b : Int) : nextM (ofM p b h) (atL p b).toNat = ofM p (b + 1) h := by
  refine Nat.eq_of_testBit_eq fun i => ?_
  rw [nextM_testBit, ofM_testBit, ofM_testBit]
  obtain ⟨j, hj, hf, hat, hun⟩ := from_spec hok (b + 1 + i)
  rw [show b + ((i + 1 : Nat) : Int) = b + 1 + i by omega, hf]
  have hjh := hh (b + 1 + i - j)
  rw [hat] at hjh
  have hb0 := (atL_bound hok b).1
  have key : (atL p b).toNat = i + 1 ↔ j = i + 1 := by
    constructor
    · intro e
      have := hun (i + 1) (by rw [show b + 1 + (i : Int) - ((i + 1 : Nat) : Int) = b by omega]; omega)
      omega
    · intro e
      subst e
      rw [show b + 1 + (i : Int) - ((i + 1 : Nat) : Int) = b by omega] at hat
      omega
  rw [Bool.eq_iff_iff]
  simp only [Bool.or_eq_true, Bool.and_eq_true, decide_eq_true_eq, key]
  omega
/-- the pattern's throw is possible -/
theorem ofM_can {p : List Int} (hok : okPat p = true) {h : Nat} (hh : ∀ x, atL p x < h) (b : Int) : canI h (ofM p b h) (atL p b) = true := by
  obtain ⟨j, hj, hf, hat, hun⟩ := from_spec hok b
  have hb0 := (atL_bound hok b).1
  have h0 := hh b
  have bit0 : (ofM p b h) % 2 = 1 ↔ 0 < j := by
    have e := ofM_testBit p b h 0
    rw [Nat.testBit_eq_decide_div_mod_eq] at e
    simp only [Nat.pow_zero, Nat.div_one, Int.ofNat_zero, Int.add_zero, hf] at e
    have e2 := decide_eq_decide.1 (e.trans (by rw [show (decide (0 < h) && decide (b - (j : Int) < b)) = decide (0 < j) from by rw [Bool.eq_iff_iff]; simp only [Bool.and_eq_true, decide_eq_true_eq]; omega]))
    exact e2
  unfold canI
  by_cases hj0 : 0 < j
  · rw [if_pos (bit0.2 hj0)]
    have hne : atL p b ≠ 0 := fun e => by
      have := hun 0 (by simpa using e)
      omega
    have hz : (ofM p b h) / 2 ^ (atL p b).toNat % 2 = 0 := by
      have e := ofM_testBit p b h (atL p b).toNat
      rw [Nat.testBit_eq_decide_div_mod_eq] at e
      obtain ⟨j', _, hf', _, hun'⟩ := from_spec hok (b + ((atL p b).toNat : Int))
      have : (atL p b).toNat = j' := hun' _ (by rw [show b + ((atL p b).toNat : Int) - ((atL p b).toNat : Int) = b by omega]; omega)
      rw [hf', ← this, show b + ((atL p b).toNat : Int) - ((atL p b).toNat : Int) = b by omega] at e
      have e3 : ¬ (ofM p b h) / 2 ^ (atL p b).toNat % 2 = 1 := by
        intro h1
        rw [decide_eq_true h1] at e
        simp at e
      omega
    simp only [Bool.and_eq_true, inB_iff, decide_eq_true_eq]
    exact ⟨by omega, hz⟩
  · rw [if_neg fun e => hj0 (bit0.1 e)]
    have : j = 0 := by omega
    subst this
    simpa using hat

theorem fromL_per {p : List Int} (hok : okPat p = true) (x : Int) : fromL p (x + p.length) = fromL p x + p.length := by
  obtain ⟨j, _, hf, hat, _⟩ := from_spec hok x
  obtain ⟨j', _, hf', _, hun'⟩ := from_spec hok (x + p.length)
  have : j = j' := hun' j (by rw [show x + (p.length : Int) - j = x - j + p.length by omega, atL_add_len]; exact hat)
  subst this
  omega
theorem ofM_per {p : List Int} (hok : okPat p = true) (b : Int) (h : Nat) : ofM p (b + p.length) h = ofM p b h := by
  refine maskU_congr _ fun i _ => ?_
  unfold comes
  rw [show b + (p.length : Int) + (i : Int) = b + i + p.length by omega, fromL_per hok]
  exact decide_eq_decide.2 (by omega)

/-- what is left to wait for, over all props -/
def phiK (m : Nat) : Nat → Nat
  | 0 => 0
  | k + 1 => phiK m k + (k + 1) * (m / 2 ^ k % 2)
theorem next_keeps : ∀ h, h < 11 → ∀ m, m < 2 ^ h → ∀ t : Nat, t < 11 → canI h m (t : Int) = true → popN (nextM m t) = popN m ∧ phiK (nextM m t) 10 + popN m = phiK m 10 + t := by decide +kernel

theorem ofM_pop {p : List Int} (hok : okPat p = true) {h : Nat} (h10 : h ≤ 10) (hh : ∀ x, atL p x < h) (k : Nat) (hk : k ≤ p.length) :
    popN (ofM p k h) = popN (ofM p 0 h) ∧ (phiK (ofM p k h) 10 : Int) + k * popN (ofM p 0 h) = phiK (ofM p 0 h) 10 + (p.take k).sum := by
  induction k with
  | zero => exact ⟨rfl, by simp⟩
  | succ k ih =>
    obtain ⟨i1, i2⟩ := ih (by omega)
    have hat := atL_nat p k (by omega)
    have hb := atL_bound hok k
    have hc := ofM_can hok hh (k : Int)
    have hn := ofM_next hok hh (k : Int)
    have hlt := hh k
    obtain ⟨t, ht⟩ : ∃ t : Nat, atL p k = t := ⟨(atL p k).toNat, by omega⟩
    rw [ht] at hc hn hlt
    rw [Int.toNat_natCast] at hn
    obtain ⟨e1, e2⟩ := next_keeps h (by omega) _ (ofM_lt p k h) t (by omega) hc
    rw [hn] at e1 e2
    rw [show ((k + 1 : Nat) : Int) = (k : Int) + 1 by omega]
    refine ⟨by rw [e1, i1], ?_⟩
    rw [List.take_succ_eq_append_getElem (by omega), List.sum_append, List.sum_singleton, show p[k] = p.getD k 0 from by simp [show k < p.length by omega], ← hat, ht, Int.add_mul, Int.one_mul, ← i1, i1]
    rw [← i1] at i2 ⊢
    omega
/-- the number of props of a pattern's states -/
theorem ofM_props {p : List Int} (hok : okPat p = true) {h : Nat} (h10 : h ≤ 10) (hh : ∀ x, atL p x < h) : (popN (ofM p 0 h) : Int) = propsA p := by
  obtain ⟨l1, l2⟩ := okPat_len hok
  have e := (ofM_pop hok h10 hh p.length (Nat.le_refl _)).2
  rw [List.take_length] at e
  have ep := ofM_per hok 0 h
  rw [Int.zero_add] at ep
  rw [ep] at e
  have es : p.sum = popN (ofM p 0 h) * (p.length : Int) := by rw [Int.mul_comm]; omega
  rw [propsA, if_pos hok, es, Int.mul_ediv_cancel _ (by omega)]

/-- the pattern's throws, from its state on, lead back to it -/
theorem ofM_run {p : List Int} (hok : okPat p = true) {h : Nat} (hh : ∀ x, atL p x < h) (k : Nat) (hk : k ≤ p.length) :
    runGo h (ofM p ((p.length - k : Nat) : Int) h) (p.drop (p.length - k)) (p.length - k) = (ofM p 0 h, p.length, 0) := by
  induction k with
  | zero =>
    rw [Nat.sub_zero, runGo_end (Nat.le_refl _)]
    have ep := ofM_per hok 0 h
    rw [Int.zero_add] at ep
    rw [ep]
  | succ k ih =>
    have hat := atL_nat p (p.length - (k + 1)) (by omega)
    have hc := ofM_can hok hh ((p.length - (k + 1) : Nat) : Int)
    have hn := ofM_next hok hh ((p.length - (k + 1) : Nat) : Int)
    rw [hat] at hc hn
    rw [runGo_step (by omega) hc, hn, show p.length - (k + 1) + 1 = p.length - k by omega, show ((p.length - (k + 1) : Nat) : Int) + 1 = ((p.length - k : Nat) : Int) by omega]
    exact ih (by omega)

theorem throwsL_some : ∀ h, h < 11 → ∀ m, m < 2 ^ h → (throwsL h m).length ≠ 0 := by
  have : ∀ h, h < 11 → ∀ m, m < 2 ^ h → ((List.range (h + 1)).filter (fun t : Nat => canI h m (t : Int))).length ≠ 0 := by decide +kernel
  intro h hh m hm
  unfold throwsL
  rw [List.length_map]
  exact this h hh m hm
theorem getD_in {l : List Int} {i : Nat} (hi : i < l.length) : l.getD i 0 = l[i] := by simp [hi]
theorem throwsL_can {h m i : Nat} (hi : i < (throwsL h m).length) : canI h m ((throwsL h m).getD i 0) = true ∧ 0 ≤ (throwsL h m).getD i 0 ∧ (throwsL h m).getD i 0 ≤ h := by
  have hm : (throwsL h m).getD i 0 ∈ throwsL h m := by rw [getD_in hi]; exact List.getElem_mem hi
  obtain ⟨t, ht, e⟩ := List.mem_map.1 hm
  obtain ⟨h1, h2⟩ := List.mem_filter.1 ht
  rw [← e]
  have := List.mem_range.1 h1
  exact ⟨h2, by omega, by omega⟩
theorem throwsL_up {h m i : Nat} (hi : i < (throwsL h m).length) (h0 : 0 < i) : (throwsL h m).getD (i - 1) 0 < (throwsL h m).getD i 0 := by
  have hp : (throwsL h m).Pairwise (· < ·) := by
    unfold throwsL
    rw [List.pairwise_map]
    refine (List.pairwise_lt_range.filter _).imp ?_
    intro a b hab
    omega
  rw [getD_in hi, getD_in (show i - 1 < (throwsL h m).length by omega)]
  exact List.pairwise_iff_getElem.1 hp _ _ (by omega) hi (by omega)
end Go.Proofs.Ytdghbbnddgngoaa
