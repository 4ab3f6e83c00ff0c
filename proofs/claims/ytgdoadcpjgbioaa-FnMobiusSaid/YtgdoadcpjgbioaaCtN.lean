/- What FnMobius asks of the divisors of a number: their order, and the sum of the Moebius function over them. No conditions. -/
import Derived.Test.YtgdoadcpjgbioaaCtC
import Derived.Test.YtgdoadcpjgbioaaCtM
namespace Go.Proofs.Ytgdoadcpjgbioaa
set_option linter.unusedSimpArgs false
set_option linter.unusedVariables false

theorem divT_first (n k : Nat) : (divI n (k + 1)).getD 0 0 = 1 := by
  induction k with
  | zero => rw [divI_yes (Nat.mod_one n)]; rfl
  | succ k ih =>
    have hl : 0 < (divI n (k + 1)).length := by
      rcases Nat.eq_zero_or_pos (divI n (k + 1)).length with h | h
      · rw [List.length_eq_zero_iff.1 h] at ih; simp at ih
      · exact h
    by_cases h : n % (k + 1 + 1) = 0
    · rw [divI_yes h, List.getD_eq_getElem?_getD, List.getElem?_append_left hl, ← List.getD_eq_getElem?_getD]; exact ih
    · rw [divI_no h]; exact ih
theorem divT_last (n : Nat) (hn : 1 ≤ n) : (divI n n).getD ((divI n n).length - 1) 0 = (n : Int) := by
  obtain ⟨k, rfl⟩ : ∃ k, n = k + 1 := ⟨n - 1, by omega⟩
  rw [divI_yes (Nat.mod_self _), List.length_append, List.getD_eq_getElem?_getD, List.getElem?_append_right (by simp)]
  simp
theorem divI_mem {n k i : Nat} (hi : i < (divI n k).length) : ∃ d : Nat, (divI n k).getD i 0 = (d : Int) ∧ 1 ≤ d ∧ d ≤ k ∧ n % d = 0 := by
  have hm : (divI n k)[i] ∈ divI n k := List.getElem_mem hi
  rw [List.getD_eq_getElem?_getD, List.getElem?_eq_getElem hi]
  obtain ⟨d, hd, he⟩ := List.mem_map.1 hm
  obtain ⟨h1, h2, h3⟩ := divT_mem hd
  exact ⟨d, he.symm, h1, h2, h3⟩
theorem divI_rise (n k : Nat) : ∀ i, i + 1 < (divI n k).length → (divI n k).getD i 0 < (divI n k).getD (i + 1) 0 := by
  induction k with
  | zero => intro i hi; simp [divI, divT] at hi
  | succ k ih =>
    intro i hi
    by_cases h : n % (k + 1) = 0
    · rw [divI_yes h] at hi ⊢
      rw [List.length_append, List.length_singleton] at hi
      by_cases e : i + 1 = (divI n k).length
      · obtain ⟨d, h1, h2, h3, h4⟩ := divI_mem (n := n) (k := k) (i := i) (by omega)
        rw [List.getD_eq_getElem?_getD (i := i), List.getElem?_append_left (by omega), ← List.getD_eq_getElem?_getD, h1, e, List.getD_eq_getElem?_getD, List.getElem?_append_right (Nat.le_refl _), Nat.sub_self]
        simp
        omega
      · have := ih i (by omega)
        rw [List.getD_eq_getElem?_getD (i := i), List.getElem?_append_left (by omega), ← List.getD_eq_getElem?_getD, List.getD_eq_getElem?_getD (i := i + 1), List.getElem?_append_left (by omega), ← List.getD_eq_getElem?_getD]
        exact this
    · rw [divI_no h] at hi ⊢
      exact ih i hi
theorem muA_nat {d : Nat} (h1 : 1 ≤ d) (h2 : d ≤ 1000) : muC (d : Int) = 0 ∧ muA (d : Int) = muN d := by
  have h : inB (d : Int) 1 1000 = true := inB_true (by omega)
  have := muC_yes h
  rwa [Int.toNat_natCast] at this
/-- the sum over the first i divisors -/
def muP (L : List Int) (i : Nat) : Int := ((L.take i).map muA).sum
theorem muP_next (L : List Int) (i : Nat) (hi : i < L.length) : muP L (i + 1) = muP L i + muA (L.getD i 0) := by
  unfold muP
  rw [List.take_succ_eq_append_getElem hi, List.map_append, List.sum_append, List.getD_eq_getElem?_getD, List.getElem?_eq_getElem hi]
  simp
theorem muP_bound (L : List Int) (h : ∀ i, i < L.length → -1 ≤ muA (L.getD i 0) ∧ muA (L.getD i 0) ≤ 1) : ∀ i, i ≤ L.length → -(i : Int) ≤ muP L i ∧ muP L i ≤ (i : Int) := by
  intro i
  induction i with
  | zero => intro _; simp [muP]
  | succ i ih =>
    intro hi
    have h1 := ih (by omega)
    have h2 := h i (by omega)
    rw [muP_next L i (by omega)]
    omega
theorem muP_all (N : Nat) (h1 : 1 ≤ N) (h2 : N ≤ 1000) : muP (divI N N) (divI N N).length = if N ≤ 1 then 1 else 0 := by
  rw [← muS_is h1 h2]
  unfold muP muS divI divL
  rw [List.take_length, List.map_map]
  congr 1
  apply List.map_congr_left
  intro d hd
  obtain ⟨a, b, _⟩ := divT_mem hd
  exact (muA_nat a (by omega)).2
theorem divA_facts (n : Int) (h1 : 1 ≤ n) (h2 : n ≤ 1000) : 1 ≤ (divA n).length ∧ (divA n).length ≤ 1000 ∧ (divA n).getD 0 0 = 1 ∧ (divA n).getD ((divA n).length - 1) 0 = n ∧ muC n = 0 ∧
    (∀ i, i < (divA n).length → (1 ≤ (divA n).getD i 0 ∧ (divA n).getD i 0 ≤ n) ∧ n % (divA n).getD i 0 = 0 ∧ muC ((divA n).getD i 0) = 0 ∧ -1 ≤ muA ((divA n).getD i 0) ∧ muA ((divA n).getD i 0) ≤ 1) ∧
    (∀ i, i + 1 < (divA n).length → (divA n).getD i 0 < (divA n).getD (i + 1) 0) ∧
    (∀ i, i ≤ (divA n).length → -1000 ≤ muP (divA n) i ∧ muP (divA n) i ≤ 1000) ∧ muP (divA n) (divA n).length = if n ≤ 1 then 1 else 0 := by
  obtain ⟨N, rfl⟩ : ∃ k : Nat, n = k := ⟨n.toNat, by omega⟩
  have hk : inB (N : Int) 1 1000 = true := inB_true ⟨h1, h2⟩
  have hC := (muC_yes hk).1
  rw [divA_yes hk, Int.toNat_natCast]
  have hf : (divI N N).getD 0 0 = 1 := by
    obtain ⟨k, rfl⟩ : ∃ k, N = k + 1 := ⟨N - 1, by omega⟩
    exact divT_first _ _
  have hl : 1 ≤ (divI N N).length := by
    rcases Nat.eq_zero_or_pos (divI N N).length with h | h
    · rw [List.length_eq_zero_iff.1 h] at hf; simp at hf
    · exact h
  have hb := divI_len N N
  have hm : ∀ i, i < (divI N N).length → (1 ≤ (divI N N).getD i 0 ∧ (divI N N).getD i 0 ≤ N) ∧ (N : Int) % (divI N N).getD i 0 = 0 ∧ muC ((divI N N).getD i 0) = 0 ∧ -1 ≤ muA ((divI N N).getD i 0) ∧ muA ((divI N N).getD i 0) ≤ 1 := by
    intro i hi
    obtain ⟨d, e, a, b, c⟩ := divI_mem hi
    obtain ⟨e1, e2⟩ := muA_nat a (show d ≤ 1000 by omega)
    have e3 := muF_bound d 2 d
    rw [e, e1, e2]
    exact ⟨by omega, by rw [← Int.natCast_emod, c]; rfl, rfl, e3.1, e3.2⟩
  refine ⟨hl, by omega, hf, divT_last N (by omega), hC, hm, divI_rise N N, ?_, ?_⟩
  · intro i hi
    have := muP_bound (divI N N) (fun i hi => (hm i hi).2.2.2) i hi
    omega
  · rw [muP_all N (by omega) (by omega)]
    by_cases h : N ≤ 1
    · rw [if_pos h, if_pos (by omega)]
    · rw [if_neg h, if_neg (by omega)]
end Go.Proofs.Ytgdoadcpjgbioaa
