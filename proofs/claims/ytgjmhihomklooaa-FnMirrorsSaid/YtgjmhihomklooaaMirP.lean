/- Plain mathematics of mirror images of synchronous patterns: a mirror image is a pattern with the same props, and its own mirror image leads back. It imports no program. No conditions. -/
import Derived.Test.YtgjmhihomklooaaSyn
namespace Go.Proofs.Ytgjmhihomklooaa

/-- the number of the throw of the other hand -/
def sw (k : Nat) : Nat := if k % 2 = 0 then k + 1 else k - 1
theorem sw_lt {k n : Nat} (h : k < 2 * n) : sw k < 2 * n := by unfold sw; split <;> omega
theorem sw_inj {a b : Nat} (h : sw a = sw b) : a = b := by
  unfold sw at h
  split at h <;> split at h <;> omega
theorem mirS_at (p : List Syn) (i : Nat) (h : i < p.length) : (mirS p).getD i s0 = ((p.getD i s0).2, (p.getD i s0).1) := by simp [mirS, h]
theorem thrs_mir (p : List Syn) (k : Nat) (h : k < 2 * p.length) : (thrs (mirS p)).getD k t0 = (thrs p).getD (sw k) t0 := by
  rcases Nat.mod_two_eq_zero_or_one k with e | e
  · rw [show sw k = 2 * (k / 2) + 1 by unfold sw; rw [if_pos e]; omega, thrs_odd p _ (by omega), show k = 2 * (k / 2) by omega, thrs_even _ _ (by rw [mirS_len]; omega), show 2 * (k / 2) / 2 = k / 2 by omega, mirS_at p _ (by omega)]
  · rw [show sw k = 2 * (k / 2) by unfold sw; rw [if_neg (by omega)]; omega, thrs_even p _ (by omega), show k = 2 * (k / 2) + 1 by omega, thrs_odd _ _ (by rw [mirS_len]; omega), show (2 * (k / 2) + 1) / 2 = k / 2 by omega, mirS_at p _ (by omega)]
theorem okSL_mir {p : List Syn} (h : okSL p = true) : okSL (mirS p) = true := by
  have hn := okSL_len h
  refine okSL_good (by rw [mirS_len]; exact hn.1) (by rw [mirS_len]; exact hn.2) fun i hi => ?_
  rw [mirS_len] at hi
  rw [mirS_at p i hi]
  have := okSL_at h i hi
  exact ⟨this.2, this.1⟩
theorem oth_oth (h : Int) : oth (oth h) = h := by unfold oth; split <;> split <;> omega
theorem oth_inj {a b : Int} (h : oth a = oth b) : a = b := by rw [← oth_oth a, h, oth_oth]
theorem shift_oth (k : Nat) (v n : Int) (hv : v % 2 = 0) (hn : 0 < n) : ((k : Int) + v) % (2 * n) = oth (((sw k : Nat) : Int) + v) % (2 * n) ∧ oth ((((sw k : Nat) : Int) + v) % (2 * n)) = oth (((sw k : Nat) : Int) + v) % (2 * n) := by
  have key : ∀ x : Int, oth (x % (2 * n)) = oth x % (2 * n) := by
    intro x
    have e0 := Int.emod_nonneg x (show 2 * n ≠ 0 by omega)
    have e1 := Int.emod_lt_of_pos x (show 0 < 2 * n by omega)
    have e2 := Int.emod_add_mul_ediv x (2 * n)
    have em : (x % (2 * n)) % 2 = x % 2 := Int.emod_emod_of_dvd x ⟨n, rfl⟩
    have eo : oth x = oth (x % (2 * n)) + 2 * n * (x / (2 * n)) := by
      unfold oth
      rw [em]
      split <;> omega
    rw [eo, Int.add_mul_emod_self_left]
    have hb := oth_bound (h := x % (2 * n)) (n := n) e0 e1
    rw [Int.emod_eq_of_lt hb.1 hb.2]
  refine ⟨?_, key _⟩
  congr 1
  rcases Nat.mod_two_eq_zero_or_one k with e | e
  · have hs : ((sw k : Nat) : Int) = k + 1 := by unfold sw; rw [if_pos e]; omega
    rw [hs]
    unfold oth
    rw [if_neg (by omega)]
    omega
  · have hs : ((sw k : Nat) : Int) = k - 1 := by unfold sw; rw [if_neg (by omega)]; omega
    rw [hs]
    unfold oth
    rw [if_pos (by omega)]
    omega
theorem lndS_mir {p : List Syn} (h : okSL p = true) (k : Nat) (hk : k < 2 * p.length) : lndS (mirS p) k = oth (lndS p (sw k)) := by
  have hn := okSL_len h
  have hsw := sw_lt hk
  have hok := okSL_thr h (sw k) hsw
  have ht := thrs_mir p k hk
  have hv := (okT_iff.1 hok).2.1
  obtain ⟨e1, e2⟩ := shift_oth k ((thrs p).getD (sw k) t0).1 p.length hv (by omega)
  cases hc : ((thrs p).getD (sw k) t0).2 with
  | false =>
    rw [lndS_plain hc, lndS_plain (by rw [ht]; exact hc), ht, mirS_len, e1, e2]
  | true =>
    rw [lndS_cross hc, lndS_cross (by rw [ht]; exact hc), ht, mirS_len, oth_oth, e1, ← e2, oth_oth]
theorem okS_mir {p : List Syn} (h : okS p = true) : okS (mirS p) = true := by
  have hl := okS_list h
  have hd : distinct (lndS p) (2 * p.length) := by
    simp only [okS, Bool.and_eq_true, Option.isNone_iff_eq_none] at h
    exact distinct_of_none h.2
  rw [okS, okSL_mir hl, Bool.true_and, mirS_len, clash_none, Option.isNone_none]
  intro a b hab hb he
  rw [lndS_mir hl a (by omega), lndS_mir hl b hb] at he
  have he := oth_inj he
  have ha' : sw a < 2 * p.length := sw_lt (by omega)
  have hb' : sw b < 2 * p.length := sw_lt hb
  rcases Nat.lt_trichotomy (sw a) (sw b) with h1 | h1 | h1
  · exact hd _ _ h1 hb' he
  · have := sw_inj h1; omega
  · exact hd _ _ h1 ha' he.symm
theorem mirS_mirS (p : List Syn) : mirS (mirS p) = p := by
  unfold mirS
  rw [List.map_map]
  exact (List.map_congr_left (fun s _ => rfl)).trans (List.map_id p)
theorem mirS_append (p q : List Syn) : mirS (p ++ q) = mirS p ++ mirS q := by simp [mirS]
theorem sumT_mir : ∀ p : List Syn, sumT (thrs (mirS p)) = sumT (thrs p)
  | [] => rfl
  | s :: p => by
    have := sumT_mir p
    simp only [sumT, thrs, mirS, List.map_cons, List.flatMap_cons, List.map_append, List.sum_append, List.map_nil, List.sum_cons, List.sum_nil] at this ⊢
    omega
theorem spropsA_mir {p : List Syn} (h : okS p = true) : spropsA (mirS p) = spropsA p := by
  rw [spropsA, spropsA, if_pos (okS_mir h), if_pos h, sumT_mir, mirS_len]
theorem mirR_ok {p : List Syn} (h : okS p = true) : mirR p = mirS p := by rw [mirR, if_pos h]
theorem mirR_bad {p : List Syn} (h : okS p = false) : mirR p = [] := by rw [mirR, if_neg (by simp [h])]
/-- a star is a pattern, of twice as many beats, and its mirror image has its halves exchanged -/
theorem star_ok {p : List Syn} (h : starC p = 0) : starR p = p ++ mirS p ∧ okS (p ++ mirS p) = true ∧ 1 ≤ p.length ∧ p.length ≤ 3 := by
  cases hl : okSL p with
  | false => simp [starC, hl] at h
  | true =>
    by_cases h6 : 6 < 2 * p.length
    · simp [starC, hl, h6] at h
    · cases hc : okS (p ++ mirS p) with
      | false => simp [starC, hl, h6, hc] at h
      | true => exact ⟨by simp [starR, hl, h6, hc], rfl, (okSL_len hl).1, by omega⟩
end Go.Proofs.Ytgjmhihomklooaa
