/- Plain mathematics of slides and pairs: a synchronous pattern slides to a pattern with as many props, pairing it up leads back, and a pattern that is paired up slides to itself. It imports no program. No conditions. -/
import Derived.Test.YtdgmmaghmdbnjaaPair
import Derived.Test.YtdgmmaghmdbnjaaMirP
import Derived.Test.YtdgmmaghmdbnjaaCanons
namespace Go.Proofs.Ytdgmmaghmdbnjaa

theorem oth_mod (x n : Int) (hn : 0 < n) : oth (x % (2 * n)) = oth x % (2 * n) := by
  have e0 := Int.emod_nonneg x (show 2 * n ≠ 0 by omega)
  have e1 := Int.emod_lt_of_pos x (show 0 < 2 * n by omega)
  have e2 := Int.emod_add_mul_ediv x (2 * n)
  have em : (x % (2 * n)) % 2 = x % 2 := Int.emod_emod_of_dvd x ⟨n, rfl⟩
  have eo : oth x = oth (x % (2 * n)) + 2 * n * (x / (2 * n)) := by
    unfold oth
    rw [em]
    split <;> omega
  rw [eo, Int.add_mul_emod_self_left]
  have hb := oth_bound (h := x % (2 * n)) (n := n) e0 e1
  rw [Int.emod_eq_of_lt hb.1 hb.2]
theorem slideL_get (p : List Syn) (k : Nat) (h : k < 2 * p.length) : (slideL p).getD k 0 = slid ((thrs p).getD k t0) (k % 2) := by simp [slideL, h]
/-- a throw and what it becomes differ by where it lands -/
theorem slid_add (t : Thr) (k : Nat) (hv : t.1 % 2 = 0) : (k : Int) + slid t (k % 2) = if t.2 then oth ((k : Int) + t.1) else (k : Int) + t.1 := by
  obtain ⟨v, c⟩ := t
  simp only at hv
  cases c with
  | false => rfl
  | true =>
    simp only [slid, if_true]
    rcases Nat.mod_two_eq_zero_or_one k with e | e
    · rw [if_pos e]; unfold oth; rw [if_pos (by omega)]; omega
    · rw [if_neg (by omega)]; unfold oth; rw [if_neg (by omega)]; omega
theorem slid_in {t : Thr} (h : okT t = true) (g : Nat) : inB (slid t g) 0 15 = true := by
  obtain ⟨v, c⟩ := t
  obtain ⟨⟨h0, h1⟩, h2, h3⟩ := okT_iff.1 h
  simp only at h0 h1 h2 h3
  apply inB_true
  cases c with
  | false => exact ⟨h0, by show v ≤ 15; omega⟩
  | true =>
    have h4 : 0 < v := by simpa using h3
    simp only [slid, if_true]
    split <;> omega
theorem lnd_slide {p : List Syn} (h : okSL p = true) (k : Nat) (hk : k < 2 * p.length) : lnd (slideL p) k = lndS p k := by
  have hn := okSL_len h
  have hv := (okT_iff.1 (okSL_thr h k hk)).2.1
  have e := slid_add ((thrs p).getD k t0) k hv
  unfold lnd
  rw [slideL_get p k hk, slideL_len, e, show ((2 * p.length : Nat) : Int) = 2 * (p.length : Int) by omega]
  cases hc : ((thrs p).getD k t0).2 with
  | false => rw [lndS_plain hc]; rfl
  | true => rw [lndS_cross hc, oth_mod _ _ (by omega)]; rfl
theorem okS_distinct {p : List Syn} (h : okS p = true) : distinct (lndS p) (2 * p.length) := by
  simp only [okS, Bool.and_eq_true, Option.isNone_iff_eq_none] at h
  exact distinct_of_none h.2
theorem slide_list {p : List Syn} (h : okSL p = true) : okList (slideL p) = true := by
  have hn := okSL_len h
  unfold okList
  rw [Bool.and_eq_true, List.all_eq_true]
  refine ⟨fun x hx => ?_, inB_true (by rw [slideL_len]; omega)⟩
  obtain ⟨k, hk, rfl⟩ := List.getElem_of_mem hx
  rw [slideL_len] at hk
  have e := slideL_get p k hk
  rw [List.getD_eq_getElem?_getD, List.getElem?_eq_getElem (by rw [slideL_len]; exact hk), Option.getD_some] at e
  rw [e]
  exact slid_in (okSL_thr h k hk) _
theorem slide_ok {p : List Syn} (h : okS p = true) : okPat (slideL p) = true := by
  have hl := okS_list h
  have hd := okS_distinct h
  rw [okPat, slide_list hl, Bool.true_and, slideL_len, clash_none, Option.isNone_none]
  intro a b hab hb
  rw [lnd_slide hl a (by omega), lnd_slide hl b hb]
  exact hd a b hab hb
theorem thrs_sum (p : List Syn) : sumT (thrs p) = ((List.range (2 * p.length)).map fun k => ((thrs p).getD k t0).1).sum := by
  have e : thrs p = (List.range (2 * p.length)).map fun k => (thrs p).getD k t0 := by
    apply List.ext_getElem
    · simp [thrs_len]
    · intro k h1 h2
      simp only [List.getElem_map, List.getElem_range]
      rw [List.getD_eq_getElem?_getD, List.getElem?_eq_getElem h1, Option.getD_some]
  rw [sumT]
  conv => lhs; rw [e]
  rw [List.map_map]
  rfl
theorem slide_sum {p : List Syn} (h : okS p = true) : (slideL p).sum = sumT (thrs p) := by
  have hl := okS_list h
  have hn := okSL_len hl
  have hd := okS_distinct h
  have hb := fun k => lndS_bound hl k
  have hp := perm_range (f := fun i => (lndS p i).toNat) (n := 2 * p.length) (fun a _ => by have := hb a; omega) (fun a b hab hb' => by have := hb a; have := hb b; have := hd a b hab hb'; omega)
  have h1 := perm_sum (hp.map (fun (i : Nat) => (i : Int) % 2))
  rw [List.map_map] at h1
  have h2 : ((List.range (2 * p.length)).map ((fun (i : Nat) => (i : Int) % 2) ∘ fun i => (lndS p i).toNat)) = (List.range (2 * p.length)).map (fun i => lndS p i % 2) := List.map_congr_left fun i _ => by have := hb i; simp; omega
  rw [h2] at h1
  have h3 : (slideL p).sum = ((List.range (2 * p.length)).map fun k : Nat => (((thrs p).getD k t0).1 + lndS p k % 2) + (0 - (k : Int) % 2)).sum := by
    unfold slideL
    congr 1
    refine List.map_congr_left fun k hk => ?_
    have hk := List.mem_range.1 hk
    have hv := (okT_iff.1 (okSL_thr hl k hk)).2.1
    have key : lndS p k % 2 = (if ((thrs p).getD k t0).2 then 1 - (k : Int) % 2 else (k : Int) % 2) := by
      have em : ∀ x : Int, (x % (2 * (p.length : Int))) % 2 = x % 2 := fun x => Int.emod_emod_of_dvd x ⟨p.length, rfl⟩
      cases hc : ((thrs p).getD k t0).2 with
      | false => rw [lndS_plain hc, em]; simp only [Bool.false_eq_true, if_false]; omega
      | true =>
        rw [lndS_cross hc]
        simp only [if_true]
        have := em ((k : Int) + ((thrs p).getD k t0).1)
        unfold oth
        split <;> omega
    rw [key]
    unfold slid
    cases hc : ((thrs p).getD k t0).2 with
    | false => simp only [Bool.false_eq_true, if_false]; omega
    | true =>
      simp only [if_true]
      rcases Nat.mod_two_eq_zero_or_one k with e | e
      · rw [if_pos e]; omega
      · rw [if_neg (by omega)]; omega
  rw [h3, sum_add, sum_add, sum_sub, h1, thrs_sum]
  omega
theorem slide_props {p : List Syn} (h : okS p = true) : propsA (slideL p) = spropsA p := by
  rw [propsA_true (slide_ok h), slide_sum h, spropsA, if_pos h, slideL_len]
  congr 1
/-- pairing up leads back -/
theorem pair_slide {p : List Syn} (h : okS p = true) : pairC (slideL p) = 0 ∧ pairR (slideL p) = p := by
  have hl := okS_list h
  have hn := okSL_len hl
  have e9 : allP (slideL p) = slideL p := allP_even (by rw [slideL_len]; omega)
  have at' : ∀ i, i < p.length → pairAt (slideL p) i = p.getD i s0 := fun i hi => by
    have h1 := okSL_at hl i hi
    rw [pairAt, slideL_get p (2 * i) (by omega), slideL_get p (2 * i + 1) (by omega), thrs_even p i hi, thrs_odd p i hi, show 2 * i % 2 = 0 by omega, show (2 * i + 1) % 2 = 1 by omega, back_slid (.inl rfl) h1.1, back_slid (.inr rfl) h1.2]
  have hg : goodP (allP (slideL p)) = true := by
    rw [e9]
    refine goodP_good fun i hi => ?_
    rw [slideL_len] at hi
    rw [at' i (by omega)]
    exact okSL_at hl i (by omega)
  obtain ⟨e1, e2⟩ := pair_good (slide_ok h) (by rw [e9, slideL_len]; omega) hg
  refine ⟨e1, ?_⟩
  rw [e2, e9]
  apply List.ext_getElem
  · rw [pairL_len, slideL_len]; omega
  · intro i h1 h2
    have := pairL_at (slideL p) i (by rw [slideL_len]; omega)
    rw [at' i h2, List.getD_eq_getElem?_getD, List.getElem?_eq_getElem h1, Option.getD_some, List.getD_eq_getElem?_getD, List.getElem?_eq_getElem h2, Option.getD_some] at this
    exact this
theorem allP_ok {p : List Int} (h : okPat p = true) (h12 : ¬ 12 < (allP p).length) : okPat (allP p) = true := by
  by_cases e : p.length % 2 = 1
  · rw [allP_odd e] at h12 ⊢
    have := repL_ok h (m := 2) (by decide) (by rw [List.length_append] at h12; omega)
    simpa [repL] using this
  · rw [allP_even e]; exact h
theorem allP_get {p : List Int} (_hp : 1 ≤ p.length) (i : Nat) (hi : i < (allP p).length) : (allP p).getD i 0 = p.getD (i % p.length) 0 := by
  by_cases e : p.length % 2 = 1
  · rw [allP_odd e] at hi ⊢
    have := repL_getD p 2 i (by rw [List.length_append] at hi; omega)
    simpa [repL] using this
  · rw [allP_even e] at hi ⊢
    rw [Nat.mod_eq_of_lt hi]
/-- what is paired up is a pattern, and slides back -/
theorem pair_ok {q : List Int} (h : pairC q = 0) : okS (pairR q) = true ∧ slideL (pairR q) = allP q ∧ 1 ≤ q.length ∧ (allP q).length = 2 * (pairR q).length ∧ (pairR q).length ≤ 6 := by
  cases hok : okPat q with
  | false => rw [(pair_bad hok).1] at h; cases h
  | true =>
    have hl := okPat_len hok
    by_cases h12 : 12 < (allP q).length
    · rw [(pair_full hok h12).1] at h; cases h
    · cases hg : goodP (allP q) with
      | false => rw [(pair_lost hok h12 hg).1] at h; cases h
      | true =>
        have e := (pair_good hok h12 hg).2
        have ha := allP_len q
        have ho := allP_ok hok h12
        rw [e]
        generalize allP q = L at *
        have hsl : okSL (pairL L) = true := okSL_good (by rw [pairL_len]; omega) (by rw [pairL_len]; omega) fun i hi => by
          rw [pairL_len] at hi
          rw [pairL_at _ _ hi]
          exact goodP_at hg i hi
        have hs : slideL (pairL L) = L := by
          apply ext_getD
          · rw [slideL_len, pairL_len]; omega
          · intro k hk
            rw [slideL_len, pairL_len] at hk
            rw [slideL_get _ _ (by rw [pairL_len]; exact hk)]
            rcases Nat.mod_two_eq_zero_or_one k with e' | e'
            · have h1 := thrs_even (pairL L) (k / 2) (by rw [pairL_len]; omega)
              rw [show 2 * (k / 2) = k by omega, pairL_at _ _ (by omega)] at h1
              rw [h1, e', pairAt, show 2 * (k / 2) = k by omega]
              exact slid_back (.inl rfl)
            · have h1 := thrs_odd (pairL L) (k / 2) (by rw [pairL_len]; omega)
              rw [show 2 * (k / 2) + 1 = k by omega, pairL_at _ _ (by omega)] at h1
              rw [h1, e', pairAt, show 2 * (k / 2) + 1 = k by omega]
              exact slid_back (.inr rfl)
        refine ⟨?_, hs, hl.1, by rw [pairL_len]; omega, by rw [pairL_len]; omega⟩
        rw [okS, hsl, Bool.true_and, clash_none, Option.isNone_none]
        intro a b hab hb
        rw [← lnd_slide hsl a (by omega), ← lnd_slide hsl b hb, hs]
        exact okPat_distinct ho a b hab (by rw [pairL_len] at hb; omega)
end Go.Proofs.Ytdgmmaghmdbnjaa
