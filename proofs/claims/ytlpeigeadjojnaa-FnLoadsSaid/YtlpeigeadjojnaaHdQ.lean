/- What FnLoads asks: loads add up, rests and loads, loads under other names. Mathematics alone. -/
import Derived.Test.YtlpeigeadjojnaaHdG
import Derived.Test.YtlpeigeadjojnaaHdE
namespace Go.Proofs.Ytlpeigeadjojnaa
open Go.RowKit
set_option linter.unusedSimpArgs false
set_option linter.unusedVariables false

/-- the throws of the first k hands -/
def smK (L : List HthT) : Nat → Nat
  | 0 => 0
  | k + 1 => smK L k + cntF L (k : Int)
theorem smK_step (L : List HthT) (k : Nat) : smK L (k + 1) = smK L k + cntF L (k : Int) := rfl
theorem smK_nil : ∀ k, smK [] k = 0
  | 0 => rfl
  | k + 1 => by rw [smK_step, smK_nil k]; rfl
theorem smK_snoc (L : List HthT) (y : HthT) (h0 : 0 ≤ y.2.2.1) : ∀ k, smK (L ++ [y]) k = smK L k + (if y.2.2.1 < (k : Int) then 1 else 0)
  | 0 => by rw [if_neg (by omega)]; rfl
  | k + 1 => by
    rw [smK_step, smK_step, smK_snoc L y h0 k, cntF_snoc]
    by_cases h1 : y.2.2.1 < (k : Int)
    · rw [if_pos h1, if_neg (by omega), if_pos (by omega)]; omega
    · rw [if_neg h1]
      by_cases h2 : y.2.2.1 = (k : Int)
      · rw [if_pos h2, if_pos (by omega)]; omega
      · rw [if_neg h2, if_neg (by omega)]; omega
theorem smK_all {p o : List Int} (ho : okH o = true) : ∀ k, smK (thK p o k) (cntH o).toNat = (thK p o k).length
  | 0 => by simp [thK, smK_nil]
  | k + 1 => by
    have c1 := (okH_cnt ho).1
    by_cases h0 : atL p (k : Int) = 0
    · rw [thK_zero h0]; exact smK_all ho k
    · have hr := atO_rng ho (k : Int)
      rw [thK_more h0, smK_snoc _ _ (show 0 ≤ atL o (k : Int) from hr.1), smK_all ho k, List.length_append, List.length_singleton, if_pos (show (hthAt p o k).2.2.1 < ((cntH o).toNat : Int) from by show atL o (k : Int) < _; omega)]
theorem smK_le (L : List HthT) (n : Nat) (hL : L.length ≤ 144) : ∀ k, k ≤ n → smK L k ≤ 144 * k
  | 0, _ => by simp [smK]
  | k + 1, h => by
    have := smK_le L n hL k (by omega)
    have := cntF_le L (k : Int)
    rw [smK_step]; omega

theorem btF_cnt (L : List HthT) (h : Int) : (btF L h).length = cntF L h := by rw [btF, List.length_map]; rfl
theorem gapK_nonneg (bs : List Int) : ∀ k, 0 ≤ gapK bs k
  | 0 => Int.le_refl _
  | k + 1 => by have := gapK_nonneg bs k; rw [gapK_step]; omega
theorem gapK_sum (bs : List Int) : ∀ k : Nat, bs.getD k 0 - bs.getD 0 0 ≤ (k : Int) * gapK bs k
  | 0 => by simp
  | k + 1 => by
    have h1 := gapK_sum bs k
    have h2 : gapK bs k ≤ gapK bs (k + 1) := by rw [gapK_step]; omega
    have h3 : bs.getD (k + 1) 0 - bs.getD k 0 ≤ gapK bs (k + 1) := by rw [gapK_step]; omega
    have h4 := Int.mul_le_mul_of_nonneg_left h2 (show (0 : Int) ≤ (k : Int) by omega)
    have h5 : ((k + 1 : Nat) : Int) * gapK bs (k + 1) = (k : Int) * gapK bs (k + 1) + gapK bs (k + 1) := by
      rw [Int.natCast_add, Int.add_mul]; simp
    rw [h5]
    omega
/-- the three things that a load and a rest keep -/
theorem rest_load {bs : List Int} {n : Int} (hin : inP bs n) (hn : 1 ≤ n) :
    (bs.length = 0 ↔ restG bs n = 0) ∧ (bs.length = 1 → restG bs n = n) ∧ (1 ≤ bs.length → n ≤ (bs.length : Int) * restG bs n) ∧ 0 ≤ restG bs n ∧ restG bs n ≤ 2 * n := by
  by_cases h0 : bs.length = 0
  · have e : restG bs n = 0 := by rw [restG, if_pos h0]
    rw [e]
    refine ⟨⟨fun _ => rfl, fun _ => h0⟩, fun h => by omega, fun h => by omega, Int.le_refl _, by omega⟩
  · have e : restG bs n = max (gapK bs (bs.length - 1)) (wrapG bs n) := by rw [restG, if_neg h0]
    have i0 := hin 0 (by omega)
    have i1 := hin (bs.length - 1) (by omega)
    have hw : wrapG bs n = bs.getD 0 0 + n - bs.getD (bs.length - 1) 0 := rfl
    have hg := gapK_bound (m := n) (by omega) (fun k hk => by have := hin k hk; omega) (bs.length - 1) (.inl (by omega))
    have hs := gapK_sum bs (bs.length - 1)
    obtain ⟨m, hm⟩ : ∃ m, bs.length = m + 1 := ⟨bs.length - 1, by omega⟩
    have em : bs.length - 1 = m := by omega
    rw [em] at e i1 hw hg hs
    have g1 : gapK bs m ≤ restG bs n := by omega
    have g2 : wrapG bs n ≤ restG bs n := by omega
    refine ⟨⟨fun h => absurd h h0, fun h => by omega⟩, fun h => ?_, fun _ => ?_, by omega, by omega⟩
    · obtain rfl : m = 0 := by omega
      have : gapK bs 0 = 0 := rfl
      omega
    · have h4 := Int.mul_le_mul_of_nonneg_left g1 (show (0 : Int) ≤ (m : Int) by omega)
      have h5 : (bs.length : Int) * restG bs n = (m : Int) * restG bs n + restG bs n := by
        rw [hm, Int.natCast_add, Int.add_mul]; simp
      rw [h5]
      omega

/-- the names of hands are all different -/
theorem name_inj {names : List Int} {c : Nat} (hl : names.length = c) (hh : hasK names c = true) {i j : Nat} (hi : i < c) (hj : j < c) (e : names.getD i 0 = names.getD j 0) : i = j := by
  refine Classical.byContradiction fun hne => ?_
  have hnd : ((List.range c).map fun h : Nat => (h : Int)).Nodup := by
    rw [List.nodup_iff_pairwise_ne, List.pairwise_map]
    exact List.Pairwise.imp (fun {a b} (hab : a < b) => by omega) List.pairwise_lt_range
  have := len_le_of_subI _ (names.eraseIdx j) hnd (by
    intro y hy
    obtain ⟨h, hlt, rfl⟩ := List.mem_map.1 hy
    have hlt := List.mem_range.1 hlt
    obtain ⟨k, hk, ek⟩ := has_get.1 (hasK_iff.1 hh h hlt)
    rw [List.mem_eraseIdx_iff_getElem]
    have hg : ∀ q (hq : q < names.length), names[q] = names.getD q 0 := fun q hq => by simp [hq]
    by_cases ekj : k = j
    · exact ⟨i, by omega, hne, by rw [hg i (by omega), e, ← ekj, ek]⟩
    · exact ⟨k, hk, ekj, by rw [hg k hk, ek]⟩)
  rw [List.length_eraseIdx_of_lt (by omega)] at this
  simp at this
  omega
theorem ren_ok {o names : List Int} (ho : okH o = true) (hn : nmH o names = true) : okH (renL o names) = true ∧ cntH (renL o names) = cntH o := by
  obtain ⟨c1, c4⟩ := okH_cnt ho
  obtain ⟨n1, n2⟩ := nmH_in ho hn
  obtain ⟨l1, l2⟩ := okH_len ho
  simp only [nmH, Bool.and_eq_true, decide_eq_true_eq] at hn
  obtain ⟨hl, hh⟩ := hn
  obtain ⟨c, hc⟩ : ∃ c : Nat, cntH o = c := ⟨(cntH o).toNat, by omega⟩
  have hat : ∀ k, k < o.length → ∃ q, q < c ∧ o.getD k 0 = (q : Int) ∧ (renL o names).getD k 0 = names.getD q 0 := fun k hk => by
    have := okH_at ho k hk
    refine ⟨(o.getD k 0).toNat, by omega, by omega, renL_at _ _ k hk⟩
  have hnm : ∀ q, q < c → 0 ≤ names.getD q 0 ∧ names.getD q 0 ≤ 3 ∧ names.getD q 0 < c := fun q hq => by
    have := okH_at n1 q (by omega)
    omega
  have hr : rngH (renL o names) = true := rngH_true fun k hk => by
    rw [renL_len] at hk
    obtain ⟨q, hq, _, e⟩ := hat k hk
    have := hnm q hq
    rw [e]; omega
  have hex : ∀ h : Nat, h < c → ∃ k, k < o.length ∧ (renL o names).getD k 0 = (h : Int) := fun h hlt => by
    rw [hc, Int.toNat_natCast] at hh
    obtain ⟨q, hq, eq⟩ := has_get.1 (hasK_iff.1 hh h hlt)
    obtain ⟨k, hk, ek⟩ := okH_has ho (q : Int) (by omega) (by omega)
    obtain ⟨q', hq', e1, e2⟩ := hat k hk
    obtain rfl : q = q' := by omega
    exact ⟨k, hk, by rw [e2, eq]⟩
  have hcn : cntH (renL o names) = c := by
    have h1 : cntH (renL o names) ≤ c := cntK_le (by omega) _ fun i hi => by
      rw [renL_len] at hi
      obtain ⟨q, hq, _, e⟩ := hat i hi
      have := hnm q hq
      omega
    obtain ⟨k, hk, he⟩ := hex (c - 1) (by omega)
    have := cntH_get (o := renL o names) (k := k) (by rw [renL_len]; exact hk)
    omega
  refine ⟨?_, by omega⟩
  rw [okH_mk (by rw [renL_len]; exact l1) (by rw [renL_len]; exact l2) hr, hcn, Int.toNat_natCast, hasK_iff]
  intro h hlt
  obtain ⟨k, hk, he⟩ := hex h hlt
  exact has_get.2 ⟨k, by rw [renL_len]; exact hk, he⟩
theorem atL_natH (p : List Int) (i : Nat) (hi : i < p.length) : atL p i = p.getD i 0 := by
  unfold atL; rw [Int.emod_eq_of_lt (by omega) (by omega)]; rfl
theorem okPat3 : okPat [3] = true := by decide
theorem okPO3 {o : List Int} (ho : okH o = true) : okPO [3] o = true := by rw [okPO, okPat3, ho]; rfl
theorem atL3 (x : Int) : atL [3] x = 3 := by
  have : x % (([3] : List Int).length : Int) = 0 := by simp
  rw [atL, this]; rfl
theorem cpN3 (o : List Int) : cpN [3] o = o.length := by rw [cpN]; exact Nat.lcm_one_left _
theorem cnt_ren {o names : List Int} (ho : okH o = true) (hn : nmH o names = true) {h : Nat} (hh : (h : Int) < cntH o) :
    ∀ k, k ≤ o.length → cntF (thK [3] (renL o names) k) (names.getD h 0) = cntF (thK [3] o k) (h : Int)
  | 0, _ => rfl
  | k + 1, hk => by
    have h3 : ∀ L : List Int, ¬ atL [3] (k : Int) = 0 := fun L => by rw [atL3]; decide
    rw [thK_more (h3 o), thK_more (h3 o), cntF_snoc, cntF_snoc, cnt_ren ho hn hh k (by omega)]
    have e1 : (hthAt [3] (renL o names) k).2.2.1 = names.getD (o.getD k 0).toNat 0 := by
      show atL (renL o names) (k : Int) = _
      rw [atL_natH _ k (by rw [renL_len]; omega), renL_at _ _ k (by omega)]
    have e2 : (hthAt [3] o k).2.2.1 = o.getD k 0 := by
      show atL o (k : Int) = _
      rw [atL_natH _ k (by omega)]
    have ha := okH_at ho k (by omega)
    have hcn := okH_cnt ho
    have hl : names.length = (cntH o).toNat := by
      simp only [nmH, Bool.and_eq_true, decide_eq_true_eq] at hn
      omega
    have hha : hasK names (cntH o).toNat = true := by
      simp only [nmH, Bool.and_eq_true, decide_eq_true_eq] at hn
      exact hn.2
    rw [e1, e2]
    congr 1
    by_cases e : o.getD k 0 = (h : Int)
    · rw [if_pos e, if_pos (by rw [e]; rfl)]
    · rw [if_neg e, if_neg fun q => e (by
        have := name_inj hl hha (i := (o.getD k 0).toNat) (j := h) (by omega) (by omega) q
        omega)]
/-- loads under other names -/
theorem load_ren {o names : List Int} (ho : okH o = true) (hn : nmH o names = true) {h : Nat} (hh : (h : Int) < cntH o) :
    (ldA [3] (renL o names)).getD (names.getD h 0).toNat 0 = (ldA [3] o).getD h 0 ∧ 0 ≤ names.getD h 0 ∧ names.getD h 0 < cntH o := by
  obtain ⟨r1, r2⟩ := ren_ok ho hn
  obtain ⟨n1, n2⟩ := nmH_in ho hn
  have hcn := okH_cnt ho
  have hl : names.length = (cntH o).toNat := by
    simp only [nmH, Bool.and_eq_true, decide_eq_true_eq] at hn
    omega
  have ha := okH_at n1 h (by omega)
  refine ⟨?_, ha.1, by omega⟩
  rw [ldA_true (okPO3 r1), ldA_true (okPO3 ho), r2, ldL_at _ _ _ (by omega), ldL_at _ _ h (by omega), Int.toNat_of_nonneg ha.1, thH, thH, cpN3, cpN3, renL_len, cnt_ren ho hn hh _ (Nat.le_refl _)]
theorem ld_len {o : List Int} (ho : okH o = true) : (ldA [3] o).length = (cntH o).toNat := by rw [ldA_true (okPO3 ho), ldL_len]
end Go.Proofs.Ytlpeigeadjojnaa
