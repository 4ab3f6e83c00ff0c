/- What the law of the orbits asks: their patterns add up to the pattern, their props to its props. No conditions. -/
import Derived.Test.YtlpeigeadjojnabOrQ
import Derived.Test.YtlpeigeadjojnabOdM
namespace Go.Proofs.Ytlpeigeadjojnab
set_option linter.unusedSimpArgs false
set_option linter.unusedVariables false

theorem sum_range (f : Nat → Int) (n : Nat) : ((List.range n).map f).sum = smF f n := by
  induction n with
  | zero => rfl
  | succ n ih => rw [List.range_succ, List.map_append, List.sum_append, ih]; simp [smF]
theorem list_range (p : List Int) : (List.range p.length).map (fun j => p.getD j 0) = p := by
  apply List.ext_getElem
  · simp
  · intro i h1 h2
    simp [h2]
/-- the j-th throw of the pattern of an orbit -/
def alF (p : List Int) (a j : Nat) : Int := if (wayL p a).contains j then p.getD j 0 else 0
theorem aloneL_is (p : List Int) (a : Nat) : aloneL p a = (List.range p.length).map (alF p a) := by
  unfold aloneL aloneK alF
  rw [List.take_length]
theorem aloneL_len (p : List Int) (a : Nat) : (aloneL p a).length = p.length := by simp [aloneL_is]
theorem aloneL_at (p : List Int) (a j : Nat) (hj : j < p.length) : (aloneL p a).getD j 0 = alF p a j := by simp [aloneL_is, hj]
theorem alF_in {p : List Int} (hok : okPat p = true) {a j : Nat} (ha : a < p.length) (hj : j < p.length) (hf : lst p a = a) : alF p a j = if lst p j = a then p.getD j 0 else 0 := by
  unfold alF
  have h1 := wayL_mem hok ha j
  have h2 := lst_eq hok ha hj
  rw [hf] at h2
  by_cases h : lst p j = a
  · rw [if_pos h, if_pos (List.contains_iff_mem.2 (h1.2 (h2.1 h.symm)))]
  · rw [if_neg h, if_neg]
    intro hc
    exact h (h2.2 (h1.1 (List.contains_iff_mem.1 hc))).symm
/-- the pattern of an orbit is one -/
theorem aloneL_ok {p : List Int} (hok : okPat p = true) {a : Nat} (ha : a < p.length) (hf : lst p a = a) : okPat (aloneL p a) = true := by
  obtain ⟨l1, l2⟩ := okPat_len hok
  have hl := aloneL_len p a
  have hb : ∀ j, j < p.length → 0 ≤ alF p a j ∧ alF p a j ≤ 15 := by
    intro j hj
    have := okPat_at hok j hj
    unfold alF
    split <;> omega
  have hlist : okList (aloneL p a) = true := by
    simp only [okList, Bool.and_eq_true]
    refine ⟨List.all_eq_true.2 ?_, inB_true (by omega)⟩
    intro x hx
    rw [aloneL_is] at hx
    obtain ⟨j, hj, rfl⟩ := List.mem_map.1 hx
    exact inB_true (hb j (List.mem_range.1 hj))
  have hland : ∀ j, j < p.length → lnd (aloneL p a) j = if lst p j = a then lnd p j else (j : Int) := by
    intro j hj
    unfold lnd
    rw [hl, aloneL_at p a j hj, alF_in hok ha hj hf]
    by_cases h : lst p j = a
    · rw [if_pos h, if_pos h]
    · rw [if_neg h, if_neg h, Int.add_zero, Int.emod_eq_of_lt (by omega) (by omega)]
  have horb : ∀ j, j < p.length → lst p (nxt p j) = lst p j := fun j hj => lst_orb hok hj (Orb.next p j)
  simp only [okPat, hlist, Bool.true_and, Option.isNone_iff_eq_none]
  apply clash_none
  rw [hl]
  intro x y hxy hy
  have hx : x < p.length := by omega
  rw [hland x hx, hland y hy]
  have e1 := nxt_cast hok x
  have e2 := nxt_cast hok y
  have o1 := horb x hx
  have o2 := horb y hy
  by_cases h1 : lst p x = a
  · rw [if_pos h1]
    by_cases h2 : lst p y = a
    · rw [if_pos h2]
      exact okPat_distinct hok x y hxy hy
    · rw [if_neg h2]
      intro e
      have : nxt p x = y := by omega
      rw [this] at o1
      exact h2 (o1.trans h1)
  · rw [if_neg h1]
    by_cases h2 : lst p y = a
    · rw [if_pos h2]
      intro e
      have : nxt p y = x := by omega
      rw [this] at o2
      exact h1 (o2.trans h2)
    · rw [if_neg h2]; omega
theorem sum_set : ∀ (l : List Int) (i : Nat) (x : Int), i < l.length → (l.set i x).sum = l.sum - l.getD i 0 + x
  | [], i, x, h => by simp at h
  | a :: l, 0, x, _ => by simp; omega
  | a :: l, i + 1, x, h => by
    have := sum_set l i x (by simpa using h)
    simp only [List.set_cons_succ, List.sum_cons, this]
    simp
    omega
theorem aloneK_sum {p : List Int} (hok : okPat p = true) {a : Nat} (ha : a < p.length) (k : Nat) (hk : k ≤ (wayL p a).length) : (aloneK p a k).sum = wsK p a k := by
  induction k with
  | zero =>
    rw [aloneK_zero, wsK_zero]
    have : ∀ n, (List.replicate n (0 : Int)).sum = 0 := by
      intro n
      induction n with
      | zero => rfl
      | succ n ih => rw [List.replicate_succ, List.sum_cons, ih]; rfl
    exact this _
  | succ k ih =>
    have hz := way_at hok ha (show k < (wayL p a).length by omega)
    rw [← aloneK_succ (show k < (wayL p a).length by omega), sum_set _ _ _ (by rw [aloneK_len]; exact hz), ih (by omega), wsK_succ p a k (by omega)]
    have hnm : ((wayL p a).take k).contains ((wayL p a).getD k 0) = false := by
      rw [← Bool.not_eq_true, List.contains_iff_mem]
      intro hm
      obtain ⟨i, hi, he⟩ := List.getElem_of_mem hm
      have hi2 : i < k := by simp at hi; omega
      rw [List.getElem_take] at he
      have hnd := wayL_nodup hok ha
      rw [List.nodup_iff_pairwise_ne] at hnd
      have := List.pairwise_iff_getElem.1 hnd i k (by omega) (by omega) hi2
      apply this
      rw [he]
      simp [show k < (wayL p a).length by omega]
    have : (aloneK p a k).getD ((wayL p a).getD k 0) 0 = 0 := by
      unfold aloneK
      rw [List.getD_eq_getElem?_getD, List.getElem?_map, List.getElem?_range hz]
      show (if ((wayL p a).take k).contains ((wayL p a).getD k 0) then _ else (0 : Int)) = 0
      rw [if_neg (by rw [hnm]; decide)]
    omega
theorem aloneL_sum {p : List Int} (hok : okPat p = true) {a : Nat} (ha : a < p.length) : (aloneL p a).sum = wsum p a := by
  rw [aloneL, aloneK_sum hok ha _ (Nat.le_refl _), wsK_all]
theorem pat_sum {p : List Int} (hok : okPat p = true) : p.sum = (p.length : Int) * propsA p := by
  have h := airS_run hok p.length
  rw [airS_per hok, smF_sum p p.length (Nat.le_refl _), List.take_length, airN_props hok] at h
  omega
theorem ops_get {p : List Int} {k : Nat} (hk : k < (fsts p).length) : (opsL p).getD k 0 = wsum p ((fsts p).getD k 0) / (p.length : Int) := by simp [opsL, hk]
/-- the props of the pattern of an orbit -/
theorem aloneL_props {p : List Int} (hok : okPat p = true) {k : Nat} (hk : k < (fsts p).length) : propsA (aloneL p ((fsts p).getD k 0)) = (opsL p).getD k 0 := by
  obtain ⟨h1, h2⟩ := fsts_at hk
  rw [propsA_true (aloneL_ok hok h1 h2), aloneL_len, aloneL_sum hok h1, ops_get hk]
theorem wsum_props {p : List Int} (hok : okPat p = true) {k : Nat} (hk : k < (fsts p).length) : wsum p ((fsts p).getD k 0) = (p.length : Int) * (opsL p).getD k 0 := by
  obtain ⟨h1, h2⟩ := fsts_at hk
  have := pat_sum (aloneL_ok hok h1 h2)
  rwa [aloneL_len, aloneL_sum hok h1, aloneL_props hok hk] at this
/-- the first throws rise -/
theorem fsts_up (p : List Int) {i k : Nat} (h : i < k) (hk : k < (fsts p).length) : (fsts p).getD i 0 < (fsts p).getD k 0 := by
  have hp : (fsts p).Pairwise (· < ·) := by
    unfold fsts fstL
    exact List.Pairwise.filter _ List.pairwise_lt_range
  have := List.pairwise_iff_getElem.1 hp i k (by omega) hk h
  simpa [hk, show i < (fsts p).length by omega] using this
theorem ixO_is {p : List Int} (hok : okPat p = true) {j k : Nat} (hj : j < p.length) (hk : k < (fsts p).length) : lst p j = (fsts p).getD k 0 ↔ ixO p j = k := by
  obtain ⟨h1, h2, h3⟩ := ixO_spec hok hj
  constructor
  · intro h
    rcases Nat.lt_trichotomy (ixO p j) k with hl | hl | hl
    · have := fsts_up p hl hk; omega
    · exact hl
    · exact absurd h.symm (h3 k hl)
  · intro h; rw [← h, h2]
/-- the sum of the patterns of the first k orbits -/
def smK (p : List Int) (k : Nat) : List Int := (List.range p.length).map fun j => if ixO p j < k then p.getD j 0 else 0
theorem smK_len (p : List Int) (k : Nat) : (smK p k).length = p.length := by simp [smK]
theorem smK_at (p : List Int) (k j : Nat) (hj : j < p.length) : (smK p k).getD j 0 = if ixO p j < k then p.getD j 0 else 0 := by simp [smK, hj]
theorem smK_zero (p : List Int) : smK p 0 = List.replicate p.length 0 := by
  apply List.ext_getElem
  · simp [smK]
  · intro i h1 h2; simp [smK]
theorem smK_step {p : List Int} (hok : okPat p = true) {k j : Nat} (hk : k < (fsts p).length) (hj : j < p.length) : (smK p k).getD j 0 + (aloneL p ((fsts p).getD k 0)).getD j 0 = (smK p (k + 1)).getD j 0 := by
  obtain ⟨h1, h2⟩ := fsts_at hk
  rw [smK_at p k j hj, smK_at p (k + 1) j hj, aloneL_at p _ j hj, alF_in hok h1 hj h2]
  have := ixO_is hok hj hk
  by_cases h : ixO p j = k
  · rw [if_neg (by omega), if_pos (this.2 h), if_pos (by omega)]; omega
  · have hn : ¬ lst p j = (fsts p).getD k 0 := fun e => h (this.1 e)
    rw [if_neg hn]
    by_cases hl : ixO p j < k
    · rw [if_pos hl, if_pos (by omega)]; omega
    · rw [if_neg hl, if_neg (by omega)]; omega
theorem smK_all {p : List Int} (hok : okPat p = true) : smK p (fsts p).length = p := by
  have : smK p (fsts p).length = (List.range p.length).map (fun j => p.getD j 0) := by
    unfold smK
    apply List.map_congr_left
    intro j hj
    rw [if_pos (ixO_spec hok (List.mem_range.1 hj)).1]
  rw [this, list_range]
/-- while a pattern is added, the first i places -/
def smI (p : List Int) (k i : Nat) : List Int := (smK p (k + 1)).take i ++ (smK p k).drop i
theorem smI_zero (p : List Int) (k : Nat) : smI p k 0 = smK p k := by simp [smI]
theorem smI_all (p : List Int) (k : Nat) : smI p k p.length = smK p (k + 1) := by
  have h1 := smK_len p k
  have h2 := smK_len p (k + 1)
  simp [smI, List.take_of_length_le (Nat.le_of_eq h2), List.drop_eq_nil_of_le (Nat.le_of_eq h1)]
theorem smI_len (p : List Int) (k i : Nat) (hi : i ≤ p.length) : (smI p k i).length = p.length := by
  have h1 := smK_len p k
  have h2 := smK_len p (k + 1)
  simp [smI, h1, h2]; omega
theorem smI_at (p : List Int) (k i : Nat) (hi : i < p.length) : (smI p k i).getD i 0 = (smK p k).getD i 0 := by
  have h1 := smK_len p k
  have h2 := smK_len p (k + 1)
  have h3 : ((smK p (k + 1)).take i).length = i := by simp; omega
  unfold smI
  rw [List.getD_eq_getElem?_getD, List.getElem?_append_right (by omega), h3, Nat.sub_self, List.getElem?_drop, List.getD_eq_getElem?_getD]
  simp
theorem smI_set {p : List Int} (k i : Nat) (hi : i < p.length) : (smI p k i).set i ((smK p (k + 1)).getD i 0) = smI p k (i + 1) := by
  have h1 := smK_len p k
  have h2 := smK_len p (k + 1)
  apply List.ext_getElem
  · simp [smI]; omega
  · intro j hj1 hj2
    simp only [smI, List.getElem_set, List.getElem_append, List.length_take, List.getElem_take, List.getElem_drop]
    by_cases e : i = j
    · subst e
      rw [if_pos rfl, dif_pos (by omega)]
      simp [show i < (smK p (k + 1)).length by omega]
    · rw [if_neg e]
      by_cases hl : j < i
      · rw [dif_pos (by omega), dif_pos (by omega)]
      · rw [dif_neg (by omega), dif_neg (by omega)]
        congr 1
        omega
/-- the sum of the props of the orbits -/
theorem smK_sum {p : List Int} (hok : okPat p = true) (k : Nat) (hk : k ≤ (fsts p).length) : (smK p k).sum = (p.length : Int) * ((opsL p).take k).sum := by
  induction k with
  | zero =>
    have e : ∀ n, smF (fun _ => (0 : Int)) n = 0 := by
      intro n
      induction n with
      | zero => rfl
      | succ n ih => simp only [smF, ih]; rfl
    have e2 : smK p 0 = (List.range p.length).map (fun _ => (0 : Int)) := by
      unfold smK
      apply List.map_congr_left
      intro j _
      rw [if_neg (by omega)]
    rw [e2, sum_range, e]; simp
  | succ k ih =>
    have h1 : (smK p (k + 1)).sum = (smK p k).sum + (aloneL p ((fsts p).getD k 0)).sum := by
      rw [aloneL_is]
      unfold smK
      rw [sum_range, sum_range, sum_range, ← smF_add]
      refine smF_congr _ fun j hj => ?_
      have := smK_step hok (show k < (fsts p).length by omega) hj
      rw [smK_at p k j hj, smK_at p (k + 1) j hj, aloneL_at p _ j hj] at this
      exact this.symm
    obtain ⟨f1, f2⟩ := fsts_at (show k < (fsts p).length by omega)
    rw [h1, ih (by omega), aloneL_sum hok f1, wsum_props hok (by omega), opsL_take p k (by omega), List.sum_append, ← ops_get (by omega), ← Int.mul_add]
    simp
theorem ops_sum {p : List Int} (hok : okPat p = true) : (opsL p).sum = propsA p := by
  have h := smK_sum hok (fsts p).length (Nat.le_refl _)
  rw [smK_all hok, ← opsL_len, List.take_length, pat_sum hok] at h
  exact (Int.eq_of_mul_eq_mul_left (by have := (okPat_len hok).1; omega) h).symm
theorem ops_okList {p : List Int} (hok : okPat p = true) : okList (opsL p) = true := by
  obtain ⟨l1, l2⟩ := okPat_len hok
  have h1 : 1 ≤ (fsts p).length := by have := (ixO_spec hok (show 0 < p.length by omega)).1; omega
  have h2 := fsts_len p
  have h3 := opsL_len p
  simp only [okList, Bool.and_eq_true]
  refine ⟨List.all_eq_true.2 ?_, inB_true (by omega)⟩
  intro x hx
  obtain ⟨k, hk, he⟩ := List.getElem_of_mem hx
  have := ops_at hok k hk
  rw [show (opsL p).getD k 0 = x by simp [hk, he]] at this
  exact inB_true this
/-- the least common multiple is one of each -/
theorem lcK_dvd {L : List Int} (k : Nat) : ∀ n, k < n → ¬ L.getD k 0 = 0 → (L.getD k 0).toNat ∣ lcK L n := by
  intro n
  induction n with
  | zero => intro h; omega
  | succ n ih =>
    intro h h0
    by_cases e : k = n
    · subst e
      rw [lcK_more h0]
      exact Nat.dvd_lcm_right _ _
    · have hd := ih (by omega) h0
      by_cases hz : L.getD n 0 = 0
      · rw [lcK_zero hz]; exact hd
      · rw [lcK_more hz]
        exact Nat.dvd_trans hd (Nat.dvd_lcm_left _ _)
theorem full_mod {p : List Int} (hok : okPat p = true) {k : Nat} (hk : k < (fsts p).length) (h0 : 0 < (opsL p).getD k 0) : fpA p % ((opsL p).getD k 0 * (p.length : Int)) = 0 := by
  have hd := lcK_dvd (L := opsL p) k (opsL p).length (by rw [opsL_len]; exact hk) (by omega)
  obtain ⟨c, hc⟩ := hd
  rw [fpA_true hok, hc]
  obtain ⟨m, hm⟩ : ∃ m : Nat, (opsL p).getD k 0 = m := ⟨((opsL p).getD k 0).toNat, by omega⟩
  rw [hm, Int.toNat_natCast]
  apply Int.emod_eq_zero_of_dvd
  refine ⟨(c : Int), ?_⟩
  rw [Int.natCast_mul, Int.mul_right_comm]
theorem full_bounds {p : List Int} (hok : okPat p = true) : (p.length : Int) ≤ fpA p ∧ fpA p ≤ 129746337890625 * 12 ∧ fpA p % (p.length : Int) = 0 := by
  obtain ⟨l1, l2⟩ := okPat_len hok
  have hf := lcK_fits (L := opsL p) (fun k hk => ops_at hok k hk) (by rw [opsL_len]; have := fsts_len p; omega) (opsL p).length (Nat.le_refl _)
  rw [fpA_true hok]
  refine ⟨?_, Int.mul_le_mul (by omega) (by omega) (by omega) (by omega), Int.mul_emod_left _ _⟩
  have := Int.mul_le_mul (show (1 : Int) ≤ ((lcK (opsL p) (opsL p).length : Nat) : Int) by omega) (Int.le_refl (p.length : Int)) (by omega) (by omega)
  omega

/-- which throws have been met behind k orbits, and behind i throws of the next one -/
def snK (p : List Int) (k : Nat) : List Bool := (List.range p.length).map fun j => decide (ixO p j < k)
def snI (p : List Int) (k i : Nat) : List Bool := (List.range p.length).map fun j => decide (ixO p j < k) || ((wayL p ((fsts p).getD k 0)).take i).contains j
theorem snK_len (p : List Int) (k : Nat) : (snK p k).length = p.length := by simp [snK]
theorem snI_len (p : List Int) (k i : Nat) : (snI p k i).length = p.length := by simp [snI]
theorem snK_at (p : List Int) (k j : Nat) (hj : j < p.length) : (snK p k).getD j false = decide (ixO p j < k) := by simp [snK, hj]
theorem snK_zero (p : List Int) : snK p 0 = List.replicate p.length false := by
  apply List.ext_getElem
  · simp [snK]
  · intro i h1 h2; simp [snK]
theorem snI_zero (p : List Int) (k : Nat) : snI p k 0 = snK p k := by
  unfold snI snK
  apply List.map_congr_left
  intro j _
  simp
theorem way_ix {p : List Int} (hok : okPat p = true) {k : Nat} (hk : k < (fsts p).length) {j : Nat} (hj : j < p.length) : j ∈ wayL p ((fsts p).getD k 0) ↔ ixO p j = k := by
  obtain ⟨h1, h2⟩ := fsts_at hk
  rw [wayL_mem hok h1, ← lst_eq hok h1 hj, h2, ← ixO_is hok hj hk]
  exact ⟨fun h => h.symm, fun h => h.symm⟩
theorem snI_all {p : List Int} (hok : okPat p = true) {k : Nat} (hk : k < (fsts p).length) : snI p k (wayL p ((fsts p).getD k 0)).length = snK p (k + 1) := by
  unfold snI snK
  rw [List.take_length]
  apply List.map_congr_left
  intro j hj
  have := way_ix hok hk (List.mem_range.1 hj)
  rw [Bool.eq_iff_iff]
  simp only [Bool.or_eq_true, decide_eq_true_eq, List.contains_iff_mem, this]
  omega
theorem getD_lt (l : List Nat) (i : Nat) (h : i < l.length) : l.getD i 0 = l[i] := by simp [h]
theorem way_nth {p : List Int} {a i : Nat} (hi : i < (wayL p a).length) : (wayL p a).getD i 0 ∈ wayL p a := by
  rw [List.getD_eq_getElem?_getD, List.getElem?_eq_getElem hi]
  exact List.getElem_mem hi
theorem snI_new {p : List Int} (hok : okPat p = true) {k i : Nat} (hk : k < (fsts p).length) (hi : i < (wayL p ((fsts p).getD k 0)).length) : (snI p k i).getD ((wayL p ((fsts p).getD k 0)).getD i 0) false = false := by
  obtain ⟨h1, h2⟩ := fsts_at hk
  have hz := way_at hok h1 hi
  have hx := (way_ix hok hk hz).1 (way_nth hi)
  have hnm : ((wayL p ((fsts p).getD k 0)).take i).contains ((wayL p ((fsts p).getD k 0)).getD i 0) = false := by
    rw [← Bool.not_eq_true, List.contains_iff_mem]
    intro hm
    obtain ⟨q, hq, he⟩ := List.getElem_of_mem hm
    have hq2 : q < i := by simp at hq; omega
    rw [List.getElem_take] at he
    have hnd := wayL_nodup hok h1
    rw [List.nodup_iff_pairwise_ne] at hnd
    apply List.pairwise_iff_getElem.1 hnd q i (by omega) hi hq2
    rw [he, getD_lt _ i hi]
  unfold snI
  rw [List.getD_eq_getElem?_getD, List.getElem?_map, List.getElem?_range hz]
  show (decide _ || _) = false
  rw [hnm, hx]
  simp
theorem snI_set {p : List Int} {k i : Nat} (hi : i < (wayL p ((fsts p).getD k 0)).length) : (snI p k i).set ((wayL p ((fsts p).getD k 0)).getD i 0) true = snI p k (i + 1) := by
  have ht : (wayL p ((fsts p).getD k 0)).take (i + 1) = (wayL p ((fsts p).getD k 0)).take i ++ [(wayL p ((fsts p).getD k 0)).getD i 0] := by
    rw [List.take_succ_eq_append_getElem hi, getD_lt _ i hi]
  apply List.ext_getElem
  · simp [snI]
  · intro j h1 h2
    simp only [snI, List.getElem_set, List.getElem_map, List.getElem_range, ht, List.contains_append]
    by_cases e : (wayL p ((fsts p).getD k 0)).getD i 0 = j
    · rw [if_pos e, e]; simp
    · rw [if_neg e]
      have e2 : ([(wayL p ((fsts p).getD k 0)).getD i 0].contains j) = false := by
        rw [← Bool.not_eq_true, List.contains_iff_mem]
        intro h
        exact e (List.mem_singleton.1 h).symm
      rw [e2, Bool.or_false]
theorem way_ixO {p : List Int} (hok : okPat p = true) {k i : Nat} (hk : k < (fsts p).length) (hi : i < (wayL p ((fsts p).getD k 0)).length) : ixO p ((wayL p ((fsts p).getD k 0)).getD i 0) = k :=
  (way_ix hok hk (way_at hok (fsts_at hk).1 hi)).1 (way_nth hi)
end Go.Proofs.Ytlpeigeadjojnab
