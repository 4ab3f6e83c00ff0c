/- Multiplex, plain: two patterns at once: the rows put together and sorted are a pattern where none has more than four throws. No conditions but that both are patterns of one period. -/
import Derived.Test.YtgjmhihomklooaaPropsM
namespace Go.Proofs.Ytgjmhihomklooaa
open Go.RowKit
set_option linter.unusedSimpArgs false
set_option linter.unusedVariables false

/-- each beat of both, sorted -/
def addG (p q : List (List Int)) : List (List Int) := (List.range p.length).map fun i => sortL (p.getD i [] ++ q.getD i [])
theorem addG_len (p q : List (List Int)) : (addG p q).length = p.length := by simp [addG]
theorem addG_at (p q : List (List Int)) (i : Nat) (hi : i < p.length) : (addG p q).getD i [] = sortL (p.getD i [] ++ q.getD i []) := by simp [addG, hi]
theorem addG_take (p q : List (List Int)) (i : Nat) (hi : i < p.length) : (addG p q).take (i + 1) = (addG p q).take i ++ [sortL (p.getD i [] ++ q.getD i [])] := by
  rw [List.take_succ_eq_append_getElem (by rw [addG_len]; exact hi)]
  congr 2
  simp [addG, hi]
theorem nz_nz (b : List Int) : nz (nz b) = nz b := by simp [nz]
theorem nz_perm {a b : List Int} (h : a.Perm b) : (nz a).Perm (nz b) := h.filter _
theorem nz_sortL (b : List Int) : (nz (sortL b)).Perm (nz b) := by
  unfold sortL
  by_cases h : (nz b).length = 0
  · rw [if_pos h, List.length_eq_zero_iff.1 h]
    exact List.Perm.refl _
  · rw [if_neg h]
    have := nz_perm (descL_perm b)
    rwa [nz_nz] at this
theorem propsR_perm (n i : Nat) {a b : List Int} (h : (nz a).Perm (nz b)) : (propsR n i a).Perm (propsR n i b) := h.map _
theorem propsR_append (n i : Nat) (a b : List Int) : propsR n i (a ++ b) = propsR n i a ++ propsR n i b := by
  unfold propsR; rw [nz_append, List.map_append]
theorem propsTo_succ (p : List (List Int)) (k : Nat) : propsTo p (k + 1) = propsTo p k ++ propsR p.length k (p.getD k []) := rfl
theorem propsTo_add (p q : List (List Int)) (hl : p.length = q.length) : ∀ k, k ≤ p.length → (propsTo (addG p q) k).Perm (propsTo p k ++ propsTo q k)
  | 0, _ => List.Perm.refl _
  | k + 1, hk => by
    have ih := propsTo_add p q hl k (by omega)
    rw [propsTo_succ, propsTo_succ, propsTo_succ, addG_len, addG_at p q k (by omega), ← hl]
    have h1 := propsR_perm p.length k (nz_sortL (p.getD k [] ++ q.getD k []))
    rw [propsR_append] at h1
    refine (ih.append h1).trans ?_
    rw [List.append_assoc, List.append_assoc]
    refine List.Perm.append_left _ ?_
    rw [← List.append_assoc, ← List.append_assoc]
    exact List.Perm.append_right _ List.perm_append_comm
theorem rowOk_sortL {c : List Int} (h : ∀ x ∈ c, 0 ≤ x ∧ x ≤ 15) (h4 : (nz c).length ≤ 4) : rowOk (sortL c) = true := by
  unfold sortL
  by_cases h0 : (nz c).length = 0
  · rw [if_pos h0]; decide
  · rw [if_neg h0]
    have hl := descL_len c
    have hmem : ∀ k, (hk : k < (descL c).length) → (descL c)[k] ∈ nz c := fun k hk => (descL_perm c).subset (List.getElem_mem hk)
    refine rowOk_good (by omega) (by omega) fun k hk => okAtB_mk ?_ (fun e => ?_) fun h => ?_
    · rw [show (descL c).getD k 0 = (descL c)[k] by simp [hk]]
      exact h _ (mem_nz.1 (hmem k hk)).1
    · exact absurd (by rw [show (descL c).getD k 0 = (descL c)[k] by simp [hk]] at e; exact e) (mem_nz.1 (hmem k hk)).2
    · have := (List.pairwise_iff_getElem.1 (descL_sorted c)) (k - 1) k (by omega) hk (by omega)
      simp only [geB, decide_eq_true_eq] at this
      have hk' : k - 1 < (descL c).length := by omega
      simpa [hk, hk'] using this
theorem rowOk_mem {b : List Int} (h : rowOk b = true) : ∀ x ∈ b, 0 ≤ x ∧ x ≤ 15 := fun x hx => by
  obtain ⟨k, hk, rfl⟩ := List.getElem_of_mem hx
  have := (okAtB_parts (rowOk_at h k hk)).1
  rwa [show b.getD k 0 = b[k] by simp [hk]] at this
theorem add_mem {p q : List (List Int)} (hp : shapeL p = true) (hq : shapeL q = true) (hl : p.length = q.length) (i : Nat) (hi : i < p.length) : ∀ x ∈ p.getD i [] ++ q.getD i [], 0 ≤ x ∧ x ≤ 15 := fun x hx => by
  rcases List.mem_append.1 hx with h | h
  · exact rowOk_mem (shapeL_at hp i hi) x h
  · exact rowOk_mem (shapeL_at hq i (by omega)) x h
theorem add_ok {p q : List (List Int)} (hp : okM p = true) (hq : okM q = true) (hl : p.length = q.length) (h4 : ∀ i, i < p.length → (nz (p.getD i [] ++ q.getD i [])).length ≤ 4) : okM (addG p q) = true := by
  have sp := okM_shape hp
  have sq := okM_shape hq
  have np := shapeL_num sp
  have hs : shapeL (addG p q) = true := shapeL_good (by rw [addG_len]; exact np.1) (by rw [addG_len]; exact np.2) fun i hi => by
    rw [addG_len] at hi
    rw [addG_at p q i hi]
    exact rowOk_sortL (add_mem sp sq hl i hi) (h4 i hi)
  unfold okM at hp hq ⊢
  rw [Bool.and_eq_true] at hp hq
  rw [hs, Bool.true_and]
  have bp := (balance_iff np.1).1 hp.2
  have bq := (balance_iff (by omega)).1 hq.2
  refine (balance_iff (by rw [addG_len]; exact np.1)).2 ?_
  have h := propsTo_add p q hl p.length (Nat.le_refl _)
  unfold thrownL landL at *
  rw [addG_len]
  rw [← hl] at bq
  refine (h.map Prod.fst).trans (List.Perm.trans ?_ (h.map Prod.snd).symm)
  rw [List.map_append, List.map_append]
  exact bp.append bq
theorem add_full {p q : List (List Int)} (i : Nat) (hi : i < p.length) (h4 : 4 < (nz (p.getD i [] ++ q.getD i [])).length) : okM (addG p q) = false := by
  unfold okM
  rw [shapeL_bad i (by rw [addG_len]; exact hi) (by
    rw [addG_at p q i hi]
    have := sortL_len (p.getD i [] ++ q.getD i [])
    exact rowOk_len (by split at this <;> omega)), Bool.false_and]
end Go.Proofs.Ytgjmhihomklooaa
