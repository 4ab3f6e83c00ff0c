/- The distances from a state, as both sides find them: plain mathematics. It imports no program. No conditions. -/
import Derived.Test.YtdghbbnddgngoaaDoorArA
import Derived.Test.YtdghbbnddgngoaaDoorArF
namespace Go.Proofs.YtdghbbnddgngoaaDoor

/-- the states that one throw leads to -/
def adjN (h p i : Nat) : List Nat := (thrN h (mskG h p i)).map fun t => idxN (nextM (mskG h p i) t)
theorem adjN_len (h p i : Nat) : (adjN h p i).length = (thrN h (mskG h p i)).length := by simp [adjN]
theorem adjN_lt {h p : Nat} (h1 : 1 ≤ h) (hh : h ≤ 10) : ∀ i, i < cntG h p → ∀ t ∈ adjN h p i, t < cntG h p := by
  intro i hi t ht
  simp only [adjN, List.mem_map] at ht
  obtain ⟨u, hu, rfl⟩ := ht
  obtain ⟨a, b⟩ := next_in h1 hh hi hu
  exact (idx_in a b).1
theorem rowG_adj {h p i j : Nat} (hj : j < (adjN h p i).length) (d : ArcT) : ∃ t : Nat, (rowG h i (mskG h p i)).getD j d = ((i : Int), (t : Int), (((adjN h p i).getD j 0 : Nat) : Int)) := by
  rw [adjN_len] at hj
  refine ⟨(thrN h (mskG h p i))[j], ?_⟩
  simp [rowG, adjN, hj, arcOf]
def distA (h p a : Nat) : List Int := farQ (adjN h p) (cntG h p) a
theorem distA_len {h p a : Nat} (h1 : 1 ≤ h) (hh : h ≤ 10) (ha : a < cntG h p) : (distA h p a).length = cntG h p := farQ_len (adjN_lt h1 hh) ha
theorem visits_snoc (at' : Nat) (s : List Int × List Nat) (A : List Nat) (j : Nat) (hj : j < A.length) : visitsQ at' s (A.take (j + 1)) = visitQ at' (visitsQ at' s (A.take j)) (A.getD j 0) := by
  have e : A.getD j 0 = A[j] := by simp [hj]
  unfold visitsQ
  rw [List.take_succ_eq_append_getElem hj, e, List.foldl_append]
  rfl
theorem visitQ_len (at' : Nat) (s : List Int × List Nat) (t : Nat) : s.2.length ≤ (visitQ at' s t).2.length := by
  unfold visitQ
  split
  · simp
  · exact Nat.le_refl _
theorem visitsQ_len (at' : Nat) (A : List Nat) : ∀ s : List Int × List Nat, s.2.length ≤ (visitsQ at' s A).2.length := by
  induction A with
  | nil => intro s; exact Nat.le_refl _
  | cons t A ih => intro s; exact Nat.le_trans (visitQ_len at' s t) (ih _)
theorem runQ_next {G : Nat → List Nat} {s : List Int × List Nat} {k : Nat} (hk : k < (runQ G s k).2.length) : runQ G s (k + 1) = visitsQ ((runQ G s k).2.getD k 0) (runQ G s k) (G ((runQ G s k).2.getD k 0)) := by
  rw [runQ, stepQ, if_pos hk]
end Go.Proofs.YtdghbbnddgngoaaDoor
