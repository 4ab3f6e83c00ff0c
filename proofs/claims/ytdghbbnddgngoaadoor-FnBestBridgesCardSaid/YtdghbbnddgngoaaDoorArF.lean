/- Breadth first over numbered states: what the queue and the distances are behind each step. It imports no program. No conditions. -/
import Derived.Test.YtdghbbnddgngoaaDoorBase
namespace Go.Proofs.YtdghbbnddgngoaaDoor

/-- an arc's end is visited: it gets its distance and joins the queue, if it has not been reached -/
def visitQ (at' : Nat) (s : List Int × List Nat) (to : Nat) : List Int × List Nat :=
  if s.1.getD to 0 = -1 then (s.1.set to (s.1.getD at' 0 + 1), s.2 ++ [to]) else s
def visitsQ (at' : Nat) (s : List Int × List Nat) (ts : List Nat) : List Int × List Nat := ts.foldl (visitQ at') s
def stepQ (G : Nat → List Nat) (k : Nat) (s : List Int × List Nat) : List Int × List Nat :=
  if k < s.2.length then visitsQ (s.2.getD k 0) s (G (s.2.getD k 0)) else s
def startQ (n a : Nat) : List Int × List Nat := ((List.replicate n (-1)).set a 0, [a])
def runQ (G : Nat → List Nat) (s : List Int × List Nat) : Nat → List Int × List Nat
  | 0 => s
  | k + 1 => stepQ G k (runQ G s k)
def farQ (G : Nat → List Nat) (n a : Nat) : List Int := (runQ G (startQ n a) n).1

structure InvQ (n : Nat) (s : List Int × List Nat) : Prop where
  len : s.1.length = n
  mem : ∀ q ∈ s.2, q < n ∧ 0 ≤ s.1.getD q 0
  low : ∀ i, -1 ≤ s.1.getD i 0
  top : ∀ i, i < n → s.1.getD i 0 < s.2.length
  cnt : s.1.count (-1) + s.2.length = n

theorem getD_setQ (l : List Int) (i j : Nat) (a : Int) (hi : i < l.length) : (l.set i a).getD j 0 = if i = j then a else l.getD j 0 := by
  by_cases e : i = j
  · subst e; simp [hi]
  · simp [List.getD_eq_getElem?_getD, e]

theorem InvQ.one {n at' to : Nat} {s : List Int × List Nat} (h : InvQ n s) (ha : at' ∈ s.2) (ht : to < n) : InvQ n (visitQ at' s to) ∧ at' ∈ (visitQ at' s to).2 := by
  unfold visitQ
  split
  · rename_i hm
    obtain ⟨a1, a2⟩ := h.mem at' ha
    have a3 := h.top at' a1
    have hl := h.len
    have hc := h.cnt
    refine ⟨⟨by simpa using hl, fun q hq => ?_, fun i => ?_, fun i hi => ?_, ?_⟩, by simp [ha]⟩
    · simp only [List.mem_append, List.mem_singleton] at hq
      rw [getD_setQ _ _ _ _ (by omega)]
      rcases hq with hq | rfl
      · obtain ⟨b1, b2⟩ := h.mem q hq
        refine ⟨b1, ?_⟩
        split <;> omega
      · exact ⟨ht, by rw [if_pos rfl]; omega⟩
    · rw [getD_setQ _ _ _ _ (by omega)]
      have := h.low i
      split <;> omega
    · rw [getD_setQ _ _ _ _ (by omega)]
      have := h.top i hi
      simp only [List.length_append, List.length_singleton]
      split <;> omega
    · have h1 : (s.1)[to]'(by omega) = -1 := by
        have : to < s.1.length := by omega
        simpa [this] using hm
      have h2 : 0 < s.1.count (-1) := List.count_pos_iff.2 (by rw [← h1]; exact List.getElem_mem _)
      have e2 : ((s.1.getD at' 0 + 1) == -1) = false := beq_eq_false_iff_ne.2 (by omega)
      rw [List.count_set (by omega), h1, e2]
      simp
      omega
  · exact ⟨h, ha⟩
theorem InvQ.all {n at' : Nat} (ts : List Nat) (ht : ∀ t ∈ ts, t < n) : ∀ {s : List Int × List Nat}, InvQ n s → at' ∈ s.2 → InvQ n (visitsQ at' s ts) ∧ at' ∈ (visitsQ at' s ts).2 := by
  induction ts with
  | nil => intro s h ha; exact ⟨h, ha⟩
  | cons t ts ih =>
    intro s h ha
    obtain ⟨h1, h2⟩ := h.one ha (ht t (by simp))
    exact ih (fun t h => ht t (by simp [h])) h1 h2
theorem InvQ.start {n a : Nat} (ha : a < n) : InvQ n (startQ n a) := by
  have hz : a < (List.replicate n (-1 : Int)).length := by simpa using ha
  refine ⟨by simp [startQ], fun q hq => ?_, fun i => ?_, fun i hi => ?_, ?_⟩
  · simp [startQ] at hq; subst hq
    exact ⟨ha, by unfold startQ; rw [getD_setQ _ _ _ _ hz, if_pos rfl]; omega⟩
  · unfold startQ; rw [getD_setQ _ _ _ _ hz]
    split
    · omega
    · by_cases h : i < n <;> simp [List.getD_eq_getElem?_getD, h]
  · unfold startQ; rw [getD_setQ _ _ _ _ hz]
    split
    · simp
    · simp [List.getD_eq_getElem?_getD, hi]
  · unfold startQ
    have h1 : (List.replicate n (-1 : Int))[a]'hz = -1 := by simp
    rw [List.count_set hz, h1]
    simp
    omega
theorem getD_memQ {l : List Nat} {k : Nat} (h : k < l.length) : l.getD k 0 ∈ l := by
  have : l.getD k 0 = l[k] := by simp [h]
  rw [this]; exact List.getElem_mem h
theorem InvQ.step {G : Nat → List Nat} {n k : Nat} {s : List Int × List Nat} (hG : ∀ i, i < n → ∀ t ∈ G i, t < n) (h : InvQ n s) : InvQ n (stepQ G k s) := by
  unfold stepQ
  split
  · rename_i hk
    have hm := getD_memQ hk
    exact (InvQ.all _ (hG _ (h.mem _ hm).1) h hm).1
  · exact h
theorem InvQ.run {G : Nat → List Nat} {n a : Nat} (hG : ∀ i, i < n → ∀ t ∈ G i, t < n) (ha : a < n) (k : Nat) : InvQ n (runQ G (startQ n a) k) := by
  induction k with
  | zero => exact InvQ.start ha
  | succ k ih => exact ih.step hG
theorem runQ_end {G : Nat → List Nat} {s : List Int × List Nat} {k : Nat} (hk : (runQ G s k).2.length ≤ k) (j : Nat) : runQ G s (k + j) = runQ G s k := by
  induction j with
  | zero => rfl
  | succ j ih =>
    rw [show k + (j + 1) = (k + j) + 1 from rfl, runQ, ih, stepQ, if_neg (by omega)]
theorem farQ_end {G : Nat → List Nat} {n a k : Nat} (hG : ∀ i, i < n → ∀ t ∈ G i, t < n) (ha : a < n) (hk : (runQ G (startQ n a) k).2.length = k) : (runQ G (startQ n a) k).1 = farQ G n a := by
  have h := InvQ.run hG ha k
  have h2 := h.cnt
  unfold farQ
  obtain ⟨j, rfl⟩ : ∃ j, n = k + j := ⟨n - k, by omega⟩
  rw [runQ_end (by omega) j]
theorem farQ_len {G : Nat → List Nat} {n a : Nat} (hG : ∀ i, i < n → ∀ t ∈ G i, t < n) (ha : a < n) : (farQ G n a).length = n := (InvQ.run hG ha n).len
end Go.Proofs.YtdghbbnddgngoaaDoor
