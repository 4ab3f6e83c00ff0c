/- Plain mathematics of the arcs between the states of one kind. It imports no program. No conditions. -/
import Derived.Test.YtdghbbnddgngoaaGpA
namespace Go.Proofs.Ytdghbbnddgngoaa

/-- an arc: from, throw, to -/
abbrev ArcT := Int × Int × Int
/-- the throws that are possible, as numbers -/
def thrN (h m : Nat) : List Nat := (List.range (h + 1)).filter (fun t : Nat => canI h m (t : Int))
theorem thrN_throws (h m : Nat) : throwsL h m = (thrN h m).map (fun t : Nat => (t : Int)) := rfl
theorem thrN_len (h m : Nat) : (thrN h m).length ≤ h + 1 := by
  have := List.length_filter_le (fun t : Nat => canI h m (t : Int)) (List.range (h + 1))
  simpa [thrN] using this
theorem thrN_mem {h m t : Nat} (k : t ∈ thrN h m) : t ≤ h ∧ canI h m (t : Int) = true := by
  simp only [thrN, List.mem_filter, List.mem_range] at k
  exact ⟨by omega, k.2⟩
def arcOf (i m t : Nat) : ArcT := ((i : Int), (t : Int), (idxN (nextM m t) : Int))
/-- the arcs from the state with the index i, of the mask m -/
def rowG (h i m : Nat) : List ArcT := (thrN h m).map (arcOf i m)
theorem rowG_len (h i m : Nat) : (rowG h i m).length = (thrN h m).length := by simp [rowG]
theorem rowG_take {h i m k : Nat} (hk : k < (thrN h m).length) : (rowG h i m).take (k + 1) = (rowG h i m).take k ++ [arcOf i m ((thrN h m).getD k 0)] := by
  rw [List.take_succ_eq_append_getElem (by rw [rowG_len]; exact hk)]
  simp [rowG, hk]
/-- the number of states -/
def cntG (h p : Nat) : Nat := (mskN p (2 ^ h)).length
def mskG (h p i : Nat) : Nat := (mskN p (2 ^ h)).getD i 0
theorem cntG_le (h p : Nat) (hh : h ≤ 10) : cntG h p ≤ 1024 := Nat.le_trans (mskN_len p (2 ^ h)) (pow_lt_1024 hh)
theorem mskG_at {h p i : Nat} (hi : i < cntG h p) : mskG h p i < 2 ^ h ∧ popN (mskG h p i) = p := mskN_at hi
/-- the arcs, row by row -/
def gphG (h p : Nat) : List (List ArcT) := (List.range (cntG h p)).map fun i => rowG h i (mskG h p i)
theorem gphG_len (h p : Nat) : (gphG h p).length = cntG h p := by simp [gphG]
theorem gphG_at {h p i : Nat} (hi : i < cntG h p) : (gphG h p).getD i [] = rowG h i (mskG h p i) := by simp [gphG, hi]
def arcTo (h p k : Nat) : List ArcT := ((gphG h p).take k).flatten
def arcG (h p : Nat) : List ArcT := (gphG h p).flatten
theorem arcTo_zero (h p : Nat) : arcTo h p 0 = [] := rfl
theorem arcTo_all (h p : Nat) : arcTo h p (cntG h p) = arcG h p := by
  unfold arcTo arcG
  rw [List.take_of_length_le (by rw [gphG_len]; exact Nat.le_refl _)]
theorem arcTo_step {h p k : Nat} (hk : k < cntG h p) : arcTo h p (k + 1) = arcTo h p k ++ rowG h k (mskG h p k) := by
  unfold arcTo
  have h1 : k < (gphG h p).length := by rw [gphG_len]; exact hk
  rw [List.take_succ_eq_append_getElem h1, List.flatten_append]
  have h2 : (gphG h p)[k] = rowG h k (mskG h p k) := by simp [gphG]
  simp [h2]
theorem arcTo_len (h p k : Nat) : (arcTo h p k).length ≤ k * (h + 1) := by
  induction k with
  | zero => simp [arcTo_zero]
  | succ k ih =>
    by_cases hk : k < cntG h p
    · rw [arcTo_step hk, List.length_append, rowG_len, Nat.add_mul]
      have := thrN_len h (mskG h p k)
      omega
    · have e : arcTo h p (k + 1) = arcTo h p k := by
        unfold arcTo
        rw [List.take_of_length_le (by rw [gphG_len]; omega), List.take_of_length_le (by rw [gphG_len]; omega)]
      rw [e, Nat.add_mul]; omega
theorem arcG_len (h p : Nat) (hh : h ≤ 10) : (arcG h p).length ≤ 12000 := by
  rw [← arcTo_all]
  have h1 := arcTo_len h p (cntG h p)
  have h2 := cntG_le h p hh
  have h3 : cntG h p * (h + 1) ≤ 1024 * 11 := Nat.mul_le_mul h2 (by omega)
  omega
/-- the kind of a state is that of the one behind a throw -/
theorem next_kind : ∀ h, h < 11 → ∀ m, m < 2 ^ h → ∀ t : Nat, t < 11 → canI h m (t : Int) = true → popN (nextM m t) = popN m := by decide +kernel
theorem thrN_some : ∀ h, h < 11 → ∀ m, m < 2 ^ h → (thrN h m).length ≠ 0 := by decide +kernel
theorem next_in {h p i t : Nat} (h1 : 1 ≤ h) (hh : h ≤ 10) (hi : i < cntG h p) (ht : t ∈ thrN h (mskG h p i)) : nextM (mskG h p i) t < 2 ^ h ∧ popN (nextM (mskG h p i) t) = p := by
  obtain ⟨a, b⟩ := mskG_at hi
  obtain ⟨c, d⟩ := thrN_mem ht
  exact ⟨nextM_lt h1 a c, by rw [next_kind h (by omega) _ a t (by omega) d, b]⟩
theorem idx_in {h p m : Nat} (hm : m < 2 ^ h) (hp : popN m = p) : idxN m < cntG h p ∧ mskG h p (idxN m) = m := by
  subst hp; exact mskN_idx hm
theorem row_to {h p i : Nat} (h1 : 1 ≤ h) (hh : h ≤ 10) (hi : i < cntG h p) {x : ArcT} (hx : x ∈ rowG h i (mskG h p i)) : x.1 = i ∧ ∃ j : Nat, x.2.2 = j ∧ j < cntG h p := by
  simp only [rowG, List.mem_map] at hx
  obtain ⟨t, ht, rfl⟩ := hx
  obtain ⟨a, b⟩ := next_in h1 hh hi ht
  exact ⟨rfl, _, rfl, (idx_in a b).1⟩
end Go.Proofs.Ytdghbbnddgngoaa
