/- Plain mathematics of the states of one kind: their masks in order, and the place of one among them. It imports no program. No conditions. -/
import Derived.Test.YtdghbbnddgngoaaStP
namespace Go.Proofs.Ytdghbbnddgngoaa

/-- the masks below k with p bits, in order -/
def mskN (p k : Nat) : List Nat := (List.range k).filter (fun m : Nat => decide (popN m = p))
def mskI (p k : Nat) : List Int := (mskN p k).map (fun m : Nat => (m : Int))
def mskS (h p k : Nat) : List (Int × Int) := (mskN p k).map (fun m : Nat => ((h : Int), (m : Int)))
theorem mskN_hit {p k : Nat} (h : popN k = p) : mskN p (k + 1) = mskN p k ++ [k] := by
  simp [mskN, List.range_succ, List.filter_append, h]
theorem mskN_miss {p k : Nat} (h : popN k ≠ p) : mskN p (k + 1) = mskN p k := by
  simp [mskN, List.range_succ, List.filter_append, h]
theorem mskN_len (p k : Nat) : (mskN p k).length ≤ k := by
  have := List.length_filter_le (fun m : Nat => decide (popN m = p)) (List.range k)
  simpa [mskN] using this
theorem mskI_hit {p k : Nat} (h : popN k = p) : mskI p (k + 1) = mskI p k ++ [(k : Int)] := by
  rw [mskI, mskN_hit h, List.map_append]; rfl
theorem mskI_miss {p k : Nat} (h : popN k ≠ p) : mskI p (k + 1) = mskI p k := by rw [mskI, mskN_miss h]; rfl
theorem mskS_hit {p k : Nat} (a : Nat) (h : popN k = p) : mskS a p (k + 1) = mskS a p k ++ [((a : Int), (k : Int))] := by
  rw [mskS, mskN_hit h, List.map_append]; rfl
theorem mskS_miss {p k : Nat} (a : Nat) (h : popN k ≠ p) : mskS a p (k + 1) = mskS a p k := by rw [mskS, mskN_miss h]; rfl
theorem mskI_len (p k : Nat) : (mskI p k).length = (mskN p k).length := by simp [mskI]
theorem mskS_len (a p k : Nat) : (mskS a p k).length = (mskN p k).length := by simp [mskS]
theorem mskN_lt {p k m : Nat} (h : m ∈ mskN p k) : m < k ∧ popN m = p := by simpa [mskN] using h
theorem mskI_at {p k i : Nat} (hi : i < (mskN p k).length) : (mskI p k).getD i 0 = (((mskN p k).getD i 0 : Nat) : Int) := by
  simp [mskI, hi]
theorem mskN_at {p k i : Nat} (hi : i < (mskN p k).length) : (mskN p k).getD i 0 < k ∧ popN ((mskN p k).getD i 0) = p := by
  have : (mskN p k).getD i 0 = (mskN p k)[i] := by simp [hi]
  rw [this]
  exact mskN_lt (List.getElem_mem hi)
theorem mskS_at {a p k i : Nat} (hi : i < (mskN p k).length) : (mskS a p k).getD i (0, 0) = ((a : Int), (((mskN p k).getD i 0 : Nat) : Int)) := by
  simp [mskS, hi]
theorem mskS_take {a p k i : Nat} (hi : i < (mskN p k).length) : (mskS a p k).take (i + 1) = (mskS a p k).take i ++ [((a : Int), (((mskN p k).getD i 0 : Nat) : Int))] := by
  rw [List.take_succ_eq_append_getElem (by rw [mskS_len]; exact hi)]
  simp [mskS, hi]
theorem mskN_up {p k i j : Nat} (hij : i < j) (hj : j < (mskN p k).length) : (mskN p k).getD i 0 < (mskN p k).getD j 0 := by
  have hp : (mskN p k).Pairwise (· < ·) := List.pairwise_lt_range.filter _
  have := List.pairwise_iff_getElem.1 hp i j (by omega) hj hij
  have e1 : (mskN p k).getD i 0 = (mskN p k)[i]'(by omega) := by simp [show i < (mskN p k).length by omega]
  have e2 : (mskN p k).getD j 0 = (mskN p k)[j] := by simp [hj]
  rw [e1, e2]; exact this
theorem mskN_pre (p k j : Nat) : ∃ l, mskN p (k + j) = mskN p k ++ l := by
  induction j with
  | zero => exact ⟨[], by simp⟩
  | succ j ih =>
    obtain ⟨l, e⟩ := ih
    by_cases h : popN (k + j) = p
    · exact ⟨l ++ [k + j], by rw [show k + (j + 1) = (k + j) + 1 from rfl, mskN_hit h, e, List.append_assoc]⟩
    · exact ⟨l, by rw [show k + (j + 1) = (k + j) + 1 from rfl, mskN_miss h, e]⟩
/-- the place of a mask -/
def idxN (m : Nat) : Nat := (mskN (popN m) m).length
theorem mskN_idx {m k : Nat} (hm : m < k) : idxN m < (mskN (popN m) k).length ∧ (mskN (popN m) k).getD (idxN m) 0 = m := by
  obtain ⟨j, rfl⟩ : ∃ j, k = m + 1 + j := ⟨k - (m + 1), by omega⟩
  obtain ⟨l, e⟩ := mskN_pre (popN m) (m + 1) j
  rw [mskN_hit rfl] at e
  rw [e]
  unfold idxN
  constructor
  · simp
  · simp
theorem mskN_idx_ne {m k i : Nat} (hm : m < k) (hi : i < idxN m) : (mskN (popN m) k).getD i 0 ≠ m := by
  obtain ⟨h1, h2⟩ := mskN_idx hm
  have := mskN_up (p := popN m) (k := k) hi h1
  omega
theorem popN_le (m : Nat) : popN m ≤ 10 := popK_le m 10
theorem idxN_le (m : Nat) : idxN m ≤ m := mskN_len _ _

/-- the states of a kind, what a function that lists them answers -/
def gndL (n h : Int) : List (Int × Int) := if inB h 1 10 && inB n 0 h then mskS h.toNat n.toNat (2 ^ h.toNat) else []
theorem gndL_len (n h : Int) : (gndL n h).length ≤ 1024 := by
  unfold gndL
  split
  · rename_i k
    simp only [Bool.and_eq_true, inB_iff] at k
    rw [mskS_len]
    have := mskN_len n.toNat (2 ^ h.toNat)
    have := pow_lt_1024 (a := h.toNat) (by omega)
    omega
  · simp
end Go.Proofs.Ytdghbbnddgngoaa
