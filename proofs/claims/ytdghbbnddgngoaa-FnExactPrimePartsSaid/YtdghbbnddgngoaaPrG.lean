/- The prime parts of a pattern, in plain mathematics: what PrimeParts answers. No conditions. -/
import Derived.Test.YtdghbbnddgngoaaPrA
import Derived.Test.YtdghbbnddgngoaaPrF
import Derived.Test.YtdghbbnddgngoaaStM
namespace Go.Proofs.Ytdghbbnddgngoaa
set_option linter.unusedSimpArgs false
set_option linter.unusedVariables false

theorem atL_top {p : List Int} (hok : okPat p = true) (i : Nat) (hi : i < p.length) : p.getD i 0 ≤ highA p := by
  rw [highA_true hok]
  exact hiF_ge (fun i => p.getD i 0) p.length i hi
/-- equal masks: all that lands is alike -/
theorem same_air {p : List Int} (hz : prC p = 0) {i k : Nat} (h : prF p i = prF p k) (j : Nat) : cmsS p i j = cmsS p k j := by
  obtain ⟨hok, _, _⟩ := prC_zero hz
  obtain ⟨a, b, c⟩ := prH_num hz
  have he : ofM p (i : Int) (prH p) = ofM p (k : Int) (prH p) := by
    unfold prF at h
    omega
  by_cases hj : j < prH p
  · have h1 := ofM_testBit p (i : Int) (prH p) j
    have h2 := ofM_testBit p (k : Int) (prH p) j
    rw [he, h2] at h1
    simpa [hj, cmsS] using h1.symm
  · have hfar : ∀ x : Nat, cmsS p x j = false := by
      intro x
      unfold cmsS
      refine decide_eq_false ?_
      have h1 := from_is hok (x := fromL p ((x : Int) + (j : Int))) (y := (x : Int) + (j : Int)) rfl
      obtain ⟨l1, l2⟩ := okPat_len hok
      have e0 := Int.emod_nonneg (fromL p ((x : Int) + (j : Int))) (show (p.length : Int) ≠ 0 by omega)
      have e1 := Int.emod_lt_of_pos (fromL p ((x : Int) + (j : Int))) (show 0 < (p.length : Int) by omega)
      have h2 : atL p (fromL p ((x : Int) + (j : Int))) ≤ highA p := atL_top hok _ (by omega)
      omega
    rw [hfar i, hfar k]
/-- where the first loop lies -/
def rpI (p : List Int) : Nat := (rpA p).toNat
def rpK (p : List Int) : Nat := (rpB p).toNat
theorem clash_at {h : Nat → Int} {n i k : Nat} (hc : clash h n = some (i, k)) : i < k ∧ k < n ∧ h i = h k := by
  unfold clash at hc
  obtain ⟨x, hx, he⟩ := List.exists_of_findSome?_eq_some hc
  obtain ⟨y, hy, e⟩ := Option.map_eq_some_iff.1 he
  cases e
  unfold clashAt at hy
  rw [List.find?_range_eq_some] at hy
  obtain ⟨h1, h2, _⟩ := hy
  exact ⟨List.mem_range.1 h2, List.mem_range.1 hx, by simpa using h1⟩
theorem rp_bounds {p : List Int} (hz : prC p = 0) : rpA p = (rpI p : Nat) ∧ rpB p = (rpK p : Nat) ∧ rpI p < rpK p ∧ rpK p ≤ p.length ∧ (∀ j, cmsS p (rpI p) j = cmsS p (rpK p) j) := by
  obtain ⟨hok, _, _⟩ := prC_zero hz
  have hl := (okPat_len hok).1
  unfold rpI rpK
  cases hc : clash (prF p) p.length with
  | none =>
    obtain ⟨e1, e2⟩ := rp_none hc
    rw [e1, e2]
    exact ⟨rfl, by omega, by omega, by omega, fun j => by rw [Int.toNat_natCast]; exact (cms_per hok j).symm⟩
  | some x =>
    obtain ⟨i, k⟩ := x
    obtain ⟨e1, e2⟩ := rp_some hc
    obtain ⟨h1, h2, h3⟩ := clash_at hc
    rw [e1, e2]
    exact ⟨by omega, by omega, by omega, by omega, fun j => same_air hz h3 j⟩
def partL (p : List Int) : List Int := (p.drop (rpI p)).take (rpK p - rpI p)
def restL (p : List Int) : List Int := p.take (rpI p) ++ p.drop (rpK p)
theorem partL_len {p : List Int} (hz : prC p = 0) : (partL p).length = rpK p - rpI p := by
  have := rp_bounds hz
  simp [partL]
  omega
theorem restL_len {p : List Int} (hz : prC p = 0) : (restL p).length + (rpK p - rpI p) = p.length := by
  have := rp_bounds hz
  simp [restL]
  omega
theorem prC_sub {p q : List Int} (hz : prC p = 0) (hq : okPat q = true) (h : ∀ x ∈ q, x ∈ p) : prC q = 0 := by
  obtain ⟨hok, h0, h10⟩ := prC_zero hz
  refine prC_ok hq ?_
  have : highA q ≤ highA p := by
    rw [highA_true hq]
    refine hiF_le _ _ _ h0 fun i hi => ?_
    have hm : q.getD i 0 ∈ q := by
      rw [List.getD_eq_getElem?_getD, List.getElem?_eq_getElem hi]
      exact List.getElem_mem hi
    obtain ⟨j, hj, he⟩ := List.getElem_of_mem (h _ hm)
    have := atL_top hok j hj
    rw [show p.getD j 0 = p[j] by simp [hj], he] at this
    exact this
  omega
theorem restL_ok {p : List Int} (hz : prC p = 0) : restL p = [] ∨ prC (restL p) = 0 := by
  obtain ⟨hok, _, _⟩ := prC_zero hz
  obtain ⟨_, _, b1, b2, b3⟩ := rp_bounds hz
  by_cases h : rpK p - rpI p < p.length
  · refine .inr (prC_sub hz (rest_ok hok b1 b2 h b3) ?_)
    intro x hx
    rcases List.mem_append.1 hx with h1 | h1
    · exact List.mem_of_mem_take h1
    · exact List.mem_of_mem_drop h1
  · left
    have := restL_len hz
    exact List.length_eq_zero_iff.1 (by omega)
theorem partL_ok {p : List Int} (hz : prC p = 0) : prC (partL p) = 0 := by
  obtain ⟨hok, _, _⟩ := prC_zero hz
  obtain ⟨_, _, b1, b2, b3⟩ := rp_bounds hz
  exact prC_sub hz (loop_ok hok b1 b2 b3) fun x hx => List.mem_of_mem_drop (List.mem_of_mem_take hx)
/-- the parts, one after the other -/
def ppL : Nat → List Int → List (List Int)
  | 0, _ => []
  | f + 1, p => if p = [] then [] else partL p :: ppL f (restL p)
theorem ppL_nil (f : Nat) : ppL f [] = [] := by cases f <;> simp [ppL]
theorem ppL_more {f : Nat} {p : List Int} (h : p ≠ []) : ppL (f + 1) p = partL p :: ppL f (restL p) := by rw [ppL, if_neg h]
theorem ppL_len : ∀ (f : Nat) (p : List Int), (ppL f p).length ≤ f := by
  intro f
  induction f with
  | zero => intro p; simp [ppL]
  | succ f ih =>
    intro p
    by_cases h : p = []
    · subst h; rw [ppL_nil]; simp
    · rw [ppL_more h]; have := ih (restL p); simp; omega
/-- what PrimeParts answers -/
def ppA (p : List Int) : List (List Int) := if prC p = 0 then ppL p.length p else []
end Go.Proofs.Ytdghbbnddgngoaa
