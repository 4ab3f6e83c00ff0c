/- Plain mathematics of PairUp: which throws of two hands slide to a pattern. It imports no program. No conditions. -/
import Derived.Test.YtdgmmaghmdbnjaaSyn
import Derived.Test.YtdgmmaghmdbnjaaPat
namespace Go.Proofs.Ytdgmmaghmdbnjaa

/-- the throw of a hand that slides to a throw of a pattern -/
def backT (v : Int) (h : Nat) : Thr := if v % 2 = 1 then ((if h = 1 then v + 1 else v - 1), true) else (v, false)
/-- all throws of a pattern, twice if they are odd in number -/
def allP (p : List Int) : List Int := if p.length % 2 = 1 then p ++ p else p
def pairAt (l : List Int) (i : Nat) : Syn := (backT (l.getD (2 * i) 0) 0, backT (l.getD (2 * i + 1) 0) 1)
def pairL (l : List Int) : List Syn := (List.range (l.length / 2)).map (pairAt l)
def goodP (l : List Int) : Bool := (List.range (l.length / 2)).all fun i => okT (pairAt l i).1 && okT (pairAt l i).2
/-- what PairUp answers -/
def pairC (p : List Int) : Int := if okPat p then (if 12 < (allP p).length then 5 else if goodP (allP p) then 0 else 10) else 1
def pairR (p : List Int) : List Syn := if okPat p = true ∧ ¬ 12 < (allP p).length ∧ goodP (allP p) = true then pairL (allP p) else []

theorem backT_odd {v : Int} {h : Nat} (e : v % 2 = 1) : backT v h = ((if h = 1 then v + 1 else v - 1), true) := by rw [backT, if_pos e]
theorem backT_even {v : Int} {h : Nat} (e : ¬ v % 2 = 1) : backT v h = (v, false) := by rw [backT, if_neg e]
/-- a throw that a hand can make is the one that slides to what it slides to -/
theorem back_slid {t : Thr} {h : Nat} (hh : h = 0 ∨ h = 1) (ht : okT t = true) : backT (slid t h) h = t := by
  obtain ⟨⟨h0, h1⟩, h2, h3⟩ := okT_iff.1 ht
  obtain ⟨v, c⟩ := t
  simp only at h0 h1 h2 h3
  cases c with
  | false =>
    rw [show slid (v, false) h = v from rfl, backT_even (by omega)]
  | true =>
    rcases hh with rfl | rfl
    · rw [show slid (v, true) 0 = v + 1 from rfl, backT_odd (by omega)]
      simp
    · rw [show slid (v, true) 1 = v - 1 from rfl, backT_odd (by omega)]
      simp
theorem slid_back {v : Int} {h : Nat} (hh : h = 0 ∨ h = 1) : slid (backT v h) h = v := by
  by_cases e : v % 2 = 1
  · rw [backT_odd e]
    rcases hh with rfl | rfl <;> simp [slid]
  · rw [backT_even e]; rfl
theorem pairL_len (l : List Int) : (pairL l).length = l.length / 2 := by simp [pairL]
theorem pairL_at (l : List Int) (i : Nat) (h : i < l.length / 2) : (pairL l).getD i s0 = pairAt l i := by simp [pairL, h]
theorem pairL_take (l : List Int) (k : Nat) (hk : k < l.length / 2) : (pairL l).take (k + 1) = (pairL l).take k ++ [pairAt l k] := by
  rw [List.take_succ_eq_append_getElem (by rw [pairL_len]; exact hk)]
  simp [pairL]
theorem goodP_bad {l : List Int} (i : Nat) (hi : i < l.length / 2) (h : (okT (pairAt l i).1 && okT (pairAt l i).2) = false) : goodP l = false := by
  rw [goodP, List.all_eq_false]
  exact ⟨i, by simpa using hi, by rw [h]; simp⟩
theorem goodP_good {l : List Int} (h : ∀ i, i < l.length / 2 → okT (pairAt l i).1 = true ∧ okT (pairAt l i).2 = true) : goodP l = true := by
  rw [goodP, List.all_eq_true]
  intro i hi
  have := h i (by simpa using hi)
  rw [this.1, this.2]; rfl
theorem goodP_at {l : List Int} (h : goodP l = true) (i : Nat) (hi : i < l.length / 2) : okT (pairAt l i).1 = true ∧ okT (pairAt l i).2 = true := by
  rw [goodP, List.all_eq_true] at h
  simpa using h i (by simpa using hi)
theorem allP_odd {p : List Int} (h : p.length % 2 = 1) : allP p = p ++ p := by rw [allP, if_pos h]
theorem allP_even {p : List Int} (h : ¬ p.length % 2 = 1) : allP p = p := by rw [allP, if_neg h]
theorem allP_len (p : List Int) : (allP p).length % 2 = 0 ∧ p.length ≤ (allP p).length := by
  by_cases h : p.length % 2 = 1
  · rw [allP_odd h, List.length_append]; omega
  · rw [allP_even h]; omega
theorem allP_mem {p : List Int} {x : Int} (h : x ∈ allP p) : x ∈ p := by
  by_cases e : p.length % 2 = 1
  · rw [allP_odd e] at h; simpa using h
  · rw [allP_even e] at h; exact h
theorem pair_bad {p : List Int} (h : okPat p = false) : pairC p = 1 ∧ pairR p = [] := by simp [pairC, pairR, h]
theorem pair_full {p : List Int} (h : okPat p = true) (h2 : 12 < (allP p).length) : pairC p = 5 ∧ pairR p = [] := by simp [pairC, pairR, h, h2]
theorem pair_lost {p : List Int} (h : okPat p = true) (h2 : ¬ 12 < (allP p).length) (h3 : goodP (allP p) = false) : pairC p = 10 ∧ pairR p = [] := by simp [pairC, pairR, h, h2, h3]
theorem pair_good {p : List Int} (h : okPat p = true) (h2 : ¬ 12 < (allP p).length) (h3 : goodP (allP p) = true) : pairC p = 0 ∧ pairR p = pairL (allP p) := by simp [pairC, pairR, h, h2, h3]
theorem pairR_len (p : List Int) : (pairR p).length ≤ 6 := by
  unfold pairR
  split
  · rename_i h; rw [pairL_len]; omega
  · simp
end Go.Proofs.Ytdgmmaghmdbnjaa
