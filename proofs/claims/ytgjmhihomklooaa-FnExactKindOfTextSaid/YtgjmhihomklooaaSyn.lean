/- Plain mathematics of synchronous patterns: throws of two hands, where they land, which lists are patterns, mirrors, slides. It imports no program. No conditions. -/
import Derived.Test.YtgjmhihomklooaaPat
namespace Go.Proofs.Ytgjmhihomklooaa

/-- a throw of a hand: its value, and whether it crosses; the throws of both hands -/
abbrev Thr := Int × Bool
abbrev Syn := Thr × Thr
def t0 : Thr := (0, false)
def s0 : Syn := (t0, t0)

/-- can a hand make the throw? -/
def okT (t : Thr) : Bool := inB t.1 0 14 && decide (t.1 % 2 = 0) && (decide (0 < t.1) || !t.2)
theorem okT_iff {t : Thr} : okT t = true ↔ (0 ≤ t.1 ∧ t.1 ≤ 14) ∧ t.1 % 2 = 0 ∧ (0 < t.1 ∨ t.2 = false) := by
  simp [okT, inB, and_assoc]
/-- are these beats a list of beats? -/
def okSL (p : List Syn) : Bool := p.all (fun s => okT s.1 && okT s.2) && inB p.length 1 6

/-- all throws, by their numbers -/
def thrs (p : List Syn) : List Thr := p.flatMap fun s => [s.1, s.2]
theorem thrs_len : ∀ p : List Syn, (thrs p).length = 2 * p.length
  | [] => rfl
  | s :: p => by
    have := thrs_len p
    simp only [thrs, List.flatMap_cons, List.length_append, List.length_cons, List.length_nil] at this ⊢
    omega
theorem thrs_even : ∀ (p : List Syn) (i : Nat), i < p.length → (thrs p).getD (2 * i) t0 = (p.getD i s0).1
  | [], i, h => by simp at h
  | s :: p, 0, _ => rfl
  | s :: p, i + 1, h => by
    have := thrs_even p i (by simp at h; omega)
    rw [show 2 * (i + 1) = 2 * i + 1 + 1 by omega]
    exact this
theorem thrs_odd : ∀ (p : List Syn) (i : Nat), i < p.length → (thrs p).getD (2 * i + 1) t0 = (p.getD i s0).2
  | [], i, h => by simp at h
  | s :: p, 0, _ => rfl
  | s :: p, i + 1, h => by
    have := thrs_odd p i (by simp at h; omega)
    rw [show 2 * (i + 1) + 1 = 2 * i + 1 + 1 + 1 by omega]
    exact this
theorem thrs_take (p : List Syn) (i : Nat) (h : i < p.length) : thrs (p.take (i + 1)) = thrs (p.take i) ++ [(p.getD i s0).1, (p.getD i s0).2] := by
  rw [thrs, List.take_succ_eq_append_getElem h, List.flatMap_append]
  simp [thrs, h]
theorem thrs_append (p q : List Syn) : thrs (p ++ q) = thrs p ++ thrs q := by simp [thrs]

theorem okSL_len {p : List Syn} (h : okSL p = true) : 1 ≤ p.length ∧ p.length ≤ 6 := by
  simp [okSL, inB] at h; omega
theorem okSL_at {p : List Syn} (h : okSL p = true) (i : Nat) (hi : i < p.length) : okT (p.getD i s0).1 = true ∧ okT (p.getD i s0).2 = true := by
  simp only [okSL, Bool.and_eq_true, List.all_eq_true] at h
  have := h.1 (p.getD i s0) (by rw [List.getD_eq_getElem?_getD, List.getElem?_eq_getElem hi]; exact List.getElem_mem hi)
  exact this
theorem okSL_thr {p : List Syn} (h : okSL p = true) (k : Nat) (hk : k < 2 * p.length) : okT ((thrs p).getD k t0) = true := by
  have h2 := okSL_at h (k / 2) (by omega)
  rcases Nat.mod_two_eq_zero_or_one k with e | e
  · rw [show k = 2 * (k / 2) by omega, thrs_even p (k / 2) (by omega)]; exact h2.1
  · rw [show k = 2 * (k / 2) + 1 by omega, thrs_odd p (k / 2) (by omega)]; exact h2.2
theorem okSL_bad {p : List Syn} (i : Nat) (hi : i < p.length) (hb : (okT (p.getD i s0).1 && okT (p.getD i s0).2) = false) : okSL p = false := by
  have : p.all (fun s => okT s.1 && okT s.2) = false := by
    rw [List.all_eq_false]
    exact ⟨p.getD i s0, by rw [List.getD_eq_getElem?_getD, List.getElem?_eq_getElem hi]; exact List.getElem_mem hi, by rw [hb]; simp⟩
  simp [okSL, this]
theorem okSL_num {p : List Syn} (h : ¬ (1 ≤ p.length ∧ p.length ≤ 6)) : okSL p = false := by
  rw [okSL, inB_false (by omega), Bool.and_false]
theorem okSL_good {p : List Syn} (h1 : 1 ≤ p.length) (h2 : p.length ≤ 6) (h : ∀ i, i < p.length → okT (p.getD i s0).1 = true ∧ okT (p.getD i s0).2 = true) : okSL p = true := by
  rw [okSL, inB_true (by omega), Bool.and_true, List.all_eq_true]
  intro s hs
  obtain ⟨i, hi, rfl⟩ := List.getElem_of_mem hs
  have := h i hi
  rw [List.getD_eq_getElem?_getD, List.getElem?_eq_getElem hi] at this
  simpa using this

/-- the number of the other hand of an element -/
def oth (h : Int) : Int := if h % 2 = 0 then h + 1 else h - 1
/-- where the throw with a number lands -/
def lndS (p : List Syn) (k : Nat) : Int :=
  if ((thrs p).getD k t0).2 = true then oth (((k : Int) + ((thrs p).getD k t0).1) % (2 * (p.length : Int))) else ((k : Int) + ((thrs p).getD k t0).1) % (2 * (p.length : Int))
theorem lndS_plain {p : List Syn} {k : Nat} (h : ((thrs p).getD k t0).2 = false) : lndS p k = ((k : Int) + ((thrs p).getD k t0).1) % (2 * (p.length : Int)) := by rw [lndS, if_neg (by rw [h]; simp)]
theorem lndS_cross {p : List Syn} {k : Nat} (h : ((thrs p).getD k t0).2 = true) : lndS p k = oth (((k : Int) + ((thrs p).getD k t0).1) % (2 * (p.length : Int))) := by rw [lndS, if_pos h]
theorem oth_bound {h n : Int} (h0 : 0 ≤ h) (h1 : h < 2 * n) : 0 ≤ oth h ∧ oth h < 2 * n := by unfold oth; split <;> omega
theorem lndS_bound {p : List Syn} (h : okSL p = true) (k : Nat) : 0 ≤ lndS p k ∧ lndS p k < 2 * (p.length : Int) := by
  have hn := okSL_len h
  have e0 := Int.emod_nonneg ((k : Int) + ((thrs p).getD k t0).1) (show 2 * (p.length : Int) ≠ 0 by omega)
  have e1 := Int.emod_lt_of_pos ((k : Int) + ((thrs p).getD k t0).1) (show 0 < 2 * (p.length : Int) by omega)
  cases hc : ((thrs p).getD k t0).2 with
  | false => rw [lndS_plain hc]; exact ⟨e0, e1⟩
  | true => rw [lndS_cross hc]; exact oth_bound e0 e1

/-- a synchronous pattern -/
def okS (p : List Syn) : Bool := okSL p && (clash (lndS p) (2 * p.length)).isNone
theorem okS_list {p : List Syn} (h : okS p = true) : okSL p = true := by simp [okS] at h; exact h.1
/-- what SyncClash answers -/
def scA (p : List Syn) : Int := if okSL p then cl1 (clash (lndS p) (2 * p.length)) else 0
def scB (p : List Syn) : Int := if okSL p then cl2 (clash (lndS p) (2 * p.length)) else 0
def scC (p : List Syn) : Int := if okSL p then cl3 (clash (lndS p) (2 * p.length)) else 1
theorem sc_bad {p : List Syn} (h : okSL p = false) : scA p = 0 ∧ scB p = 0 ∧ scC p = 1 := by simp [scA, scB, scC, h]
theorem sc_good {p : List Syn} (h : okSL p = true) : scA p = cl1 (clash (lndS p) (2 * p.length)) ∧ scB p = cl2 (clash (lndS p) (2 * p.length)) ∧ scC p = cl3 (clash (lndS p) (2 * p.length)) := by simp [scA, scB, scC, h]
theorem scC_ok (p : List Syn) : (scC p == 0) = okS p := by
  cases h : okSL p with
  | false => simp [(sc_bad h).2.2, okS, h]
  | true =>
    rw [(sc_good h).2.2]
    cases hc : clash (lndS p) (2 * p.length) with
    | none => simp [okS, h, hc, cl3]
    | some x => simp [okS, h, hc, cl3]
/-- the code of a function of a synchronous pattern -/
def okSC (p : List Syn) : Int := if okS p then 0 else 1
theorem okSC_true {p : List Syn} (h : okS p = true) : okSC p = 0 := by rw [okSC, if_pos h]
theorem okSC_false {p : List Syn} (h : okS p = false) : okSC p = 1 := by rw [okSC, if_neg (by simp [h])]

/-- sums of throws -/
def sumT (l : List Thr) : Int := (l.map Prod.fst).sum
theorem sumT_take (l : List Thr) (k : Nat) (hk : k < l.length) : sumT (l.take (k + 1)) = sumT (l.take k) + (l.getD k t0).1 := by
  rw [sumT, sumT, List.take_succ_eq_append_getElem hk, List.map_append, List.sum_append]
  simp [hk]
theorem sumT_bound (l : List Thr) (h : ∀ k, k < l.length → 0 ≤ (l.getD k t0).1 ∧ (l.getD k t0).1 ≤ 14) (k : Nat) (hk : k ≤ l.length) : 0 ≤ sumT (l.take k) ∧ sumT (l.take k) ≤ 14 * k := by
  induction k with
  | zero => simp [sumT]
  | succ k ih =>
    have h1 := ih (by omega)
    have h2 := h k (by omega)
    rw [sumT_take l k (by omega)]
    omega
def crossT (l : List Thr) : Int := ((l.filter Prod.snd).length : Int)
theorem crossT_take (l : List Thr) (k : Nat) (hk : k < l.length) : crossT (l.take (k + 1)) = crossT (l.take k) + (if (l.getD k t0).2 then 1 else 0) := by
  rw [crossT, crossT, List.take_succ_eq_append_getElem hk, List.filter_append, List.length_append]
  cases hc : l[k].2 <;> simp [hk, hc]
theorem crossT_bound (l : List Thr) (k : Nat) (hk : k ≤ l.length) : 0 ≤ crossT (l.take k) ∧ crossT (l.take k) ≤ k := by
  have := List.length_filter_le Prod.snd (l.take k)
  rw [List.length_take] at this
  unfold crossT
  omega
def spropsA (p : List Syn) : Int := if okS p then sumT (thrs p) / (2 * (p.length : Int)) else 0
def scrossA (p : List Syn) : Int := if okS p then crossT (thrs p) else 0

/-- both hands exchanged -/
def mirS (p : List Syn) : List Syn := p.map fun s => (s.2, s.1)
theorem mirS_len (p : List Syn) : (mirS p).length = p.length := by simp [mirS]
theorem mirS_take (p : List Syn) (k : Nat) (hk : k < p.length) : (mirS p).take (k + 1) = (mirS p).take k ++ [((p.getD k s0).2, (p.getD k s0).1)] := by
  rw [List.take_succ_eq_append_getElem (by rw [mirS_len]; exact hk)]
  simp [mirS, hk]
def mirR (p : List Syn) : List Syn := if okS p then mirS p else []
def starC (p : List Syn) : Int := if okSL p then (if 6 < 2 * p.length then 5 else if okS (p ++ mirS p) then 0 else 9) else 1
def starR (p : List Syn) : List Syn := if okSL p = true ∧ ¬ 6 < 2 * p.length ∧ okS (p ++ mirS p) = true then p ++ mirS p else []

/-- the throw of a pattern for the throw with a number -/
def slid (t : Thr) (hand : Nat) : Int := if t.2 then (if hand = 0 then t.1 + 1 else t.1 - 1) else t.1
def slideL (p : List Syn) : List Int := (List.range (2 * p.length)).map fun k => slid ((thrs p).getD k t0) (k % 2)
theorem slideL_len (p : List Syn) : (slideL p).length = 2 * p.length := by simp [slideL]
theorem slideL_take (p : List Syn) (k : Nat) (hk : k < 2 * p.length) : (slideL p).take (k + 1) = (slideL p).take k ++ [slid ((thrs p).getD k t0) (k % 2)] := by
  rw [List.take_succ_eq_append_getElem (by rw [slideL_len]; exact hk)]
  simp [slideL]
def slideR (p : List Syn) : List Int := if okS p then slideL p else []
end Go.Proofs.Ytgjmhihomklooaa
