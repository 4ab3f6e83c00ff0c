/- Orders of hands: plain mathematics. No conditions. -/
import Derived.Test.YtlpeigeadjojnaaSpec02b
import Derived.Test.YtlpeigeadjojnaaImpl02b
namespace Go.Proofs.Ytlpeigeadjojnaa
open Go.RowKit
set_option linter.unusedSimpArgs false
set_option linter.unusedVariables false

/-- a throw from a hand to a hand: beat, value, from, to -/
abbrev HthT := Int × Int × Int × Int

/-- one more than the greatest of the first k hands -/
def cntK (o : List Int) : Nat → Int
  | 0 => 0
  | k + 1 => max (cntK o k) (o.getD k 0 + 1)
def cntH (o : List Int) : Int := cntK o o.length
def rngH (o : List Int) : Bool := o.all fun x => inB x 0 3
/-- the numbers below k are all among the hands -/
def hasK (o : List Int) (k : Nat) : Bool := (List.range k).all fun h => o.contains (h : Int)
def okH (o : List Int) : Bool := inB (o.length : Int) 1 12 && (rngH o && hasK o (cntH o).toNat)

theorem cntK_step (o : List Int) (k : Nat) : cntK o (k + 1) = max (cntK o k) (o.getD k 0 + 1) := rfl
theorem hasK_step (o : List Int) (k : Nat) : hasK o (k + 1) = (hasK o k && o.contains (k : Int)) := by simp [hasK, List.range_succ, List.all_append]
theorem hasK_zero (o : List Int) : hasK o 0 = true := rfl
theorem hasK_iff {o : List Int} {k : Nat} : hasK o k = true ↔ ∀ h : Nat, h < k → o.contains (h : Int) = true := by
  simp [hasK]
theorem hasK_false {o : List Int} {k n : Nat} (h : hasK o k = false) (hk : k ≤ n) : hasK o n = false := by
  rw [← Bool.not_eq_true] at h ⊢
  intro h2
  exact h (hasK_iff.2 fun x hx => hasK_iff.1 h2 x (by omega))
theorem rngH_at {o : List Int} (h : rngH o = true) (k : Nat) (hk : k < o.length) : 0 ≤ o.getD k 0 ∧ o.getD k 0 ≤ 3 := by
  rw [rngH, List.all_eq_true] at h
  have := h (o.getD k 0) (by
    rw [List.getD_eq_getElem?_getD, List.getElem?_eq_getElem hk]
    exact List.getElem_mem _)
  simpa [inB] using this
theorem rngH_false {o : List Int} (k : Nat) (hk : k < o.length) (hb : inB (o.getD k 0) 0 3 = false) : rngH o = false := by
  rw [← Bool.not_eq_true]
  intro h
  have := rngH_at h k hk
  rw [inB, decide_eq_false_iff_not] at hb
  omega
theorem rngH_true {o : List Int} (h : ∀ k, k < o.length → 0 ≤ o.getD k 0 ∧ o.getD k 0 ≤ 3) : rngH o = true := by
  rw [rngH, List.all_eq_true]
  intro x hx
  obtain ⟨k, hk, rfl⟩ := List.getElem_of_mem hx
  have := h k hk
  simp only [List.getD_eq_getElem?_getD, List.getElem?_eq_getElem hk, Option.getD_some] at this
  simpa [inB] using this
theorem cntK_nonneg (o : List Int) : ∀ k, 0 ≤ cntK o k
  | 0 => by simp [cntK]
  | k + 1 => by have := cntK_nonneg o k; rw [cntK_step]; omega
theorem cntK_le {o : List Int} {m : Int} (hm : 0 ≤ m) : ∀ k, (∀ i, i < k → o.getD i 0 + 1 ≤ m) → cntK o k ≤ m
  | 0, _ => by simpa [cntK] using hm
  | k + 1, h => by
    have h1 := cntK_le hm k fun i hi => h i (by omega)
    have h2 := h k (by omega)
    rw [cntK_step]; omega
theorem cntK_ge {o : List Int} : ∀ k i, i < k → o.getD i 0 + 1 ≤ cntK o k
  | 0, i, h => by omega
  | k + 1, i, h => by
    rw [cntK_step]
    by_cases e : i = k
    · subst e; omega
    · have := cntK_ge (o := o) k i (by omega); omega
theorem cntH_rng {o : List Int} (h : rngH o = true) : 0 ≤ cntH o ∧ cntH o ≤ 4 :=
  ⟨cntK_nonneg _ _, cntK_le (by omega) _ fun i hi => by have := rngH_at h i hi; omega⟩
theorem cntK_rng {o : List Int} (h : rngH o = true) {k : Nat} (hk : k ≤ o.length) : 0 ≤ cntK o k ∧ cntK o k ≤ 4 :=
  ⟨cntK_nonneg _ _, cntK_le (by omega) _ fun i hi => by have := rngH_at h i (by omega); omega⟩
theorem cntH_pos {o : List Int} (h : rngH o = true) (hl : 1 ≤ o.length) : 1 ≤ cntH o := by
  have h1 := rngH_at h 0 (by omega)
  have h2 := cntK_ge (o := o) o.length 0 (by omega)
  unfold cntH; omega
theorem cntH_get {o : List Int} {k : Nat} (hk : k < o.length) : o.getD k 0 < cntH o := by
  have := cntK_ge (o := o) o.length k hk
  unfold cntH; omega
theorem has_get {o : List Int} {x : Int} : o.contains x = true ↔ ∃ k, k < o.length ∧ o.getD k 0 = x := by
  rw [List.contains_iff_mem]
  constructor
  · intro h
    obtain ⟨k, hk, he⟩ := List.getElem_of_mem h
    exact ⟨k, hk, by simp [hk, he]⟩
  · rintro ⟨k, hk, rfl⟩
    rw [List.getD_eq_getElem?_getD, List.getElem?_eq_getElem hk]
    exact List.getElem_mem _
theorem no_more {o : List Int} {x : Int} (h : cntH o ≤ x) : o.contains x = false := by
  rw [← Bool.not_eq_true]
  intro h2
  obtain ⟨k, hk, rfl⟩ := has_get.1 h2
  have := cntH_get hk
  omega
theorem okH_parts {o : List Int} (h : okH o = true) : (1 ≤ o.length ∧ o.length ≤ 12) ∧ rngH o = true ∧ hasK o (cntH o).toNat = true := by
  simp only [okH, Bool.and_eq_true, inB, decide_eq_true_eq] at h
  exact ⟨by omega, h.2.1, h.2.2⟩
theorem okH_len {o : List Int} (h : okH o = true) : 1 ≤ o.length ∧ o.length ≤ 12 := (okH_parts h).1
theorem okH_at {o : List Int} (h : okH o = true) (k : Nat) (hk : k < o.length) : 0 ≤ o.getD k 0 ∧ o.getD k 0 ≤ 3 ∧ o.getD k 0 < cntH o :=
  have := rngH_at (okH_parts h).2.1 k hk
  ⟨this.1, this.2, cntH_get hk⟩
theorem okH_cnt {o : List Int} (h : okH o = true) : 1 ≤ cntH o ∧ cntH o ≤ 4 :=
  ⟨cntH_pos (okH_parts h).2.1 (okH_len h).1, (cntH_rng (okH_parts h).2.1).2⟩
theorem okH_has {o : List Int} (h : okH o = true) (x : Int) (h0 : 0 ≤ x) (hx : x < cntH o) : ∃ k, k < o.length ∧ o.getD k 0 = x := by
  have := hasK_iff.1 (okH_parts h).2.2 x.toNat (by omega)
  rw [show ((x.toNat : Nat) : Int) = x by omega] at this
  exact has_get.1 this
theorem okH_mk {o : List Int} (h1 : 1 ≤ o.length) (h2 : o.length ≤ 12) (h3 : rngH o = true) : okH o = hasK o (cntH o).toNat := by
  have : inB (o.length : Int) 1 12 = true := by simp [inB]; omega
  rw [okH, this, h3, Bool.true_and, Bool.true_and]
theorem okH_short {o : List Int} (h : inB (o.length : Int) 1 12 = false) : okH o = false := by rw [okH, h, Bool.false_and]
theorem okH_far {o : List Int} (h : rngH o = false) : okH o = false := by rw [okH, h, Bool.false_and, Bool.and_false]

/-- how many different hands there are -/
def dstH (L : List Int) : Nat := (L.contains 0).toNat + (L.contains 1).toNat + (L.contains 2).toNat + (L.contains 3).toNat
theorem has_snoc (L : List Int) (x y : Int) : (L ++ [x]).contains y = (L.contains y || y == x) := by
  rw [Bool.eq_iff_iff, List.contains_iff_mem, Bool.or_eq_true, List.contains_iff_mem]
  simp
theorem dstH_step (L : List Int) (x : Int) (h0 : 0 ≤ x) (h3 : x ≤ 3) : dstH (L ++ [x]) = if L.contains x then dstH L else dstH L + 1 := by
  have hx : x = 0 ∨ x = 1 ∨ x = 2 ∨ x = 3 := by omega
  unfold dstH
  simp only [has_snoc]
  rcases hx with rfl | rfl | rfl | rfl
  · cases h : L.contains 0 <;> simp <;> omega
  · cases h : L.contains 1 <;> simp <;> omega
  · cases h : L.contains 2 <;> simp <;> omega
  · cases h : L.contains 3 <;> simp <;> omega
theorem dstH_le (L : List Int) : dstH L ≤ 4 := by
  unfold dstH
  cases L.contains 0 <;> cases L.contains 1 <;> cases L.contains 2 <;> cases L.contains 3 <;> simp
/-- no hand is left out just if there are as many as the greatest tells -/
theorem dstH_all {o : List Int} (h : rngH o = true) : decide ((dstH o : Int) = cntH o) = hasK o (cntH o).toNat := by
  obtain ⟨h0, h4⟩ := cntH_rng h
  have hno := fun (x : Int) (hx : cntH o ≤ x) => no_more (o := o) hx
  obtain ⟨c, hc⟩ : ∃ c : Nat, cntH o = c := ⟨(cntH o).toNat, by omega⟩
  rw [hc] at hno h4 ⊢
  rw [Int.toNat_natCast]
  have hc4 : c ≤ 4 := by omega
  unfold dstH
  match c, hc4 with
  | 0, _ => rw [hno 0 (by omega), hno 1 (by omega), hno 2 (by omega), hno 3 (by omega)]; rfl
  | 1, _ =>
    rw [hno 1 (by omega), hno 2 (by omega), hno 3 (by omega), hasK_step, hasK_zero]
    simp only [Int.ofNat_zero, Int.natCast_zero, Int.ofNat_eq_natCast]
    cases o.contains 0 <;> rfl
  | 2, _ =>
    rw [hno 2 (by omega), hno 3 (by omega), hasK_step, hasK_step, hasK_zero]
    show _ = ((true && o.contains 0) && o.contains 1)
    cases o.contains 0 <;> cases o.contains 1 <;> rfl
  | 3, _ =>
    rw [hno 3 (by omega), hasK_step, hasK_step, hasK_step, hasK_zero]
    show _ = (((true && o.contains 0) && o.contains 1) && o.contains 2)
    cases o.contains 0 <;> cases o.contains 1 <;> cases o.contains 2 <;> rfl
  | 4, _ =>
    rw [hasK_step, hasK_step, hasK_step, hasK_step, hasK_zero]
    show _ = ((((true && o.contains 0) && o.contains 1) && o.contains 2) && o.contains 3)
    cases o.contains 0 <;> cases o.contains 1 <;> cases o.contains 2 <;> cases o.contains 3 <;> rfl

/-! ### renaming -/
theorem len_le_of_subI : ∀ (l m : List Int), l.Nodup → (∀ x ∈ l, x ∈ m) → l.length ≤ m.length := by
  intro l
  induction l with
  | nil => intro m _ _; simp
  | cons a t ih =>
    intro m hn hs
    rw [List.nodup_cons] at hn
    have ha : a ∈ m := hs a (by simp)
    have := ih (m.erase a) hn.2 fun x hx => (List.mem_erase_of_ne (by intro e; subst e; exact hn.1 hx)).2 (hs x (by simp [hx]))
    rw [List.length_erase_of_mem ha] at this
    have hp := List.length_pos_of_mem ha
    simp
    omega
/-- names are the numbers of all hands, each once -/
def nmH (o names : List Int) : Bool := decide ((names.length : Int) = cntH o) && hasK names (cntH o).toNat
theorem nmH_in {o names : List Int} (ho : okH o = true) (h : nmH o names = true) : okH names = true ∧ cntH names = cntH o := by
  obtain ⟨c1, c4⟩ := okH_cnt ho
  simp only [nmH, Bool.and_eq_true, decide_eq_true_eq] at h
  obtain ⟨hl, hh⟩ := h
  obtain ⟨c, hc⟩ : ∃ c : Nat, cntH o = c := ⟨(cntH o).toNat, by omega⟩
  rw [hc] at hl hh c1 c4 ⊢
  rw [Int.toNat_natCast] at hh
  have hin : ∀ x ∈ names, 0 ≤ x ∧ x < c := by
    intro x hx
    refine Classical.byContradiction fun hno => ?_
    have hnd : ((List.range c).map fun h : Nat => (h : Int)).Nodup := by
      rw [List.nodup_iff_pairwise_ne, List.pairwise_map]
      exact List.Pairwise.imp (fun {a b} (hab : a < b) => by omega) List.pairwise_lt_range
    have := len_le_of_subI _ (names.erase x) hnd (by
      intro y hy
      obtain ⟨h, hlt, rfl⟩ := List.mem_map.1 hy
      have hlt := List.mem_range.1 hlt
      refine (List.mem_erase_of_ne ?_).2 (List.contains_iff_mem.1 (hasK_iff.1 hh h hlt))
      intro e
      exact hno (by omega))
    rw [List.length_erase_of_mem hx] at this
    have hp := List.length_pos_of_mem hx
    simp at this
    omega
  have hr : rngH names = true := rngH_true fun k hk => by
    have := hin (names.getD k 0) (List.contains_iff_mem.1 (has_get.2 ⟨k, hk, rfl⟩))
    omega
  have hcn : cntH names = c := by
    have h1 : cntH names ≤ c := cntK_le (by omega) _ fun i hi => by
      have := hin (names.getD i 0) (List.contains_iff_mem.1 (has_get.2 ⟨i, hi, rfl⟩))
      omega
    obtain ⟨k, hk, he⟩ := has_get.1 (hasK_iff.1 hh (c - 1) (by omega))
    have := cntH_get hk
    omega
  refine ⟨?_, hcn⟩
  rw [okH_mk (by omega) (by omega) hr, hcn, Int.toNat_natCast]
  exact hh
theorem nmH_eq {o names : List Int} (ho : okH o = true) (hl : (names.length : Int) = cntH o) : nmH o names = (okH names && decide (cntH names = cntH o)) := by
  rw [Bool.eq_iff_iff]
  constructor
  · intro h
    obtain ⟨h1, h2⟩ := nmH_in ho h
    rw [h1, h2]
    simp
  · intro h
    simp only [Bool.and_eq_true, decide_eq_true_eq] at h
    have := (okH_parts h.1).2.2
    rw [h.2] at this
    rw [nmH, this, decide_eq_true hl]
    rfl
theorem nmH_len {o names : List Int} (hl : ¬ (names.length : Int) = cntH o) : nmH o names = false := by rw [nmH, decide_eq_false hl, Bool.false_and]
def renL (o names : List Int) : List Int := o.map fun h => names.getD h.toNat 0
theorem renL_len (o names : List Int) : (renL o names).length = o.length := by simp [renL]
theorem renL_at (o names : List Int) (k : Nat) (hk : k < o.length) : (renL o names).getD k 0 = names.getD (o.getD k 0).toNat 0 := by simp [renL, hk]
theorem renL_take (o names : List Int) (k : Nat) (hk : k < o.length) : (renL o names).take (k + 1) = (renL o names).take k ++ [names.getD (o.getD k 0).toNat 0] := by
  rw [List.take_succ_eq_append_getElem (by rw [renL_len]; exact hk)]
  simp [renL, hk]
/-- the code and the answer of RenameHands -/
def renC (o names : List Int) : Int := if okH o then (if nmH o names then 0 else 2) else 1
def renA (o names : List Int) : List Int := if renC o names = 0 then renL o names else []
theorem renC_bad {o : List Int} (names : List Int) (h : okH o = false) : renC o names = 1 := by simp [renC, h]
theorem renC_far {o names : List Int} (h : okH o = true) (h2 : nmH o names = false) : renC o names = 2 := by simp [renC, h, h2]
theorem renC_ok {o names : List Int} (h : okH o = true) (h2 : nmH o names = true) : renC o names = 0 := by simp [renC, h, h2]
theorem renA_ok {o names : List Int} (h : okH o = true) (h2 : nmH o names = true) : renA o names = renL o names := by simp [renA, renC, h, h2]
theorem renA_no {o names : List Int} (h : renC o names ≠ 0) : renA o names = [] := by simp [renA, h]
theorem renA_len (o names : List Int) : (renA o names).length ≤ 12 := by
  unfold renA
  split
  · rename_i h
    have ho : okH o = true := by
      cases h0 : okH o with
      | true => rfl
      | false => rw [renC_bad names h0] at h; omega
    rw [renL_len]; exact (okH_len ho).2
  · simp

/-! ### the throws of a common period -/
def cpN (p o : List Int) : Nat := Nat.lcm p.length o.length
def hthAt (p o : List Int) (b : Nat) : HthT := ((b : Int), atL p (b : Int), atL o (b : Int), atL o ((b : Int) + atL p (b : Int)))
/-- the throws before the beat k -/
def thK (p o : List Int) : Nat → List HthT
  | 0 => []
  | k + 1 => if atL p (k : Int) = 0 then thK p o k else thK p o k ++ [hthAt p o k]
def thH (p o : List Int) : List HthT := thK p o (cpN p o)
theorem thK_zero {p o : List Int} {k : Nat} (h : atL p (k : Int) = 0) : thK p o (k + 1) = thK p o k := by rw [thK, if_pos h]
theorem thK_more {p o : List Int} {k : Nat} (h : ¬ atL p (k : Int) = 0) : thK p o (k + 1) = thK p o k ++ [hthAt p o k] := by rw [thK, if_neg h]
theorem thK_len (p o : List Int) : ∀ k, (thK p o k).length ≤ k
  | 0 => by simp [thK]
  | k + 1 => by
    have := thK_len p o k
    by_cases h : atL p (k : Int) = 0
    · rw [thK_zero h]; omega
    · rw [thK_more h]; simp; omega
/-- a pattern and an order -/
def okPO (p o : List Int) : Bool := okPat p && okH o
def poC (p o : List Int) : Int := if okPO p o then 0 else 1
theorem poC_true {p o : List Int} (h : okPO p o = true) : poC p o = 0 := by rw [poC, if_pos h]
theorem poC_false {p o : List Int} (h : okPO p o = false) : poC p o = 1 := by rw [poC, if_neg (by simp [h])]
theorem okPO_parts {p o : List Int} (h : okPO p o = true) : okPat p = true ∧ okH o = true := by simpa [okPO] using h
theorem cpN_bound {p o : List Int} (h : okPO p o = true) : 1 ≤ cpN p o ∧ cpN p o ≤ 144 := by
  obtain ⟨h1, h2⟩ := okPO_parts h
  have l1 := okPat_len h1
  have l2 := okH_len h2
  refine ⟨Nat.lcm_pos (by omega) (by omega), ?_⟩
  have h3 : Nat.lcm p.length o.length ≤ p.length * o.length := by unfold Nat.lcm; exact Nat.div_le_self _ _
  have h4 : p.length * o.length ≤ 12 * 12 := Nat.mul_le_mul l1.2 l2.2
  unfold cpN
  omega
/-- what HandThrows answers -/
def thA (p o : List Int) : List HthT := if okPO p o then thH p o else []
theorem thA_true {p o : List Int} (h : okPO p o = true) : thA p o = thH p o := by rw [thA, if_pos h]
theorem thA_false {p o : List Int} (h : okPO p o = false) : thA p o = [] := by rw [thA, if_neg (by simp [h])]
theorem thA_len (p o : List Int) : (thA p o).length ≤ 144 := by
  cases h : okPO p o with
  | false => rw [thA_false h]; simp
  | true =>
    rw [thA_true h]
    have := thK_len p o (cpN p o)
    have := (cpN_bound h).2
    unfold thH
    omega
def cpA (p o : List Int) : Int := if okPO p o then (cpN p o : Nat) else 0
theorem cpA_true {p o : List Int} (h : okPO p o = true) : cpA p o = (cpN p o : Nat) := by rw [cpA, if_pos h]
theorem cpA_false {p o : List Int} (h : okPO p o = false) : cpA p o = 0 := by rw [cpA, if_neg (by simp [h])]
end Go.Proofs.Ytlpeigeadjojnaa
