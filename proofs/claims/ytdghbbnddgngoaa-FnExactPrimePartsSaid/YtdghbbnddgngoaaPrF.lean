/- A closed walk of states is a pattern: so are the loop between two equal states of a pattern and what is left behind it. Plain mathematics. No conditions. -/
import Derived.Test.YtdghbbnddgngoaaOdM
namespace Go.Proofs.Ytdghbbnddgngoaa
set_option linter.unusedSimpArgs false
set_option linter.unusedVariables false

/-- throws t and what will land j beats after the beat x (s x j): each throw is possible, and leads on; behind m throws all is as at first -/
structure WalkS (t : Nat → Nat) (s : Nat → Nat → Bool) (m h : Nat) : Prop where
  pos : 0 < m
  step : ∀ x, x < m → ∀ j, s (x + 1) j = (s x (j + 1) || decide (t x = j + 1))
  zero : ∀ x, x < m → t x ≠ 0 → s x 0 = true
  far : ∀ x, x ≤ m → ∀ j, h ≤ j → s x j = false
  closed : ∀ j, s m j = s 0 j
/-- the walk, round after round -/
def rtT (t : Nat → Nat) (m X : Nat) : Nat := t (X % m)
def rtS (s : Nat → Nat → Bool) (m X : Nat) : Nat → Bool := s (X % m)
theorem WalkS.stepR {t : Nat → Nat} {s : Nat → Nat → Bool} {m h : Nat} (w : WalkS t s m h) (X j : Nat) : rtS s m (X + 1) j = (rtS s m X (j + 1) || decide (rtT t m X = j + 1)) := by
  have hx : X % m < m := Nat.mod_lt _ w.pos
  have hs := w.step (X % m) hx j
  unfold rtS rtT
  by_cases hl : X % m + 1 = m
  · have e : (X + 1) % m = 0 := by
      by_cases h1 : m = 1
      · subst h1; exact Nat.mod_one _
      · rw [Nat.add_mod, Nat.mod_eq_of_lt (show 1 < m by have := w.pos; omega), hl, Nat.mod_self]
    rw [e, ← w.closed j, ← hs, hl]
  · have e : (X + 1) % m = X % m + 1 := by
      rw [Nat.add_mod]
      by_cases h1 : m = 1
      · subst h1; omega
      · rw [Nat.mod_eq_of_lt (show 1 < m by have := w.pos; omega), Nat.mod_eq_of_lt (by omega)]
    rw [e, hs]
theorem WalkS.farR {t : Nat → Nat} {s : Nat → Nat → Bool} {m h : Nat} (w : WalkS t s m h) (X j : Nat) (hj : h ≤ j) : rtS s m X j = false :=
  w.far _ (Nat.le_of_lt (Nat.mod_lt _ w.pos)) j hj
/-- what lands was thrown -/
theorem WalkS.thrown {t : Nat → Nat} {s : Nat → Nat → Bool} {m h : Nat} (w : WalkS t s m h) : ∀ (d Y j : Nat), rtS s m (Y + d) j = true → rtS s m Y (j + d) = true ∨ ∃ y, y < Y + d ∧ y + rtT t m y = Y + d + j := by
  intro d
  induction d with
  | zero => intro Y j h; exact .inl h
  | succ d ih =>
    intro Y j hS
    rw [show Y + (d + 1) = Y + d + 1 by omega, w.stepR] at hS
    simp only [Bool.or_eq_true, decide_eq_true_eq] at hS
    rcases hS with h1 | h1
    · rcases ih Y (j + 1) h1 with h2 | ⟨y, h2, h3⟩
      · left; rw [show j + (d + 1) = j + 1 + d by omega]; exact h2
      · right; exact ⟨y, by omega, by omega⟩
    · right; exact ⟨Y + d, by omega, by omega⟩
/-- each beat of a round is landed at -/
theorem WalkS.onto {t : Nat → Nat} {s : Nat → Nat → Bool} {m h : Nat} (w : WalkS t s m h) (r : Nat) (hr : r < m) : ∃ x, x < m ∧ (x + t x) % m = r := by
  by_cases h0 : t r = 0
  · exact ⟨r, hr, by rw [h0, Nat.add_zero, Nat.mod_eq_of_lt hr]⟩
  · have hX : (r + m * h) % m = r := by rw [Nat.add_mul_mod_self_left, Nat.mod_eq_of_lt hr]
    have h1 : rtS s m (r + m * h) 0 = true := by unfold rtS; rw [hX]; exact w.zero r hr h0
    have hle : h ≤ m * h := Nat.le_mul_of_pos_left _ w.pos
    rcases w.thrown (m * h) r 0 h1 with h2 | ⟨y, h2, h3⟩
    · rw [w.farR r (0 + m * h) (by omega)] at h2; cases h2
    · refine ⟨y % m, Nat.mod_lt _ w.pos, ?_⟩
      have : (y + rtT t m y) % m = r := by rw [h3, Nat.add_zero]; exact hX
      unfold rtT at this
      rw [Nat.add_mod, Nat.mod_mod, ← Nat.add_mod]
      exact this
theorem inj_of_onto {f : Nat → Nat} {m : Nat} (h : ∀ r, r < m → ∃ x, x < m ∧ f x = r) : ∀ a b, a < b → b < m → f a ≠ f b := by
  intro a b hab hb he
  have h1 := len_le_of_sub (List.range m) (((List.range m).erase b).map f) List.nodup_range (by
    intro r hr
    obtain ⟨x, hx, hfx⟩ := h r (List.mem_range.1 hr)
    by_cases e : x = b
    · exact List.mem_map.2 ⟨a, (List.mem_erase_of_ne (by omega)).2 (List.mem_range.2 (by omega)), by rw [he, ← e]; exact hfx⟩
    · exact List.mem_map.2 ⟨x, (List.mem_erase_of_ne e).2 (List.mem_range.2 hx), hfx⟩)
  rw [List.length_map, List.length_erase_of_mem (List.mem_range.2 hb)] at h1
  simp at h1
  omega
/-- the throws of a closed walk are a pattern -/
theorem WalkS.pattern {t : Nat → Nat} {s : Nat → Nat → Bool} {m h : Nat} (w : WalkS t s m h) (q : List Int) (hq : q.length = m) (hm : m ≤ 12) (hv : ∀ x, x < m → q.getD x 0 = (t x : Nat)) (ht : ∀ x, x < m → t x ≤ 15) : okPat q = true := by
  have hp := w.pos
  have hlist : okList q = true := by
    simp only [okList, Bool.and_eq_true]
    refine ⟨List.all_eq_true.2 ?_, inB_true (by omega)⟩
    intro x hx
    obtain ⟨i, hi, rfl⟩ := List.getElem_of_mem hx
    have h1 := hv i (by omega)
    have h2 := ht i (by omega)
    rw [show q.getD i 0 = q[i] by simp [hi]] at h1
    exact inB_true (by omega)
  simp only [okPat, hlist, Bool.true_and, Option.isNone_iff_eq_none]
  apply clash_none
  rw [hq]
  intro a b hab hb he
  have hin := inj_of_onto (f := fun x => (x + t x) % m) w.onto a b hab hb
  apply hin
  unfold lnd at he
  rw [hq, hv a (by omega), hv b hb] at he
  have e1 : ∀ x : Nat, ((x : Int) + ((t x : Nat) : Int)) % (m : Int) = (((x + t x) % m : Nat) : Int) := by intro x; simp
  rw [e1, e1] at he
  exact Int.ofNat.inj he

/-- what lands j beats after a beat of a pattern, thrown before it -/
def cmsS (p : List Int) (x j : Nat) : Bool := decide (fromL p ((x : Int) + (j : Int)) < (x : Int))
theorem cms_step {p : List Int} (hok : okPat p = true) (x j : Nat) : cmsS p (x + 1) j = (cmsS p x (j + 1) || decide ((atL p (x : Int)).toNat = j + 1)) := by
  have hl := at_low hok (x : Int)
  have e : ((x + 1 : Nat) : Int) + (j : Int) = (x : Int) + ((j + 1 : Nat) : Int) := by omega
  unfold cmsS
  rw [e, Bool.eq_iff_iff]
  simp only [Bool.or_eq_true, decide_eq_true_eq]
  constructor
  · intro h
    by_cases h2 : fromL p ((x : Int) + ((j + 1 : Nat) : Int)) = (x : Int)
    · right
      have := from_is hok h2
      omega
    · left; omega
  · rintro (h | h)
    · omega
    · have := from_land hok (x : Int)
      rw [show (x : Int) + atL p (x : Int) = (x : Int) + ((j + 1 : Nat) : Int) by omega] at this
      omega
theorem cms_zero {p : List Int} (hok : okPat p = true) (x : Nat) (h : atL p (x : Int) ≠ 0) : cmsS p x 0 = true := by
  have := (from_before hok h).2
  unfold cmsS
  rw [show (x : Int) + ((0 : Nat) : Int) = (x : Int) by omega]
  exact decide_eq_true this
theorem cms_far {p : List Int} (hok : okPat p = true) (x j : Nat) (hj : 15 ≤ j) : cmsS p x j = false := by
  have := from_upto hok ((x : Int) + (j : Int))
  unfold cmsS
  exact decide_eq_false (by omega)
theorem cms_per {p : List Int} (hok : okPat p = true) (j : Nat) : cmsS p p.length j = cmsS p 0 j := by
  have h := fromL_per2 hok ((0 : Int) + (j : Int))
  unfold cmsS
  have e0 : ((0 : Nat) : Int) = 0 := rfl
  rw [show ((p.length : Nat) : Int) + (j : Int) = (0 : Int) + (j : Int) + p.length by omega, h, Bool.eq_iff_iff, e0]
  simp only [decide_eq_true_eq]
  omega
theorem at_get {p : List Int} {x : Nat} (hx : x < p.length) : atL p (x : Int) = p.getD x 0 := by
  unfold atL
  rw [Int.emod_eq_of_lt (by omega) (by omega), Int.toNat_natCast]
/-- the loop between two equal states -/
theorem loop_ok {p : List Int} (hok : okPat p = true) {i k : Nat} (hik : i < k) (hk : k ≤ p.length) (hs : ∀ j, cmsS p i j = cmsS p k j) : okPat ((p.drop i).take (k - i)) = true := by
  have hl := (okPat_len hok).2
  refine WalkS.pattern (t := fun x => (atL p ((i + x : Nat) : Int)).toNat) (s := fun x => cmsS p (i + x)) (m := k - i) (h := 15) ⟨by omega, ?_, ?_, ?_, ?_⟩ _ (by simp; omega) (by omega) ?_ ?_
  · intro x hx j; exact cms_step hok (i + x) j
  · intro x hx h; exact cms_zero hok (i + x) (by intro e; apply h; show (atL p ((i + x : Nat) : Int)).toNat = 0; rw [e]; rfl)
  · intro x hx j hj; exact cms_far hok _ j hj
  · intro j
    show cmsS p (i + (k - i)) j = cmsS p (i + 0) j
    rw [show i + (k - i) = k by omega, Nat.add_zero]
    exact (hs j).symm
  · intro x hx
    have h1 := okPat_at hok (i + x) (by omega)
    show _ = (((atL p ((i + x : Nat) : Int)).toNat : Nat) : Int)
    rw [at_get (show i + x < p.length by omega)]
    have : ((p.drop i).take (k - i)).getD x 0 = p.getD (i + x) 0 := by
      simp [List.getD_eq_getElem?_getD, List.getElem?_take, hx]
    omega
  · intro x hx
    have := (at_low hok ((i + x : Nat) : Int)).2
    show (atL p ((i + x : Nat) : Int)).toNat ≤ 15
    omega
/-- what is left behind the loop -/
theorem rest_ok {p : List Int} (hok : okPat p = true) {i k : Nat} (hik : i < k) (hk : k ≤ p.length) (hne : k - i < p.length) (hs : ∀ j, cmsS p i j = cmsS p k j) : okPat (p.take i ++ p.drop k) = true := by
  have hl := (okPat_len hok).2
  refine WalkS.pattern (t := fun x => (atL p ((if x < i then x else x + (k - i) : Nat) : Int)).toNat) (s := fun x => if x ≤ i then cmsS p x else cmsS p (x + (k - i))) (m := p.length - (k - i)) (h := 15) ⟨by omega, ?_, ?_, ?_, ?_⟩ _ (by simp; omega) (by omega) ?_ ?_
  · intro x hx j
    show (if x + 1 ≤ i then cmsS p (x + 1) else cmsS p (x + 1 + (k - i))) j = ((if x ≤ i then cmsS p x else cmsS p (x + (k - i))) (j + 1) || decide ((atL p ((if x < i then x else x + (k - i) : Nat) : Int)).toNat = j + 1))
    by_cases h1 : x < i
    · rw [if_pos (by omega), if_pos (by omega), if_pos h1]
      exact cms_step hok x j
    · rw [if_neg (by omega), if_neg h1]
      have hst := cms_step hok (x + (k - i)) j
      rw [show x + (k - i) + 1 = x + 1 + (k - i) by omega] at hst
      rw [hst]
      by_cases h2 : x = i
      · subst h2
        rw [if_pos (Nat.le_refl _), hs (j + 1), show x + (k - x) = k by omega]
      · rw [if_neg (by omega)]
  · intro x hx h
    show (if x ≤ i then cmsS p x else cmsS p (x + (k - i))) 0 = true
    by_cases h1 : x < i
    · rw [if_pos (by omega)]
      refine cms_zero hok x ?_
      intro e
      apply h
      show (atL p ((if x < i then x else x + (k - i) : Nat) : Int)).toNat = 0
      rw [if_pos h1, e]; rfl
    · have h3 : cmsS p (x + (k - i)) 0 = true := by
        refine cms_zero hok (x + (k - i)) ?_
        intro e
        apply h
        show (atL p ((if x < i then x else x + (k - i) : Nat) : Int)).toNat = 0
        rw [if_neg h1, e]; rfl
      by_cases h2 : x = i
      · subst h2
        rw [if_pos (Nat.le_refl _), hs 0]
        rwa [show x + (k - x) = k by omega] at h3
      · rw [if_neg (by omega)]; exact h3
  · intro x hx j hj
    show (if x ≤ i then cmsS p x else cmsS p (x + (k - i))) j = false
    by_cases h1 : x ≤ i
    · rw [if_pos h1]; exact cms_far hok _ j hj
    · rw [if_neg h1]; exact cms_far hok _ j hj
  · intro j
    show (if p.length - (k - i) ≤ i then cmsS p (p.length - (k - i)) else cmsS p (p.length - (k - i) + (k - i))) j = (if 0 ≤ i then cmsS p 0 else cmsS p (0 + (k - i))) j
    rw [if_pos (Nat.zero_le i)]
    by_cases h1 : p.length - (k - i) ≤ i
    · rw [if_pos h1, show p.length - (k - i) = i by omega, hs j, ← cms_per hok j, show k = p.length by omega]
    · rw [if_neg h1, show p.length - (k - i) + (k - i) = p.length by omega, cms_per hok j]
  · intro x hx
    have hidx : (if x < i then x else x + (k - i)) < p.length := by split <;> omega
    have h1 := okPat_at hok _ hidx
    show _ = (((atL p ((if x < i then x else x + (k - i) : Nat) : Int)).toNat : Nat) : Int)
    rw [at_get hidx]
    have : (p.take i ++ p.drop k).getD x 0 = p.getD (if x < i then x else x + (k - i)) 0 := by
      have hti : (p.take i).length = i := by simp; omega
      by_cases h2 : x < i
      · rw [if_pos h2]
        simp [List.getD_eq_getElem?_getD, List.getElem?_append_left (show x < (p.take i).length by omega), List.getElem?_take, h2]
      · rw [if_neg h2]
        rw [List.getD_eq_getElem?_getD, List.getElem?_append_right (by omega), hti, List.getElem?_drop, List.getD_eq_getElem?_getD]
        rw [show k + (x - i) = x + (k - i) by omega]
    omega
  · intro x hx
    have := (at_low hok ((if x < i then x else x + (k - i) : Nat) : Int)).2
    show (atL p ((if x < i then x else x + (k - i) : Nat) : Int)).toNat ≤ 15
    omega
end Go.Proofs.Ytdghbbnddgngoaa
