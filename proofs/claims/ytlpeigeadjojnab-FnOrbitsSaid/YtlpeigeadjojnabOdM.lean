/- What the law of the props asks: each prop is thrown again where it lands, and there are as many as told. No conditions. -/
import Derived.Test.YtlpeigeadjojnabOdA
namespace Go.Proofs.Ytlpeigeadjojnab
set_option linter.unusedSimpArgs false
set_option linter.unusedVariables false

/-- a sum of the first k values -/
def smF (f : Nat → Int) : Nat → Int
  | 0 => 0
  | k + 1 => smF f k + f k
theorem smF_add (f g : Nat → Int) (k : Nat) : smF (fun j => f j + g j) k = smF f k + smF g k := by
  induction k with
  | zero => rfl
  | succ k ih => simp only [smF, ih]; omega
theorem smF_shift (f : Nat → Int) (k : Nat) : smF (fun j => f (j + 1)) k = smF f (k + 1) - f 0 := by
  induction k with
  | zero => simp [smF]
  | succ k ih =>
    have : smF f (k + 1 + 1) = smF f (k + 1) + f (k + 1) := rfl
    simp only [smF] at ih ⊢
    omega
theorem smF_congr {f g : Nat → Int} (k : Nat) (h : ∀ j, j < k → f j = g j) : smF f k = smF g k := by
  induction k with
  | zero => rfl
  | succ k ih => simp only [smF]; rw [ih (fun j hj => h j (by omega)), h k (by omega)]
theorem smF_one (a : Nat) (x : Int) (k : Nat) : smF (fun j => if j = a then x else 0) k = if a < k then x else 0 := by
  induction k with
  | zero => rfl
  | succ k ih =>
    simp only [smF, ih]
    by_cases h : a < k
    · rw [if_pos h, if_neg (by omega), if_pos (by omega)]; omega
    · rw [if_neg h]
      by_cases e : k = a
      · rw [if_pos e, if_pos (by omega)]; omega
      · rw [if_neg e, if_neg (by omega)]; omega
theorem smF_more {f : Nat → Int} (k : Nat) (h : ∀ j, k ≤ j → f j = 0) (m : Nat) : smF f (k + m) = smF f k := by
  induction m with
  | zero => rfl
  | succ m ih =>
    show smF f (k + m) + f (k + m) = _
    rw [ih, h (k + m) (by omega)]; omega
theorem smF_le {f : Nat → Int} (h : ∀ j, 0 ≤ f j) (k m : Nat) : smF f k ≤ smF f (k + m) := by
  induction m with
  | zero => exact Int.le_refl _
  | succ m ih =>
    show _ ≤ smF f (k + m) + f (k + m)
    have := h (k + m)
    omega

/-- is a throw that lands j beats on in the air before the beat b? -/
def airF (p : List Int) (b : Int) (j : Nat) : Int := if fromL p (b + j) < b then 1 else 0
def airN (p : List Int) (b : Int) : Int := smF (airF p b) 16
def airS (p : List Int) (b : Int) : Int := smF (fun j => (j : Int) * airF p b j) 16
theorem air_far {p : List Int} (hok : okPat p = true) (b : Int) (j : Nat) (hj : 15 ≤ j) : airF p b j = 0 := by
  have := from_upto hok (b + j)
  rw [airF, if_neg (by omega)]
/-- the throw from x lands at x + at x, and no other one -/
theorem from_land {p : List Int} (hok : okPat p = true) (x : Int) : fromL p (x + atL p x) = x := by
  obtain ⟨t, ht, hf, hat, hun⟩ := from_spec hok (x + atL p x)
  have hp : 0 ≤ atL p x := by
    obtain ⟨h1, h2⟩ := okPat_len hok
    have e0 := Int.emod_nonneg x (show (p.length : Int) ≠ 0 by omega)
    have e1 := Int.emod_lt_of_pos x (show 0 < (p.length : Int) by omega)
    exact (okPat_at hok _ (by omega)).1
  have := hun (atL p x).toNat (by rw [show x + atL p x - ((atL p x).toNat : Int) = x by omega]; omega)
  omega
theorem at_low {p : List Int} (hok : okPat p = true) (x : Int) : 0 ≤ atL p x ∧ atL p x ≤ 15 := by
  obtain ⟨h1, h2⟩ := okPat_len hok
  have e0 := Int.emod_nonneg x (show (p.length : Int) ≠ 0 by omega)
  have e1 := Int.emod_lt_of_pos x (show 0 < (p.length : Int) by omega)
  exact okPat_at hok _ (by omega)
theorem from_is {p : List Int} (hok : okPat p = true) {x y : Int} (h : fromL p y = x) : y = x + atL p x := by
  obtain ⟨t, ht, hf, hat, hun⟩ := from_spec hok y
  rw [hf] at h
  rw [← h, hat]
  omega
/-- one beat on -/
theorem air_next {p : List Int} (hok : okPat p = true) (b : Int) (j : Nat) : airF p (b + 1) j = airF p b (j + 1) + (if j = (atL p b - 1).toNat then (if atL p b = 0 then 0 else 1) else 0) := by
  have hl := at_low hok b
  have e : b + 1 + (j : Int) = b + ((j + 1 : Nat) : Int) := by omega
  unfold airF
  rw [e]
  by_cases h : fromL p (b + ((j + 1 : Nat) : Int)) = b
  · have h2 := from_is hok h
    have h3 : j = (atL p b - 1).toNat := by omega
    rw [if_pos (by omega), if_neg (by omega), if_pos h3, if_neg (by omega)]; omega
  · have h3 : ¬ (j = (atL p b - 1).toNat ∧ atL p b ≠ 0) := by
      rintro ⟨h4, h5⟩
      apply h
      have := from_land hok b
      rwa [show b + atL p b = b + ((j + 1 : Nat) : Int) by omega] at this
    by_cases h6 : fromL p (b + ((j + 1 : Nat) : Int)) < b
    · rw [if_pos (by omega), if_pos h6]
      by_cases h7 : j = (atL p b - 1).toNat
      · rw [if_pos h7, if_pos (by refine Classical.byContradiction fun hn => h3 ⟨h7, hn⟩)]; omega
      · rw [if_neg h7]; omega
    · rw [if_neg (by omega), if_neg h6]
      by_cases h7 : j = (atL p b - 1).toNat
      · rw [if_pos h7, if_pos (by refine Classical.byContradiction fun hn => h3 ⟨h7, hn⟩)]; omega
      · rw [if_neg h7]; omega
theorem air_zero {p : List Int} (hok : okPat p = true) (b : Int) : airF p b 0 = if atL p b = 0 then 0 else 1 := by
  unfold airF
  rw [show b + ((0 : Nat) : Int) = b by simp]
  by_cases h : atL p b = 0
  · have h2 := from_land hok b
    rw [h, Int.add_zero] at h2
    rw [if_pos h, if_neg (by omega)]
  · rw [if_neg h, if_pos (from_before hok h).2]
theorem airN_next {p : List Int} (hok : okPat p = true) (b : Int) : airN p (b + 1) = airN p b := by
  have hl := at_low hok b
  unfold airN
  rw [smF_congr 16 (fun j _ => air_next hok b j), smF_add, smF_shift, smF_one]
  have h1 : smF (airF p b) (16 + 1) = smF (airF p b) 16 := smF_more 16 (fun j hj => air_far hok b j (by omega)) 1
  have hlt : (atL p b - 1).toNat < 16 := by omega
  rw [h1, air_zero hok b, if_pos hlt]
  by_cases h8 : atL p b = 0
  · simp only [if_pos h8]; omega
  · simp only [if_neg h8]; omega
theorem airS_next {p : List Int} (hok : okPat p = true) (b : Int) : airS p (b + 1) = airS p b - airN p b + atL p b := by
  have hl := at_low hok b
  have e1 : smF (fun j => (j : Int) * airF p (b + 1) j) 16 = smF (fun j => ((((j + 1 : Nat) : Int) * airF p b (j + 1) + (-1) * airF p b (j + 1))) + (if j = (atL p b - 1).toNat then (if atL p b = 0 then 0 else atL p b - 1) else 0)) 16 := by
    refine smF_congr 16 fun j _ => ?_
    rw [air_next hok b j, Int.mul_add]
    have : (j : Int) * airF p b (j + 1) = ((j + 1 : Nat) : Int) * airF p b (j + 1) + (-1) * airF p b (j + 1) := by
      rw [← Int.add_mul]; congr 1; omega
    rw [this]
    congr 1
    by_cases h7 : j = (atL p b - 1).toNat
    · rw [if_pos h7, if_pos h7]
      by_cases h8 : atL p b = 0
      · rw [if_pos h8, if_pos h8]; omega
      · rw [if_neg h8, if_neg h8]; omega
    · rw [if_neg h7, if_neg h7]; omega
  have e2 : smF (fun j => (-1) * airF p b (j + 1)) 16 = - smF (fun j => airF p b (j + 1)) 16 := by
    have : ∀ k, smF (fun j => (-1) * airF p b (j + 1)) k = - smF (fun j => airF p b (j + 1)) k := by
      intro k
      induction k with
      | zero => rfl
      | succ k ih => simp only [smF, ih]; omega
    exact this 16
  have e3 := smF_shift (fun j => (j : Int) * airF p b j) 16
  have e4 := smF_shift (airF p b) 16
  have h1 : smF (airF p b) (16 + 1) = smF (airF p b) 16 := smF_more 16 (fun j hj => air_far hok b j (by omega)) 1
  have h2 : smF (fun j => (j : Int) * airF p b j) (16 + 1) = smF (fun j => (j : Int) * airF p b j) 16 := smF_more 16 (fun j hj => by rw [air_far hok b j (by omega)]; omega) 1
  have e5 := air_zero hok b
  unfold airS airN
  have hlt : (atL p b - 1).toNat < 16 := by omega
  rw [e1, smF_add, smF_add, smF_one, e2, e3, e4, h1, h2, e5, if_pos hlt]
  by_cases h8 : atL p b = 0
  · simp only [if_pos h8]; omega
  · simp only [if_neg h8]; omega
theorem airN_all {p : List Int} (hok : okPat p = true) (k : Nat) : airN p (k : Int) = airN p 0 := by
  induction k with
  | zero => rfl
  | succ k ih => rw [← ih, ← airN_next hok k]; congr 1
theorem airS_run {p : List Int} (hok : okPat p = true) (k : Nat) : airS p (k : Int) = airS p 0 - (k : Int) * airN p 0 + smF (fun j => atL p (j : Int)) k := by
  induction k with
  | zero => simp [smF]
  | succ k ih =>
    have h := airS_next hok (k : Int)
    rw [airN_all hok k, ih] at h
    have e : ((k + 1 : Nat) : Int) = (k : Int) + 1 := by omega
    rw [e, h, Int.add_mul]
    simp only [smF]
    omega
theorem atL_perD {p : List Int} (x : Int) : atL p (x + p.length) = atL p x := by
  unfold atL
  rw [Int.add_emod_right]
theorem fromL_per2 {p : List Int} (hok : okPat p = true) (x : Int) : fromL p (x + p.length) = fromL p x + p.length := by
  have h1 := from_is hok (x := fromL p x) (y := x) rfl
  have h2 := from_land hok (fromL p x + p.length)
  rw [atL_perD] at h2
  rwa [show fromL p x + (p.length : Int) + atL p (fromL p x) = x + p.length by omega] at h2
theorem airS_per {p : List Int} (hok : okPat p = true) : airS p (p.length : Int) = airS p 0 := by
  unfold airS
  refine smF_congr 16 fun j _ => ?_
  congr 1
  unfold airF
  rw [show ((p.length : Int) + (j : Int)) = (0 + (j : Int)) + p.length by omega, fromL_per2 hok]
  by_cases h : fromL p (0 + (j : Int)) < 0
  · rw [if_pos (by omega), if_pos h]
  · rw [if_neg (by omega), if_neg h]
theorem smF_sum (p : List Int) (k : Nat) (hk : k ≤ p.length) : smF (fun j => atL p (j : Int)) k = (p.take k).sum := by
  induction k with
  | zero => rfl
  | succ k ih =>
    rw [sum_take k (by omega)]
    simp only [smF]
    rw [ih (by omega)]
    congr 1
    unfold atL
    rw [Int.emod_eq_of_lt (by omega) (by omega), Int.toNat_natCast]
/-- as many props are in the air as told -/
theorem airN_props {p : List Int} (hok : okPat p = true) : airN p 0 = propsA p := by
  have h := airS_run hok p.length
  rw [airS_per hok, smF_sum p p.length (Nat.le_refl _), List.take_length] at h
  have hl := (okPat_len hok).1
  rw [propsA_true hok]
  have : p.sum = (p.length : Int) * airN p 0 := by omega
  rw [this, Int.mul_ediv_cancel_left _ (by omega)]
/-- the props that have been numbered -/
theorem ordN_count {p : List Int} (hok : okPat p = true) (k : Nat) : ((ordN p k : Nat) : Int) = smF (airF p 0) k := by
  induction k with
  | zero => rfl
  | succ k ih =>
    simp only [smF]
    rw [← ih]
    unfold airF
    rw [show (0 : Int) + (k : Int) = k by omega]
    by_cases h : atL p (k : Int) = 0
    · have h2 := from_land hok (k : Int)
      rw [h, Int.add_zero] at h2
      rw [(ord_zero h).2, if_neg (by omega)]; omega
    · by_cases h2 : fromL p (k : Int) < 0
      · rw [(ord_new h h2).2, if_pos h2]; omega
      · rw [(ord_old h h2).2, if_neg h2]; omega
theorem ordN_all {p : List Int} (hok : okPat p = true) (k : Nat) (hk : 16 ≤ k) : ((ordN p k : Nat) : Int) = propsA p := by
  rw [ordN_count hok, ← airN_props hok]
  obtain ⟨m, rfl⟩ : ∃ m, k = 16 + m := ⟨k - 16, by omega⟩
  exact smF_more 16 (fun j hj => air_far hok 0 j (by omega)) m
theorem ordN_mono (p : List Int) (k m : Nat) : ordN p k ≤ ordN p (k + m) := by
  induction m with
  | zero => exact Nat.le_refl _
  | succ m ih =>
    have : ordN p (k + m) ≤ ordN p (k + m + 1) := by
      by_cases h : atL p ((k + m : Nat) : Int) = 0
      · rw [(ord_zero h).2]; exact Nat.le_refl _
      · by_cases h2 : fromL p ((k + m : Nat) : Int) < 0
        · rw [(ord_new h h2).2]; omega
        · rw [(ord_old h h2).2]; exact Nat.le_refl _
    exact Nat.le_trans ih this
theorem ordN_props {p : List Int} (hok : okPat p = true) (k : Nat) : ((ordN p k : Nat) : Int) ≤ propsA p := by
  have h1 := ordN_mono p k 16
  have h2 := ordN_all hok (k + 16) (by omega)
  omega
/-- which prop is thrown at a beat -/
def ordO (p : List Int) (b : Nat) : Int := (ordA p (b + 1)).getD b 0
theorem ordO_at (p : List Int) {b n : Nat} (h : b < n) : (ordA p n).getD b 0 = ordO p b := ordA_at p h
theorem ordO_zero {p : List Int} {b : Nat} (h : atL p (b : Int) = 0) : ordO p b = -1 := by
  have := ordA_len p b
  rw [ordO, (ord_zero h).1]
  simp [List.getD_eq_getElem?_getD, List.getElem?_append_right, this]
theorem ordO_new {p : List Int} {b : Nat} (h : ¬ atL p (b : Int) = 0) (h2 : fromL p (b : Int) < 0) : ordO p b = (ordN p b : Nat) := by
  have := ordA_len p b
  rw [ordO, (ord_new h h2).1]
  simp [List.getD_eq_getElem?_getD, List.getElem?_append_right, this]
theorem ordO_old {p : List Int} (hok : okPat p = true) {b : Nat} (h : ¬ atL p (b : Int) = 0) (h2 : ¬ fromL p (b : Int) < 0) : ordO p b = ordO p (fromL p (b : Int)).toNat := by
  have := ordA_len p b
  have hb := (from_before hok h).2
  show _ = (ordA p ((fromL p (b : Int)).toNat + 1)).getD (fromL p (b : Int)).toNat 0
  rw [ordO, (ord_old h h2).1, ← ordA_at p (show (fromL p (b : Int)).toNat < b by omega)]
  simp [List.getD_eq_getElem?_getD, List.getElem?_append_right, this]
theorem ordO_range {p : List Int} (hok : okPat p = true) : ∀ b : Nat, ¬ atL p (b : Int) = 0 → 0 ≤ ordO p b ∧ ordO p b < (ordN p (b + 1) : Nat) := by
  intro b
  induction b using Nat.strongRecOn with
  | _ b ih =>
    intro h
    by_cases h2 : fromL p (b : Int) < 0
    · rw [ordO_new h h2, (ord_new h h2).2]; omega
    · rw [ordO_old hok h h2, (ord_old h h2).2]
      have hb := (from_before hok h).2
      have he := from_is hok (x := fromL p (b : Int)) (y := (b : Int)) rfl
      have hx : ((fromL p (b : Int)).toNat : Int) = fromL p (b : Int) := by omega
      have := ih (fromL p (b : Int)).toNat (by omega) (by rw [hx]; omega)
      have hm := ordN_mono p ((fromL p (b : Int)).toNat + 1) (b - ((fromL p (b : Int)).toNat + 1))
      rw [show (fromL p (b : Int)).toNat + 1 + (b - ((fromL p (b : Int)).toNat + 1)) = b by omega] at hm
      omega
/-- one beat of the law's loop -/
theorem ordO_step {p : List Int} (hok : okPat p = true) (b : Nat) :
    (atL p (b : Int) = 0 ∧ ordO p b = -1 ∧ ordN p (b + 1) = ordN p b) ∨ (0 < atL p (b : Int) ∧ ordO p b = (ordN p b : Nat) ∧ ordN p (b + 1) = ordN p b + 1) ∨ (0 < atL p (b : Int) ∧ 0 ≤ ordO p b ∧ ordO p b < (ordN p b : Nat) ∧ ordN p (b + 1) = ordN p b) := by
  have hl := at_low hok (b : Int)
  by_cases h : atL p (b : Int) = 0
  · exact .inl ⟨h, ordO_zero h, (ord_zero h).2⟩
  · by_cases h2 : fromL p (b : Int) < 0
    · exact .inr (.inl ⟨by omega, ordO_new h h2, (ord_new h h2).2⟩)
    · have := ordO_range hok b h
      rw [(ord_old h h2).2] at this
      exact .inr (.inr ⟨by omega, this.1, this.2, (ord_old h h2).2⟩)
/-- a prop is thrown again where it lands -/
theorem ordO_land {p : List Int} (hok : okPat p = true) (b t : Nat) (ht : atL p (b : Int) = t) (h0 : 0 < t) : ordO p (b + t) = ordO p b := by
  have hf := from_land hok (b : Int)
  rw [ht] at hf
  have hc : (b : Int) + (t : Int) = ((b + t : Nat) : Int) := by omega
  rw [hc] at hf
  have hne : ¬ atL p ((b + t : Nat) : Int) = 0 := by
    intro h
    have := from_land hok ((b + t : Nat) : Int)
    rw [h, Int.add_zero] at this
    omega
  have := ordO_old hok hne (by omega)
  rw [hf, Int.toNat_natCast] at this
  exact this
/-- the beats of a prop are in order, and at them it is thrown -/
theorem thF_mem {x : Int} {L : List Int} : ∀ k i, i < (thF x L k).length → 0 ≤ (thF x L k).getD i 0 ∧ (thF x L k).getD i 0 < k ∧ L.getD ((thF x L k).getD i 0).toNat 0 = x := by
  intro k
  induction k with
  | zero => intro i hi; simp [thF] at hi
  | succ k ih =>
    intro i hi
    by_cases h : L.getD k 0 = x
    · rw [thF_yes h] at hi ⊢
      by_cases hl : i < (thF x L k).length
      · have := ih i hl
        rw [show ((thF x L k) ++ [(k : Int)]).getD i 0 = (thF x L k).getD i 0 by simp [List.getElem?_append_left hl]]
        exact ⟨this.1, by omega, this.2.2⟩
      · have e : i = (thF x L k).length := by simp at hi; omega
        rw [show ((thF x L k) ++ [(k : Int)]).getD i 0 = (k : Int) by subst e; simp]
        exact ⟨by omega, by omega, by rw [Int.toNat_natCast]; exact h⟩
    · rw [thF_no h] at hi ⊢
      have := ih i hi
      exact ⟨this.1, by omega, this.2.2⟩
theorem thF_up {x : Int} {L : List Int} : ∀ k i, i + 1 < (thF x L k).length → (thF x L k).getD i 0 < (thF x L k).getD (i + 1) 0 := by
  intro k
  induction k with
  | zero => intro i hi; simp [thF] at hi
  | succ k ih =>
    intro i hi
    by_cases h : L.getD k 0 = x
    · rw [thF_yes h] at hi ⊢
      by_cases hl : i + 1 < (thF x L k).length
      · have := ih i hl
        rw [show ((thF x L k) ++ [(k : Int)]).getD i 0 = (thF x L k).getD i 0 by simp [List.getElem?_append_left (show i < (thF x L k).length by omega)], show ((thF x L k) ++ [(k : Int)]).getD (i + 1) 0 = (thF x L k).getD (i + 1) 0 by simp [List.getElem?_append_left hl]]
        exact this
      · have e : i + 1 = (thF x L k).length := by simp at hi; omega
        have hm := thF_mem (x := x) (L := L) k i (by omega)
        rw [show ((thF x L k) ++ [(k : Int)]).getD i 0 = (thF x L k).getD i 0 by simp [List.getElem?_append_left (show i < (thF x L k).length by omega)], show ((thF x L k) ++ [(k : Int)]).getD (i + 1) 0 = (k : Int) by rw [e]; simp]
        omega
    · rw [thF_no h] at hi ⊢
      exact ih i hi
end Go.Proofs.Ytlpeigeadjojnab
