/- Plain mathematics of chapter 3: rotations, reversals, exchanges, roots and canonical forms of lists of throws. It imports no program. No conditions. -/
import Derived.Test.YtlpeigeadjojnaaPat
namespace Go.Proofs.Ytlpeigeadjojnaa

theorem getD_mem {p : List Int} {i : Nat} (hi : i < p.length) : p.getD i 0 ∈ p := by
  rw [List.getD_eq_getElem?_getD, List.getElem?_eq_getElem hi]; exact List.getElem_mem hi
theorem ext_getD {a b : List Int} (hl : a.length = b.length) (h : ∀ i, i < a.length → a.getD i 0 = b.getD i 0) : a = b := by
  apply List.ext_getElem hl
  intro i h1 h2
  have := h i h1
  rw [List.getD_eq_getElem?_getD, List.getD_eq_getElem?_getD, List.getElem?_eq_getElem h1, List.getElem?_eq_getElem h2] at this
  simpa using this
theorem getD_mk (n : Nat) (f : Nat → Int) (i : Nat) (hi : i < n) : ((List.range n).map f).getD i 0 = f i := by
  rw [List.getD_eq_getElem?_getD, List.getElem?_map, List.getElem?_range hi]; rfl
theorem take_mk (n : Nat) (f : Nat → Int) (k : Nat) (hk : k < n) : ((List.range n).map f).take (k + 1) = ((List.range n).map f).take k ++ [f k] := by
  rw [List.take_succ_eq_append_getElem (by simpa using hk)]
  simp
theorem getD_app (a b : List Int) (i : Nat) : (a ++ b).getD i 0 = if i < a.length then a.getD i 0 else b.getD (i - a.length) 0 := by
  by_cases h : i < a.length
  · rw [if_pos h, List.getD_eq_getElem?_getD, List.getElem?_append_left h, List.getD_eq_getElem?_getD]
  · rw [if_neg h, List.getD_eq_getElem?_getD, List.getElem?_append_right (by omega), List.getD_eq_getElem?_getD]
theorem getD_drop (a : List Int) (s i : Nat) : (a.drop s).getD i 0 = a.getD (s + i) 0 := by
  rw [List.getD_eq_getElem?_getD, List.getElem?_drop, List.getD_eq_getElem?_getD]
theorem getD_take (a : List Int) (s i : Nat) (h : i < s) : (a.take s).getD i 0 = a.getD i 0 := by
  rw [List.getD_eq_getElem?_getD, List.getElem?_take, if_pos h, List.getD_eq_getElem?_getD]
theorem getD_upd (l : List Int) (i j : Nat) (x : Int) (hi : i < l.length) : (l.set i x).getD j 0 = if j = i then x else l.getD j 0 := by
  by_cases h : j = i
  · subst h
    rw [if_pos rfl, List.getD_eq_getElem?_getD, List.getElem?_set_self hi]
    rfl
  · rw [if_neg h, List.getD_eq_getElem?_getD, List.getElem?_set_ne (Ne.symm h), List.getD_eq_getElem?_getD]
theorem okList_mk {p : List Int} (h1 : 1 ≤ p.length) (h2 : p.length ≤ 12) (h : ∀ i, i < p.length → 0 ≤ p.getD i 0 ∧ p.getD i 0 ≤ 15) : okList p = true := by
  unfold okList
  rw [inB_true (by omega), Bool.and_true, List.all_eq_true]
  intro x hxm
  obtain ⟨i, hi, rfl⟩ := List.getElem_of_mem hxm
  have := h i hi
  rw [List.getD_eq_getElem?_getD, List.getElem?_eq_getElem hi] at this
  exact inB_true this
theorem okPat_mk {p : List Int} (h : okList p = true) (hd : distinct (lnd p) p.length) : okPat p = true := by rw [okPat, h, clash_none hd]; rfl

/- throws at beats -/
theorem atL_per (p : List Int) (x y : Int) (h : x % (p.length : Int) = y % (p.length : Int)) : atL p x = atL p y := by unfold atL; rw [h]
theorem atL_nat (p : List Int) (i : Nat) (hi : i < p.length) : atL p i = p.getD i 0 := by
  unfold atL; rw [Int.emod_eq_of_lt (by omega) (by omega)]; rfl
theorem atL_add_len (p : List Int) (x : Int) : atL p (x + p.length) = atL p x := atL_per p _ _ (by simp)
theorem ext_atL {a b : List Int} (hl : a.length = b.length) (h : ∀ x : Int, atL a x = atL b x) : a = b :=
  ext_getD hl fun i hi => by rw [← atL_nat a i hi, ← atL_nat b i (by omega)]; exact h i
theorem mod_nat (n : Nat) (hn : 1 ≤ n) (x : Int) : ∃ i : Nat, i < n ∧ x % (n : Int) = i := by
  have e0 := Int.emod_nonneg x (show (n : Int) ≠ 0 by omega)
  have e1 := Int.emod_lt_of_pos x (show 0 < (n : Int) by omega)
  exact ⟨(x % (n : Int)).toNat, by omega, by omega⟩
/-- what holds at the beats of a period holds at all beats -/
theorem all_beats {n : Nat} (hn : 1 ≤ n) {P : Int → Prop} (hP : ∀ x y : Int, x % (n : Int) = y % (n : Int) → P x → P y) (h : ∀ i : Nat, i < n → P i) (x : Int) : P x := by
  obtain ⟨i, hi, he⟩ := mod_nat n hn x
  exact hP i x (by rw [he, Int.emod_eq_of_lt (by omega) (by omega)]) (h i hi)

/-- the rotation of a list -/
def rotL (p : List Int) (by_ : Int) : List Int := (List.range p.length).map (fun (i : Nat) => atL p ((i : Int) + by_))
theorem rotL_len (p : List Int) (s : Int) : (rotL p s).length = p.length := by simp [rotL]
theorem rotL_getD (p : List Int) (s : Int) (i : Nat) (hi : i < p.length) : (rotL p s).getD i 0 = atL p (i + s) := getD_mk _ _ _ hi
theorem rotL_take (p : List Int) (s : Int) (k : Nat) (hk : k < p.length) : (rotL p s).take (k + 1) = (rotL p s).take k ++ [atL p (k + s)] := take_mk _ _ _ hk
theorem atL_rotL (p : List Int) (hp : 1 ≤ p.length) (s x : Int) : atL (rotL p s) x = atL p (x + s) := by
  refine all_beats (n := p.length) hp (P := fun x => atL (rotL p s) x = atL p (x + s)) ?_ ?_ x
  · intro x y hxy h
    rw [← atL_per (rotL p s) x y (by rw [rotL_len]; exact hxy), h]
    exact atL_per p _ _ (by rw [Int.add_emod, hxy, ← Int.add_emod])
  · intro i hi
    rw [atL_nat _ i (by rw [rotL_len]; exact hi), rotL_getD p s i hi]
theorem rotL_rotL (p : List Int) (hp : 1 ≤ p.length) (s t : Int) : rotL (rotL p s) t = rotL p (s + t) := by
  refine ext_atL (by simp [rotL_len]) fun x => ?_
  rw [atL_rotL _ (by rw [rotL_len]; exact hp), atL_rotL _ hp, atL_rotL _ hp]
  congr 1; omega
theorem rotL_zero (p : List Int) (hp : 1 ≤ p.length) : rotL p 0 = p := ext_atL (rotL_len _ _) fun x => by rw [atL_rotL p hp]; simp
theorem rotL_len_self (p : List Int) (hp : 1 ≤ p.length) : rotL p p.length = p := ext_atL (rotL_len _ _) fun x => by rw [atL_rotL p hp, atL_add_len]
theorem rotL_mod (p : List Int) (hp : 1 ≤ p.length) (s t : Int) (h : s % (p.length : Int) = t % (p.length : Int)) : rotL p s = rotL p t :=
  ext_atL (by simp [rotL_len]) fun x => by
    rw [atL_rotL p hp, atL_rotL p hp]
    exact atL_per p _ _ (by rw [Int.add_emod, h, ← Int.add_emod])
theorem rotL_split (p : List Int) (s : Int) (m : Nat) (hm : m < p.length) (h : s % (p.length : Int) = m) : p.drop m ++ p.take m = rotL p s := by
  have hp : 1 ≤ p.length := by omega
  refine ext_getD (by simp [rotL_len]; omega) fun i hi => ?_
  simp at hi
  rw [rotL_getD p s i (by omega), getD_app, List.length_drop]
  by_cases hlt : i < p.length - m
  · rw [if_pos hlt, getD_drop, ← atL_nat p (m + i) (by omega)]
    exact atL_per p _ _ (by rw [show ((m + i : Nat) : Int) = i + m from by omega, Int.add_emod (i : Int) s, h]; simp)
  · rw [if_neg hlt, getD_take _ _ _ (by omega), ← atL_nat p (i - (p.length - m)) (by omega)]
    refine atL_per p _ _ ?_
    rw [show ((i - (p.length - m) : Nat) : Int) = i + m - p.length from by omega, Int.add_emod (i : Int) s, h]
    simp

/-- the reversal of a pattern -/
def revL (p : List Int) : List Int := (List.range p.length).map (fun (j : Nat) => ((p.length : Int) - 1 - j) - fromL p ((p.length : Int) - 1 - j))
theorem revL_len (p : List Int) : (revL p).length = p.length := by simp [revL]
theorem revL_take (p : List Int) (k : Nat) (hk : k < p.length) : (revL p).take (k + 1) = (revL p).take k ++ [((p.length : Int) - 1 - k) - fromL p ((p.length : Int) - 1 - k)] := take_mk _ _ _ hk
theorem revL_at {p : List Int} (h : okPat p = true) (i : Nat) (hi : i < p.length) : (revL p).getD ((p.length : Int) - 1 - lnd p i).toNat 0 = p.getD i 0 := by
  have hb := lnd_bound p (by omega) i
  rw [revL, getD_mk _ _ _ (by omega), show ((((p.length : Int) - 1 - lnd p i).toNat : Nat) : Int) = (p.length : Int) - 1 - lnd p i from by omega,
    show (p.length : Int) - 1 - ((p.length : Int) - 1 - lnd p i) = lnd p i from by omega]
  rw [fromL_some hi (Int.emod_eq_of_lt hb.1 hb.2).symm fun a ha e => okPat_distinct h a i ha hi (e.trans (Int.emod_eq_of_lt hb.1 hb.2))]
  omega
/-- each place of the reversal is one of a landing -/
theorem rev_place {p : List Int} (h : okPat p = true) (j : Nat) (hj : j < p.length) : ∃ i, i < p.length ∧ ((p.length : Int) - 1 - lnd p i).toNat = j ∧ lnd p i = (p.length : Int) - 1 - j := by
  obtain ⟨i, hi, he⟩ := lnd_onto h ((p.length : Int) - 1 - j) (by omega) (by omega)
  exact ⟨i, hi, by omega, he⟩
theorem revL_unique {p q : List Int} (h : okPat p = true) (hl : q.length = p.length) (hq : ∀ i, i < p.length → q.getD ((p.length : Int) - 1 - lnd p i).toNat 0 = p.getD i 0) : q = revL p := by
  refine ext_getD (by rw [revL_len, hl]) fun j hj => ?_
  obtain ⟨i, hi, e, _⟩ := rev_place h j (by omega)
  rw [← e, hq i hi, revL_at h i hi]
/-- where the throws of the reversal land -/
theorem lnd_rev {p : List Int} (h : okPat p = true) (i : Nat) (hi : i < p.length) : lnd (revL p) ((p.length : Int) - 1 - lnd p i).toNat = (p.length : Int) - 1 - i := by
  have hb := lnd_bound p (by omega) i
  unfold lnd at *
  rw [show ((((p.length : Int) - 1 - ((i : Int) + p.getD i 0) % (p.length : Int)).toNat : Nat) : Int) = (p.length : Int) - 1 - ((i : Int) + p.getD i 0) % (p.length : Int) from by omega]
  have := revL_at h i hi
  unfold lnd at this
  rw [this, revL_len]
  have e : (p.length : Int) - 1 - ((i : Int) + p.getD i 0) % (p.length : Int) + p.getD i 0 = ((p.length : Int) - 1 + p.getD i 0) - ((i : Int) + p.getD i 0) % (p.length : Int) := by omega
  rw [e, Int.sub_emod, Int.emod_emod, ← Int.sub_emod, show (p.length : Int) - 1 + p.getD i 0 - ((i : Int) + p.getD i 0) = (p.length : Int) - 1 - i from by omega]
  exact Int.emod_eq_of_lt (by omega) (by omega)
theorem revL_ok {p : List Int} (h : okPat p = true) : okPat (revL p) = true := by
  obtain ⟨l1, l2⟩ := okPat_len h
  refine okPat_mk (okList_mk (by rw [revL_len]; exact l1) (by rw [revL_len]; exact l2) fun j hj => ?_) ?_
  · rw [revL_len] at hj
    obtain ⟨i, hi, e, _⟩ := rev_place h j hj
    rw [← e, revL_at h i hi]
    exact okPat_at h i hi
  · intro a b hab hb e
    rw [revL_len] at hb
    obtain ⟨i, hi, ei, li⟩ := rev_place h a (by omega)
    obtain ⟨j, hj, ej, lj⟩ := rev_place h b hb
    have e1 := lnd_rev h i hi
    have e2 := lnd_rev h j hj
    rw [ei] at e1
    rw [ej] at e2
    have : i = j := by omega
    subst this
    omega
theorem revL_revL {p : List Int} (h : okPat p = true) : revL (revL p) = p := by
  obtain ⟨l1, l2⟩ := okPat_len h
  refine (revL_unique (revL_ok h) (by rw [revL_len]) ?_).symm
  intro j hj
  rw [revL_len] at hj ⊢
  obtain ⟨i, hi, e, _⟩ := rev_place h j hj
  rw [← e, lnd_rev h i hi, revL_at h i hi]
  congr 1; omega

/-- an answer with a code -/
def resA (c : Int) (q : List Int) : List Int := if c = 0 then q else []
theorem resA_ok (q : List Int) : resA 0 q = q := by rw [resA, if_pos rfl]
theorem resA_bad (c : Int) (q : List Int) (h : c ≠ 0) : resA c q = [] := by rw [resA, if_neg h]
theorem resA_len (c : Int) (q : List Int) : (resA c q).length ≤ q.length := by
  by_cases h : c = 0
  · subst h; rw [resA_ok]; exact Nat.le_refl _
  · rw [resA_bad c q h]; simp
/-- the code of a list that must be one of throws -/
def chkC (q : List Int) : Int := if okList q then 0 else 2
theorem chkC_ok {q : List Int} (h : okList q = true) : chkC q = 0 := by rw [chkC, if_pos h]
theorem chkC_bad {q : List Int} (h : okList q = false) : chkC q = 2 := by rw [chkC, if_neg (by simp [h])]
/-- the code of a pattern and a further condition, with the code behind it -/
def patC (p : List Int) (b : Bool) (c : Int) : Int := if okPat p then (if b then c else 2) else 1
theorem patC_bad {p : List Int} (b : Bool) (c : Int) (h : okPat p = false) : patC p b c = 1 := by rw [patC, if_neg (by simp [h])]
theorem patC_far {p : List Int} (c : Int) (h : okPat p = true) : patC p false c = 2 := by rw [patC, if_pos h, if_neg (by simp)]
theorem patC_ok {p : List Int} (c : Int) (h : okPat p = true) : patC p true c = c := by rw [patC, if_pos h, if_pos rfl]

/-- the throws i and k land where the other one has landed -/
def swapL (p : List Int) (i k : Nat) : List Int := (p.set i (p.getD k 0 + k - i)).set k (p.getD i 0 + i - k)
theorem swapL_len (p : List Int) (i k : Nat) : (swapL p i k).length = p.length := by simp [swapL]
theorem swapL_at (p : List Int) (i k j : Nat) (hi : i < p.length) (hk : k < p.length) : (swapL p i k).getD j 0 = if j = k then p.getD i 0 + i - k else if j = i then p.getD k 0 + k - i else p.getD j 0 := by
  unfold swapL
  rw [getD_upd _ _ _ _ (by simpa using hk), getD_upd _ _ _ _ hi]
def raiseL (p : List Int) (i : Nat) : List Int := p.set i (p.getD i 0 + p.length)
theorem raiseL_len (p : List Int) (i : Nat) : (raiseL p i).length = p.length := by simp [raiseL]
def shiftL (p : List Int) (s : Int) : List Int := (List.range p.length).map (fun i => p.getD i 0 + s)
theorem shiftL_len (p : List Int) (s : Int) : (shiftL p s).length = p.length := by simp [shiftL]
theorem shiftL_take (p : List Int) (s : Int) (k : Nat) (hk : k < p.length) : (shiftL p s).take (k + 1) = (shiftL p s).take k ++ [p.getD k 0 + s] := take_mk _ _ _ hk
theorem shiftL_getD (p : List Int) (s : Int) (k : Nat) (hk : k < p.length) : (shiftL p s).getD k 0 = p.getD k 0 + s := getD_mk _ _ _ hk
def dualL (p : List Int) (h : Int) : List Int := (List.range p.length).map (fun j => h - p.getD (p.length - 1 - j) 0)
theorem dualL_len (p : List Int) (h : Int) : (dualL p h).length = p.length := by simp [dualL]
theorem dualL_take (p : List Int) (h : Int) (k : Nat) (hk : k < p.length) : (dualL p h).take (k + 1) = (dualL p h).take k ++ [h - p.getD (p.length - 1 - k) 0] := take_mk _ _ _ hk
theorem dualL_getD (p : List Int) (h : Int) (k : Nat) (hk : k < p.length) : (dualL p h).getD k 0 = h - p.getD (p.length - 1 - k) 0 := getD_mk _ _ _ hk

/-- a list, some times one after the other -/
def repL (p : List Int) : Nat → List Int
  | 0 => []
  | m + 1 => repL p m ++ p
theorem repL_len (p : List Int) (m : Nat) : (repL p m).length = m * p.length := by
  induction m with
  | zero => simp [repL]
  | succ m ih => simp [repL, ih, Nat.add_mul]
theorem repL_getD (p : List Int) (m i : Nat) (hi : i < m * p.length) : (repL p m).getD i 0 = p.getD (i % p.length) 0 := by
  induction m with
  | zero => simp at hi
  | succ m ih =>
    rw [repL, getD_app, repL_len]
    by_cases h : i < m * p.length
    · rw [if_pos h]; exact ih h
    · rw [if_neg h]
      rw [Nat.add_mul, Nat.one_mul] at hi
      have : i % p.length = i - m * p.length := by
        have e : i = (i - m * p.length) + p.length * m := by rw [Nat.mul_comm p.length m]; omega
        conv => lhs; rw [e]
        rw [Nat.add_mul_mod_self_left, Nat.mod_eq_of_lt (by omega)]
      rw [this]

theorem toNat_mod (i k : Nat) : ((i : Int) % (k : Int)).toNat = i % k := by
  rw [← Int.natCast_emod]; rfl
/-- the list repeats its first k throws -/
theorem rep_of_rot {p : List Int} {k m : Nat} (hk : 1 ≤ k) (hm : 1 ≤ m) (hl : p.length = m * k) (h : rotL p k = p) : repL (p.take k) m = p := by
  have hkl : k ≤ p.length := by rw [hl]; exact Nat.le_mul_of_pos_left k hm
  have hp : 1 ≤ p.length := by omega
  have hlen : (p.take k).length = k := by simp; omega
  have hper : ∀ (q : Nat) (x : Int), atL p (x + (k : Int) * q) = atL p x := by
    intro q
    induction q with
    | zero => intro x; simp
    | succ q ih =>
      intro x
      have := ih (x + k)
      rw [show x + (k : Int) * ((q + 1 : Nat) : Int) = x + k + (k : Int) * q from by rw [Int.natCast_add, Int.mul_add]; omega, this, ← atL_rotL p hp, h]
  refine ext_getD (by rw [repL_len, hlen, hl]) fun i hi => ?_
  rw [repL_len, hlen, ← hl] at hi
  have hmod := Nat.mod_lt i (show k > 0 by omega)
  rw [repL_getD _ _ _ (by rw [hlen, ← hl]; exact hi), hlen, getD_take _ _ _ hmod, ← atL_nat p i hi, ← atL_nat p (i % k) (by omega)]
  have := hper (i / k) ((i % k : Nat) : Int)
  rw [← this]
  congr 1
  rw [← Int.natCast_mul, ← Int.natCast_add, Nat.mod_add_div]
theorem rot_of_rep {p q : List Int} {m : Nat} (hq : 1 ≤ q.length) (hm : 1 ≤ m) (h : repL q m = p) : rotL p q.length = p := by
  have hl : p.length = m * q.length := by rw [← h, repL_len]
  have hp : 1 ≤ p.length := by rw [hl]; exact Nat.le_trans hq (Nat.le_mul_of_pos_left _ hm)
  have hat : ∀ x : Int, atL p x = atL q x := by
    intro x
    refine all_beats (n := p.length) hp (P := fun x => atL p x = atL q x) ?_ ?_ x
    · intro x y hxy h
      rw [← atL_per p x y hxy, h]
      refine atL_per q _ _ ?_
      have hd : (q.length : Int) ∣ (p.length : Int) := ⟨m, by rw [hl, Int.natCast_mul, Int.mul_comm]⟩
      rw [← Int.emod_emod_of_dvd x hd, hxy, Int.emod_emod_of_dvd y hd]
    · intro i hi
      rw [atL_nat p i hi, ← h, repL_getD _ _ _ (by omega)]
      unfold atL
      rw [toNat_mod i _]
  refine ext_atL (rotL_len _ _) fun x => ?_
  rw [atL_rotL p hp, hat, hat, atL_add_len]

/-- the least period of a list -/
def rootK (p : List Int) : Nat := match (List.range p.length).find? (fun j => decide (rotL p ((j + 1 : Nat) : Int) = p)) with
  | some j => j + 1
  | none => 0
theorem rootK_spec {p : List Int} (hp : 1 ≤ p.length) : 1 ≤ rootK p ∧ rootK p ≤ p.length ∧ rotL p (rootK p) = p ∧ ∀ j : Nat, 1 ≤ j → j < rootK p → rotL p j ≠ p := by
  unfold rootK
  cases hf : (List.range p.length).find? (fun j => decide (rotL p ((j + 1 : Nat) : Int) = p)) with
  | none =>
    rw [List.find?_eq_none] at hf
    have := hf (p.length - 1) (List.mem_range.2 (by omega))
    rw [show p.length - 1 + 1 = p.length from by omega, rotL_len_self p hp] at this
    simp at this
  | some j =>
    rw [List.find?_range_eq_some] at hf
    obtain ⟨h1, h2, h3⟩ := hf
    have h2 := List.mem_range.1 h2
    refine ⟨by simp, by simp; omega, by simpa using h1, fun i hi1 hi2 => ?_⟩
    have := h3 (i - 1) (by simp at hi2; omega)
    rw [show i - 1 + 1 = i from by omega] at this
    simpa using this
theorem rotL_mul {p : List Int} (hp : 1 ≤ p.length) {k : Nat} (h : rotL p k = p) (q : Nat) : rotL p ((k : Int) * q) = p := by
  induction q with
  | zero => simpa using rotL_zero p hp
  | succ q ih =>
    rw [show (k : Int) * ((q + 1 : Nat) : Int) = (k : Int) * q + k from by rw [Int.natCast_add, Int.mul_add]; simp, ← rotL_rotL p hp, ih, h]
/-- each period is a multiple of the least one -/
theorem rootK_dvd {p : List Int} (hp : 1 ≤ p.length) {k : Nat} (h : rotL p k = p) : k % rootK p = 0 := by
  obtain ⟨h1, h2, h3, h4⟩ := rootK_spec hp
  refine Classical.byContradiction fun hne => ?_
  have hlt := Nat.mod_lt k (show rootK p > 0 by omega)
  refine h4 (k % rootK p) (by omega) hlt ?_
  have hm := rotL_mul hp h3 (k / rootK p)
  have e : rotL (rotL p ((rootK p : Int) * (k / rootK p : Nat))) ((k % rootK p : Nat) : Int) = p := by
    rw [rotL_rotL p hp, ← Int.natCast_mul, ← Int.natCast_add, Nat.div_add_mod]; exact h
  rwa [hm] at e
theorem rootK_len {p : List Int} (hp : 1 ≤ p.length) : p.length % rootK p = 0 := rootK_dvd hp (rotL_len_self p hp)
/-- the root -/
def rootL (p : List Int) : List Int := p.take (rootK p)
theorem rootL_len {p : List Int} (hp : 1 ≤ p.length) : (rootL p).length = rootK p := by
  have := rootK_spec hp
  simp [rootL]; omega
theorem rootL_bound {p : List Int} (hp : 1 ≤ p.length) : 1 ≤ (rootL p).length ∧ (rootL p).length ≤ p.length := by
  have := rootK_spec hp
  rw [rootL_len hp]; omega
/-- what the model asks of a shorter period -/
def repOk (p : List Int) (k : Nat) : Prop := p.length % k = 0 ∧ repL (p.take k) (p.length / k) = p
theorem repOk_rot {p : List Int} {k : Nat} (h1 : 1 ≤ k) (h2 : k ≤ p.length) (h : repOk p k) : rotL p k = p := by
  have hl : (p.take k).length = k := by simp; omega
  have := rot_of_rep (q := p.take k) (m := p.length / k) (by omega) (Nat.div_pos h2 h1) h.2
  rwa [hl] at this
theorem repOk_root {p : List Int} (hp : 1 ≤ p.length) : repOk p (rootK p) := by
  obtain ⟨h1, h2, h3, h4⟩ := rootK_spec hp
  have hd := rootK_len hp
  exact ⟨hd, rep_of_rot h1 (Nat.div_pos h2 h1) (by rw [Nat.div_mul_cancel (Nat.dvd_of_mod_eq_zero hd)]) h3⟩
theorem rep_root {p : List Int} (hp : 1 ≤ p.length) : repL (rootL p) (p.length / rootK p) = p := (repOk_root hp).2

/-- the greatest rotation so far -/
def canF (r : List Int) : Nat → List Int
  | 0 => r
  | k + 1 => if compL (rotL r k) (canF r k) > 0 then rotL r k else canF r k
theorem canF_some {r : List Int} {k : Nat} (h : compL (rotL r k) (canF r k) > 0) : canF r (k + 1) = rotL r k := by rw [canF, if_pos h]
theorem canF_none {r : List Int} {k : Nat} (h : ¬ compL (rotL r k) (canF r k) > 0) : canF r (k + 1) = canF r k := by rw [canF, if_neg h]
theorem compL_refl (p : List Int) : compL p p = 0 := by rw [compL_same rfl]; exact lexL_none rfl fun i hi => rfl
theorem canF_one (r : List Int) (hr : 1 ≤ r.length) : canF r 1 = r := by
  have e : rotL r ((0 : Nat) : Int) = r := rotL_zero r hr
  rw [canF, canF, e, compL_refl]; simp
theorem canF_len (r : List Int) (k : Nat) : (canF r k).length = r.length := by
  induction k with
  | zero => rfl
  | succ k ih =>
    by_cases h : compL (rotL r k) (canF r k) > 0
    · rw [canF_some h, rotL_len]
    · rw [canF_none h, ih]
def canL (p : List Int) : List Int := canF (rootL p) (rootL p).length
theorem canL_len {p : List Int} (hp : 1 ≤ p.length) : 1 ≤ (canL p).length ∧ (canL p).length ≤ p.length := by
  have := rootL_bound hp
  rw [canL, canF_len]; exact this
/-- are two patterns alike? -/
def alikeL (a b : List Int) : Bool := decide (canL a = canL b)
end Go.Proofs.Ytlpeigeadjojnaa
