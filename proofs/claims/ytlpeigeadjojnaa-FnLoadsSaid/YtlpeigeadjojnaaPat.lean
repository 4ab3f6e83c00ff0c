/- Plain mathematics of lists of throws: which lists are in bounds, which two landings are equal first, what a pattern is. It imports no program. No conditions. -/
namespace Go.Proofs.Ytlpeigeadjojnaa

/-- low ≤ n ≤ high -/
def inB (n low high : Int) : Bool := decide (low ≤ n ∧ n ≤ high)
theorem inB_true {n low high : Int} (h : low ≤ n ∧ n ≤ high) : inB n low high = true := by simp [inB, h]
theorem inB_false {n low high : Int} (h : n < low ∨ high < n) : inB n low high = false := by simp [inB]; omega
theorem inB_iff {n low high : Int} : inB n low high = true ↔ low ≤ n ∧ n ≤ high := by simp [inB]

/-- a list of throws -/
def okList (p : List Int) : Bool := p.all (fun x => inB x 0 15) && inB p.length 1 12

/-- of the values h 0 .. h (k-1) the first that equals h k -/
def clashAt (h : Nat → Int) (k : Nat) : Option Nat := (List.range k).find? (fun i => h i == h k)
/-- the first collision -/
def clash (h : Nat → Int) (n : Nat) : Option (Nat × Nat) := (List.range n).findSome? (fun k => (clashAt h k).map (fun i => (i, k)))

/-- the first k values are distinct -/
def distinct (h : Nat → Int) (k : Nat) : Prop := ∀ a b, a < b → b < k → h a ≠ h b

theorem clashAt_none {h : Nat → Int} {k : Nat} (hd : ∀ a, a < k → h a ≠ h k) : clashAt h k = none := by
  unfold clashAt
  rw [List.find?_eq_none]
  intro x hx
  have := hd x (List.mem_range.1 hx)
  simpa using this

theorem clashAt_some {h : Nat → Int} {k i : Nat} (hi : i < k) (he : h i = h k) (hd : ∀ a, a < i → h a ≠ h k) : clashAt h k = some i := by
  unfold clashAt
  rw [List.find?_range_eq_some]
  refine ⟨by simpa using he, List.mem_range.2 hi, fun j hj => ?_⟩
  have := hd j hj
  simpa using this

theorem clash_none {h : Nat → Int} {n : Nat} (hd : distinct h n) : clash h n = none := by
  unfold clash
  rw [List.findSome?_eq_none_iff]
  intro k hk
  rw [clashAt_none fun a ha => hd a k ha (List.mem_range.1 hk)]
  rfl

theorem clash_some {h : Nat → Int} {n i k : Nat} (hk : k < n) (hi : i < k) (hd : distinct h k) (he : h i = h k) (hl : ∀ a, a < i → h a ≠ h k) : clash h n = some (i, k) := by
  unfold clash
  have : List.range n = List.range k ++ (k :: List.map (fun x => k + 1 + x) (List.range (n - (k + 1)))) := by
    apply List.ext_getElem
    · simp; omega
    · intro j h1 h2
      simp at h1
      rw [List.getElem_range, List.getElem_append]
      split
      · simp
      · rename_i hj
        simp at hj
        by_cases e : j = k
        · subst e; simp
        · rw [List.getElem_cons]
          rw [dif_neg (by simp; omega)]
          simp
          omega
  rw [this, List.findSome?_append]
  have h0 : (List.range k).findSome? (fun k => (clashAt h k).map (fun i => (i, k))) = none := clash_none hd
  rw [h0]
  simp [clashAt_some hi he hl]

theorem distinct_of_none {h : Nat → Int} {n : Nat} (hc : clash h n = none) : distinct h n := by
  intro a b hab hb he
  unfold clash at hc
  rw [List.findSome?_eq_none_iff] at hc
  have := hc b (List.mem_range.2 hb)
  simp only [Option.map_eq_none_iff, clashAt, List.find?_eq_none] at this
  exact this a (List.mem_range.2 hab) (by simpa using he)

/-- the numbers that are told of a collision -/
def cl1 (o : Option (Nat × Nat)) : Int := match o with | some (i, _) => i | none => -1
def cl2 (o : Option (Nat × Nat)) : Int := match o with | some (_, k) => k | none => -1

def cl3 (o : Option (Nat × Nat)) : Int := match o with | some _ => 9 | none => 0

theorem cl1_neg (o : Option (Nat × Nat)) : decide (cl1 o < 0) = o.isNone := by
  cases o with
  | none => simp [cl1]
  | some x => exact decide_eq_false (by simp only [cl1]; omega)

/-- the landing of a throw, modulo the period -/
def lnd (p : List Int) (i : Nat) : Int := ((i : Int) + p.getD i 0) % (p.length : Int)

/-- a pattern -/
def okPat (p : List Int) : Bool := okList p && (clash (lnd p) p.length).isNone

theorem okList_len {p : List Int} (h : okList p = true) : 1 ≤ p.length ∧ p.length ≤ 12 := by
  simp [okList, inB] at h; omega
theorem okList_at {p : List Int} (h : okList p = true) (i : Nat) (hi : i < p.length) : 0 ≤ p.getD i 0 ∧ p.getD i 0 ≤ 15 := by
  simp only [okList, Bool.and_eq_true, List.all_eq_true] at h
  have := h.1 (p.getD i 0) (by rw [List.getD_eq_getElem?_getD, List.getElem?_eq_getElem hi]; exact List.getElem_mem hi)
  simpa [inB] using this
theorem okPat_list {p : List Int} (h : okPat p = true) : okList p = true := by simp [okPat] at h; exact h.1
theorem okPat_distinct {p : List Int} (h : okPat p = true) : distinct (lnd p) p.length := by
  simp [okPat] at h; exact distinct_of_none h.2

theorem okList_take {p : List Int} (k : Nat) (hk : k < p.length) : (p.take (k + 1)).all (fun x => inB x 0 15) = ((p.take k).all (fun x => inB x 0 15) && inB (p.getD k 0) 0 15) := by
  rw [List.take_succ_eq_append_getElem hk, List.all_append]
  simp [hk]
theorem all_bad {p : List Int} (k : Nat) (hk : k < p.length) (hb : inB (p.getD k 0) 0 15 = false) : p.all (fun x => inB x 0 15) = false := by
  rw [List.all_eq_false]
  exact ⟨p.getD k 0, by rw [List.getD_eq_getElem?_getD, List.getElem?_eq_getElem hk]; exact List.getElem_mem hk, by rw [hb]; simp⟩
theorem okList_bad {p : List Int} (k : Nat) (hk : k < p.length) (hb : inB (p.getD k 0) 0 15 = false) : okList p = false := by
  simp [okList, all_bad k hk hb]
/-- sums of throws -/
theorem sum_take {p : List Int} (k : Nat) (hk : k < p.length) : (p.take (k + 1)).sum = (p.take k).sum + p.getD k 0 := by
  rw [List.take_succ_eq_append_getElem hk, List.sum_append]
  simp [hk]
theorem sum_bound {p : List Int} (h : ∀ i, i < p.length → 0 ≤ p.getD i 0 ∧ p.getD i 0 ≤ 15) (k : Nat) (hk : k ≤ p.length) : 0 ≤ (p.take k).sum ∧ (p.take k).sum ≤ 15 * k := by
  induction k with
  | zero => simp
  | succ k ih =>
    have h1 := ih (by omega)
    have h2 := h k (by omega)
    rw [sum_take k (by omega)]
    omega

/-- the code of a function of a pattern -/
def okC (p : List Int) : Int := if okPat p then 0 else 1
theorem okC_true {p : List Int} (h : okPat p = true) : okC p = 0 := by rw [okC, if_pos h]
theorem okC_false {p : List Int} (h : okPat p = false) : okC p = 1 := by rw [okC, if_neg (by simp [h])]
/-- the number of props that is told -/
def propsA (p : List Int) : Int := if okPat p then p.sum / (p.length : Int) else 0
theorem propsA_true {p : List Int} (h : okPat p = true) : propsA p = p.sum / (p.length : Int) := by rw [propsA, if_pos h]
theorem propsA_false {p : List Int} (h : okPat p = false) : propsA p = 0 := by rw [propsA, if_neg (by simp [h])]

/-- the landings of a pattern -/
def lndL (p : List Int) : List Int := (List.range p.length).map (lnd p)
theorem lndL_len (p : List Int) : (lndL p).length = p.length := by simp [lndL]
theorem lndL_take (p : List Int) (k : Nat) (hk : k < p.length) : ((lndL p).take (k + 1)) = (lndL p).take k ++ [lnd p k] := by
  rw [List.take_succ_eq_append_getElem (by rw [lndL_len]; exact hk)]
  simp [lndL]
/-- what LandingBeats answers -/
def landsA (p : List Int) : List Int := if okPat p then lndL p else []
theorem landsA_true {p : List Int} (h : okPat p = true) : landsA p = lndL p := by rw [landsA, if_pos h]
theorem landsA_false {p : List Int} (h : okPat p = false) : landsA p = [] := by rw [landsA, if_neg (by simp [h])]
theorem landsA_len (p : List Int) : (landsA p).length ≤ p.length := by
  cases h : okPat p with
  | true => rw [landsA_true h, lndL_len]; exact Nat.le_refl _
  | false => rw [landsA_false h]; simp

/-- the throw at a beat -/
def atL (p : List Int) (beat : Int) : Int := p.getD (beat % (p.length : Int)).toNat 0
/-- the code of a pattern and a beat -/
def beatCode (p : List Int) (beat : Int) : Int := if okPat p then (if inB beat (-1000000) 1000000 then 0 else 2) else 1
/-- the beat whose throw lands at a beat -/
def fromL (p : List Int) (beat : Int) : Int :=
  match (List.range p.length).find? (fun i => lnd p i == beat % (p.length : Int)) with
  | some i => beat - p.getD i 0
  | none => beat

theorem beatCode_bad {p : List Int} (beat : Int) (h : okPat p = false) : beatCode p beat = 1 := by rw [beatCode, if_neg (by simp [h])]
theorem beatCode_far {p : List Int} (beat : Int) (h : okPat p = true) (hb : inB beat (-1000000) 1000000 = false) : beatCode p beat = 2 := by rw [beatCode, if_pos h, if_neg (by simp [hb])]
theorem beatCode_ok {p : List Int} (beat : Int) (h : okPat p = true) (hb : inB beat (-1000000) 1000000 = true) : beatCode p beat = 0 := by rw [beatCode, if_pos h, if_pos hb]
theorem beatCode_zero {p : List Int} {beat : Int} (hz : beatCode p beat = 0) : okPat p = true ∧ inB beat (-1000000) 1000000 = true := by
  have hok : okPat p = true := by
    cases h0 : okPat p with
    | true => rfl
    | false => rw [beatCode_bad beat h0] at hz; omega
  refine ⟨hok, ?_⟩
  cases h0 : inB beat (-1000000) 1000000 with
  | true => rfl
  | false => rw [beatCode_far beat hok h0] at hz; omega
/-- what is told of a beat: x where pattern and beat are right -/
def beatA (p : List Int) (beat x : Int) : Int := if beatCode p beat = 0 then x else 0
theorem beatA_bad {p : List Int} (beat x : Int) (h : beatCode p beat ≠ 0) : beatA p beat x = 0 := by rw [beatA, if_neg h]
theorem beatA_ok {p : List Int} (beat x : Int) (h : beatCode p beat = 0) : beatA p beat x = x := by rw [beatA, if_pos h]

theorem fromL_some {p : List Int} {beat : Int} {i : Nat} (hi : i < p.length) (he : lnd p i = beat % (p.length : Int)) (hl : ∀ a, a < i → lnd p a ≠ beat % (p.length : Int)) : fromL p beat = beat - p.getD i 0 := by
  have : (List.range p.length).find? (fun i => lnd p i == beat % (p.length : Int)) = some i := by
    rw [List.find?_range_eq_some]
    refine ⟨by simpa using he, List.mem_range.2 hi, fun j hj => ?_⟩
    have := hl j hj
    simpa using this
  rw [fromL, this]

theorem fromL_none {p : List Int} {beat : Int} (hl : ∀ a, a < p.length → lnd p a ≠ beat % (p.length : Int)) : fromL p beat = beat := by
  have : (List.range p.length).find? (fun i => lnd p i == beat % (p.length : Int)) = none := by
    rw [List.find?_eq_none]
    intro x hx
    have := hl x (List.mem_range.1 hx)
    simpa using this
  rw [fromL, this]

theorem len_le_of_sub : ∀ (l m : List Nat), l.Nodup → (∀ x ∈ l, x ∈ m) → l.length ≤ m.length := by
  intro l
  induction l with
  | nil => intro m _ _; simp
  | cons a t ih =>
    intro m hn hs
    rw [List.nodup_cons] at hn
    have ha : a ∈ m := hs a (by simp)
    have := ih (m.erase a) hn.2 fun x hx => (List.mem_erase_of_ne (by intro e; subst e; exact hn.1 hx)).2 (hs x (by simp [hx]))
    rw [List.length_erase_of_mem ha] at this
    have hp := List.length_pos_of_mem ha
    simp
    omega

/-- distinct values below n are all values below n -/
theorem distinct_onto {h : Nat → Nat} {n : Nat} (hlt : ∀ a, a < n → h a < n) (hd : ∀ a b, a < b → b < n → h a ≠ h b) (x : Nat) (hx : x < n) : ∃ a, a < n ∧ h a = x := by
  refine Classical.byContradiction fun hno => ?_
  have hno' : ∀ a, a < n → h a ≠ x := fun a ha e => hno ⟨a, ha, e⟩
  have hnd : ((List.range n).map h).Nodup := by
    rw [List.nodup_iff_pairwise_ne, List.pairwise_map]
    refine List.Pairwise.imp_of_mem (R := fun a b => a < b) (fun {a b} ha hb hab => hd a b hab (List.mem_range.1 hb)) List.pairwise_lt_range
  have := len_le_of_sub ((List.range n).map h) ((List.range n).erase x) hnd (by
    intro y hy
    obtain ⟨a, ha, rfl⟩ := List.mem_map.1 hy
    have ha := List.mem_range.1 ha
    exact (List.mem_erase_of_ne (hno' a ha)).2 (List.mem_range.2 (hlt a ha)))
  rw [List.length_erase_of_mem (List.mem_range.2 hx)] at this
  simp at this
  omega

theorem lnd_bound (p : List Int) (hp : 1 ≤ p.length) (i : Nat) : 0 ≤ lnd p i ∧ lnd p i < p.length := by
  unfold lnd
  exact ⟨Int.emod_nonneg _ (by omega), Int.emod_lt_of_pos _ (by omega)⟩

theorem okPat_len {p : List Int} (h : okPat p = true) : 1 ≤ p.length ∧ p.length ≤ 12 := okList_len (okPat_list h)
theorem okPat_at {p : List Int} (h : okPat p = true) (i : Nat) (hi : i < p.length) : 0 ≤ p.getD i 0 ∧ p.getD i 0 ≤ 15 := okList_at (okPat_list h) i hi

/-- each beat of a period is the landing of a throw -/
theorem lnd_onto {p : List Int} (h : okPat p = true) (x : Int) (h0 : 0 ≤ x) (h1 : x < p.length) : ∃ i, i < p.length ∧ lnd p i = x := by
  obtain ⟨l1, l2⟩ := okPat_len h
  have hd := okPat_distinct h
  obtain ⟨a, ha, he⟩ := distinct_onto (h := fun i => (lnd p i).toNat) (n := p.length)
    (fun a _ => by have := lnd_bound p l1 a; omega)
    (fun a b hab hb => by
      have := lnd_bound p l1 a
      have := lnd_bound p l1 b
      have := hd a b hab hb
      omega) x.toNat (by omega)
  refine ⟨a, ha, ?_⟩
  have := lnd_bound p l1 a
  omega

/-- what the search for the beat finds -/
theorem from_spec {p : List Int} (h : okPat p = true) (beat : Int) : ∃ t : Nat, t ≤ 15 ∧ fromL p beat = beat - t ∧ atL p (beat - t) = t ∧ ∀ j : Nat, atL p (beat - j) = j → j = t := by
  obtain ⟨l1, l2⟩ := okPat_len h
  have hn : (0 : Int) < p.length := by omega
  obtain ⟨i, hi, he⟩ := lnd_onto h (beat % (p.length : Int)) (Int.emod_nonneg _ (by omega)) (Int.emod_lt_of_pos _ hn)
  have hd := okPat_distinct h
  have hb := okPat_at h i hi
  have key : ∀ (q : Nat), q < p.length → ∀ x : Int, lnd p q = beat % (p.length : Int) → p.getD q 0 = x → (beat - x) % (p.length : Int) = q := by
    intro q hq x hl hx
    unfold lnd at hl
    rw [hx] at hl
    have h1 : (beat - x) % (p.length : Int) = ((q : Int) + x - x) % (p.length : Int) := by
      rw [Int.sub_emod, ← hl, ← Int.sub_emod]
    rw [h1, show (q : Int) + x - x = q from by omega, Int.emod_eq_of_lt (by omega) (by omega)]
  refine ⟨(p.getD i 0).toNat, by omega, ?_, ?_, ?_⟩
  · rw [fromL_some hi he fun a ha e => hd a i ha hi (e.trans he.symm)]
    omega
  · have := key i hi (p.getD i 0) he rfl
    rw [show ((p.getD i 0).toNat : Int) = p.getD i 0 from by omega]
    unfold atL
    rw [this]
    simp
  · intro j hj
    have e0 := Int.emod_nonneg (beat - j) (show (p.length : Int) ≠ 0 by omega)
    have e1 := Int.emod_lt_of_pos (beat - j) hn
    have hq : ((beat - j) % (p.length : Int)).toNat < p.length := by omega
    have hl : lnd p ((beat - j) % (p.length : Int)).toNat = beat % (p.length : Int) := by
      unfold atL at hj
      unfold lnd
      rw [hj, show ((((beat - j) % (p.length : Int)).toNat : Nat) : Int) = (beat - j) % (p.length : Int) from by omega, Int.emod_add_emod]
      congr 1; omega
    have hqi : ((beat - j) % (p.length : Int)).toNat = i := by
      rcases Nat.lt_trichotomy ((beat - j) % (p.length : Int)).toNat i with hlt | heq | hgt
      · exact absurd (hl.trans he.symm) (hd _ _ hlt hi)
      · exact heq
      · exact absurd (he.trans hl.symm) (hd _ _ hgt hq)
    unfold atL at hj
    rw [hqi] at hj
    omega

/-- Go's remainder and the one that is never negative -/
theorem emod_tmod (a n : Int) (hn : 0 < n) : a % n = if a.tmod n < 0 then a.tmod n + n else a.tmod n := by
  have e0 := Int.emod_nonneg a (show n ≠ 0 by omega)
  have e1 := Int.emod_lt_of_pos a hn
  rw [Int.tmod_eq_emod]
  by_cases h : 0 ≤ a ∨ n ∣ a
  · rw [if_pos h]
    rw [if_neg (by simp; omega)]; simp
  · rw [if_neg h]
    rw [if_pos (by omega)]; omega
theorem tmod_low (a n : Int) (hn : 0 < n) (ha : a < 0) : -n < a.tmod n ∧ a.tmod n ≤ 0 := by
  have e0 := Int.emod_nonneg a (show n ≠ 0 by omega)
  have e1 := Int.emod_lt_of_pos a hn
  rw [Int.tmod_eq_emod]
  by_cases h : n ∣ a
  · rw [if_pos (.inr h)]
    have := Int.emod_eq_zero_of_dvd h
    omega
  · rw [if_neg (by omega)]
    have : a % n ≠ 0 := fun e => h (Int.dvd_of_emod_eq_zero e)
    omega

theorem tmod_add_emod (a n : Int) (hn : 0 < n) : (a.tmod n + n) % n = a % n := by
  rw [Int.tmod_eq_emod]
  by_cases h : 0 ≤ a ∨ n ∣ a
  · rw [if_pos h]; simp
  · rw [if_neg h, show a % n - (n.natAbs : Int) + n = a % n from by omega]
    exact Int.emod_emod_of_dvd a (Int.dvd_refl n)
/-- the greatest of the first k numbers, and of 0 -/
def hiF (f : Nat → Int) : Nat → Int
  | 0 => 0
  | k + 1 => max (hiF f k) (f k)
theorem hiF_bound (f : Nat → Int) (k : Nat) (hf : ∀ i, i < k → 0 ≤ f i ∧ f i ≤ 15) : 0 ≤ hiF f k ∧ hiF f k ≤ 15 := by
  induction k with
  | zero => simp [hiF]
  | succ k ih =>
    have h1 := ih fun i hi => hf i (by omega)
    have h2 := hf k (by omega)
    simp only [hiF]
    omega
def highA (p : List Int) : Int := if okPat p then hiF (fun i => p.getD i 0) p.length else 0
theorem highA_true {p : List Int} (h : okPat p = true) : highA p = hiF (fun i => p.getD i 0) p.length := by rw [highA, if_pos h]
theorem highA_false {p : List Int} (h : okPat p = false) : highA p = 0 := by rw [highA, if_neg (by simp [h])]

/-- how two numbers compare -/
def cmpI (x y : Int) : Int := if x < y then -1 else if y < x then 1 else 0
theorem cmpI_lt {x y : Int} (h : x < y) : cmpI x y = -1 := by rw [cmpI, if_pos h]
theorem cmpI_gt {x y : Int} (h : y < x) : cmpI x y = 1 := by rw [cmpI, if_neg (by omega), if_pos h]
theorem cmpI_eq {x y : Int} (h : x = y) : cmpI x y = 0 := by rw [cmpI, if_neg (by omega), if_neg (by omega)]
/-- how two lists of one length compare, number by number -/
def lexL : List Int → List Int → Int
  | x :: xs, y :: ys => if x < y then -1 else if y < x then 1 else lexL xs ys
  | _, _ => 0
theorem lexL_none {a b : List Int} (hl : a.length = b.length) (h : ∀ i, i < a.length → a.getD i 0 = b.getD i 0) : lexL a b = 0 := by
  induction a generalizing b with
  | nil => cases b <;> rfl
  | cons x xs ih =>
    cases b with
    | nil => rfl
    | cons y ys =>
      have h0 := h 0 (by simp)
      simp at h0 hl
      rw [lexL, if_neg (by omega), if_neg (by omega)]
      exact ih hl fun i hi => by have := h (i + 1) (by simp; omega); simpa using this
theorem lexL_at {a b : List Int} (hl : a.length = b.length) (k : Nat) (hk : k < a.length) (h : ∀ i, i < k → a.getD i 0 = b.getD i 0) (hne : a.getD k 0 ≠ b.getD k 0) : lexL a b = cmpI (a.getD k 0) (b.getD k 0) := by
  induction a generalizing b k with
  | nil => simp at hk
  | cons x xs ih =>
    cases b with
    | nil => simp at hl
    | cons y ys =>
      simp at hl
      cases k with
      | zero =>
        simp at hne
        simp only [lexL, cmpI, List.getD_cons_zero]
        by_cases h1 : x < y
        · rw [if_pos h1, if_pos h1]
        · rw [if_neg h1, if_neg h1, if_pos (by omega), if_pos (by omega)]
      | succ k =>
        have h0 := h 0 (by omega)
        simp at h0 hk
        rw [lexL, if_neg (by omega), if_neg (by omega)]
        have := ih hl k hk (fun i hi => by have := h (i + 1) (by omega); simpa using this) (by simpa using hne)
        simpa using this
/-- how two lists compare: shorter lists are less -/
def compL (a b : List Int) : Int := if a.length = b.length then lexL a b else cmpI a.length b.length
theorem compL_same {a b : List Int} (h : a.length = b.length) : compL a b = lexL a b := by rw [compL, if_pos h]
theorem compL_diff {a b : List Int} (h : a.length ≠ b.length) : compL a b = cmpI a.length b.length := by rw [compL, if_neg h]
end Go.Proofs.Ytlpeigeadjojnaa
