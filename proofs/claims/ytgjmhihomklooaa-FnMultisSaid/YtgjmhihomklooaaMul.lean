/- Plain mathematics of multiplex patterns: which beats are in their order, which props are thrown and land, how they are counted. No conditions. -/
import Derived.Test.YtgjmhihomklooaaPat
import Derived.Lib.SlMapEqual
namespace Go.Proofs.Ytgjmhihomklooaa
open Go.Maps

/-! ### beats -/
def thrB (b : List Int) : Bool := b.all (fun x => inB x 0 15)
def nz (b : List Int) : List Int := b.filter (fun x => !(x == 0))
def geB (x y : Int) : Bool := decide (y ≤ x)
def descL (b : List Int) : List Int := (nz b).mergeSort geB
def sortL (b : List Int) : List Int := if (nz b).length = 0 then [0] else descL b
def sortC (b : List Int) : Int := if thrB b then (if 4 < (nz b).length then 5 else 0) else 1
/-- the list that SortBeat answers -/
def sortR (b : List Int) : List Int := if thrB b then (if 4 < (nz b).length then [] else sortL b) else []

theorem geB_trans (a b c : Int) (h : geB a b = true) (h' : geB b c = true) : geB a c = true := by
  simp only [geB, decide_eq_true_eq] at *
  omega
theorem geB_total (a b : Int) : (geB a b || geB b a) = true := by
  simp only [geB, Bool.or_eq_true, decide_eq_true_eq]
  omega
theorem descL_perm (b : List Int) : (descL b).Perm (nz b) := List.mergeSort_perm _ _
theorem descL_sorted (b : List Int) : (descL b).Pairwise (fun x y => geB x y = true) := List.pairwise_mergeSort geB_trans geB_total _
theorem descL_len (b : List Int) : (descL b).length = (nz b).length := (descL_perm b).length_eq
theorem sortL_len (b : List Int) : (sortL b).length = if (nz b).length = 0 then 1 else (nz b).length := by
  unfold sortL
  split
  · rfl
  · exact descL_len b
/-- whatever falls and has the same numbers is it -/
theorem descL_of {b out : List Int} (hp : out.Perm (nz b)) (hs : out.Pairwise (fun x y => geB x y = true)) : out = descL b := by
  refine List.Perm.eq_of_pairwise (le := fun x y => geB x y = true) ?_ hs (descL_sorted b) (hp.trans (descL_perm b).symm)
  intro x y _ _ h1 h2
  simp only [geB, decide_eq_true_eq] at h1 h2
  omega
theorem mem_nz {b : List Int} {x : Int} : x ∈ nz b ↔ x ∈ b ∧ x ≠ 0 := by simp [nz]
theorem nz_append (a b : List Int) : nz (a ++ b) = nz a ++ nz b := by simp [nz]
theorem nz_take {b : List Int} (k : Nat) (hk : k < b.length) : nz (b.take (k + 1)) = nz (b.take k) ++ (if b.getD k 0 = 0 then [] else [b.getD k 0]) := by
  rw [List.take_succ_eq_append_getElem hk, nz_append]
  congr 1
  simp only [nz, List.getD_eq_getElem?_getD, List.getElem?_eq_getElem hk, Option.getD_some]
  by_cases h : b[k] = 0
  · simp [h]
  · simp [h]

/-- is the k-th throw of a beat in its place? -/
def okAtB (b : List Int) (k : Nat) : Bool := decide (0 ≤ b.getD k 0 ∧ b.getD k 0 ≤ 15) && !(decide (b.getD k 0 = 0) && decide (1 < b.length)) && !(decide (0 < k) && decide (b.getD (k - 1) 0 < b.getD k 0))
def rowOk (b : List Int) : Bool := decide (1 ≤ b.length ∧ b.length ≤ 4) && (List.range b.length).all (okAtB b)
def shapeL (pss : List (List Int)) : Bool := decide (1 ≤ pss.length ∧ pss.length ≤ 12) && pss.all rowOk

theorem okAtB_eq {b : List Int} {k m : Nat} {x : Int} (hx : b.getD k 0 = x) (hm : m = b.length) :
    okAtB b k = (decide (0 ≤ x ∧ x ≤ 15) && !(decide (x = 0) && decide (1 < m)) && !(decide (0 < k) && decide (b.getD (k - 1) 0 < x))) := by
  unfold okAtB
  rw [hx, ← hm]
theorem rowOk_bad {b : List Int} (k : Nat) (hk : k < b.length) (h : okAtB b k = false) : rowOk b = false := by
  unfold rowOk
  rw [Bool.and_eq_false_iff]
  right
  rw [List.all_eq_false]
  exact ⟨k, by simpa using hk, by simp [h]⟩
theorem rowOk_good {b : List Int} (h1 : 1 ≤ b.length) (h2 : b.length ≤ 4) (h : ∀ k, k < b.length → okAtB b k = true) : rowOk b = true := by
  unfold rowOk
  rw [Bool.and_eq_true]
  exact ⟨decide_eq_true ⟨h1, h2⟩, List.all_eq_true.2 fun k hk => h k (by simpa using hk)⟩
theorem rowOk_len {b : List Int} (h : ¬ (1 ≤ b.length ∧ b.length ≤ 4)) : rowOk b = false := by
  unfold rowOk
  rw [decide_eq_false h]; rfl
theorem shapeL_bad {pss : List (List Int)} (i : Nat) (hi : i < pss.length) (h : rowOk (pss.getD i []) = false) : shapeL pss = false := by
  unfold shapeL
  rw [Bool.and_eq_false_iff]
  right
  rw [List.all_eq_false]
  refine ⟨pss.getD i [], ?_, by rw [h]; simp⟩
  rw [show pss.getD i [] = pss[i] by simp [hi]]
  exact List.getElem_mem hi
theorem shapeL_good {pss : List (List Int)} (h1 : 1 ≤ pss.length) (h2 : pss.length ≤ 12) (h : ∀ i, i < pss.length → rowOk (pss.getD i []) = true) : shapeL pss = true := by
  unfold shapeL
  rw [Bool.and_eq_true]
  refine ⟨decide_eq_true ⟨h1, h2⟩, List.all_eq_true.2 fun b hb => ?_⟩
  obtain ⟨i, hi, rfl⟩ := List.getElem_of_mem hb
  have := h i hi
  rwa [show pss.getD i [] = pss[i] by simp [hi]] at this
theorem shapeL_len {pss : List (List Int)} (h : ¬ (1 ≤ pss.length ∧ pss.length ≤ 12)) : shapeL pss = false := by
  unfold shapeL
  rw [decide_eq_false h]; rfl
theorem shapeL_num {pss : List (List Int)} (h : shapeL pss = true) : 1 ≤ pss.length ∧ pss.length ≤ 12 := by
  unfold shapeL at h
  rw [Bool.and_eq_true] at h
  simpa using h.1
theorem shapeL_at {pss : List (List Int)} (h : shapeL pss = true) (i : Nat) (hi : i < pss.length) : rowOk (pss.getD i []) = true := by
  unfold shapeL at h
  rw [Bool.and_eq_true, List.all_eq_true] at h
  rw [show pss.getD i [] = pss[i] by simp [hi]]
  exact h.2 _ (List.getElem_mem hi)
theorem rowOk_num {b : List Int} (h : rowOk b = true) : 1 ≤ b.length ∧ b.length ≤ 4 := by
  unfold rowOk at h
  rw [Bool.and_eq_true] at h
  simpa using h.1
theorem rowOk_at {b : List Int} (h : rowOk b = true) (k : Nat) (hk : k < b.length) : okAtB b k = true := by
  unfold rowOk at h
  rw [Bool.and_eq_true, List.all_eq_true] at h
  exact h.2 k (by simpa using hk)
theorem okAtB_parts {b : List Int} {k : Nat} (h : okAtB b k = true) : (0 ≤ b.getD k 0 ∧ b.getD k 0 ≤ 15) ∧ (b.getD k 0 = 0 → b.length ≤ 1) ∧ (0 < k → b.getD k 0 ≤ b.getD (k - 1) 0) := by
  unfold okAtB at h
  simp only [Bool.and_eq_true, Bool.not_eq_true', Bool.and_eq_false_iff, decide_eq_true_eq, decide_eq_false_iff_not] at h
  obtain ⟨⟨h1, h2⟩, h3⟩ := h
  exact ⟨h1, fun e => by rcases h2 with h2 | h2 <;> omega, fun e => by rcases h3 with h3 | h3 <;> omega⟩
theorem okAtB_mk {b : List Int} {k : Nat} (h1 : 0 ≤ b.getD k 0 ∧ b.getD k 0 ≤ 15) (h2 : b.getD k 0 = 0 → b.length ≤ 1) (h3 : 0 < k → b.getD k 0 ≤ b.getD (k - 1) 0) : okAtB b k = true := by
  unfold okAtB
  simp only [Bool.and_eq_true, Bool.not_eq_true', Bool.and_eq_false_iff, decide_eq_true_eq, decide_eq_false_iff_not]
  refine ⟨⟨h1, ?_⟩, ?_⟩
  · by_cases e : b.getD k 0 = 0
    · right; have := h2 e; omega
    · exact .inl e
  · by_cases e : 0 < k
    · right; have := h3 e; omega
    · exact .inl e

theorem pairwise_of_next {b : List Int} (h : ∀ k, 0 < k → k < b.length → b.getD k 0 ≤ b.getD (k - 1) 0) : b.Pairwise (fun x y => geB x y = true) := by
  have hij : ∀ d i, i + d < b.length → b.getD (i + d) 0 ≤ b.getD i 0 := by
    intro d
    induction d with
    | zero => intro i _; exact Int.le_refl _
    | succ d ih =>
      intro i hi
      have h1 := ih i (by omega)
      have h2 := h (i + d + 1) (by omega) (by omega)
      rw [show i + d + 1 - 1 = i + d by omega] at h2
      rw [← Nat.add_assoc]
      omega
  rw [List.pairwise_iff_getElem]
  intro i j hi hj hlt
  have := hij (j - i) i (by omega)
  rw [show i + (j - i) = j by omega] at this
  simp only [geB, decide_eq_true_eq]
  simpa [hi, hj] using this

theorem isBeat_eq (b : List Int) : (decide (sortC b = 0) && decide (sortL b = b)) = rowOk b := by
  cases hr : rowOk b with
  | true =>
    obtain ⟨h1, h2⟩ := rowOk_num hr
    have hp := fun k hk => okAtB_parts (rowOk_at hr k hk)
    have hthr : thrB b = true := by
      unfold thrB
      rw [List.all_eq_true]
      intro x hx
      obtain ⟨i, hi, rfl⟩ := List.getElem_of_mem hx
      have := (hp i hi).1
      rw [show b.getD i 0 = b[i] by simp [hi]] at this
      exact inB_true this
    have hs : b.Pairwise (fun x y => geB x y = true) := pairwise_of_next fun k h0 hk => (hp k hk).2.2 h0
    by_cases hz : ∃ x ∈ b, x = 0
    · obtain ⟨x, hx, h0⟩ := hz
      obtain ⟨i, hi, rfl⟩ := List.getElem_of_mem hx
      have := (hp i hi).2.1 (by rw [show b.getD i 0 = b[i] by simp [hi]]; exact h0)
      obtain ⟨y, rfl⟩ : ∃ y, b = [y] := List.length_eq_one_iff.1 (by omega)
      have : y = 0 := by simpa using h0
      subst this
      rfl
    · have hnz : nz b = b := by
        unfold nz
        rw [List.filter_eq_self]
        intro x hx
        have : x ≠ 0 := fun e => hz ⟨x, hx, e⟩
        simpa using this
      have e1 : sortC b = 0 := by
        unfold sortC
        rw [hthr, hnz, if_pos rfl, if_neg (by omega)]
      have e2 : sortL b = b := by
        unfold sortL
        rw [hnz, if_neg (by omega)]
        exact (descL_of (b := b) (by rw [hnz]) hs).symm
      simp [e1, e2]
  | false =>
    rw [Bool.and_eq_false_iff]
    refine Classical.byContradiction fun hn => ?_
    rw [not_or] at hn
    simp only [Bool.not_eq_false, decide_eq_true_eq] at hn
    obtain ⟨hc, hl⟩ := hn
    have hthr : thrB b = true := by
      cases h : thrB b with
      | true => rfl
      | false => unfold sortC at hc; rw [h] at hc; simp at hc
    have hlen : (nz b).length ≤ 4 := by
      unfold sortC at hc
      rw [hthr, if_pos rfl] at hc
      by_cases h : 4 < (nz b).length
      · rw [if_pos h] at hc; omega
      · omega
    have hall : ∀ i, i < b.length → 0 ≤ b.getD i 0 ∧ b.getD i 0 ≤ 15 := by
      intro i hi
      unfold thrB at hthr
      rw [List.all_eq_true] at hthr
      have := inB_iff.1 (hthr b[i] (List.getElem_mem hi))
      rwa [show b.getD i 0 = b[i] by simp [hi]]
    unfold sortL at hl
    by_cases h0 : (nz b).length = 0
    · rw [if_pos h0] at hl
      subst hl
      exact absurd hr (by decide)
    · rw [if_neg h0] at hl
      have hbl : b.length = (nz b).length := by rw [← descL_len, hl]
      have hs := descL_sorted b
      rw [hl] at hs
      have hmem : ∀ x ∈ b, x ≠ 0 := fun x hx => by
        rw [← hl] at hx
        exact (mem_nz.1 ((descL_perm b).subset hx)).2
      have : rowOk b = true := by
        refine rowOk_good (by omega) (by omega) fun k hk => okAtB_mk (hall k hk) (fun e => ?_) fun h => ?_
        · exact absurd (by rw [show b.getD k 0 = b[k] by simp [hk]] at e; exact e) (hmem b[k] (List.getElem_mem hk))
        · have := (List.pairwise_iff_getElem.1 hs) (k - 1) k (by omega) hk (by omega)
          simp only [geB, decide_eq_true_eq] at this
          have hk' : k - 1 < b.length := by omega
          simpa [hk, hk'] using this
      rw [this] at hr
      cases hr

/-! ### props -/
def propsR (n : Nat) (i : Nat) (b : List Int) : List (Int × Int) := (nz b).map fun x => ((i : Int), ((i : Int) + x) % (n : Int))
def propsTo (pss : List (List Int)) : Nat → List (Int × Int)
  | 0 => []
  | k + 1 => propsTo pss k ++ propsR pss.length k (pss.getD k [])
def thrownL (pss : List (List Int)) : List Int := (propsTo pss pss.length).map Prod.fst
def landL (pss : List (List Int)) : List Int := (propsTo pss pss.length).map Prod.snd
def okM (pss : List (List Int)) : Bool := shapeL pss && (List.range pss.length).all (fun i => (landL pss).count (i : Int) == (thrownL pss).count (i : Int))

theorem propsR_nil (n i : Nat) : propsR n i [] = [] := rfl
theorem propsR_take (n i : Nat) {b : List Int} (k : Nat) (hk : k < b.length) :
    propsR n i (b.take (k + 1)) = propsR n i (b.take k) ++ (if b.getD k 0 = 0 then [] else [((i : Int), ((i : Int) + b.getD k 0) % (n : Int))]) := by
  unfold propsR
  rw [nz_take k hk, List.map_append]
  congr 1
  split <;> rfl
theorem propsTo_mem {pss : List (List Int)} {k : Nat} (h : 1 ≤ pss.length) {p : Int × Int} (hp : p ∈ propsTo pss k) : (0 ≤ p.1 ∧ p.1 < k) ∧ (0 ≤ p.2 ∧ p.2 < pss.length) := by
  induction k with
  | zero => simp [propsTo] at hp
  | succ k ih =>
    rw [propsTo, List.mem_append] at hp
    rcases hp with hp | hp
    · have := ih hp
      omega
    · unfold propsR at hp
      obtain ⟨x, _, rfl⟩ := List.mem_map.1 hp
      have e0 := Int.emod_nonneg ((k : Int) + x) (show (pss.length : Int) ≠ 0 by omega)
      have e1 := Int.emod_lt_of_pos ((k : Int) + x) (show 0 < (pss.length : Int) by omega)
      exact ⟨⟨by omega, by simp only []; omega⟩, e0, e1⟩
theorem propsR_len (n i : Nat) (b : List Int) : (propsR n i b).length ≤ b.length := by
  unfold propsR nz
  rw [List.length_map]
  exact List.length_filter_le _ _
theorem propsTo_len {pss : List (List Int)} {m : Nat} (h : ∀ i, i < pss.length → (pss.getD i []).length ≤ m) : ∀ k, k ≤ pss.length → (propsTo pss k).length ≤ k * m
  | 0, _ => by simp [propsTo]
  | k + 1, hk => by
    rw [propsTo, List.length_append, Nat.succ_mul]
    have h1 := propsTo_len h k (by omega)
    have h2 := propsR_len pss.length k (pss.getD k [])
    have h3 := h k (by omega)
    omega
theorem thrownL_mem {pss : List (List Int)} (h : 1 ≤ pss.length) {x : Int} (hx : x ∈ thrownL pss) : 0 ≤ x ∧ x < pss.length := by
  obtain ⟨p, hp, rfl⟩ := List.mem_map.1 hx
  exact (propsTo_mem h hp).1
theorem landL_mem {pss : List (List Int)} (h : 1 ≤ pss.length) {x : Int} (hx : x ∈ landL pss) : 0 ≤ x ∧ x < pss.length := by
  obtain ⟨p, hp, rfl⟩ := List.mem_map.1 hx
  exact (propsTo_mem h hp).2
theorem land_thrown_len (pss : List (List Int)) : (thrownL pss).length = (landL pss).length := by simp [thrownL, landL]
/-- at each beat as many land as are thrown: the one list is a permutation of the other -/
theorem balance_iff {pss : List (List Int)} (h : 1 ≤ pss.length) : ((List.range pss.length).all (fun i => (landL pss).count (i : Int) == (thrownL pss).count (i : Int))) = true ↔ (thrownL pss).Perm (landL pss) := by
  rw [List.all_eq_true, List.perm_iff_count]
  constructor
  · intro ha x
    by_cases hx : 0 ≤ x ∧ x < pss.length
    · have := ha x.toNat (by simp; omega)
      rw [show ((x.toNat : Nat) : Int) = x by omega] at this
      simpa using (beq_iff_eq.1 this).symm
    · rw [List.count_eq_zero_of_not_mem fun hm => hx (thrownL_mem h hm), List.count_eq_zero_of_not_mem fun hm => hx (landL_mem h hm)]
  · intro ha i _
    simpa using (ha (i : Int)).symm
/-- the props thrown at a beat -/
theorem count_propsTo {pss : List (List Int)} (k : Nat) (i : Nat) : ((propsTo pss k).map Prod.fst).count (i : Int) = if i < k then (nz (pss.getD i [])).length else 0 := by
  induction k with
  | zero => rfl
  | succ k ih =>
    rw [propsTo, List.map_append, List.count_append, ih]
    have e : (propsR pss.length k (pss.getD k [])).map Prod.fst = List.replicate (nz (pss.getD k [])).length (k : Int) := by
      unfold propsR
      rw [List.map_map]
      exact List.eq_replicate_iff.2 ⟨by simp, fun b hb => by simp at hb; exact hb.2.symm⟩
    rw [e, List.count_replicate]
    by_cases h : i = k
    · subst h; simp
    · have : ((k : Int) == (i : Int)) = false := by simp; omega
      rw [this]
      by_cases h2 : i < k
      · have h3 : i < k + 1 := by omega
        simp [h2, h3]
      · have h3 : ¬ i < k + 1 := by omega
        simp [h2, h3]
theorem thrownL_count {pss : List (List Int)} (i : Nat) (hi : i < pss.length) : (thrownL pss).count (i : Int) = (nz (pss.getD i [])).length := by
  unfold thrownL
  rw [count_propsTo, if_pos hi]
/-- of a beat in its order: none are thrown just if it is 0 alone -/
theorem rowOk_nz {b : List Int} (h : rowOk b = true) : (nz b).length = if b.length = 1 ∧ b.getD 0 0 = 0 then 0 else b.length := by
  obtain ⟨h1, h2⟩ := rowOk_num h
  have hp := fun k hk => okAtB_parts (rowOk_at h k hk)
  by_cases hz : b.length = 1 ∧ b.getD 0 0 = 0
  · rw [if_pos hz]
    obtain ⟨y, rfl⟩ := List.length_eq_one_iff.1 hz.1
    have : y = 0 := by simpa using hz.2
    subst this
    rfl
  · rw [if_neg hz]
    have : nz b = b := by
      unfold nz
      rw [List.filter_eq_self]
      intro x hx
      obtain ⟨i, hi, rfl⟩ := List.getElem_of_mem hx
      have hne : b[i] ≠ 0 := fun e => by
        have := (hp i hi).2.1 (by rw [show b.getD i 0 = b[i] by simp [hi]]; exact e)
        have hi0 : i = 0 := by omega
        subst hi0
        exact hz ⟨by omega, by rw [show b.getD 0 0 = b[0] by simp [hi]]; exact e⟩
      simpa using hne
    rw [this]

/-! ### maps of counts -/
section
variable {H : Type}
def cntR : List Int → DataW H
  | [] => .map []
  | k :: r => (cntR r).put (.int .i64 k) (.lit (.int .i64 ((r.count k : Int) + 1)))
/-- how often each number is in a list, as a map -/
def cntD (xs : List Int) : DataW H := cntR xs.reverse
theorem cntD_nil : (cntD [] : DataW H) = .map [] := rfl
theorem cntD_snoc (xs : List Int) (k : Int) : (cntD (xs ++ [k]) : DataW H) = (cntD xs).put (.int .i64 k) (.lit (.int .i64 ((xs.count k : Int) + 1))) := by
  unfold cntD
  rw [List.reverse_append]
  show cntR (k :: xs.reverse) = _
  rw [cntR, List.count_reverse]
theorem cntR_isMap : ∀ xs : List Int, IsMap (cntR xs : DataW H)
  | [] => isMap_empty
  | _ :: r => (cntR_isMap r).put _ _
theorem keyLit (k : Int) : WideAt.IsKeyLit (.int .i64 k) := by first | trivial | rfl | simp [WideAt.IsKeyLit]
theorem cntR_has : ∀ (xs : List Int) (l : Lit), has (cntR xs : DataW H) l = true ↔ ∃ x, x ∈ xs ∧ l = .int .i64 x
  | [], l => by
    constructor
    · intro h; cases h
    · rintro ⟨x, hx, _⟩; cases hx
  | k :: r, l => by
    rw [cntR]
    by_cases e : l = .int .i64 k
    · subst e
      rw [has_put_same (cntR_isMap r) (keyLit k)]
      exact ⟨fun _ => ⟨k, List.mem_cons_self, rfl⟩, fun _ => rfl⟩
    · rw [has_put_other e, cntR_has r l]
      constructor
      · rintro ⟨x, hx, he⟩; exact ⟨x, List.mem_cons_of_mem _ hx, he⟩
      · rintro ⟨x, hx, he⟩
        rcases List.mem_cons.1 hx with rfl | hx
        · exact absurd he e
        · exact ⟨x, hx, he⟩
theorem cntR_at : ∀ (xs : List Int) (k : Int) (z : DataW H), k ∈ xs → (cntR xs : DataW H).atKey (.int .i64 k) z = .lit (.int .i64 (xs.count k : Int))
  | [], _, _, h => by cases h
  | a :: r, k, z, h => by
    rw [cntR]
    by_cases e : k = a
    · subst e
      rw [atKey_put_same (cntR_isMap r) (keyLit k)]
      simp
    · rw [atKey_put_other (by simpa using e), cntR_at r k z (by simpa [e] using h), List.count_cons_of_ne (fun h => e h.symm)]
theorem cntD_has (xs : List Int) (l : Lit) : has (cntD xs : DataW H) l = true ↔ ∃ x, x ∈ xs ∧ l = .int .i64 x := by
  unfold cntD
  rw [cntR_has]
  simp
theorem cntD_has_int (xs : List Int) (k : Int) : has (cntD xs : DataW H) (.int .i64 k) = decide (k ∈ xs) := by
  rw [Bool.eq_iff_iff, cntD_has, decide_eq_true_eq]
  constructor
  · rintro ⟨x, hx, he⟩
    have : k = x := by simpa using he
    exact this ▸ hx
  · intro h; exact ⟨k, h, rfl⟩
theorem cntD_at (xs : List Int) (k : Int) (z : DataW H) (h : k ∈ xs) : (cntD xs : DataW H).atKey (.int .i64 k) z = .lit (.int .i64 (xs.count k : Int)) := by
  unfold cntD
  rw [cntR_at _ _ _ (by simpa using h), List.count_reverse]
theorem cntD_at0 (xs : List Int) (k : Int) : (cntD xs : DataW H).atKey (.int .i64 k) (.lit (.int .i64 0)) = .lit (.int .i64 (xs.count k : Int)) := by
  by_cases h : k ∈ xs
  · exact cntD_at xs k _ h
  · rw [atKey_of_not_has (by rw [cntD_has_int, decide_eq_false h]), List.count_eq_zero_of_not_mem h]
    rfl
end

theorem perm_of_counts : ∀ {xs ys : List Int}, xs.length = ys.length → (∀ j, xs.count j ≤ ys.count j) → xs.Perm ys
  | [], ys, hl, _ => by
    have : ys = [] := List.length_eq_zero_iff.1 hl.symm
    subst this
    exact .refl _
  | a :: r, ys, hl, hc => by
    have ha : a ∈ ys := by
      have := hc a
      rw [List.count_cons_self] at this
      exact List.count_pos_iff.1 (by omega)
    have hp := List.perm_cons_erase ha
    refine List.Perm.trans (List.Perm.cons a (perm_of_counts (ys := ys.erase a) ?_ fun j => ?_)) hp.symm
    · have := hp.length_eq
      simp at this hl
      omega
    · have h1 := hc j
      have h2 := hp.count_eq j
      by_cases e : j = a
      · subst e
        rw [List.count_cons_self] at h1 h2
        omega
      · rw [List.count_cons_of_ne (fun h => e h.symm)] at h1 h2
        omega

/-- do two elements read alike? -/
def sameN {H : Type} : DataW H → DataW H → Bool
  | .lit (.int _ x), .lit (.int _ y) => x == y
  | _, _ => false

theorem cntD_mem {H : Type} {xs : List Int} {es : List (Lit × DataW H)} (h : (cntD xs : DataW H) = .map es) (hc : Canon (cntD xs : DataW H)) {p : Lit × DataW H} (hp : p ∈ es) :
    ∃ k, k ∈ xs ∧ p.1 = .int .i64 k ∧ p.2 = .lit (.int .i64 (xs.count k : Int)) := by
  obtain ⟨es', h', s, hk⟩ := hc
  rw [h] at h'
  cases h'
  have hh : has (cntD xs : DataW H) p.1 = true := by
    rw [h, has_eq, List.any_eq_true]
    exact ⟨p, hp, WideAt.sameKey_self (hk p hp)⟩
  rw [cntD_has] at hh
  obtain ⟨k, hkx, he⟩ := hh
  refine ⟨k, hkx, he, ?_⟩
  have h1 := cntD_at (H := H) xs k .nil hkx
  rw [h, ← he] at h1
  rw [← h1]
  exact (WideAt.atKey_mem .nil (hk p hp) (apart_of_rising s) hp).symm

theorem cntD_equal {H : Type} {xs ys : List Int} (hx : Canon (cntD xs : DataW H)) (hy : Canon (cntD ys : DataW H)) (hl : xs.length = ys.length) :
    Lib.equalFuncD sameN (cntD xs : DataW H) (cntD ys) = decide (xs.Perm ys) := by
  by_cases hp : xs.Perm ys
  · rw [decide_eq_true hp]
    have e : (cntD ys : DataW H) = cntD xs := by
      refine ext hy hx (fun l => ?_) fun l z hh => ?_
      · rw [Bool.eq_iff_iff, cntD_has, cntD_has]
        exact ⟨fun ⟨x, hx, he⟩ => ⟨x, hp.symm.subset hx, he⟩, fun ⟨x, hx, he⟩ => ⟨x, hp.subset hx, he⟩⟩
      · rw [cntD_has] at hh
        obtain ⟨k, hk, he⟩ := hh
        rw [he, cntD_at ys k z hk, cntD_at xs k z (hp.symm.subset hk), hp.count_eq k]
    rw [e]
    unfold Lib.equalFuncD
    rw [decide_eq_true rfl, Bool.true_and]
    obtain ⟨es, h', s, hk⟩ := id hx
    rw [h']
    show es.all _ = true
    rw [List.all_eq_true]
    intro p hpe
    obtain ⟨k, hkx, e1, e2⟩ := cntD_mem h' hx hpe
    unfold Lib.goodD
    rw [← h', e1, cntD_has_int, decide_eq_true hkx, Bool.true_and, cntD_at xs k _ hkx, e2]
    simp [sameN]
  · rw [decide_eq_false hp]
    cases hq : Lib.equalFuncD sameN (cntD xs : DataW H) (cntD ys) with
    | false => rfl
    | true =>
      exfalso
      refine hp (perm_of_counts hl fun j => ?_)
      by_cases hj : j ∈ xs
      · unfold Lib.equalFuncD at hq
        rw [Bool.and_eq_true, List.all_eq_true] at hq
        obtain ⟨es, h', s, hk⟩ := id hx
        have hh : has (cntD xs : DataW H) (.int .i64 j) = true := by rw [cntD_has_int, decide_eq_true hj]
        rw [h', has_eq, List.any_eq_true] at hh
        obtain ⟨p, hpe, hs⟩ := hh
        have h2 := hq.2 p (by rw [h']; exact hpe)
        obtain ⟨k, hkx, e1, e2⟩ := cntD_mem h' hx hpe
        have e3 := WideAt.sameKey_eq hs
        rw [e1] at e3
        have e4 : k = j := by simpa using e3
        subst e4
        unfold Lib.goodD at h2
        rw [e1, e2, Bool.and_eq_true, cntD_has_int, decide_eq_true_eq] at h2
        rw [cntD_at ys k _ h2.1] at h2
        have : (xs.count k : Int) = ys.count k := by simpa [sameN] using h2.2
        omega
      · rw [List.count_eq_zero_of_not_mem hj]; omega

/-- VALID: the beats are in their order, and the two maps are equal -/
theorem okM_maps {H : Type} {pss : List (List Int)} (hs : shapeL pss = true) (hx : Canon (cntD (thrownL pss) : DataW H)) (hy : Canon (cntD (landL pss) : DataW H)) :
    Lib.equalFuncD sameN (cntD (thrownL pss) : DataW H) (cntD (landL pss)) = okM pss := by
  rw [cntD_equal hx hy (land_thrown_len pss)]
  unfold okM
  rw [hs, Bool.true_and]
  have h := balance_iff (shapeL_num hs).1
  by_cases hp : (thrownL pss).Perm (landL pss)
  · rw [decide_eq_true hp, h.2 hp]
  · rw [decide_eq_false hp]
    cases hq : (List.range pss.length).all (fun i => (landL pss).count (i : Int) == (thrownL pss).count (i : Int)) with
    | false => rfl
    | true => exact absurd (h.1 hq) hp
end Go.Proofs.Ytgjmhihomklooaa
