/- Plain mathematics of canonical forms: the same for all rotations and repetitions. It imports no program. No conditions. -/
import Derived.Test.YtdgmmaghmdbnjaaOpsLaws
namespace Go.Proofs.Ytdgmmaghmdbnjaa

/- the order of lists is total -/
theorem tcmp_range (x y : Int) : -1 ≤ cmpI x y ∧ cmpI x y ≤ 1 := by
  unfold cmpI
  by_cases h : x < y
  · rw [if_pos h]; omega
  · rw [if_neg h]
    by_cases h' : y < x
    · rw [if_pos h']; omega
    · rw [if_neg h']; omega
/-- two lists of one length are equal, or differ first at some place -/
theorem tdiff {a b : List Int} (hl : a.length = b.length) : a = b ∨ ∃ k, k < a.length ∧ (∀ i, i < k → a.getD i 0 = b.getD i 0) ∧ a.getD k 0 ≠ b.getD k 0 := by
  suffices h : ∀ n, n ≤ a.length → (∀ i, i < n → a.getD i 0 = b.getD i 0) ∨ ∃ k, k < n ∧ (∀ i, i < k → a.getD i 0 = b.getD i 0) ∧ a.getD k 0 ≠ b.getD k 0 by
    rcases h a.length (Nat.le_refl _) with h | h
    · exact .inl (ext_getD hl h)
    · exact .inr h
  intro n
  induction n with
  | zero => intro _; exact .inl fun i hi => by omega
  | succ n ih =>
    intro hn
    rcases ih (by omega) with h | ⟨k, hk, h⟩
    · by_cases he : a.getD n 0 = b.getD n 0
      · refine .inl fun i hi => ?_
        by_cases e : i = n
        · subst e; exact he
        · exact h i (by omega)
      · exact .inr ⟨n, by omega, h, he⟩
    · exact .inr ⟨k, by omega, h⟩
/-- the lists a ≤ b of one length -/
def leL (a b : List Int) : Prop := a = b ∨ ∃ k, k < a.length ∧ (∀ i, i < k → a.getD i 0 = b.getD i 0) ∧ a.getD k 0 < b.getD k 0
theorem leL_refl (a : List Int) : leL a a := .inl rfl
theorem leL_trans {a b c : List Int} (hl : a.length = b.length) (h1 : leL a b) (h2 : leL b c) : leL a c := by
  rcases h1 with rfl | ⟨k, hk, e1, l1⟩
  · exact h2
  · rcases h2 with rfl | ⟨j, hj, e2, l2⟩
    · exact .inr ⟨k, hk, e1, l1⟩
    · rcases Nat.lt_trichotomy k j with h | h | h
      · exact .inr ⟨k, hk, fun i hi => (e1 i hi).trans (e2 i (by omega)), by rw [← e2 k h]; exact l1⟩
      · subst h
        exact .inr ⟨k, hk, fun i hi => (e1 i hi).trans (e2 i hi), by omega⟩
      · exact .inr ⟨j, by omega, fun i hi => (e1 i (by omega)).trans (e2 i hi), by rw [e1 j h]; exact l2⟩
theorem leL_anti {a b : List Int} (h1 : leL a b) (h2 : leL b a) : a = b := by
  rcases h1 with h1 | ⟨k, hk, e1, l1⟩
  · exact h1
  · rcases h2 with h2 | ⟨j, hj, e2, l2⟩
    · exact h2.symm
    · rcases Nat.lt_trichotomy k j with h | h | h
      · have := e2 k h; omega
      · subst h; omega
      · have := e1 j h; omega
theorem compL_le {a b : List Int} (hl : a.length = b.length) : (compL a b > 0 → leL b a) ∧ (¬ compL a b > 0 → leL a b) := by
  rw [compL_same hl]
  rcases tdiff hl with h | ⟨k, hk, he, hne⟩
  · subst h
    exact ⟨fun _ => leL_refl _, fun _ => leL_refl _⟩
  · rw [lexL_at hl k hk he hne]
    rcases Int.lt_trichotomy (a.getD k 0) (b.getD k 0) with h | h | h
    · rw [cmpI_lt h]
      exact ⟨fun hc => by omega, fun _ => .inr ⟨k, hk, he, h⟩⟩
    · exact absurd h hne
    · rw [cmpI_gt h]
      exact ⟨fun _ => .inr ⟨k, by omega, fun i hi => (he i hi).symm, h⟩, fun hc => by omega⟩

/-- what the search finds: a rotation that is not less than any that it has seen -/
theorem canF_spec (r : List Int) (hr : 1 ≤ r.length) (n : Nat) : (∃ k : Nat, canF r n = rotL r k) ∧ ∀ j : Nat, j < n → leL (rotL r j) (canF r n) := by
  induction n with
  | zero => exact ⟨⟨0, (rotL_zero r hr).symm⟩, fun j hj => by omega⟩
  | succ n ih =>
    obtain ⟨⟨k, hk⟩, hle⟩ := ih
    have hl : (rotL r n).length = (canF r n).length := by rw [rotL_len, canF_len]
    obtain ⟨c1, c2⟩ := compL_le hl
    by_cases h : compL (rotL r n) (canF r n) > 0
    · rw [canF_some h]
      refine ⟨⟨n, rfl⟩, fun j hj => ?_⟩
      by_cases e : j = n
      · subst e; exact leL_refl _
      · exact leL_trans (by rw [rotL_len, canF_len]) (hle j (by omega)) (c1 h)
    · rw [canF_none h]
      refine ⟨⟨k, hk⟩, fun j hj => ?_⟩
      by_cases e : j = n
      · subst e; exact c2 h
      · exact hle j (by omega)
/-- the greatest of all rotations -/
theorem canF_all (r : List Int) (hr : 1 ≤ r.length) (s : Int) : leL (rotL r s) (canF r r.length) := by
  obtain ⟨i, hi, he⟩ := mod_nat r.length hr s
  rw [rotL_mod r hr s i (by rw [he, Int.emod_eq_of_lt (by omega) (by omega)])]
  exact (canF_spec r hr r.length).2 i hi
/-- a rotation has the same greatest rotation -/
theorem canF_rot (r : List Int) (hr : 1 ≤ r.length) (s : Int) : canF (rotL r s) (rotL r s).length = canF r r.length := by
  have hr' : 1 ≤ (rotL r s).length := by rw [rotL_len]; exact hr
  obtain ⟨⟨a, ha⟩, _⟩ := canF_spec (rotL r s) hr' (rotL r s).length
  obtain ⟨⟨b, hb⟩, _⟩ := canF_spec r hr r.length
  refine leL_anti ?_ ?_
  · rw [ha, rotL_rotL r hr]; exact canF_all r hr _
  · have := canF_all (rotL r s) hr' (b - s)
    rw [rotL_rotL r hr, show s + ((b : Int) - s) = b from by omega] at this
    rw [hb]; exact this

/- roots -/
theorem rootK_unique {p : List Int} (hp : 1 ≤ p.length) {k : Nat} (h1 : 1 ≤ k) (h : rotL p k = p) (hl : ∀ j : Nat, 1 ≤ j → j < k → rotL p j ≠ p) : rootK p = k := by
  obtain ⟨k1, k2, k3, k4⟩ := rootK_spec hp
  rcases Nat.lt_trichotomy (rootK p) k with hlt | heq | hgt
  · exact absurd k3 (hl _ k1 hlt)
  · exact heq
  · exact absurd h (k4 _ h1 hgt)
theorem rot_period {p : List Int} (hp : 1 ≤ p.length) (s : Int) (k : Nat) : rotL (rotL p s) k = rotL p s ↔ rotL p k = p := by
  constructor
  · intro h
    have e := congrArg (fun q => rotL q (-s)) h
    rw [rotL_rotL p hp, rotL_rotL p hp, rotL_back hp, show s + (k : Int) + -s = k from by omega] at e
    exact e
  · intro h
    rw [rotL_rotL p hp, Int.add_comm, ← rotL_rotL p hp, h]
theorem rootK_rot {p : List Int} (hp : 1 ≤ p.length) (s : Int) : rootK (rotL p s) = rootK p := by
  obtain ⟨k1, k2, k3, k4⟩ := rootK_spec hp
  exact rootK_unique (by rw [rotL_len]; exact hp) k1 ((rot_period hp s _).2 k3) fun j hj1 hj2 h => k4 j hj1 hj2 ((rot_period hp s j).1 h)
/-- throws of the root are those of the list -/
theorem atL_root {p : List Int} (hp : 1 ≤ p.length) (x : Int) : atL (rootL p) x = atL p x := by
  obtain ⟨k1, k2, k3, k4⟩ := rootK_spec hp
  have hlen := rootL_len hp
  refine all_beats (n := rootK p) k1 (P := fun x => atL (rootL p) x = atL p x) ?_ ?_ x
  · intro x y hxy h
    rw [← atL_per (rootL p) x y (by rw [hlen]; exact hxy), h]
    have e : ∀ z : Int, atL p z = atL p (z % (rootK p : Int)) := by
      intro z
      obtain ⟨q, hq⟩ : ∃ q : Int, q = z / (rootK p : Int) := ⟨_, rfl⟩
      have hz : z = z % (rootK p : Int) + (rootK p : Int) * q := by rw [hq]; exact (Int.emod_add_mul_ediv z _).symm
      have hn : ∀ (m : Nat) (x : Int), atL p (x + (rootK p : Int) * m) = atL p x := fun m x => by
        rw [← atL_rotL p hp, rotL_mul hp k3]
      rcases Int.le_total 0 q with h0 | h0
      · obtain ⟨m, rfl⟩ : ∃ m : Nat, q = m := ⟨q.toNat, by omega⟩
        rw [hz, hn]
        congr 1; simp
      · obtain ⟨m, hm⟩ : ∃ m : Nat, q = -m := ⟨(-q).toNat, by omega⟩
        have h2 := hn m z
        have h3 : z + (rootK p : Int) * m = z % (rootK p : Int) := by
          rw [hm] at hz
          rw [Int.mul_neg] at hz
          omega
        rw [h3] at h2
        exact h2.symm
    rw [e x, e y, hxy]
  · intro i hi
    rw [atL_nat _ i (by rw [hlen]; exact hi), atL_nat p i (by omega)]
    unfold rootL
    exact getD_take _ _ _ hi
theorem rootL_rot {p : List Int} (hp : 1 ≤ p.length) (s : Int) : rootL (rotL p s) = rotL (rootL p) s := by
  have hp' : 1 ≤ (rotL p s).length := by rw [rotL_len]; exact hp
  have hb := rootL_bound hp
  refine ext_atL (by rw [rotL_len, rootL_len hp', rootL_len hp, rootK_rot hp]) fun x => ?_
  rw [atL_root hp', atL_rotL p hp, atL_rotL _ hb.1, atL_root hp]
theorem canL_rot {p : List Int} (hp : 1 ≤ p.length) (s : Int) : canL (rotL p s) = canL p := by
  unfold canL
  rw [rootL_rot hp, canF_rot _ (rootL_bound hp).1]
/-- lists with the same throws at all beats have the same root -/
theorem rootK_same {p q : List Int} (hp : 1 ≤ p.length) (hq : 1 ≤ q.length) (h : ∀ x, atL p x = atL q x) : rootK p = rootK q := by
  have hrot : ∀ {a b : List Int} (ha : 1 ≤ a.length) (hb : 1 ≤ b.length) (hh : ∀ x, atL a x = atL b x) (k : Nat), rotL a k = a → rotL b k = b := by
    intro a b ha hb hh k hk
    refine ext_atL (rotL_len _ _) fun x => ?_
    rw [atL_rotL b hb, ← hh, ← hh, ← atL_rotL a ha, hk]
  obtain ⟨k1, k2, k3, k4⟩ := rootK_spec hp
  refine (rootK_unique hq k1 (hrot hp hq h _ k3) fun j hj1 hj2 hj => k4 j hj1 hj2 (hrot hq hp (fun x => (h x).symm) j hj)).symm
theorem rootL_same {p q : List Int} (hp : 1 ≤ p.length) (hq : 1 ≤ q.length) (h : ∀ x, atL p x = atL q x) : rootL p = rootL q :=
  ext_atL (by rw [rootL_len hp, rootL_len hq, rootK_same hp hq h]) fun x => by rw [atL_root hp, atL_root hq, h]
theorem atL_rep {p : List Int} (hp : 1 ≤ p.length) {m : Nat} (hm : 1 ≤ m) (x : Int) : atL (repL p m) x = atL p x := by
  have hl : (repL p m).length = m * p.length := repL_len p m
  have hq : 1 ≤ (repL p m).length := by rw [hl]; exact Nat.le_trans hp (Nat.le_mul_of_pos_left _ hm)
  refine all_beats (n := (repL p m).length) hq (P := fun x => atL (repL p m) x = atL p x) ?_ ?_ x
  · intro x y hxy h
    rw [← atL_per (repL p m) x y hxy, h]
    refine atL_per p _ _ ?_
    have hd : (p.length : Int) ∣ ((repL p m).length : Int) := ⟨m, by rw [hl, Int.natCast_mul, Int.mul_comm]⟩
    rw [← Int.emod_emod_of_dvd x hd, hxy, Int.emod_emod_of_dvd y hd]
  · intro i hi
    rw [atL_nat _ i hi, repL_getD _ _ _ (by omega)]
    unfold atL
    rw [toNat_mod i _]
theorem rootL_rep {p : List Int} (hp : 1 ≤ p.length) {m : Nat} (hm : 1 ≤ m) : rootL (repL p m) = rootL p :=
  rootL_same (by rw [repL_len]; exact Nat.le_trans hp (Nat.le_mul_of_pos_left _ hm)) hp fun x => atL_rep hp hm x
theorem canL_rep {p : List Int} (hp : 1 ≤ p.length) {m : Nat} (hm : 1 ≤ m) : canL (repL p m) = canL p := by unfold canL; rw [rootL_rep hp hm]
theorem rootL_root {p : List Int} (hp : 1 ≤ p.length) : rootL (rootL p) = rootL p := rootL_same (rootL_bound hp).1 hp fun x => atL_root hp x
/-- the canonical form is a rotation of the root, so of what has the same root -/
theorem canL_is {p : List Int} (hp : 1 ≤ p.length) : ∃ k : Nat, canL p = rotL (rootL p) k := (canF_spec _ (rootL_bound hp).1 _).1
theorem canL_canL {p : List Int} (hp : 1 ≤ p.length) : canL (canL p) = canL p := by
  obtain ⟨k, hk⟩ := canL_is hp
  have hb := (rootL_bound hp).1
  rw [hk, canL_rot hb]
  have e : canL (rootL p) = canL p := by unfold canL; rw [rootL_root hp]
  rw [e, hk]

/- they are patterns -/
theorem lnd_per (p : List Int) (x : Int) : (x + atL p x) % (p.length : Int) = (x % (p.length : Int) + atL p (x % (p.length : Int))) % (p.length : Int) := by
  rw [atL_per p (x % (p.length : Int)) x (Int.emod_emod_of_dvd x (Int.dvd_refl _)), Int.emod_add_emod]
theorem rootL_ok {p : List Int} (h : okPat p = true) : okPat (rootL p) = true := by
  obtain ⟨l1, l2⟩ := okPat_len h
  obtain ⟨b1, b2⟩ := rootL_bound l1
  refine okPat_of_inj (okList_mk b1 (by omega) fun i hi => ?_) fun i j hi hj he => ?_
  · rw [← atL_nat _ i hi, atL_root l1]
    exact atL_bound h _
  · rw [lnd_atL _ i hi, lnd_atL _ j hj, atL_root l1, atL_root l1] at he
    -- the landings differ by a multiple of the root's period: the throw at a beat that is later by it lands where the other one does
    obtain ⟨q, hq⟩ : ∃ q : Int, (i : Int) + atL p i = (j : Int) + atL p j + ((rootL p).length : Int) * q := by
      refine ⟨((i : Int) + atL p i) / ((rootL p).length : Int) - ((j : Int) + atL p j) / ((rootL p).length : Int), ?_⟩
      have e1 := Int.emod_add_mul_ediv ((i : Int) + atL p i) ((rootL p).length : Int)
      have e2 := Int.emod_add_mul_ediv ((j : Int) + atL p j) ((rootL p).length : Int)
      rw [Int.mul_sub]
      omega
    have hat : atL p ((j : Int) + ((rootL p).length : Int) * q) = atL p j := by
      rw [← atL_root l1, ← atL_root l1]
      exact atL_per _ _ _ (by rw [Int.add_mul_emod_self_left])
    have hinj := okPat_inj h (i : Int) ((j : Int) + ((rootL p).length : Int) * q) (by rw [hat, hq]; congr 1; omega)
    have hd : ((rootL p).length : Int) ∣ (p.length : Int) := by
      rw [rootL_len l1]
      exact Int.natCast_dvd_natCast.2 (Nat.dvd_of_mod_eq_zero (rootK_len l1))
    have h2 := congrArg (fun z => z % ((rootL p).length : Int)) hinj
    rw [Int.emod_emod_of_dvd _ hd, Int.emod_emod_of_dvd _ hd, Int.add_mul_emod_self_left, Int.emod_eq_of_lt (by omega) (by omega), Int.emod_eq_of_lt (by omega) (by omega)] at h2
    omega
theorem canL_ok {p : List Int} (h : okPat p = true) : okPat (canL p) = true := by
  obtain ⟨k, hk⟩ := canL_is (okPat_len h).1
  rw [hk]
  exact rotL_ok (rootL_ok h) _
theorem repL_ok {p : List Int} (h : okPat p = true) {m : Nat} (hm : 1 ≤ m) (hl : m * p.length ≤ 12) : okPat (repL p m) = true := by
  obtain ⟨l1, l2⟩ := okPat_len h
  have hlen : (repL p m).length = m * p.length := repL_len p m
  have hq : 1 ≤ (repL p m).length := by rw [hlen]; exact Nat.le_trans l1 (Nat.le_mul_of_pos_left _ hm)
  refine okPat_of_inj (okList_mk hq (by omega) fun i hi => ?_) fun i j hi hj he => ?_
  · rw [← atL_nat _ i hi, atL_rep l1 hm]
    exact atL_bound h _
  · rw [lnd_atL _ i hi, lnd_atL _ j hj, atL_rep l1 hm, atL_rep l1 hm] at he
    have hd : (p.length : Int) ∣ ((repL p m).length : Int) := ⟨m, by rw [hlen, Int.natCast_mul, Int.mul_comm]⟩
    have h2 := congrArg (fun z => z % (p.length : Int)) he
    rw [Int.emod_emod_of_dvd _ hd, Int.emod_emod_of_dvd _ hd] at h2
    have h3 := okPat_inj h _ _ h2
    have h4 : atL p (i : Int) = atL p (j : Int) := atL_per p _ _ h3
    rw [h4] at he
    have h5 := congrArg (fun z => (z - atL p (j : Int)) % ((repL p m).length : Int)) he
    simp only [Int.emod_sub_emod] at h5
    rw [show (i : Int) + atL p j - atL p j = i from by omega, show (j : Int) + atL p j - atL p j = j from by omega, Int.emod_eq_of_lt (by omega) (by omega), Int.emod_eq_of_lt (by omega) (by omega)] at h5
    omega
end Go.Proofs.Ytdgmmaghmdbnjaa
