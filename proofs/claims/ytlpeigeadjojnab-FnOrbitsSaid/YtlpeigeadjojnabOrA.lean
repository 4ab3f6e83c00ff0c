/- Orbits in plain mathematics: the way of a throw, the least throw of an orbit, and links that lead to it. No conditions. -/
import Derived.Test.YtlpeigeadjojnabPat
namespace Go.Proofs.Ytlpeigeadjojnab
set_option linter.unusedSimpArgs false
set_option linter.unusedVariables false

/-- where a throw lands, and the m-th throw on the way of a throw -/
def nxt (p : List Int) (i : Nat) : Nat := (lnd p i).toNat
def itr (p : List Int) (i : Nat) : Nat → Nat
  | 0 => i
  | m + 1 => nxt p (itr p i m)
theorem itr_zero (p : List Int) (i : Nat) : itr p i 0 = i := rfl
theorem itr_succ (p : List Int) (i m : Nat) : itr p i (m + 1) = nxt p (itr p i m) := rfl
theorem itr_add (p : List Int) (i a b : Nat) : itr p i (a + b) = itr p (itr p i a) b := by
  induction b with
  | zero => rfl
  | succ b ih => rw [← Nat.add_assoc, itr_succ, itr_succ, ih]
theorem nxt_lt {p : List Int} (hok : okPat p = true) (i : Nat) : nxt p i < p.length := by
  have := lnd_bound p (okPat_len hok).1 i
  unfold nxt
  omega
theorem nxt_cast {p : List Int} (hok : okPat p = true) (i : Nat) : ((nxt p i : Nat) : Int) = lnd p i := by
  have := lnd_bound p (okPat_len hok).1 i
  unfold nxt
  omega
theorem nxt_inj {p : List Int} (hok : okPat p = true) {a b : Nat} (ha : a < p.length) (hb : b < p.length) (h : nxt p a = nxt p b) : a = b := by
  have h1 := nxt_cast hok a
  have h2 := nxt_cast hok b
  have he : lnd p a = lnd p b := by rw [← h1, ← h2, h]
  refine Classical.byContradiction fun hne => ?_
  rcases Nat.lt_or_gt_of_ne hne with hl | hl
  · exact okPat_distinct hok a b hl hb he
  · exact okPat_distinct hok b a hl ha he.symm
theorem itr_lt {p : List Int} (hok : okPat p = true) {i : Nat} (hi : i < p.length) (m : Nat) : itr p i m < p.length := by
  cases m with
  | zero => exact hi
  | succ m => exact nxt_lt hok _
theorem itr_back {p : List Int} (hok : okPat p = true) {i : Nat} (hi : i < p.length) : ∀ a b, itr p i (a + b) = itr p i a → itr p i b = i := by
  intro a
  induction a with
  | zero => intro b h; rw [Nat.zero_add] at h; exact h
  | succ a ih =>
    intro b h
    rw [show a + 1 + b = (a + b) + 1 from by omega, itr_succ, itr_succ] at h
    exact ih b (nxt_inj hok (itr_lt hok hi _) (itr_lt hok hi _) h)
/-- one comes back -/
theorem itr_turn {p : List Int} (hok : okPat p = true) {i : Nat} (hi : i < p.length) : ∃ m, 1 ≤ m ∧ m ≤ p.length ∧ itr p i m = i := by
  refine Classical.byContradiction fun hno => ?_
  have hd : ((List.range (p.length + 1)).map (itr p i)).Nodup := by
    rw [List.nodup_iff_pairwise_ne, List.pairwise_map]
    refine List.Pairwise.imp_of_mem ?_ (List.pairwise_lt_range)
    intro a b ha hb hab he
    rw [List.mem_range] at ha hb
    have := itr_back hok hi a (b - a) (by rw [show a + (b - a) = b from by omega]; exact he.symm)
    exact hno ⟨b - a, by omega, by omega, this⟩
  have := len_le_of_sub _ (List.range p.length) hd (by
    intro x hx
    obtain ⟨m, _, rfl⟩ := List.mem_map.1 hx
    exact List.mem_range.2 (itr_lt hok hi m))
  simp at this
  omega

/-- after how many throws one comes back -/
def per (p : List Int) (i : Nat) : Nat := match (List.range p.length).find? (fun m => itr p i (m + 1) == i) with | some m => m + 1 | none => 0
theorem per_spec {p : List Int} (hok : okPat p = true) {i : Nat} (hi : i < p.length) : 1 ≤ per p i ∧ per p i ≤ p.length ∧ itr p i (per p i) = i ∧ ∀ a, 1 ≤ a → a < per p i → itr p i a ≠ i := by
  unfold per
  cases h : (List.range p.length).find? (fun m => itr p i (m + 1) == i) with
  | none =>
    rw [List.find?_eq_none] at h
    obtain ⟨m, h1, h2, h3⟩ := itr_turn hok hi
    have := h (m - 1) (List.mem_range.2 (by omega))
    rw [show m - 1 + 1 = m from by omega] at this
    simp [h3] at this
  | some m =>
    rw [List.find?_range_eq_some] at h
    obtain ⟨h1, h2, h3⟩ := h
    rw [List.mem_range] at h2
    refine ⟨by simp, by simp; omega, by simpa using h1, ?_⟩
    intro a ha1 ha2
    have := h3 (a - 1) (by simp at ha2; omega)
    rw [show a - 1 + 1 = a from by omega] at this
    simpa using this
theorem per_is {p : List Int} (hok : okPat p = true) {i m : Nat} (hi : i < p.length) (h1 : 1 ≤ m) (h2 : itr p i m = i) (h3 : ∀ a, 1 ≤ a → a < m → itr p i a ≠ i) : per p i = m := by
  obtain ⟨q1, _, q3, q4⟩ := per_spec hok hi
  rcases Nat.lt_trichotomy (per p i) m with h | h | h
  · exact absurd q3 (h3 _ q1 h)
  · exact h
  · exact absurd h2 (q4 _ h1 h)
theorem itr_mul {p : List Int} {i q : Nat} (h : itr p i q = i) (m : Nat) : itr p i (q * m) = i := by
  induction m with
  | zero => rfl
  | succ m ih => rw [Nat.mul_succ, itr_add, ih, h]
theorem itr_mod {p : List Int} (hok : okPat p = true) {i : Nat} (hi : i < p.length) (m : Nat) : itr p i (m % per p i) = itr p i m := by
  obtain ⟨_, _, q3, _⟩ := per_spec hok hi
  have := Nat.div_add_mod m (per p i)
  conv => rhs; rw [← this, itr_add, itr_mul q3]

/-- one comes from i to j -/
def Orb (p : List Int) (i j : Nat) : Prop := ∃ m, itr p i m = j
theorem Orb.refl (p : List Int) (i : Nat) : Orb p i i := ⟨0, rfl⟩
theorem Orb.trans {p : List Int} {i j k : Nat} (h : Orb p i j) (h2 : Orb p j k) : Orb p i k := by
  obtain ⟨a, rfl⟩ := h
  obtain ⟨b, rfl⟩ := h2
  exact ⟨a + b, itr_add p i a b⟩
theorem Orb.symm {p : List Int} (hok : okPat p = true) {i j : Nat} (hi : i < p.length) (h : Orb p i j) : Orb p j i := by
  obtain ⟨m, rfl⟩ := h
  obtain ⟨q1, _, q3, _⟩ := per_spec hok hi
  refine ⟨per p i * (m + 1) - m, ?_⟩
  rw [← itr_add]
  have : m ≤ per p i * (m + 1) := Nat.le_trans (Nat.le_succ m) (Nat.le_mul_of_pos_left _ q1)
  rw [show m + (per p i * (m + 1) - m) = per p i * (m + 1) from by omega, itr_mul q3]
theorem Orb.next (p : List Int) (i : Nat) : Orb p i (nxt p i) := ⟨1, rfl⟩
theorem Orb.lt {p : List Int} (hok : okPat p = true) {i j : Nat} (hi : i < p.length) (h : Orb p i j) : j < p.length := by
  obtain ⟨m, rfl⟩ := h
  exact itr_lt hok hi m

/-- the way of a throw -/
def wayL (p : List Int) (i : Nat) : List Nat := (List.range (per p i)).map (itr p i)
theorem wayL_len (p : List Int) (i : Nat) : (wayL p i).length = per p i := by simp [wayL]
theorem wayL_mem {p : List Int} (hok : okPat p = true) {i : Nat} (hi : i < p.length) (j : Nat) : j ∈ wayL p i ↔ Orb p i j := by
  obtain ⟨q1, _, q3, _⟩ := per_spec hok hi
  constructor
  · intro h
    obtain ⟨m, _, rfl⟩ := List.mem_map.1 h
    exact ⟨m, rfl⟩
  · rintro ⟨m, rfl⟩
    exact List.mem_map.2 ⟨m % per p i, List.mem_range.2 (Nat.mod_lt _ q1), itr_mod hok hi m⟩
theorem wayL_nodup {p : List Int} (hok : okPat p = true) {i : Nat} (hi : i < p.length) : (wayL p i).Nodup := by
  obtain ⟨q1, _, q3, q4⟩ := per_spec hok hi
  unfold wayL
  rw [List.nodup_iff_pairwise_ne, List.pairwise_map]
  refine List.Pairwise.imp_of_mem ?_ (List.pairwise_lt_range)
  intro a b ha hb hab he
  rw [List.mem_range] at ha hb
  have := itr_back hok hi a (b - a) (by rw [show a + (b - a) = b from by omega]; exact he.symm)
  exact q4 _ (by omega) (by omega) this

/-- the least throw of an orbit -/
def lst (p : List Int) (j : Nat) : Nat := match (List.range p.length).find? (fun r => (wayL p r).contains j) with | some r => r | none => 0
theorem lst_spec {p : List Int} (hok : okPat p = true) {j : Nat} (hj : j < p.length) : lst p j < p.length ∧ Orb p (lst p j) j ∧ lst p j ≤ j ∧ ∀ r, r < lst p j → ¬ Orb p r j := by
  unfold lst
  cases h : (List.range p.length).find? (fun r => (wayL p r).contains j) with
  | none =>
    rw [List.find?_eq_none] at h
    have := h j (List.mem_range.2 hj)
    rw [List.contains_iff_mem, wayL_mem hok hj] at this
    exact absurd (Orb.refl p j) this
  | some r =>
    rw [List.find?_range_eq_some] at h
    obtain ⟨h1, h2, h3⟩ := h
    rw [List.mem_range] at h2
    rw [List.contains_iff_mem, wayL_mem hok h2] at h1
    have hl : ∀ a, a < r → ¬ Orb p a j := by
      intro a ha ho
      have := h3 a ha
      rw [← (wayL_mem hok (show a < p.length by omega) j), ← List.contains_iff_mem] at ho
      rw [ho] at this
      cases this
    refine ⟨h2, h1, ?_, hl⟩
    refine Classical.byContradiction fun hn => hl j (by simp at hn; exact hn) (Orb.refl p j)
theorem lst_is {p : List Int} (hok : okPat p = true) {j r : Nat} (hj : j < p.length) (hr : r < p.length) (h1 : Orb p r j) (h2 : ∀ a, a < r → ¬ Orb p a j) : lst p j = r := by
  obtain ⟨q1, q2, _, q4⟩ := lst_spec hok hj
  rcases Nat.lt_trichotomy (lst p j) r with h | h | h
  · exact absurd q2 (h2 _ h)
  · exact h
  · exact absurd h1 (q4 _ h)
theorem lst_orb {p : List Int} (hok : okPat p = true) {i j : Nat} (hi : i < p.length) (h : Orb p i j) : lst p j = lst p i := by
  obtain ⟨q1, q2, _, q4⟩ := lst_spec hok hi
  have hj := h.lt hok hi
  refine lst_is hok hj q1 (q2.trans h) fun a ha ho => q4 a ha (ho.trans (h.symm hok hi))
theorem lst_eq {p : List Int} (hok : okPat p = true) {i j : Nat} (hi : i < p.length) (hj : j < p.length) : lst p i = lst p j ↔ Orb p i j := by
  constructor
  · intro h
    have h1 := (lst_spec hok hi)
    have h2 := (lst_spec hok hj)
    have := h1.2.1.symm hok h1.1
    rw [h] at this
    exact this.trans h2.2.1
  · intro h
    exact (lst_orb hok hi h).symm
theorem lst_lst {p : List Int} (hok : okPat p = true) {j : Nat} (hj : j < p.length) : lst p (lst p j) = lst p j := by
  obtain ⟨q1, q2, _, _⟩ := lst_spec hok hj
  exact (lst_orb hok q1 q2).symm

/-- the first throws of the orbits, in order, and the orbits -/
def fstL (p : List Int) (k : Nat) : List Nat := (List.range k).filter (fun i => lst p i == i)
def fsts (p : List Int) : List Nat := fstL p p.length
theorem fstL_yes {p : List Int} {k : Nat} (h : lst p k = k) : fstL p (k + 1) = fstL p k ++ [k] := by simp [fstL, List.range_succ, h]
theorem fstL_no {p : List Int} {k : Nat} (h : lst p k ≠ k) : fstL p (k + 1) = fstL p k := by simp [fstL, List.range_succ, h]
theorem fstL_len (p : List Int) (k : Nat) : (fstL p k).length ≤ k := by
  have := List.length_filter_le (fun i => lst p i == i) (List.range k)
  simpa [fstL] using this
theorem fsts_mem {p : List Int} {i : Nat} : i ∈ fsts p ↔ i < p.length ∧ lst p i = i := by simp [fsts, fstL]
def ints (l : List Nat) : List Int := l.map Int.ofNat
theorem ints_len (l : List Nat) : (ints l).length = l.length := by simp [ints]
theorem ints_snoc (l : List Nat) (x : Nat) : ints (l ++ [x]) = ints l ++ [(x : Int)] := by simp [ints]
theorem ints_at (l : List Nat) (i : Nat) (h : i < l.length) : (ints l).getD i 0 = (l.getD i 0 : Nat) := by simp [ints, h]
def orbs (p : List Int) : List (List Int) := (fsts p).map fun i => ints (wayL p i)

/-- the links of a forest: root -/
inductive Rt (u : Nat → Option Nat) : Nat → Nat → Prop
  | here {j : Nat} : u j = none → Rt u j j
  | up {j k r : Nat} : u j = some k → Rt u k r → Rt u j r
theorem Rt.one {u : Nat → Option Nat} {j r : Nat} (h : Rt u j r) : ∀ s, Rt u j s → r = s := by
  induction h with
  | here h0 =>
    intro s hs
    cases hs with
    | here => rfl
    | up h1 => rw [h0] at h1; cases h1
  | up h0 _ ih =>
    intro s hs
    cases hs with
    | here h1 => rw [h0] at h1; cases h1
    | up h1 h2 => rw [h0] at h1; cases h1; exact ih s h2
theorem Rt.top {u : Nat → Option Nat} {j r : Nat} (h : Rt u j r) : u r = none := by
  induction h with
  | here h0 => exact h0
  | up _ _ ih => exact ih
theorem Rt.ex {u : Nat → Option Nat} (hd : ∀ j k, u j = some k → k < j) : ∀ j, ∃ r, Rt u j r := by
  intro j
  induction j using Nat.strongRecOn with
  | _ j ih =>
    cases h : u j with
    | none => exact ⟨j, .here h⟩
    | some k => obtain ⟨r, hr⟩ := ih k (hd j k h); exact ⟨r, .up h hr⟩
theorem Rt.le {u : Nat → Option Nat} (hd : ∀ j k, u j = some k → k < j) {j r : Nat} (h : Rt u j r) : r ≤ j := by
  induction h with
  | here => exact Nat.le_refl _
  | up h0 _ ih => have := hd _ _ h0; omega
/-- b, a root, is hung under a, another root -/
def hang (u : Nat → Option Nat) (b a : Nat) : Nat → Option Nat := fun j => if j = b then some a else u j
theorem Rt.hung {u : Nat → Option Nat} {a b : Nat} (ha : u a = none) (hb : u b = none) (hne : a ≠ b) {j r : Nat} (h : Rt u j r) : Rt (hang u b a) j (if r = b then a else r) := by
  have hA : Rt (hang u b a) a a := .here (by simp [hang, hne, ha])
  induction h with
  | @here j h0 =>
    by_cases e : j = b
    · subst e
      rw [if_pos rfl]
      exact .up (k := a) (by simp [hang]) hA
    · rw [if_neg e]
      exact .here (by simp [hang, e, h0])
  | @up j k r h0 _ ih =>
    have e : j ≠ b := by intro e; subst e; rw [hb] at h0; cases h0
    exact .up (k := k) (by simp [hang, e, h0]) ih

/-- the links after the first t throws have been joined with those where they land -/
structure Links (p : List Int) (u : Nat → Option Nat) (t : Nat) : Prop where
  down : ∀ j k, u j = some k → k < j
  orb : ∀ j k, u j = some k → j < p.length → Orb p j k
  joined : ∀ j, j < t → ∀ r, Rt u j r → Rt u (nxt p j) r
theorem Links.start {p : List Int} : Links p (fun _ => none) 0 := ⟨by simp, by simp, by omega⟩
theorem Links.rt_orb {p : List Int} {u : Nat → Option Nat} {t : Nat} (h : Links p u t) (hok : okPat p = true) {j r : Nat} (hj : j < p.length) (hr : Rt u j r) : Orb p j r := by
  induction hr with
  | here => exact Orb.refl _ _
  | @up j k r h0 _ ih =>
    have := h.orb j k h0 hj
    exact this.trans (ih (this.lt hok hj))
theorem Links.rt_lt {p : List Int} {u : Nat → Option Nat} {t : Nat} (h : Links p u t) {j r : Nat} (hj : j < p.length) (hr : Rt u j r) : r < p.length := by
  have := hr.le h.down
  omega
/-- the two are in one tree already -/
theorem Links.same {p : List Int} {u : Nat → Option Nat} {t : Nat} (h : Links p u t) {a : Nat} (h1 : Rt u t a) (h2 : Rt u (nxt p t) a) : Links p u (t + 1) :=
  ⟨h.down, h.orb, fun j hj r hr => by
    by_cases e : j = t
    · subst e; rw [hr.one _ h1]; exact h2
    · exact h.joined j (by omega) r hr⟩
theorem Links.tied {p : List Int} {u : Nat → Option Nat} {t : Nat} (h : Links p u t) (hok : okPat p = true) (ht : t < p.length) {a b lo hi : Nat} (h1 : Rt u t a) (h2 : Rt u (nxt p t) b) (hlo : lo < hi) (hs : lo = a ∧ hi = b ∨ lo = b ∧ hi = a) :
    Links p (hang u hi lo) (t + 1) := by
  have hua := h1.top
  have hub := h2.top
  have oa := h.rt_orb hok ht h1
  have ob := h.rt_orb hok (nxt_lt hok t) h2
  have hab : Orb p a b := (oa.symm hok ht).trans ((Orb.next p t).trans ob)
  have hal := oa.lt hok ht
  have hul : u lo = none := by rcases hs with ⟨rfl, rfl⟩ | ⟨rfl, rfl⟩ <;> assumption
  have huh : u hi = none := by rcases hs with ⟨rfl, rfl⟩ | ⟨rfl, rfl⟩ <;> assumption
  have hne : lo ≠ hi := by omega
  have hto : Orb p hi lo := by
    rcases hs with ⟨rfl, rfl⟩ | ⟨rfl, rfl⟩
    · exact hab.symm hok hal
    · exact hab
  refine ⟨?_, ?_, ?_⟩
  · intro j k hk
    unfold hang at hk
    by_cases e : j = hi
    · rw [if_pos e] at hk; cases hk; omega
    · rw [if_neg e] at hk; exact h.down j k hk
  · intro j k hk hj
    unfold hang at hk
    by_cases e : j = hi
    · rw [if_pos e] at hk; cases hk; subst e; exact hto
    · rw [if_neg e] at hk; exact h.orb j k hk hj
  · intro j hj r hr
    obtain ⟨s, hs1⟩ := Rt.ex h.down j
    have hs2 := hs1.hung hul huh hne
    rw [hr.one _ hs2]
    by_cases e : j = t
    · subst e
      have e1 := hs1.one _ h1
      subst e1
      have h3 := h2.hung hul huh hne
      have : (if s = hi then lo else s) = (if b = hi then lo else b) := by
        rcases hs with ⟨rfl, rfl⟩ | ⟨rfl, rfl⟩
        · rw [if_neg hne, if_pos rfl]
        · rw [if_pos rfl, if_neg hne]
      rw [this]
      exact h3
    · exact (h.joined j (by omega) s hs1).hung hul huh hne
/-- all joined: the roots are the least throws -/
theorem Links.root {p : List Int} {u : Nat → Option Nat} (h : Links p u p.length) (hok : okPat p = true) {j : Nat} (hj : j < p.length) : Rt u j (lst p j) := by
  obtain ⟨r, hr⟩ := Rt.ex h.down j
  have hall : ∀ m, Rt u (itr p j m) r := by
    intro m
    induction m with
    | zero => exact hr
    | succ m ih => exact h.joined _ (itr_lt hok hj m) r ih
  have ho := h.rt_orb hok hj hr
  have hrl := ho.lt hok hj
  have : lst p j = r := by
    refine lst_is hok hj hrl (ho.symm hok hj) fun a ha hoa => ?_
    have hal : a < p.length := by omega
    obtain ⟨m, hm⟩ := hoa.symm hok hal
    have := (hall m).le h.down
    rw [hm] at this
    omega
  rw [this]
  exact hr
theorem Links.isFirst {p : List Int} {u : Nat → Option Nat} (h : Links p u p.length) (hok : okPat p = true) {j : Nat} (hj : j < p.length) : u j = none ↔ lst p j = j := by
  have hr := h.root hok hj
  constructor
  · intro hn; exact hr.one _ (.here hn)
  · intro e; rw [e] at hr; exact hr.top
end Go.Proofs.Ytlpeigeadjojnab
