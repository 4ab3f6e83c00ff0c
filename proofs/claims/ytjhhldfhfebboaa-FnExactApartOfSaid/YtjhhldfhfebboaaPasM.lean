/- The model's l06Ok: what its rounds keep. -/
import Derived.Test.YtjhhldfhfebboaaPasZ
namespace Go.Proofs.Ytjhhldfhfebboaa
open Go.RowKit Go.Shelf
set_option linter.unusedSimpArgs false
set_option linter.unusedVariables false

/-- the throws of both of one beat -/
def beatM (a b : List Pt) (t : Nat) : List Mt := [(a.getD t p0, 0, t), (b.getD t p0, 1, t)]
/-- the throws of both, beat by beat -/
def beatsM (a b : List Pt) : Nat → List Mt
  | 0 => []
  | i + 1 => beatsM a b i ++ beatM a b i
def seenOf (n : Nat) (ks : List Int) : List Value := (List.range (2 * n)).map fun (k : Nat) => .bool (decide ((k : Int) ∈ ks))
theorem seenOf_nil (n : Nat) : seenOf n [] = List.replicate (2 * n) (.bool false) := by
  unfold seenOf; simp [List.map_const']
theorem seenOf_get (n : Nat) (ks : List Int) (k : Nat) (hk : k < 2 * n) : (seenOf n ks)[k]? = some (.bool (decide ((k : Int) ∈ ks))) := by
  unfold seenOf; simp [hk]
theorem seenOf_snoc (n : Nat) (ks : List Int) (k : Nat) (hk : k < 2 * n) : (seenOf n ks).set k (.bool true) = seenOf n (ks ++ [(k : Int)]) := by
  apply List.ext_getElem?
  intro m
  unfold seenOf
  by_cases hm : m < 2 * n
  · by_cases e : m = k
    · subst e; simp [hm]
    · rw [List.getElem?_set_ne (Ne.symm e)]
      have : ¬ ((m : Int) = (k : Int)) := by omega
      simp only [List.getElem?_map, List.getElem?_range hm, Option.map_some, List.mem_append, List.mem_singleton, this, or_false]
  · rw [List.getElem?_eq_none (by simp; omega), List.getElem?_eq_none (by simp; omega)]

theorem beatsM_perm (a b : List Pt) (n : Nat) : (beatsM a b n).Perm (mts n a b) := by
  induction n with
  | zero => exact List.Perm.refl _
  | succ n ih =>
    show (beatsM a b n ++ beatM a b n).Perm (mtsOf 0 a (n + 1) ++ mtsOf 1 b (n + 1))
    rw [mtsOf_succ, mtsOf_succ]
    have h1 : (beatsM a b n ++ beatM a b n).Perm ((mtsOf 0 a n ++ mtsOf 1 b n) ++ ([(a.getD n p0, 0, n)] ++ [(b.getD n p0, 1, n)])) := ih.append_right _
    refine h1.trans ?_
    have h2 : ((mtsOf 0 a n ++ mtsOf 1 b n) ++ ([(a.getD n p0, 0, n)] ++ [(b.getD n p0, 1, n)])).Perm (mtsOf 0 a n ++ (mtsOf 1 b n ++ ([(a.getD n p0, 0, n)] ++ [(b.getD n p0, 1, n)]))) := by rw [List.append_assoc]
    refine h2.trans ?_
    rw [List.append_assoc]
    refine List.Perm.append_left _ ?_
    rw [← List.append_assoc, ← List.append_assoc]
    exact List.Perm.append_right _ List.perm_append_comm
theorem beatsM_pre (a b : List Pt) (i n : Nat) (h : i ≤ n) : beatsM a b i <+: beatsM a b n := by
  induction n with
  | zero =>
    rw [show i = 0 from by omega]
    exact List.prefix_refl _
  | succ n ih =>
    by_cases e : i = n + 1
    · rw [e]
      exact List.prefix_refl _
    · exact (ih (by omega)).trans (List.prefix_append _ _)

/-- the landings of the beats before i -/
def seenK (n : Nat) (a b : List Pt) (i : Nat) : List Int := (beatsM a b i).map (landK n)
theorem seenK_succ (n : Nat) (a b : List Pt) (i : Nat) : seenK n a b (i + 1) = seenK n a b i ++ [landK n (a.getD i p0, 0, i)] ++ [landK n (b.getD i p0, 1, i)] := by
  simp [seenK, beatsM, beatM]
theorem seenK_bad (n : Nat) (a b : List Pt) (i : Nat) (h : i ≤ n) (hbad : ¬ (seenK n a b i).Nodup) : ¬ (seenK n a b n).Nodup := fun hn =>
  hbad (((beatsM_pre a b i n h).map (landK n)).sublist.nodup hn)
theorem nodup_map_iff {α β γ : Type} (f : α → β) (g : α → γ) (l : List α) (h : ∀ x ∈ l, ∀ y ∈ l, f x = f y ↔ g x = g y) : (l.map f).Nodup ↔ (l.map g).Nodup := by
  simp only [List.Nodup, List.pairwise_map]
  constructor
  · intro hp; exact hp.imp_of_mem fun hx hy hne e => hne ((h _ hx _ hy).2 e)
  · intro hp; exact hp.imp_of_mem fun hx hy hne e => hne ((h _ hx _ hy).1 e)
theorem seenK_all (n : Nat) (a b : List Pt) : (seenK n a b n).Nodup ↔ (lands n a b).Nodup := by
  have h1 : (seenK n a b n).Nodup ↔ ((mts n a b).map (landK n)).Nodup := ((beatsM_perm a b n).map (landK n)).nodup_iff
  rw [h1]
  unfold lands
  refine nodup_map_iff _ _ _ fun x hx y hy => landK_eq n x y ?_ ?_
  · unfold mts mtsOf at hx
    rcases List.mem_append.1 hx with h | h
    · obtain ⟨i, _, rfl⟩ := List.mem_map.1 h; exact Nat.zero_le _
    · obtain ⟨i, _, rfl⟩ := List.mem_map.1 h; exact Nat.le_refl _
  · unfold mts mtsOf at hy
    rcases List.mem_append.1 hy with h | h
    · obtain ⟨i, _, rfl⟩ := List.mem_map.1 h; exact Nat.zero_le _
    · obtain ⟨i, _, rfl⟩ := List.mem_map.1 h; exact Nat.le_refl _
theorem landK_nat (n : Nat) (x : Mt) (hn : 0 < n) (hx : x.2.1 ≤ 1) : ∃ k : Nat, k < 2 * n ∧ landK n x = (k : Int) := by
  have e0 := Int.emod_nonneg ((x.2.2 : Int) + x.1.1) (show (n : Int) ≠ 0 by omega)
  have e1 := Int.emod_lt_of_pos ((x.2.2 : Int) + x.1.1) (show 0 < (n : Int) by omega)
  refine ⟨(landK n x).toNat, ?_, ?_⟩
  · unfold landK; generalize ((x.2.2 : Int) + x.1.1) % (n : Int) = q at *; split <;> omega
  · unfold landK; generalize ((x.2.2 : Int) + x.1.1) % (n : Int) = q at *; split <;> omega
theorem infoB_at : (Try.prog.info? 4).map (fun i => (i.zero, i.size, i.bytes)) = some (some (.bool false), 1, 1) := by kernel_rfl
end Go.Proofs.Ytjhhldfhfebboaa
