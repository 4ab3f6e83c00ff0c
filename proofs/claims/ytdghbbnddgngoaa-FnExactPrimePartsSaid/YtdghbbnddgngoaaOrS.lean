/- The orbits of a pattern, the model's: l13Orbits answers the list of the orbits. Condition: a pattern. -/
import Derived.Test.YtdghbbnddgngoaaOrA
import Derived.Test.YtdghbbnddgngoaaOwn
import Derived.Test.YtdghbbnddgngoaaGridsB
import Derived.Test.YtdghbbnddgngoaaSpec02b
namespace Go.Proofs.Ytdghbbnddgngoaa
open Go.RowKit
set_option linter.unusedSimpArgs false
set_option linter.unusedVariables false

/-- a row of truth values of a call's own -/
def Bls2 (w : World) (B : Nat) (v : Value) (xs : List Bool) : Prop := Own 4 Value.bool w B v xs
theorem Try.infoBl2 : (Try.prog.info? 4).map (fun i => (i.zero, i.size, i.bytes)) = some (some (.bool false), 1, 1) := by kernel_rfl

/-- which throws have been met: those of orbits that begin below k, and the first m of the orbit of k -/
def seenF (p : List Int) (k m : Nat) (j : Nat) : Bool := decide (lst p j < k) || ((List.range m).map (itr p k)).contains j
def seenL (p : List Int) (k m : Nat) : List Bool := (List.range p.length).map (seenF p k m)
theorem seenL_len (p : List Int) (k m : Nat) : (seenL p k m).length = p.length := by simp [seenL]
theorem seenL_at (p : List Int) (k m j : Nat) (hj : j < p.length) : (seenL p k m).getD j false = seenF p k m j := by simp [seenL, hj]
theorem seenF_zero (p : List Int) (k j : Nat) : seenF p k 0 j = decide (lst p j < k) := by simp [seenF]
theorem seenL_first (p : List Int) : seenL p 0 0 = List.replicate p.length false := by
  apply List.ext_getElem
  · simp [seenL]
  · intro i h1 h2
    simp [seenL, seenF]
theorem seenL_set {p : List Int} (k m : Nat) (hj : itr p k m < p.length) : (seenL p k m).set (itr p k m) true = seenL p k (m + 1) := by
  apply List.ext_getElem
  · simp [seenL]
  · intro i h1 h2
    simp only [seenL, List.getElem_set, List.getElem_map, List.getElem_range]
    by_cases e : itr p k m = i
    · rw [if_pos e]
      simp [seenF, List.range_succ, e]
    · rw [if_neg e]
      have e' : ¬ i = itr p k m := fun h => e h.symm
      simp [seenF, List.range_succ, e']
/-- while one has not come back, the next throw has not been met -/
theorem seenF_on {p : List Int} (hok : okPat p = true) {k m : Nat} (hk : k < p.length) (hf : lst p k = k) (hm : m < per p k) : seenF p k m (itr p k m) = false := by
  have ho : Orb p k (itr p k m) := ⟨m, rfl⟩
  have hl := lst_orb hok hk ho
  rw [hf] at hl
  have : ¬ itr p k m ∈ (List.range m).map (itr p k) := by
    intro h
    obtain ⟨a, ha, he⟩ := List.mem_map.1 h
    rw [List.mem_range] at ha
    have := itr_back hok hk a (m - a) (by rw [show a + (m - a) = m from by omega]; exact he.symm)
    exact (per_spec hok hk).2.2.2 _ (by omega) (by omega) this
  simp only [seenF, hl, Nat.lt_irrefl, decide_false, Bool.false_or]
  rw [← Bool.not_eq_true, List.contains_iff_mem]
  exact this
theorem seenF_back {p : List Int} (hok : okPat p = true) {k : Nat} (hk : k < p.length) : seenF p k (per p k) (itr p k (per p k)) = true := by
  obtain ⟨q1, _, q3, _⟩ := per_spec hok hk
  rw [q3]
  have : k ∈ (List.range (per p k)).map (itr p k) := List.mem_map.2 ⟨0, List.mem_range.2 q1, rfl⟩
  simp only [seenF, Bool.or_eq_true]
  exact .inr (List.contains_iff_mem.2 this)
theorem seenL_all {p : List Int} (hok : okPat p = true) {k : Nat} (hk : k < p.length) (hf : lst p k = k) : seenL p k (per p k) = seenL p (k + 1) 0 := by
  apply List.ext_getElem
  · simp [seenL]
  · intro i h1 h2
    have hi : i < p.length := by simpa [seenL] using h1
    simp only [seenL, List.getElem_map, List.getElem_range, seenF_zero]
    have hw := wayL_mem hok hk i
    have he := lst_eq hok hk hi
    rw [hf] at he
    unfold wayL at hw
    rw [Bool.eq_iff_iff]
    simp only [seenF, Bool.or_eq_true, decide_eq_true_eq, List.contains_iff_mem]
    rw [hw, ← he]
    omega
theorem seenL_skip {p : List Int} (hok : okPat p = true) {k : Nat} (hk : k < p.length) (hf : lst p k ≠ k) : seenL p k 0 = seenL p (k + 1) 0 := by
  apply List.ext_getElem
  · simp [seenL]
  · intro i h1 h2
    have hi : i < p.length := by simpa [seenL] using h1
    simp only [seenL, List.getElem_map, List.getElem_range, seenF_zero]
    rw [Bool.eq_iff_iff]
    simp only [decide_eq_true_eq]
    have : lst p i ≠ k := by
      intro e
      have := lst_lst hok hi
      rw [e] at this
      exact hf this
    omega
theorem seenF_skip {p : List Int} (hok : okPat p = true) {k : Nat} (hk : k < p.length) : seenF p k 0 k = decide (lst p k ≠ k) := by
  have := (lst_spec hok hk).2.2.1
  rw [seenF_zero, Bool.eq_iff_iff]
  simp only [decide_eq_true_eq]
  omega
/-- the orbits whose first throw is below k -/
def orbK (p : List Int) (k : Nat) : List (List Int) := (fstL p k).map fun i => ints (wayL p i)
theorem orbK_all (p : List Int) : orbK p p.length = orbs p := rfl
theorem orbK_yes {p : List Int} {k : Nat} (h : lst p k = k) : orbK p (k + 1) = orbK p k ++ [ints (wayL p k)] := by simp [orbK, fstL_yes h]
theorem orbK_no {p : List Int} {k : Nat} (h : lst p k ≠ k) : orbK p (k + 1) = orbK p k := by simp [orbK, fstL_no h]
theorem orbK_len (p : List Int) (k : Nat) : (orbK p k).length ≤ k := by
  have := fstL_len p k
  simpa [orbK] using this
/-- the first m throws of a way -/
def wayK (p : List Int) (i m : Nat) : List Int := ints ((List.range m).map (itr p i))
theorem wayK_zero (p : List Int) (i : Nat) : wayK p i 0 = [] := rfl
theorem wayK_snoc (p : List Int) (i m : Nat) : wayK p i (m + 1) = wayK p i m ++ [((itr p i m : Nat) : Int)] := by simp [wayK, List.range_succ, ints]
theorem wayK_all (p : List Int) (i : Nat) : wayK p i (per p i) = ints (wayL p i) := rfl
theorem wayK_len (p : List Int) (i m : Nat) : (wayK p i m).length = m := by simp [wayK, ints]

def slLen : Value → Nat
  | .slice _ n _ => n
  | _ => 0
theorem Ints.slLen {w : World} {B : Nat} {v : Value} {xs : List Int} (h : Ints w B v xs) : slLen v = xs.length := by
  rcases h.shape with ⟨rfl, rfl⟩ | ⟨g, cap, rfl, _⟩ <;> rfl
theorem Ints.sl3 {w : World} {B : Nat} {v : Value} {xs : List Int} (h : Ints w B v xs) : ∃ a n c, v = .slice a n c := by
  rcases h.shape with ⟨rfl, rfl⟩ | ⟨g, cap, rfl, _⟩ <;> exact ⟨_, _, _, rfl⟩
/-- a cell of another block is written -/
theorem Ints.setElse {w : World} {B : Nat} {v : Value} {xs : List Int} (h : Ints w B v xs) (g j : Nat) (x : Value) (hg : g < B) : Ints (w.setCell ⟨g, j, none⟩ x) B v xs :=
  h.block fun g' hg' _ => Below.heap_setCell _ _ _ _ (by have := h.own_ge hg'; simp; omega)
theorem Grid.setElse {E : TypeId} {w : World} {B C : Nat} {v : Value} {pss : List (List Int)} (h : Grid E w B C v pss) (g j : Nat) (x : Value) (hg : g < B) : Grid E (w.setCell ⟨g, j, none⟩ x) B C v pss :=
  h.keep fun k _ h1 _ => Below.heap_setCell _ _ _ _ (by simp; omega)

/-- 'append(out, row)', the row a new one -/
theorem append_grid (w0 : World) {ops : Array Oper} {rest : List Oper} {o : Oper} {a : Act} {Q : Exit → Act → World → Prop} (hgd : o.guard = none) (s x : Operand)
    (ho : o.op = .call { callee := .builtin .append, args := #[s, x], argTypes := #[28, 28] }) (B C : Nat) (v : Value) (pss : List (List Int)) (hs : a.eval s = v) (h : Grid 24 w0 B C v pss) (u : Value) (p : List Int)
    (hx : a.eval x = .slice (some ⟨w0.heap.size, 0, none⟩) 1 1) (hn : Ints w0 C u p) (hlen : pss.length ≤ 1000000) (hBC : B ≤ C) (hC : C ≤ w0.heap.size)
    (hK : ∀ v' w', Grid 24 w' B w'.heap.size v' (pss ++ [p]) → Within B C w0 w' → wpList Try.prog ops Q rest (a.put o.dst v') w') :
    wpList Try.prog ops Q (o :: rest) a (w0.alloc (.cells #[u] 24)) := by
  obtain ⟨d, rfl⟩ := hn.hd
  obtain ⟨hs', hl, hO, hu, hr, ha⟩ := h
  refine append_one (f := hdV) w0 hgd 28 Try.underlying28 Try.infoR rfl (by decide) hdV_one s x ho hs hO d hx (by omega) (by omega) ?_
  intro v' w' hO' gr
  have hG := Grid.joined (E := 24) (by decide) hl hO hr ha hn hBC hO' gr (Nat.le_trans hC gr.size) (Nat.le_refl _)
  exact hK v' w' hG (Within.of_grown gr fun k hk => ⟨hO.own_ge hk, hu k hk⟩)

end Go.Proofs.Ytdghbbnddgngoaa
