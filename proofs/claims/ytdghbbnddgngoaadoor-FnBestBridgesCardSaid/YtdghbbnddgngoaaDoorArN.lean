/- The lists of the states that one throw leads to, as the model gathers them from all arcs; an append of a row; a head that stays. No conditions. -/
import Derived.Test.YtdghbbnddgngoaaDoorArB
import Derived.Test.YtdghbbnddgngoaaDoorArV
import Derived.Test.YtdghbbnddgngoaaDoorGridW
import Derived.Test.YtdghbbnddgngoaaDoorGridsB
import Derived.Maps.AppendAt
namespace Go.Proofs.YtdghbbnddgngoaaDoor
open Go.RowKit
set_option linter.unusedSimpArgs false
set_option linter.unusedVariables false

def nextG (xs : List ArcT) (n : Nat) : List (List Int) := (List.range n).map fun i : Nat => (xs.filter (fun x => decide (x.1 = (i : Int)))).map (fun x => x.2.2)
theorem nextG_len (xs : List ArcT) (n : Nat) : (nextG xs n).length = n := by simp [nextG]
theorem nextG_nil (n : Nat) : nextG [] n = List.replicate n [] := by
  apply List.ext_getElem
  · simp [nextG]
  · intro i h1 h2; simp [nextG]
theorem nextG_at (xs : List ArcT) {n i : Nat} (hi : i < n) : (nextG xs n).getD i [] = (xs.filter (fun x => decide (x.1 = (i : Int)))).map (fun x => x.2.2) := by simp [nextG, hi]
theorem nextG_step (xs : List ArcT) (x : ArcT) {n f : Nat} (hf : f < n) (hx : x.1 = f) : nextG (xs ++ [x]) n = (nextG xs n).set f ((nextG xs n).getD f [] ++ [x.2.2]) := by
  rw [nextG_at xs hf]
  apply List.ext_getElem
  · simp [nextG]
  · intro i h1 h2
    rw [List.getElem_set]
    simp only [nextG, List.getElem_map, List.getElem_range, List.filter_append]
    by_cases e : f = i
    · subst e
      simp [hx]
    · rw [if_neg e]
      have : ¬ x.1 = (i : Int) := by omega
      simp [this]
theorem pick_flat (f : Nat → List ArcT) (i : Nat) : ∀ n, ((List.range n).map (fun j => if j = i then f j else [])).flatten = if i < n then f i else [] := by
  intro n
  induction n with
  | zero => simp
  | succ n ih =>
    rw [List.range_succ, List.map_append, List.flatten_append, ih]
    by_cases h1 : i < n
    · have : ¬ n = i := by omega
      simp [h1, this, show i < n + 1 by omega]
    · by_cases h2 : n = i
      · subst h2; simp
      · simp [h1, h2, show ¬ i < n + 1 by omega]
theorem row_pick (h m i j : Nat) : (rowG h j m).filter (fun x => decide (x.1 = (i : Int))) = if j = i then rowG h j m else [] := by
  split
  · rename_i e
    subst e
    rw [List.filter_eq_self]
    intro x hx
    simp only [rowG, List.mem_map] at hx
    obtain ⟨t, _, rfl⟩ := hx
    simp [arcOf]
  · rename_i e
    rw [List.filter_eq_nil_iff]
    intro x hx
    simp only [rowG, List.mem_map] at hx
    obtain ⟨t, _, rfl⟩ := hx
    have h9 : ¬ (j : Int) = (i : Int) := by omega
    show ¬ decide ((j : Int) = (i : Int)) = true
    rw [decide_eq_false h9]; simp
/-- the numbers of a list of states -/
def nI (l : List Nat) : List Int := l.map fun x : Nat => (x : Int)
theorem nextG_all (h p i : Nat) (hi : i < cntG h p) : (nextG (arcG h p) (cntG h p)).getD i [] = nI (adjN h p i) := by
  rw [nextG_at _ hi]
  have e : (arcG h p).filter (fun x => decide (x.1 = (i : Int))) = rowG h i (mskG h p i) := by
    unfold arcG gphG
    rw [List.filter_flatten, List.map_map]
    have e2 : (List.range (cntG h p)).map ((List.filter fun x => decide (x.1 = (i : Int))) ∘ fun j => rowG h j (mskG h p j)) = (List.range (cntG h p)).map (fun j => if j = i then rowG h j (mskG h p j) else []) := by
      apply List.map_congr_left
      intro j _
      exact row_pick h (mskG h p j) i j
    rw [e2, pick_flat (fun j => rowG h j (mskG h p j)) i, if_pos hi]
  rw [e]
  simp [rowG, adjN, nI, arcOf]

theorem append_grid (w0 : World) {ops : Array Oper} {rest : List Oper} {o : Oper} {a : Act} {Q : Exit → Act → World → Prop} (hgd : o.guard = none) (s x : Operand)
    (ho : o.op = .call { callee := .builtin .append, args := #[s, x], argTypes := #[70, 70] }) (B C : Nat) (v : Value) (pss : List (List Int)) (hs : a.eval s = v) (h : Grid 24 w0 B C v pss) (d : Hd) (p : List Int) (G : Nat)
    (hx : a.eval x = .slice (some ⟨G, 0, none⟩) 1 1) (hG : G = w0.heap.size) (hn : Ints w0 C (hdV d) p) (hlen : pss.length ≤ 1000000) (hBC : B ≤ C) (hC : C ≤ w0.heap.size)
    (hK : ∀ v' w', Grid 24 w' B w'.heap.size v' (pss ++ [p]) → Within B C w0 w' → wpList Tryd.prog ops Q rest (a.put o.dst v') w') :
    wpList Tryd.prog ops Q (o :: rest) a (w0.alloc (.cells #[hdV d] 24)) := by
  subst hG
  obtain ⟨hs', hl, hO, hu, hr, ha⟩ := h
  refine append_one w0 hgd 70 Tryd.underlying70 Tryd.infoR rfl (by decide) hdV_one s x ho hs hO d hx (by omega) (by omega) ?_
  intro v' w' hO' hg
  exact hK v' w' (Grid.joined (E := 24) (by decide) hl hO hr ha hn hBC hO' hg (Nat.le_trans hC hg.size) (Nat.le_refl _)) (Within.of_grown hg fun k hk => ⟨hO.own_ge hk, hu k hk⟩)
theorem append_intO (w0 : World) {ops : Array Oper} {rest : List Oper} {o : Oper} {a : Act} {Q : Exit → Act → World → Prop} (hgd : o.guard = none) (s x : Operand)
    (ho : o.op = .call { callee := .builtin .append, args := #[s, x], argTypes := #[24, 24] }) (B : Nat) (v : Value) (xs : List Int) (hs : a.eval s = v) (h : Ints w0 B v xs) (y : Int)
    (hx : a.eval x = .slice (some ⟨w0.heap.size, 0, none⟩) 1 1) (hlen : xs.length ≤ 1000000000) (hB : B ≤ w0.heap.size)
    (hK : ∀ v' w', Ints w' B v' (xs ++ [y]) → w0.grownBy w' v.ownBlock → (v'.ownBlock = v.ownBlock ∨ v'.ownBlock = some (w0.heap.size + 1)) → wpList Tryd.prog ops Q rest (a.put o.dst v') w') :
    wpList Tryd.prog ops Q (o :: rest) a (w0.alloc (.cells #[.int .i64 y] 2)) := by
  obtain ⟨i0, hi, hz0, hz1, hz2⟩ := info_parts Tryd.info64
  refine wpList_append_own_at (w0.alloc (.cells #[.int .i64 y] 2)) hgd s x 24 ho B 2 i0 (.int .i64 0) 1 8 Tryd.underlying24 hi hz0 hz1 hz2 rfl (by decide) v xs.length _ hs (World.ownsRow.alloc h _)
    ⟨w0.heap.size, 0, none⟩ 1 1 [.int .i64 y] hx rfl ?_ ?_ (by unfold maxLen; omega) (by omega) (by simp; omega) ?_
  · intro j u hj
    match j, hj with
    | 0, hj => simp at hj; subst hj; simp [Addr.add]
  · intro u hu; simp at hu; subst hu; rfl
  · intro v' w' h1 h2 _ h4
    refine hK v' w' ?_ ⟨h2.os, h2.tape, h2.output, by have := h2.size; simp at this; omega, fun k hk hne => ?_⟩ (by simpa using h4)
    · unfold Ints
      simpa using h1
    · rw [h2.block k (by simp; omega) hne]
      exact Below.heap_alloc _ _ _ hk
/-- the block of the heads stays when a row is written -/
theorem grid_head {w w' : World} {B C g n cap i : Nat} {pss : List (List Int)} {u : Value} (h : Grid 24 w B C (.slice (some ⟨g, 0, none⟩) n cap) pss) (hi : i < pss.length) (hc : w.cell? ⟨g, i, none⟩ = some u) (gr : w.grownBy w' u.ownBlock) :
    w'.cell? ⟨g, i, none⟩ = some u ∧ w'.frozen? ⟨g, i, none⟩ = false := by
  have hf := h.free i
  obtain ⟨hs, hl, ho, hu, hr, ha⟩ := h
  have hcu := ho.cell none i (by omega)
  rw [hc] at hcu
  obtain rfl := Option.some.inj hcu
  have hlt : g < w.heap.size := cell_block hc
  have e : w'.heap[g]? = w.heap[g]? := gr.block g hlt fun e => own_ne_row (by decide) ho (hr i hi).1 rfl e.symm
  exact ⟨by simp only [World.cell?, e] at hc ⊢; exact hc, by simp only [World.frozen?, e] at hf ⊢; exact hf⟩
theorem grid_ge {w : World} {E : TypeId} {B C : Nat} {v : Value} {pss : List (List Int)} (h : Grid E w B C v pss) {g : Nat} (hg : v.ownBlock = some g) : B ≤ g ∧ g < C := by
  obtain ⟨hs, hl, ho, hu, hr, ha⟩ := h
  exact ⟨ho.own_ge hg, hu g hg⟩
end Go.Proofs.YtdghbbnddgngoaaDoor
