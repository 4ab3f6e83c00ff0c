/- Two lists of numbers that grow, their heads in one variable; an append in a region that draws its order. No conditions but sizes. -/
import Derived.Test.YtjhhldfhfebboaaHeldIn
import Derived.Test.YtjhhldfhfebboaaPasS
import Derived.Deep.AppendLies
import Derived.RangeFuncWrites
namespace Go.Proofs.Ytjhhldfhfebboaa
open Go.RowKit
set_option linter.unusedSimpArgs false
set_option linter.unusedVariables false

theorem step_append_i (w : World) {ops : Array Oper} {o : Oper} {a : Act} {K : Act → World → Prop} {Q : Exit → Act → World → Prop} {E : Prop} (hgd : o.guard = none) (s x : Operand)
    (ho : o.op = .call { callee := .builtin .append, args := #[s, x], argTypes := #[26, 26] }) (B : Nat) (v : Value) (xs : List Int) (hs : a.eval s = v) (h : Ints w B v xs) (G cx : Nat) (y : Int)
    (hx : a.eval x = .slice (some ⟨G, 0, none⟩) 1 cx) (hcell : w.cell? ⟨G, 0, none⟩ = some (.int .i64 y)) (hlen : xs.length ≤ 1000000) (hB : B ≤ w.heap.size)
    (hK : ∀ g cap l w', Ints w' B (.slice (some ⟨g, 0, none⟩) l cap) (xs ++ [y]) → w.grownBy w' v.ownBlock → (v.ownBlock = some g ∨ g = w.heap.size) → K (a.put o.dst (.slice (some ⟨g, 0, none⟩) l cap)) w') :
    if Region.wanted o (yielded ops a.tmps) = true then Oper.wp Try.prog o a w K Q else E := by
  obtain ⟨i0, hi, hz0, hz1, hz2⟩ := info_parts Try.info64
  refine step_append_lies w hgd s x 26 ho B 2 i0 (.int .i64 0) 1 8 Try.underlying26 hi hz0 hz1 hz2 rfl (by decide) v xs.length _ hs h ⟨G, 0, none⟩ 1 cx [.int .i64 y] hx (by simp) ?_ ?_ (by omega) (by unfold maxLen; omega) (by omega) hB w.heap.size rfl ?_
  · intro j u hj
    match j, hj with
    | 0, hj => simp at hj; subst hj; simpa [Addr.add] using hcell
  · intro u hu; simp at hu; subst hu; rfl
  · intro g cap w' h1 h2 h3 _
    refine hK g cap (xs.length + 1) w' ?_ h2 h3
    unfold Ints
    simpa using h1

theorem Ints.row_cells {w : World} {B : Nat} {v : Value} {xs : List Int} (h : Ints w B v xs) : ∀ (j : Nat) (o : Obj), v.ownBlock = some j → w.heap[j]? = some o → o.isCells = true := by
  intro j o hj ho
  rcases h.2 with ⟨h1, _⟩ | ⟨g', cap, cur, rfl, _, hg', _⟩
  · subst h1; simp [Value.ownBlock] at hj
  · simp [Value.ownBlock] at hj
    subst hj
    rw [hg'] at ho
    cases ho
    rfl

/-- two slices in blocks of their own -/
def Apart (u v : Value) : Prop := ∀ g, u.ownBlock = some g → v.ownBlock ≠ some g
theorem Apart.symm {u v : Value} (h : Apart u v) : Apart v u := fun g hg e => h g e hg

/-- the variable at b has two lists of numbers, each in a row of its own behind it -/
def Heads (b : Nat) (A B : List Int) (W : World) : Prop := ∃ u v, Blk W b [u, v] 59 ∧ Ints W (b + 1) u A ∧ Ints W (b + 1) v B ∧ Apart u v

theorem heads_app {W0 w' : World} {b : Nat} {u v : Value} {A B : List Int} {g l c : Nat} {y : Int} (iu : Ints W0 (b + 1) u A) (iv : Ints W0 (b + 1) v B) (hap : Apart u v)
    (i' : Ints w' (b + 1) (.slice (some ⟨g, 0, none⟩) l c) (A ++ [y])) (gr : W0.grownBy w' u.ownBlock) (hg : u.ownBlock = some g ∨ g = W0.heap.size) (p : Addr) (hp : p.block = b) (x : Value) :
    Ints (w'.setCell p x) (b + 1) (.slice (some ⟨g, 0, none⟩) l c) (A ++ [y]) ∧ Ints (w'.setCell p x) (b + 1) v B ∧ Apart (.slice (some ⟨g, 0, none⟩) l c) v := by
  have hgb : b + 1 ≤ g := i'.own_ge (by simp [Value.ownBlock])
  refine ⟨i'.block fun q hq _ => Below.heap_setCell _ _ _ _ ?_, ?_, ?_⟩
  · have := i'.own_ge hq; omega
  · refine (iv.block (w' := w') fun q hq hlt => gr.block q hlt fun e => hap q e.symm hq).block fun q hq _ => Below.heap_setCell _ _ _ _ ?_
    have := iv.own_ge hq; omega
  · intro q hq e
    have hqg : q = g := by simp [Value.ownBlock] at hq; omega
    subst hqg
    rcases hg with h | h
    · exact hap q h e
    · have := iv.under q e
      omega
theorem heads_blk {W0 w' : World} {b : Nat} {u v : Value} {A : List Int} (hU : Blk W0 b [u, v] 59) (iu : Ints W0 (b + 1) u A) (gr : W0.grownBy w' u.ownBlock) : Blk w' b [u, v] 59 :=
  hU.block (gr.block b hU.lt fun e => by have := iu.own_ge e.symm; omega)
theorem heads_blk1 {W0 w' : World} {b : Nat} {u v : Value} {A : List Int} (hU : Blk W0 b [u, v] 59) (iv : Ints W0 (b + 1) v A) (gr : W0.grownBy w' v.ownBlock) : Blk w' b [u, v] 59 :=
  hU.block (gr.block b hU.lt fun e => by have := iv.own_ge e.symm; omega)
theorem Ints.ne_blk {w : World} {B : Nat} {v : Value} {xs : List Int} {b : Nat} {cs : List Value} {T : TypeId} (h : Ints w B v xs) (hb : Blk w b cs T) (hT : T ≠ 2) : v.ownBlock ≠ some b := by
  intro e
  rcases h.2 with ⟨h1, _⟩ | ⟨g', cap, cur, rfl, _, hg', _⟩
  · subst h1; simp [Value.ownBlock] at e
  · simp [Value.ownBlock] at e
    subst e
    unfold Blk at hb
    rw [hb] at hg'
    simp at hg'
    exact hT hg'.2
theorem Blk.ne_blk {w : World} {b b' : Nat} {cs cs' : List Value} {T T' : TypeId} (h : Blk w b cs T) (h' : Blk w b' cs' T') (hT : T ≠ T') : b ≠ b' := by
  intro e
  subst e
  unfold Blk at h h'
  rw [h] at h'
  simp at h'
  exact hT h'.2
end Go.Proofs.Ytjhhldfhfebboaa
