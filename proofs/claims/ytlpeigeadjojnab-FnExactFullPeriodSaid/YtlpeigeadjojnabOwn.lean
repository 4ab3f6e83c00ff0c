/- Words on slices of one-celled values of any kind that a call has made itself: 'Own e f d w B v xs': the slice value v owns, from block B on, the values f x of the list xs, of the element type e. No conditions. -/
import Derived.Test.YtlpeigeadjojnabRows
import Derived.WalkKit
import Derived.ProofKit
import Derived.OpenShut
import Derived.ShutString
import Derived.ChangeOld
import Derived.Below
import Derived.Lib.Hide
import Derived.Outline
import Derived.WalkSpells
import Derived.WalkSmall
import Derived.Deep.Draws
import Derived.Deep.QuietTactic
import Derived.BigQuiet
import Derived.WalkLawsBesides
namespace Go.Proofs.Ytlpeigeadjojnab
open Go.RowKit
set_option linter.unusedSimpArgs false
set_option linter.unusedVariables false

def Own {α : Type} (e : TypeId) (f : α → Value) (w : World) (B : Nat) (v : Value) (xs : List α) : Prop := w.ownsRow B e 1 v xs.length (xs.map f)

section
variable {α : Type} {e : TypeId} {f : α → Value} {w w' : World} {B B' : Nat} {v : Value} {xs : List α}

theorem Own.shape (h : Own e f w B v xs) : (v = .slice none 0 0 ∧ xs = []) ∨ ∃ g cap, v = .slice (some ⟨g, 0, none⟩) xs.length cap ∧ B ≤ g ∧ g < w.heap.size ∧ xs.length ≤ cap ∧ cap ≤ 9223372036854775807 := by
  rcases h.2 with ⟨h1, h2⟩ | ⟨g, cap, cur, h1, h2, h3, h4, h5, _⟩
  · exact .inl ⟨h1, List.length_eq_zero_iff.1 h2⟩
  · exact .inr ⟨g, cap, h1, h2, (Array.getElem?_eq_some_iff.1 h3).1, h4, by unfold maxLen at h5; omega⟩
theorem Own.len (h : Own e f w B v xs) : xs.length ≤ 9223372036854775807 := by
  rcases h.shape with ⟨_, h2⟩ | ⟨g, cap, _, _, _, h4, h5⟩
  · rw [h2]; simp
  · omega
theorem Own.cell {g n cap : Nat} (h : Own e f w B (.slice (some ⟨g, 0, none⟩) n cap) xs) (d : α) (j : Nat) (hj : j < xs.length) : w.cell? ⟨g, j, none⟩ = some (f (xs.getD j d)) := by
  have hn : n = xs.length := by
    rcases h.2 with ⟨h1, _⟩ | ⟨_, _, _, h1, _⟩
    · simp at h1
    · simp at h1; omega
  subst hn
  have := World.ownsRow.cellAt h j (by omega)
  rw [this]
  simp [hj]
theorem Own.free {g n cap : Nat} (h : Own e f w B (.slice (some ⟨g, 0, none⟩) n cap) xs) (j : Nat) : w.frozen? ⟨g, j, none⟩ = false := by
  have hn : n = xs.length := by
    rcases h.2 with ⟨h1, _⟩ | ⟨_, _, _, h1, _⟩
    · simp at h1
    · simp at h1; omega
  subst hn
  exact World.ownsRow.frozenAt h j
theorem Own.block (h : Own e f w B v xs) (hk : ∀ g, v.ownBlock = some g → g < w.heap.size → w'.heap[g]? = w.heap[g]?) : Own e f w' B v xs := by
  refine ⟨h.1, ?_⟩
  rcases h.2 with h2 | ⟨g, cap, cur, rfl, hb, hg, rest⟩
  · exact .inl h2
  · exact .inr ⟨g, cap, cur, rfl, hb, by rw [hk g rfl (Array.getElem?_eq_some_iff.1 hg).1]; exact hg, rest⟩
theorem Own.below (h : Own e f w B v xs) (hb : Below w.heap.size w w') : Own e f w' B v xs := h.block fun g _ hg => hb.block g hg
theorem Own.mono (h : Own e f w B v xs) (hb : B' ≤ B) : Own e f w B' v xs := by
  refine ⟨h.1, ?_⟩
  rcases h.2 with h2 | ⟨g, cap, cur, hv, hbg, rest⟩
  · exact .inl h2
  · exact .inr ⟨g, cap, cur, hv, by omega, rest⟩
theorem Own.alloc (h : Own e f w B v xs) (o : Obj) : Own e f (w.alloc o) B v xs := h.below ((Below.refl _ _).alloc (Nat.le_refl _) o)
theorem Own.nil (e : TypeId) (f : α → Value) (w : World) (B : Nat) : Own e f w B (.slice none 0 0) [] := World.ownsRow_nil _ _ _ _
theorem Own.empty (e : TypeId) (f : α → Value) (w : World) (hB : B ≤ w.heap.size) : Own e f (w.alloc (.cells #[] e)) B (.slice (some ⟨w.heap.size, 0, none⟩) 0 0) ([] : List α) := World.ownsRow_lit w #[] 0 hB (by simp [maxLen]) rfl
theorem Own.set {g n cap : Nat} (h : Own e f w B (.slice (some ⟨g, 0, none⟩) n cap) xs) (j : Nat) (x : α) :
    Own e f (w.setCell ⟨g, j, none⟩ (f x)) B (.slice (some ⟨g, 0, none⟩) n cap) (xs.set j x) := by
  have hn : n = xs.length := by
    rcases h.2 with ⟨h1, _⟩ | ⟨_, _, _, h1, _⟩
    · simp at h1
    · simp at h1; omega
  subst hn
  have := (World.ownsRow.stored h j (f x)).1
  unfold Own
  rw [List.length_set, List.map_set]
  exact this
theorem Own.below_grown {w0 : World} (h : Own e f w0 B v xs) (hb : Below B w w0) (hB : B ≤ w0.heap.size) (hg : w0.grownBy w' v.ownBlock) : Below B w w' :=
  hb.trans ⟨hg.os, hg.tape, hg.output, hg.size, fun k hk => hg.block k (by omega) fun e => by
    rcases h.shape with ⟨rfl, _⟩ | ⟨g, cap, rfl, h1, _, _⟩
    · simp [Value.ownBlock] at e
    · simp [Value.ownBlock] at e; omega⟩
/-- v's array, if it has one, is a block below N -/
def OwnUnder (N : Nat) (v : Value) : Prop := ∀ g, v.ownBlock = some g → g < N
theorem Own.under (h : Own e f w B v xs) : OwnUnder w.heap.size v := by
  intro g hg
  rcases h.shape with ⟨rfl, _⟩ | ⟨g', cap, rfl, _, h2, _⟩
  · simp [Value.ownBlock] at hg
  · simp [Value.ownBlock] at hg; omega
theorem Own.own_ge (h : Own e f w B v xs) {g : Nat} (hg : v.ownBlock = some g) : B ≤ g := by
  rcases h.shape with ⟨rfl, _⟩ | ⟨g', cap, rfl, h1, _, _⟩
  · simp [Value.ownBlock] at hg
  · simp [Value.ownBlock] at hg; omega
/-- u, made after v, stays when v is written -/
theorem Own.kept_after {N C : Nat} {u v : Value} {ys : List α} (h : Own e f w C u ys) (gr : w.grownBy w' v.ownBlock) (hv : OwnUnder N v) (hN : N ≤ C) : Own e f w' C u ys :=
  h.block fun g hg hlt => gr.block g hlt fun e => by have := hv g e.symm; have := h.own_ge hg; omega
/-- u, made before v, stays when v is written -/
theorem Own.kept_before {N C D : Nat} {u v : Value} {ys xs : List α} (h : Own e f w C u ys) (hu : OwnUnder N u) (gr : w.grownBy w' v.ownBlock) (hv : Own e f w D v xs) (hN : N ≤ D) : Own e f w' C u ys :=
  h.block fun g hg hlt => gr.block g hlt fun e => by have := hu g hg; have := hv.own_ge e.symm; omega
theorem Own.marked {W : World} {D : Nat} (hb : Below W.heap.size W w) (hv : Own e f w D v xs) (hD : W.heap.size ≤ D) (gr : w.grownBy w' v.ownBlock) : Below W.heap.size W w' :=
  hb.trans ⟨gr.os, gr.tape, gr.output, gr.size, fun k hk => gr.block k (by have := hb.size; omega) fun e => by have := hv.own_ge e.symm; omega⟩

/-- 'append(out, y)', one value -/
theorem append_one (w0 : World) {ops : Array Oper} {rest : List Oper} {o : Oper} {a : Act} {Q : Exit → Act → World → Prop} (hgd : o.guard = none) (t : TypeId) (ht : Try.prog.underlying t = some (.slice e)) {z : Value} {by_ : Nat}
    (hin : (Try.prog.info? e).map (fun i => (i.zero, i.size, i.bytes)) = some (some z, 1, by_)) (hz : z.cells.size = 1) (hby : by_ ≤ 1000) (hone : ∀ x, (f x).oneCell' = true) (s x : Operand)
    (ho : o.op = .call { callee := .builtin .append, args := #[s, x], argTypes := #[t, t] }) (hs : a.eval s = v) (h : Own e f w0 B v xs) (y : α)
    (hx : a.eval x = .slice (some ⟨w0.heap.size, 0, none⟩) 1 1) (hlen : xs.length ≤ 1000000000) (hB : B ≤ w0.heap.size)
    (hK : ∀ v' w', Own e f w' B v' (xs ++ [y]) → w0.grownBy w' v.ownBlock → wpList Try.prog ops Q rest (a.put o.dst v') w') :
    wpList Try.prog ops Q (o :: rest) a (w0.alloc (.cells #[f y] e)) := by
  obtain ⟨i0, hi, hz0, hz1, hz2⟩ := info_parts hin
  refine wpList_append_own (w0.alloc (.cells #[f y] e)) hgd s x t ho B e i0 z 1 by_ ht hi hz0 hz1 hz2 hz (by decide) v xs.length _ hs (World.ownsRow.alloc h _)
    ⟨w0.heap.size, 0, none⟩ 1 1 [f y] hx rfl ?_ ?_ (by unfold maxLen; omega) ?_ (by simp; omega) ?_
  · intro j u hj
    match j, hj with
    | 0, hj => simp at hj; subst hj; simp [Addr.add]
  · intro u hu; simp at hu; subst hu; exact hone y
  · exact Nat.le_trans (Nat.mul_le_mul (show xs.length + 1 ≤ 1000000001 by omega) hby) (by decide)
  · intro v' w' h1 h2 _
    refine hK v' w' ?_ ⟨h2.os, h2.tape, h2.output, by have := h2.size; simp at this; omega, fun k hk hne => ?_⟩
    · unfold Own
      simpa using h1
    · rw [h2.block k (by simp; omega) hne]
      exact Below.heap_alloc _ _ _ hk
end
end Go.Proofs.Ytlpeigeadjojnab
