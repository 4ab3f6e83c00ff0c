/- A row's head is changed where its own block or a new one holds what is meant; an append of one number in a region. No conditions. -/
import Derived.Test.YtdghbbnddgngoaaDoorGrid
import Derived.Test.YtdghbbnddgngoaaDoorSees
import Derived.Deep.AppendLies
namespace Go.Proofs.YtdghbbnddgngoaaDoor
open Go.RowKit
set_option linter.unusedSimpArgs false
set_option linter.unusedVariables false

theorem step_append_one (w : World) {ops : Array Oper} {o : Oper} {a : Act} {K : Act → World → Prop} {Q : Exit → Act → World → Prop} {E : Prop} (hgd : o.guard = none) (s x : Operand)
    (ho : o.op = .call { callee := .builtin .append, args := #[s, x], argTypes := #[24, 24] }) (B : Nat) (v : Value) (xs : List Int) (hs : a.eval s = v) (h : Ints w B v xs) (G cx : Nat) (y : Int)
    (hx : a.eval x = .slice (some ⟨G, 0, none⟩) 1 cx) (hcell : w.cell? ⟨G, 0, none⟩ = some (.int .i64 y)) (hlen : xs.length ≤ 1000000) (hB : B ≤ w.heap.size)
    (hK : ∀ g cap l w', Ints w' B (.slice (some ⟨g, 0, none⟩) l cap) (xs ++ [y]) → w.grownBy w' v.ownBlock → (v.ownBlock = some g ∨ g = w.heap.size) → K (a.put o.dst (.slice (some ⟨g, 0, none⟩) l cap)) w') :
    if Region.wanted o (yielded ops a.tmps) = true then Oper.wp Tryd.prog o a w K Q else E := by
  obtain ⟨i0, hi, hz0, hz1, hz2⟩ := info_parts Tryd.info64
  refine step_append_lies w hgd s x 24 ho B 2 i0 (.int .i64 0) 1 8 Tryd.underlying24 hi hz0 hz1 hz2 rfl (by decide) v xs.length _ hs h ⟨G, 0, none⟩ 1 cx [.int .i64 y] hx (by simp) ?_ ?_ (by omega) (by unfold maxLen; omega) (by omega) hB w.heap.size rfl ?_
  · intro j u hj
    match j, hj with
    | 0, hj => simp at hj; subst hj; simpa [Addr.add] using hcell
  · intro u hu; simp at hu; subst hu; rfl
  · intro g cap w' h1 h2 h3 _
    refine hK g cap (xs.length + 1) w' ?_ h2 h3
    unfold Ints
    simpa using h1

section
variable {E : TypeId} {w w' : World} {B C : Nat} {v : Value} {pss : List (List Int)}
/-- the row's block, or a new one, now holds p; then its head is laid -/
theorem Grid.swap {g n cap C' : Nat} (hE : E ≠ 2) (h : Grid E w B C (.slice (some ⟨g, 0, none⟩) n cap) pss) (i : Nat) (hi : i < pss.length) {u u' : Value} (hc : w.cell? ⟨g, i, none⟩ = some u) {p : List Int}
    (hn : Ints w' B u' p) (gr : w.grownBy w' u.ownBlock) (ho' : u'.ownBlock = u.ownBlock ∨ ∀ g', u'.ownBlock = some g' → w.heap.size ≤ g') (hC : C ≤ w.heap.size) (hC' : w'.heap.size ≤ C') :
    Grid E (w'.setCell ⟨g, i, none⟩ u') B C' (.slice (some ⟨g, 0, none⟩) n cap) (pss.set i p) := by
  obtain ⟨hs, hl, ho, hu, hr, ha⟩ := h
  have hcu := ho.cell none i (by omega)
  rw [hc] at hcu
  obtain rfl := Option.some.inj hcu
  obtain ⟨d, rfl⟩ := hn.hd
  have hri := hr i hi
  have hz := gr.size
  have hgC : g < C := hu g (by simp [Value.ownBlock])
  have hO' : Own E hdV w' B (.slice (some ⟨g, 0, none⟩) n cap) hs := ho.block fun g' hg' hlt => gr.block g' hlt fun e => own_ne_row hE ho hri.1 hg' e.symm
  have hset : ∀ {u : Value} {q : List Int} {D : Nat}, Ints w' D u q → Ints (w'.setCell ⟨g, i, none⟩ (hdV d)) D u q := fun {u q D} hq => hq.block fun g' hg' hlt =>
    Below.heap_setCell _ _ _ _ (fun e => own_ne_row hE hO' hq (g := g') (by simp [Value.ownBlock]; exact e.symm) hg')
  have hfar : ∀ j g', j < pss.length → i ≠ j → (hdV d).ownBlock = some g' → (hdV (hs.getD j none)).ownBlock = some g' → False := fun j g' hj e h1 h2 => by
    rcases ho' with h3 | h3
    · rw [h3] at h1
      exact e (ha i j g' hi hj h1 h2)
    · have := h3 g' h1
      have := (hr j hj).2 g' h2
      omega
  refine ⟨hs.set i d, by simp [hl], hO'.set i d, fun g' hg' => by have := hu g' hg'; omega, fun j hj => ?_, fun j k g' hj hk hj1 hk1 => ?_⟩
  · have hj' : j < pss.length := by simpa using hj
    by_cases e : i = j
    · subst e
      rw [show (pss.set i p).getD i [] = p by simp [hi], show (hs.set i d).getD i none = d by simp [hl, hi]]
      exact ⟨hset hn, fun g' hg' => by have := hn.ownUnder g' hg'; omega⟩
    · rw [show (pss.set i p).getD j [] = pss.getD j [] by simp [List.getElem?_set_ne e], show (hs.set i d).getD j none = hs.getD j none by simp [List.getElem?_set_ne e]]
      obtain ⟨h1, h2⟩ := hr j hj'
      exact ⟨hset (h1.block fun g' hg' hlt => gr.block g' hlt fun e' => e (ha i j g' hi hj' e'.symm hg')), fun g' hg' => by have := h2 g' hg'; omega⟩
  · have hj' : j < pss.length := by simpa using hj
    have hk' : k < pss.length := by simpa using hk
    by_cases e : i = j
    · by_cases e' : i = k
      · omega
      · exfalso
        subst e
        rw [show (hs.set i d).getD i none = d by simp [hl, hi]] at hj1
        rw [show (hs.set i d).getD k none = hs.getD k none by simp [List.getElem?_set_ne e']] at hk1
        exact hfar k g' hk' e' hj1 hk1
    · by_cases e' : i = k
      · exfalso
        subst e'
        rw [show (hs.set i d).getD i none = d by simp [hl, hi]] at hk1
        rw [show (hs.set i d).getD j none = hs.getD j none by simp [List.getElem?_set_ne e]] at hj1
        exact hfar j g' hj' e hk1 hj1
      · rw [show (hs.set i d).getD j none = hs.getD j none by simp [List.getElem?_set_ne e]] at hj1
        rw [show (hs.set i d).getD k none = hs.getD k none by simp [List.getElem?_set_ne e']] at hk1
        exact ha j k g' hj' hk' hj1 hk1
end
end Go.Proofs.YtdghbbnddgngoaaDoor
