/- Words on slices of slices of numbers that a call has made itself: 'Grid E w B C v pss': the slice value v owns, in blocks from B to below C, rows that hold the lists pss, each row in a block of its own. 'Within B C w w'': of what was there only blocks from B to below C have turned. No conditions. -/
import Derived.Test.YtlpeigeadjojnaaOwn
import Derived.Test.YtlpeigeadjojnaaBase
namespace Go.Proofs.Ytlpeigeadjojnaa
open Go.RowKit
set_option linter.unusedSimpArgs false
set_option linter.unusedVariables false

structure Within (B C : Nat) (w w' : World) : Prop where
  os : w'.os = w.os
  tape : w'.tape = w.tape
  output : w'.output = w.output
  size : w.heap.size ≤ w'.heap.size
  block : ∀ k, k < w.heap.size → (k < B ∨ C ≤ k) → w'.heap[k]? = w.heap[k]?

section
variable {B C : Nat} {a b c w w' : World}
theorem Within.refl (B C : Nat) (w : World) : Within B C w w := ⟨rfl, rfl, rfl, Nat.le_refl _, fun _ _ _ => rfl⟩
theorem Within.trans (h : Within B C a b) (k : Within B C b c) : Within B C a c :=
  ⟨k.os.trans h.os, k.tape.trans h.tape, k.output.trans h.output, Nat.le_trans h.size k.size, fun i hi hne => (k.block i (Nat.lt_of_lt_of_le hi h.size) hne).trans (h.block i hi hne)⟩
theorem Within.of_below (h : Below w.heap.size w w') (B C : Nat) : Within B C w w' := ⟨h.os, h.tape, h.output, h.size, fun k hk _ => h.block k hk⟩
theorem Within.of_grown {o : Option Nat} (h : w.grownBy w' o) (ho : ∀ g, o = some g → B ≤ g ∧ g < C) : Within B C w w' :=
  ⟨h.os, h.tape, h.output, h.size, fun k hk hne => h.block k hk fun e => by have := ho k e.symm; omega⟩
theorem Within.below {N : Nat} {W : World} (h : Within B C w w') (hb : Below N W w) (hN : N ≤ B) (hs : N ≤ w.heap.size) : Below N W w' :=
  ⟨h.os.trans hb.os, h.tape.trans hb.tape, h.output.trans hb.output, Nat.le_trans hb.size h.size, fun k hk => (h.block k (by omega) (.inl (by omega))).trans (hb.block k hk)⟩
theorem Within.widen {B' C' : Nat} (h : Within B C w w') (hB : B' ≤ B) (hC : C ≤ C') : Within B' C' w w' := ⟨h.os, h.tape, h.output, h.size, fun k hk hne => h.block k hk (by omega)⟩
end

/-- the head of a row -/
abbrev Hd := Option (Nat × Nat × Nat)
def hdV : Hd → Value
  | none => .slice none 0 0
  | some (g, n, cap) => .slice (some ⟨g, 0, none⟩) n cap
theorem hdV_one (h : Hd) : (hdV h).oneCell' = true := by
  cases h with
  | none => rfl
  | some x => rfl
theorem Ints.hd {w : World} {B : Nat} {u : Value} {xs : List Int} (h : Ints w B u xs) : ∃ d : Hd, u = hdV d := by
  rcases h.shape with ⟨rfl, _⟩ | ⟨g, cap, rfl, _⟩
  · exact ⟨none, rfl⟩
  · exact ⟨some (g, xs.length, cap), rfl⟩
theorem OwnUnder.mono {N N' : Nat} {v : Value} (h : OwnUnder N v) (hN : N ≤ N') : OwnUnder N' v := fun g hg => by have := h g hg; omega
theorem Ints.ownUnder {w : World} {B : Nat} {u : Value} {xs : List Int} (h : Ints w B u xs) : OwnUnder w.heap.size u := by
  intro g hg
  rcases h.2 with ⟨rfl, _⟩ | ⟨g', cap, cur, rfl, _, hh, _⟩
  · simp [Value.ownBlock] at hg
  · simp [Value.ownBlock] at hg
    subst hg
    exact (Array.getElem?_eq_some_iff.1 hh).1

def Grid (E : TypeId) (w : World) (B C : Nat) (v : Value) (pss : List (List Int)) : Prop :=
  ∃ hs : List Hd, hs.length = pss.length ∧ Own E hdV w B v hs ∧ OwnUnder C v ∧
    (∀ i, i < pss.length → Ints w B (hdV (hs.getD i none)) (pss.getD i []) ∧ OwnUnder C (hdV (hs.getD i none))) ∧
    (∀ i j g, i < pss.length → j < pss.length → (hdV (hs.getD i none)).ownBlock = some g → (hdV (hs.getD j none)).ownBlock = some g → i = j)

section
variable {E : TypeId} {w w' : World} {B C : Nat} {v : Value} {pss : List (List Int)}

/-- a row's block is not the outer block -/
theorem own_ne_row {hs : List Hd} {B' : Nat} {u : Value} {p : List Int} (hE : E ≠ 2) (h : Own E hdV w B v hs) (hr : Ints w B' u p) {g : Nat} (hv : v.ownBlock = some g) (hu : u.ownBlock = some g) : False := by
  rcases h.2 with ⟨rfl, _⟩ | ⟨g1, c1, cur1, rfl, _, hh1, _⟩
  · simp [Value.ownBlock] at hv
  · rcases hr.2 with ⟨rfl, _⟩ | ⟨g2, c2, cur2, rfl, _, hh2, _⟩
    · simp [Value.ownBlock] at hu
    · simp [Value.ownBlock] at hv hu
      subst hv; subst hu
      rw [hh1] at hh2
      simp at hh2
      exact hE hh2.2
theorem Grid.nil (E : TypeId) (w : World) (B C : Nat) : Grid E w B C (.slice none 0 0) [] :=
  ⟨[], rfl, Own.nil _ _ _ _, fun g hg => by simp [Value.ownBlock] at hg, fun i hi => absurd hi (Nat.not_lt_zero _), fun i j g hi => absurd hi (Nat.not_lt_zero _)⟩
theorem Grid.empty (E : TypeId) (w : World) (hB : B ≤ w.heap.size) (hC : w.heap.size < C) : Grid E (w.alloc (.cells #[] E)) B C (.slice (some ⟨w.heap.size, 0, none⟩) 0 0) [] :=
  ⟨[], rfl, Own.empty _ _ _ hB, fun g hg => by simp [Value.ownBlock] at hg; omega, fun i hi => absurd hi (Nat.not_lt_zero _), fun i j g hi => absurd hi (Nat.not_lt_zero _)⟩
theorem Grid.shape (h : Grid E w B C v pss) : (v = .slice none 0 0 ∧ pss = []) ∨ ∃ g cap, v = .slice (some ⟨g, 0, none⟩) pss.length cap ∧ B ≤ g ∧ g < w.heap.size ∧ pss.length ≤ cap ∧ cap ≤ 9223372036854775807 := by
  obtain ⟨hs, hl, ho, _⟩ := h
  rcases ho.shape with ⟨h1, h2⟩ | h1
  · exact .inl ⟨h1, List.length_eq_zero_iff.1 (by rw [← hl, h2]; rfl)⟩
  · rw [hl] at h1; exact .inr h1
theorem Grid.len (h : Grid E w B C v pss) : pss.length ≤ 9223372036854775807 := by
  obtain ⟨hs, hl, ho, _⟩ := h
  rw [← hl]; exact ho.len
/-- what block-wise stays -/
theorem Grid.keep (h : Grid E w B C v pss) (hk : ∀ k, k < w.heap.size → B ≤ k → k < C → w'.heap[k]? = w.heap[k]?) : Grid E w' B C v pss := by
  obtain ⟨hs, hl, ho, hu, hr, ha⟩ := h
  refine ⟨hs, hl, ho.block fun g hg hlt => hk g hlt (ho.own_ge hg) (hu g hg), hu, fun i hi => ?_, ha⟩
  obtain ⟨h1, h2⟩ := hr i hi
  exact ⟨h1.block fun g hg hlt => hk g hlt (h1.own_ge hg) (h2 g hg), h2⟩
theorem Grid.below (h : Grid E w B C v pss) (hb : Below w.heap.size w w') : Grid E w' B C v pss := h.keep fun k hk _ _ => hb.block k hk
theorem Grid.within {B' C' : Nat} (h : Grid E w B C v pss) (hk : Within B' C' w w') (hd : C ≤ B' ∨ C' ≤ B) : Grid E w' B C v pss := h.keep fun k hk' h1 h2 => hk.block k hk' (by omega)
theorem Grid.widen {B' C' : Nat} (h : Grid E w B C v pss) (hB : B' ≤ B) (hC : C ≤ C') : Grid E w B' C' v pss := by
  obtain ⟨hs, hl, ho, hu, hr, ha⟩ := h
  exact ⟨hs, hl, ho.mono hB, hu.mono hC, fun i hi => ⟨(hr i hi).1.mono hB, (hr i hi).2.mono hC⟩, ha⟩
/-- the i-th row: its cell, and what it holds -/
theorem Grid.row {g n cap : Nat} (h : Grid E w B C (.slice (some ⟨g, 0, none⟩) n cap) pss) (i : Nat) (hi : i < pss.length) :
    ∃ u, w.cell? ⟨g, i, none⟩ = some u ∧ Ints w B u (pss.getD i []) ∧ OwnUnder C u := by
  obtain ⟨hs, hl, ho, hu, hr, ha⟩ := h
  exact ⟨_, ho.cell none i (by omega), (hr i hi).1, (hr i hi).2⟩
theorem Grid.free {g n cap : Nat} (h : Grid E w B C (.slice (some ⟨g, 0, none⟩) n cap) pss) (i : Nat) : w.frozen? ⟨g, i, none⟩ = false := by
  obtain ⟨hs, hl, ho, _⟩ := h
  exact ho.free i
/-- a row is written: the others stay -/
theorem Grid.wrote {g n cap : Nat} (hE : E ≠ 2) (h : Grid E w B C (.slice (some ⟨g, 0, none⟩) n cap) pss) (i : Nat) (hi : i < pss.length) {u : Value} (hc : w.cell? ⟨g, i, none⟩ = some u) {p : List Int}
    (hn : Ints w' B u p) (gr : w.grownBy w' u.ownBlock) : Grid E w' B C (.slice (some ⟨g, 0, none⟩) n cap) (pss.set i p) ∧ Within B C w w' := by
  obtain ⟨hs, hl, ho, hu, hr, ha⟩ := h
  have hcu := ho.cell none i (by omega)
  rw [hc] at hcu
  obtain rfl := Option.some.inj hcu
  have hri := hr i hi
  refine ⟨⟨hs, by rw [List.length_set]; exact hl, ho.block fun g' hg' hlt => gr.block g' hlt fun e => own_ne_row hE ho hri.1 hg' e.symm, hu, fun j hj => ?_, fun j k g' hj hk => ha j k g' (by simpa using hj) (by simpa using hk)⟩,
    Within.of_grown gr fun g' hg' => ⟨hri.1.own_ge hg', hri.2 g' hg'⟩⟩
  have hj' : j < pss.length := by simpa using hj
  obtain ⟨h1, h2⟩ := hr j hj'
  refine ⟨?_, h2⟩
  by_cases e : i = j
  · subst e
    rw [show (pss.set i p).getD i [] = p by simp [hi]]
    exact hn
  · rw [show (pss.set i p).getD j [] = pss.getD j [] by simp [List.getElem?_set_ne e]]
    exact h1.block fun g' hg' hlt => gr.block g' hlt fun e' => e (ha i j g' hi hj' e'.symm hg')
/-- a new row is put in a place -/
theorem Grid.put {g n cap C' : Nat} (hE : E ≠ 2) (h : Grid E w B C (.slice (some ⟨g, 0, none⟩) n cap) pss) (hC : C ≤ C') (i : Nat) (hi : i < pss.length) {d : Hd} {p : List Int} (hn : Ints w C (hdV d) p) (hBC : B ≤ C) (hu' : OwnUnder C' (hdV d)) :
    Grid E (w.setCell ⟨g, i, none⟩ (hdV d)) B C' (.slice (some ⟨g, 0, none⟩) n cap) (pss.set i p) := by
  obtain ⟨hs, hl, ho, hu, hr, ha⟩ := h
  have hgB : ∀ {u : Value} {q : List Int} {D : Nat}, Ints w D u q → Ints (w.setCell ⟨g, i, none⟩ (hdV d)) D u q := fun {u q D} hq => hq.block fun g' hg' hlt =>
    Below.heap_setCell _ _ _ _ (fun e => own_ne_row hE ho hq (g := g') (by simp [Value.ownBlock]; exact e.symm) hg')
  refine ⟨hs.set i d, by simp [hl], ho.set i d, hu.mono hC, fun j hj => ?_, fun j k g' hj hk hj1 hk1 => ?_⟩
  · have hj' : j < pss.length := by simpa using hj
    by_cases e : i = j
    · subst e
      rw [show (pss.set i p).getD i [] = p by simp [hi], show (hs.set i d).getD i none = d by simp [hl, hi]]
      exact ⟨(hgB hn).mono hBC, hu'⟩
    · rw [show (pss.set i p).getD j [] = pss.getD j [] by simp [List.getElem?_set_ne e], show (hs.set i d).getD j none = hs.getD j none by simp [List.getElem?_set_ne e]]
      exact ⟨hgB (hr j hj').1, (hr j hj').2.mono hC⟩
  · have hj' : j < pss.length := by simpa using hj
    have hk' : k < pss.length := by simpa using hk
    by_cases e : i = j
    · by_cases e' : i = k
      · omega
      · exfalso
        subst e
        rw [show (hs.set i d).getD i none = d by simp [hl, hi]] at hj1
        rw [show (hs.set i d).getD k none = hs.getD k none by simp [List.getElem?_set_ne e']] at hk1
        have := hn.own_ge hj1
        have := (hr k hk').2 g' hk1
        omega
    · by_cases e' : i = k
      · exfalso
        subst e'
        rw [show (hs.set i d).getD i none = d by simp [hl, hi]] at hk1
        rw [show (hs.set i d).getD j none = hs.getD j none by simp [List.getElem?_set_ne e]] at hj1
        have := hn.own_ge hk1
        have := (hr j hj').2 g' hj1
        omega
      · rw [show (hs.set i d).getD j none = hs.getD j none by simp [List.getElem?_set_ne e]] at hj1
        rw [show (hs.set i d).getD k none = hs.getD k none by simp [List.getElem?_set_ne e']] at hk1
        exact ha j k g' hj' hk' hj1 hk1
/-- a new row is appended (behind append_one at hdV) -/
theorem Grid.joined {C' : Nat} {hs : List Hd} {v' : Value} {d : Hd} {p : List Int} (hE : E ≠ 2) (hl : hs.length = pss.length)
    (ho : Own E hdV w B v hs) (hr : ∀ i, i < pss.length → Ints w B (hdV (hs.getD i none)) (pss.getD i []) ∧ OwnUnder C (hdV (hs.getD i none)))
    (ha : ∀ i j g, i < pss.length → j < pss.length → (hdV (hs.getD i none)).ownBlock = some g → (hdV (hs.getD j none)).ownBlock = some g → i = j)
    (hn : Ints w C (hdV d) p) (hBC : B ≤ C) (ho' : Own E hdV w' B v' (hs ++ [d])) (gr : w.grownBy w' v.ownBlock) (hC : C ≤ C') (hw : w'.heap.size ≤ C') : Grid E w' B C' v' (pss ++ [p]) := by
  have hkeep : ∀ {u : Value} {q : List Int} {D : Nat}, Ints w D u q → Ints w' D u q := fun {u q D} hq => hq.block fun g' hg' hlt => gr.block g' hlt fun e => own_ne_row hE ho hq e.symm hg'
  have e1 : ∀ j, j < pss.length → (pss ++ [p]).getD j [] = pss.getD j [] := fun j hj => by simp [List.getElem?_append_left hj]
  have e2 : ∀ j, j < pss.length → (hs ++ [d]).getD j none = hs.getD j none := fun j hj => by simp [List.getElem?_append_left (show j < hs.length by omega)]
  have e3 : (pss ++ [p]).getD pss.length [] = p := by simp
  have e4 : (hs ++ [d]).getD pss.length none = d := by rw [← hl]; simp
  have hub : OwnUnder C' v' := fun g hg => by have := ho'.under g hg; omega
  have hud : OwnUnder C' (hdV d) := fun g hg => by have := (hkeep hn).ownUnder g hg; omega
  refine ⟨hs ++ [d], by simp [hl], ho', hub, fun j hj => ?_, fun j k g hj hk hj1 hk1 => ?_⟩
  · by_cases e : j < pss.length
    · rw [e1 j e, e2 j e]
      exact ⟨hkeep (hr j e).1, (hr j e).2.mono hC⟩
    · obtain rfl : j = pss.length := by simp at hj; omega
      rw [e3, e4]
      exact ⟨(hkeep hn).mono hBC, hud⟩
  · simp at hj hk
    by_cases ej : j < pss.length
    · rw [e2 j ej] at hj1
      by_cases ek : k < pss.length
      · rw [e2 k ek] at hk1
        exact ha j k g ej ek hj1 hk1
      · obtain rfl : k = pss.length := by omega
        rw [e4] at hk1
        have := hn.own_ge hk1
        have := (hr j ej).2 g hj1
        omega
    · obtain rfl : j = pss.length := by omega
      rw [e4] at hj1
      by_cases ek : k < pss.length
      · rw [e2 k ek] at hk1
        have := hn.own_ge hj1
        have := (hr k ek).2 g hk1
        omega
      · omega
end
end Go.Proofs.Ytlpeigeadjojnaa
