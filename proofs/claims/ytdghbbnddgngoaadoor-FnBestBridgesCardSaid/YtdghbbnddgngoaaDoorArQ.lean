/- A queue: a slice of numbers that is cut in front and grows behind. No conditions but sizes. -/
import Derived.Test.YtdghbbnddgngoaaDoorArR
import Derived.ArgAppend
namespace Go.Proofs.YtdghbbnddgngoaaDoor
open Go.RowKit
set_option linter.unusedSimpArgs false
set_option linter.unusedVariables false

def Que (w : World) (B : Nat) (v : Value) (xs : List Int) : Prop :=
  ∃ g off cap, v = .slice (some ⟨g, off, none⟩) xs.length cap ∧ B ≤ g ∧ xs.length ≤ cap ∧ cap ≤ 9223372036854775807 ∧ g < w.heap.size ∧
    (∀ i, i < xs.length → w.cell? ⟨g, off + i, none⟩ = some (.int .i64 (xs.getD i 0))) ∧ (∀ i, i < cap → (w.cell? ⟨g, off + i, none⟩).isSome = true) ∧ (∀ i, w.frozen? ⟨g, i, none⟩ = false)
theorem cell_same {w w' : World} {g : Nat} (h : w'.heap[g]? = w.heap[g]?) (i : Nat) : w'.cell? ⟨g, i, none⟩ = w.cell? ⟨g, i, none⟩ := by simp only [World.cell?, h]
theorem frozen_same {w w' : World} {g : Nat} (h : w'.heap[g]? = w.heap[g]?) (i : Nat) : w'.frozen? ⟨g, i, none⟩ = w.frozen? ⟨g, i, none⟩ := by simp only [World.frozen?, h]
theorem Que.block {w w' : World} {B : Nat} {v : Value} {xs : List Int} (h : Que w B v xs) (hz : w.heap.size ≤ w'.heap.size) (hk : ∀ g, v.ownBlock = some g → w'.heap[g]? = w.heap[g]?) : Que w' B v xs := by
  obtain ⟨g, off, cap, rfl, q1, q2, q3, q4, q5, q6, q7⟩ := h
  have e := hk g rfl
  exact ⟨g, off, cap, rfl, q1, q2, q3, by omega, fun i hi => (cell_same e _).trans (q5 i hi), fun i hi => by rw [cell_same e]; exact q6 i hi, fun i => (frozen_same e _).trans (q7 i)⟩
theorem Que.below {w w' : World} {B : Nat} {v : Value} {xs : List Int} (h : Que w B v xs) (hb : Below w.heap.size w w') : Que w' B v xs :=
  h.block hb.size fun g hg => hb.block g (by obtain ⟨g', off, cap, rfl, _, _, _, q4, _⟩ := h; simp [Value.ownBlock] at hg; omega)
theorem Que.own_ge {w : World} {B g : Nat} {v : Value} {xs : List Int} (h : Que w B v xs) (hg : v.ownBlock = some g) : B ≤ g ∧ g < w.heap.size := by
  obtain ⟨g', off, cap, rfl, q1, _, _, q4, _⟩ := h
  simp [Value.ownBlock] at hg
  omega
theorem Que.sl {w : World} {B : Nat} {v : Value} {xs : List Int} (h : Que w B v xs) : ∃ g off cap, v = .slice (some ⟨g, off, none⟩) xs.length cap ∧ (∀ i, i < xs.length → w.cell? ⟨g, off + i, none⟩ = some (.int .i64 (xs.getD i 0))) := by
  obtain ⟨g, off, cap, rfl, q1, q2, q3, q4, q5, q6, q7⟩ := h
  exact ⟨g, off, cap, rfl, q5⟩
theorem Que.start (w : World) (B : Nat) (x : Int) (hB : B ≤ w.heap.size) : Que (w.alloc (.cells #[.int .i64 x] 2)) B (.slice (some ⟨w.heap.size, 0, none⟩) 1 1) [x] := by
  have hk := Blk.made w #[.int .i64 x] 2
  refine ⟨w.heap.size, 0, 1, rfl, hB, Nat.le_refl _, by omega, by simp, fun i hi => ?_, fun i hi => ?_, fun i => hk.free i⟩
  · obtain rfl : i = 0 := by simp at hi; exact hi
    exact hk.cell 0
  · obtain rfl : i = 0 := by omega
    have := hk.cell 0
    simp at this
    simp [this]
theorem Que.of_ints {w : World} {B : Nat} {v : Value} {xs : List Int} (h : Ints w B v xs) (h1 : 1 ≤ xs.length) : Que w B v xs := by
  obtain ⟨g, cap, rfl, q1, q2, q3, q4⟩ := Ints.shape2 h h1
  refine ⟨g, 0, cap, rfl, q1, q3, by omega, q2, fun i hi => by rw [Nat.zero_add]; exact h.cell i hi, fun i hi => ?_, fun i => h.free i⟩
  rcases h.2 with ⟨h2, _⟩ | ⟨g', cap', cur, h2, _, hg, _, _, hcs, _⟩
  · cases h2
  · simp at h2
    obtain ⟨rfl, _, rfl⟩ := h2
    simp [World.cell?, hg, hcs, hi]

/-- the rest of a queue -/
theorem Que.tail {w : World} {B : Nat} {v : Value} {x : Int} {xs : List Int} (h : Que w B v (x :: xs)) (hl : xs.length ≤ 1000000) :
    ∃ S : Value, (∀ W, (Instr.slice 24 v (some (.int .i64 1)) none none).run Tryd.prog W = .ok S W) ∧ Que w B S xs ∧ S.ownBlock = v.ownBlock := by
  obtain ⟨g, off, cap, rfl, q1, q2, q3, q4, q5, q6, q7⟩ := h
  simp only [List.length_cons] at q2 q5 ⊢
  have hrun : ∀ W : World, (Instr.slice 24 (.slice (some ⟨g, off, none⟩) (xs.length + 1) cap) (some (.int .i64 1)) none none).run Tryd.prog W = .ok (sliced (some ⟨g, off, none⟩) 1 (xs.length + 1) cap 1) W := fun W => by
    have h1 := run_slice_l (P := Tryd.prog) (w := W) 24 (some ⟨g, off, none⟩) (xs.length + 1) cap (by rw [elem_rowQ]; exact Tryd.underlying24) .i64 1 (by omega) (by omega)
    rw [h1, elem_rowQ, size_rowQ]
    rfl
  refine ⟨_, hrun, ?_, ?_⟩
  · unfold sliced
    by_cases hc : cap = 1
    · have hx : xs = [] := List.eq_nil_of_length_eq_zero (by omega)
      subst hx
      subst hc
      exact ⟨g, off, 0, rfl, q1, Nat.le_refl _, by omega, q4, fun i hi => absurd hi (Nat.not_lt_zero _), fun i hi => absurd hi (Nat.not_lt_zero _), q7⟩
    · rw [if_neg hc]
      have hadd : (⟨g, off, none⟩ : Addr).add (1 * 1) = ⟨g, off + 1, none⟩ := rfl
      refine ⟨g, off + 1, cap - 1, ?_, q1, by omega, by omega, q4, fun i hi => ?_, fun i hi => ?_, q7⟩
      · simp [hadd]
      · have := q5 (i + 1) (by omega)
        rw [show off + 1 + i = off + (i + 1) by omega, this]; rfl
      · have := q6 (i + 1) (by omega)
        rwa [show off + 1 + i = off + (i + 1) by omega]
  · unfold sliced
    by_cases hc : cap = 1
    · rw [if_pos hc]; rfl
    · rw [if_neg hc]; rfl

theorem append_que (w0 : World) {ops : Array Oper} {rest : List Oper} {o : Oper} {a : Act} {Q : Exit → Act → World → Prop} (hgd : o.guard = none) (s x : Operand)
    (ho : o.op = .call { callee := .builtin .append, args := #[s, x], argTypes := #[24, 24] }) (B : Nat) (v : Value) (xs : List Int) (hs : a.eval s = v) (h : Que w0 B v xs) (y : Int) (G : Nat)
    (hx : a.eval x = .slice (some ⟨G, 0, none⟩) 1 1) (hcell : w0.cell? ⟨G, 0, none⟩ = some (.int .i64 y)) (hlen : xs.length ≤ 1000000) (hB : B ≤ w0.heap.size)
    (hK : ∀ v' w', Que w' B v' (xs ++ [y]) → w0.grownBy w' v.ownBlock → (v'.ownBlock = v.ownBlock ∨ ∀ g, v'.ownBlock = some g → w0.heap.size ≤ g) → wpList Tryd.prog ops Q rest (a.put o.dst v') w') :
    wpList Tryd.prog ops Q (o :: rest) a w0 := by
  obtain ⟨i0, hi, hz0, hz1, hz2⟩ := info_parts Tryd.info64
  obtain ⟨g, off, cap, rfl, q1, q2, q3, q4, q5, q6, q7⟩ := h
  refine wpList_append_arg w0 hgd s x 24 ho 2 i0 (.int .i64 0) 1 8 Tryd.underlying24 hi hz0 hz1 hz2 rfl (by decide) g off xs.length cap (xs.map (Value.int .i64)) hs (by simp) ?_ ⟨G, 0, none⟩ 1 1 [.int .i64 y] hx rfl ?_ ?_ ?_ (by unfold maxLen; omega) (by omega) ?_ ?_
  · intro j u hj
    have hlt : j < xs.length := by have := (List.getElem?_eq_some_iff.1 hj).1; simpa using this
    rw [q5 j hlt]
    simp [hlt] at hj
    rw [← hj]
    simp [hlt]
  · intro j u hj
    match j, hj with
    | 0, hj => simp at hj; subst hj; simpa [Addr.add] using hcell
  · intro u hu; simp at hu; subst hu; rfl
  · intro hr j hj
    obtain rfl : j = 0 := by simp at hj; exact hj
    rw [Nat.mul_one, Nat.add_zero]
    exact ⟨q6 _ (by omega), q7 _⟩
  · intro hr
    have e : w0.setCells g (off + xs.length * 1) [.int .i64 y] = w0.setCell ⟨g, off + xs.length, none⟩ (.int .i64 y) := by rw [Nat.mul_one]; rfl
    rw [e]
    refine hK _ _ ⟨g, off, cap, by simp, q1, by simp; omega, q3, by simpa using q4, fun i hi => ?_, fun i hi => ?_, fun i => ?_⟩ ?_ (.inl rfl)
    · by_cases hil : i < xs.length
      · have hne : (⟨g, off + i, none⟩ : Addr) ≠ ⟨g, off + xs.length, none⟩ := fun e => by have h9 := congrArg Addr.off e; simp only at h9; omega
        rw [World.cell?_setCell_other _ _ _ _ (fun e => hne e.symm), q5 i hil]
        simp [List.getD_eq_getElem?_getD, List.getElem?_append_left hil]
      · obtain rfl : i = xs.length := by simp at hi; omega
        obtain ⟨u, hu⟩ := Option.isSome_iff_exists.1 (q6 xs.length (by omega))
        rw [World.cell?_setCell_same _ _ _ hu]
        simp
    · by_cases hil : i = xs.length
      · subst hil
        obtain ⟨u, hu⟩ := Option.isSome_iff_exists.1 (q6 xs.length (by omega))
        rw [World.cell?_setCell_same _ _ _ hu]
        rfl
      · have hne : (⟨g, off + i, none⟩ : Addr) ≠ ⟨g, off + xs.length, none⟩ := fun e => by have h9 := congrArg Addr.off e; simp only at h9; omega
        rw [World.cell?_setCell_other _ _ _ _ (fun e => hne e.symm)]
        exact q6 i hi
    · rw [World.frozen?_setCell]; exact q7 i
    · exact grown_set (World.grownBy.refl w0 _) _ _
  · intro hlt v' w' hown hg
    have hI : Ints w' w0.heap.size v' (xs ++ [y]) := by
      unfold Ints
      simpa using hown
    refine hK v' w' ((Que.of_ints (hI.mono hB) (by simp))) ⟨hg.os, hg.tape, hg.output, hg.size, fun k hk _ => hg.block k hk (by simp)⟩ (.inr fun g' hg' => hI.own_ge hg')
end Go.Proofs.YtdghbbnddgngoaaDoor
