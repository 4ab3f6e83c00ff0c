/- Slices that read as lists of int64, wherever they begin, and 'append' of all of such a slice. No conditions. -/
import Derived.Test.YtlpeigeadjojnaaBase
import Derived.ArgAppend
namespace Go.Proofs.Ytlpeigeadjojnaa
open Go.RowKit
set_option linter.unusedSimpArgs false
set_option linter.unusedVariables false

/-- the slice v reads as the list xs -/
def Sees (w : World) (v : Value) (xs : List Int) : Prop :=
  ∃ g off cap, v = .slice (some ⟨g, off, none⟩) xs.length cap ∧ g < w.heap.size ∧ xs.length ≤ cap ∧ cap ≤ 9223372036854775807 ∧ ∀ i, i < xs.length → w.cell? ⟨g, off + i, none⟩ = some (.int .i64 (xs.getD i 0))

/-- a row of numbers of the call's own, its capacity bounded -/
theorem Ints.shape2 {w : World} {B : Nat} {v : Value} {xs : List Int} (h : Ints w B v xs) (h1 : 1 ≤ xs.length) :
    ∃ g cap, v = .slice (some ⟨g, 0, none⟩) xs.length cap ∧ B ≤ g ∧ g < w.heap.size ∧ xs.length ≤ cap ∧ cap ≤ 9223372036854775807 := by
  rcases h.2 with ⟨_, h2⟩ | ⟨g, cap, cur, h1, h2, h3, h4, h5, _⟩
  · omega
  · exact ⟨g, cap, h1, h2, (Array.getElem?_eq_some_iff.1 h3).1, h4, by unfold maxLen at h5; omega⟩
theorem Ints.sees {w : World} {B : Nat} {v : Value} {xs : List Int} (h : Ints w B v xs) (h1 : 1 ≤ xs.length) : Sees w v xs := by
  obtain ⟨g, cap, rfl, _, hg, hc, hm⟩ := h.shape2 h1
  exact ⟨g, 0, cap, rfl, hg, hc, hm, fun i hi => by rw [Nat.zero_add]; exact h.cell i hi⟩
theorem Sees.below {w w' : World} {v : Value} {xs : List Int} (h : Sees w v xs) (hb : Below w.heap.size w w') : Sees w' v xs := by
  obtain ⟨g, off, cap, rfl, hg, hc, hm, hx⟩ := h
  exact ⟨g, off, cap, rfl, by have := hb.size; omega, hc, hm, fun i hi => (hb.cell (p := ⟨g, off + i, none⟩) hg).trans (hx i hi)⟩

theorem append_sees (w0 : World) {ops : Array Oper} {rest : List Oper} {o : Oper} {a : Act} {Q : Exit → Act → World → Prop} (hgd : o.guard = none) (t : TypeId) (ht : Try.prog.underlying t = some (.slice 2)) (s x : Operand)
    (ho : o.op = .call { callee := .builtin .append, args := #[s, x], argTypes := #[t, t] }) (B : Nat) (v : Value) (xs : List Int) (hs : a.eval s = v) (h : Ints w0 B v xs) (u : Value) (ys : List Int)
    (hx : a.eval x = u) (hy : Sees w0 u ys) (hlen : xs.length + ys.length ≤ 1000000000) (hB : B ≤ w0.heap.size)
    (hK : ∀ v' w', Ints w' B v' (xs ++ ys) → w0.grownBy w' v.ownBlock → wpList Try.prog ops Q rest (a.put o.dst v') w') :
    wpList Try.prog ops Q (o :: rest) a w0 := by
  obtain ⟨i0, hi, hz0, hz1, hz2⟩ := info_parts Try.info64
  obtain ⟨g, off, cap, rfl, hg, hc, hm, hcell⟩ := hy
  refine wpList_append_own w0 hgd s x t ho B 2 i0 (.int .i64 0) 1 8 ht hi hz0 hz1 hz2 rfl (by decide) v xs.length _ hs h
    ⟨g, off, none⟩ ys.length cap (ys.map (Value.int .i64)) hx (by simp) ?_ ?_ (by unfold maxLen; omega) (by omega) hB ?_
  · intro j u hj
    rw [List.getElem?_map] at hj
    have hj' : j < ys.length := by
      refine Classical.byContradiction fun hn => ?_
      rw [List.getElem?_eq_none (by omega)] at hj
      simp at hj
    rw [List.getElem?_eq_getElem hj'] at hj
    have e := hcell j hj'
    rw [List.getD_eq_getElem?_getD, List.getElem?_eq_getElem hj'] at e
    simp at hj e
    rw [Addr.add_lit, e, hj]
  · intro u hu
    obtain ⟨x, _, rfl⟩ := List.mem_map.1 hu
    rfl
  · intro v' w' h1 h2 _
    refine hK v' w' ?_ h2
    unfold Ints
    rw [List.length_append, List.map_append]
    exact h1

/-- 'append' to a slice without capacity -/
theorem append_new (w0 : World) {ops : Array Oper} {rest : List Oper} {o : Oper} {a : Act} {Q : Exit → Act → World → Prop} (hgd : o.guard = none) (t : TypeId) (ht : Try.prog.underlying t = some (.slice 2)) (s x : Operand)
    (ho : o.op = .call { callee := .builtin .append, args := #[s, x], argTypes := #[t, t] }) (ao : Option Addr) (hs : a.eval s = .slice ao 0 0) (u : Value) (ys : List Int)
    (hx : a.eval x = u) (hy : Sees w0 u ys) (h1 : 1 ≤ ys.length) (hlen : ys.length ≤ 1000000000)
    (hK : ∀ v' w', Ints w' w0.heap.size v' ys → w0.grownBy w' none → wpList Try.prog ops Q rest (a.put o.dst v') w') :
    wpList Try.prog ops Q (o :: rest) a w0 := by
  obtain ⟨i0, hi, hz0, hz1, hz2⟩ := info_parts Try.info64
  obtain ⟨g, off, cap, rfl, hg, hc, hm, hcell⟩ := hy
  refine wpList_append_grows w0 hgd s x t ho 2 i0 (.int .i64 0) 1 8 ht hi hz0 hz1 hz2 rfl (by decide) ao 0 0 [] hs (fun _ => ⟨rfl, rfl⟩) (by simp) (fun b _ j u hj => by simp at hj)
    ⟨g, off, none⟩ ys.length cap (ys.map (Value.int .i64)) hx (by simp) ?_ ?_ (by omega) (by unfold maxLen; omega) (by omega) ?_
  · intro j u hj
    rw [List.getElem?_map] at hj
    have hj' : j < ys.length := by
      refine Classical.byContradiction fun hn => ?_
      rw [List.getElem?_eq_none (by omega)] at hj
      simp at hj
    rw [List.getElem?_eq_getElem hj'] at hj
    have e := hcell j hj'
    rw [List.getD_eq_getElem?_getD, List.getElem?_eq_getElem hj'] at e
    simp at hj e
    rw [Addr.add_lit, e, hj]
  · intro u hu
    obtain ⟨x, _, rfl⟩ := List.mem_map.1 hu
    rfl
  · intro v' w' h1 h2
    refine hK v' w' ?_ h2
    unfold Ints
    simpa using h1
end Go.Proofs.Ytlpeigeadjojnaa
