/- Multiplex: AddMulti, the program's, for any two patterns. Conditions: beats of at most 10^7 throws. -/
import Derived.Test.YtdgmmaghmdbnjaaAddMi
import Derived.Test.YtdgmmaghmdbnjaaAddMr
namespace Go.Proofs.Ytdgmmaghmdbnjaa
open Go.RowKit

theorem addMulti_impl (v : Value) (E : TypeId) (B C : Nat) (p : List (List Int)) (u : Value) (E' : TypeId) (B' C' : Nat) (q : List (List Int)) (w : World) (h : Grid E w B C v p) (h' : Grid E' w B' C' u q) (hs : Small p) (hs2 : Small q) :
    Calls Try.prog 12 #[.agg #[v], .agg #[u]] w fun e w' => ∃ x y z, e = .returned (.tuple #[.agg #[.slice x y z], .int .i64 (addMC p q)]) ∧ Grid 32 w' w.heap.size w'.heap.size (.slice x y z) (addMR p q) ∧ Below w.heap.size w w' := by
  cases hok : okM p with
  | false =>
    obtain ⟨e1, e2⟩ := addM_bad1 (q := q) hok
    rw [e1, e2]
    exact (addMulti_impl1 v u E E' B C B' C' p q w h h' hs hs2 hok).mono fun e w' ⟨h1, h2⟩ => ⟨_, _, _, h1, Grid.nil _ _ _ _, h2⟩
  | true =>
    cases hok2 : okM q with
    | false =>
      obtain ⟨e1, e2⟩ := addM_bad2 (p := p) hok2
      rw [e1, e2]
      exact (addMulti_impl2 v u E E' B C B' C' p q w h h' hs hs2 hok hok2).mono fun e w' ⟨h1, h2⟩ => ⟨_, _, _, h1, Grid.nil _ _ _ _, h2⟩
    | true =>
      have n1 := (shapeL_num (okM_shape hok)).1
      have n2 := (shapeL_num (okM_shape hok2)).1
      obtain ⟨g, cap, rfl, _, hg, _, hm⟩ := h.shape.resolve_left fun e => by rw [e.2] at n1; simp at n1
      obtain ⟨g', cap', rfl, _, hg', _, hm'⟩ := h'.shape.resolve_left fun e => by rw [e.2] at n2; simp at n2
      by_cases hl : p.length = q.length
      · obtain ⟨e1, e2⟩ := addM_good hok hok2 hl
        rw [e1, e2]
        rw [← hl] at h' ⊢
        exact addMulti_row g cap g' cap' p.length E E' B C B' C' p q w h h' rfl hl hg hg' hs hs2 hok hok2
      · obtain ⟨e1, e2⟩ := addM_len hok hok2 hl
        rw [e1, e2]
        exact (addMulti_impl3 _ _ _ _ _ _ E E' B C B' C' p q w h h' hs hs2 hok hok2 hl rfl rfl h.len h'.len).mono fun e w' ⟨h1, h2⟩ => ⟨_, _, _, h1, Grid.nil _ _ _ _, h2⟩
end Go.Proofs.Ytdgmmaghmdbnjaa
