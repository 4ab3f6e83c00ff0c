/- Multiplex: AddMulti, the model's, for any two patterns. No conditions. -/
import Derived.Test.YtgjmhihomklooaaAddM
namespace Go.Proofs.Ytgjmhihomklooaa
open Go.RowKit
set_option linter.unusedSimpArgs false
set_option linter.unusedVariables false

/-- what AddMulti answers -/
def addMR (p q : List (List Int)) : List (List Int) := if okM p = true ∧ okM q = true ∧ p.length = q.length then addR p q else []
def addMC (p q : List (List Int)) : Int := if okM p = true ∧ okM q = true then (if p.length = q.length then addK p q else 6) else 1
theorem addM_bad1 {p q : List (List Int)} (h : okM p = false) : addMR p q = [] ∧ addMC p q = 1 := by simp [addMR, addMC, h]
theorem addM_bad2 {p q : List (List Int)} (h : okM q = false) : addMR p q = [] ∧ addMC p q = 1 := by simp [addMR, addMC, h]
theorem addM_len {p q : List (List Int)} (h : okM p = true) (h' : okM q = true) (hl : p.length ≠ q.length) : addMR p q = [] ∧ addMC p q = 6 := by simp [addMR, addMC, h, h', hl]
theorem addM_good {p q : List (List Int)} (h : okM p = true) (h' : okM q = true) (hl : p.length = q.length) : addMR p q = addR p q ∧ addMC p q = addK p q := by simp [addMR, addMC, h, h', hl]
theorem addMR_tot (p q : List (List Int)) : totL (addMR p q) ≤ 48 := by
  have hall : ∀ r : List (List Int), okM r = true → totL r ≤ 48 := fun r h => by
    have hs := okM_shape h
    have hn := shapeL_num hs
    have := rowsAt_tot (pss := r) r fun i hi => (rowOk_num (shapeL_at hs i hi)).2
    omega
  unfold addMR
  split
  · unfold addR
    split
    · rename_i h; exact hall _ h
    · simp [totL]
  · simp [totL]

/-- the cells of both patterns and the answer's variable, behind a call that writes nothing old -/
theorem three_cells (w w1 : World) (v u : Value) (T : TypeId) (b : Below (((w.alloc (.cells #[v] T)).alloc (.cells #[u] T)).alloc (.cells #[.slice none 0 0] T)).heap.size (((w.alloc (.cells #[v] T)).alloc (.cells #[u] T)).alloc (.cells #[.slice none 0 0] T)) w1) :
    w1.cell? ⟨w.heap.size, 0, none⟩ = some v ∧ w1.cell? ⟨w.heap.size + 1, 0, none⟩ = some u ∧ Var1 w1 (w.heap.size + 2) (.slice none 0 0) ∧ w.heap.size + 3 ≤ w1.heap.size ∧ Below w.heap.size w w1 := by
  refine ⟨?_, ?_, ?_, by have := b.size; simpa using this, (below_alM (below_alM (below_alM (Below.refl _ _) _) _) _).trans (b.mono (by simp; omega))⟩
  · rw [b.cell (by simp; omega)]
    exact ((below_alM (below_alM (Below.refl _ _) _) _).cell (p := ⟨w.heap.size, 0, none⟩) (by simp)).trans (Var1.made w _ _).1
  · rw [b.cell (by simp)]
    exact ((below_alM (Below.refl _ _) _).cell (p := ⟨w.heap.size + 1, 0, none⟩) (by simp)).trans (by simp)
  · have := (Var1.made ((w.alloc (.cells #[v] T)).alloc (.cells #[u] T)) (.slice none 0 0) T).below b
    simpa using this
theorem three_start (w : World) (v u : Value) (T : TypeId) (R : Obj) :
    (((w.alloc (.cells #[v] T)).alloc (.cells #[u] T)).alloc R).cell? ⟨w.heap.size, 0, none⟩ = some v ∧ (((w.alloc (.cells #[v] T)).alloc (.cells #[u] T)).alloc R).cell? ⟨w.heap.size + 1, 0, none⟩ = some u :=
  ⟨((below_alM (below_alM (Below.refl _ _) _) _).cell (p := ⟨w.heap.size, 0, none⟩) (by simp)).trans (Var1.made w _ _).1, ((below_alM (Below.refl _ _) _).cell (p := ⟨w.heap.size + 1, 0, none⟩) (by simp)).trans (by simp)⟩

set_option maxRecDepth 10000 in
theorem addMulti_spec1 (v u : Value) (E E' : TypeId) (B C B' C' : Nat) (p q : List (List Int)) (w : World) (h : Grid E w B C (v) p) (h' : Grid E' w B' C' (u) q) (hok : okM p = false) :
    Calls Try.prog 13 #[.agg #[v], .agg #[u]] w fun e w' => e = .returned (.tuple #[.agg #[.slice none 0 0], .int .i64 1]) ∧ Below w.heap.size w w' := by
  have HO := fun W a9 (hW : Below w.heap.size w W) (hp : W.cell? a9 = some (v)) => l04Ok_any a9 _ E B C p W hp (h.below hW)
  have HO' := fun W a9 (hW : Below w.heap.size w W) (hp : W.cell? a9 = some (u)) => l04Ok_any a9 _ E' B' C' q W hp (h'.below hW)
  rw [hok] at HO
  have hp0 := fun R => (three_start w (v) (u) 26 R).1
  have hp1 := fun R => (three_start w (v) (u) 26 R).2
  clear h h' hok
  go_enter Try.func13, Try.ntmps13
  go_wp2_with fail
  refine (HO _ _ (below_alM (below_alM (below_alM (Below.refl _ _) _) _) _) ?_).mono ?_
  · exact hp0 _
  rintro e w1 ⟨rfl, b1⟩
  obtain ⟨c1, d1, v1, s1, b1⟩ := three_cells w w1 _ _ _ b1
  clear HO hp0 hp1
  obtain ⟨c9, f9⟩ := v1
  have hres : ∀ y : Value, (w1.setCell ⟨w.heap.size + 2, 0, none⟩ y).cell? ⟨w.heap.size + 2, 0, none⟩ = some y := fun y => World.cell?_setCell_same _ _ _ (u := .slice none 0 0) c9
  go_wp2
  refine bodyPost_ret (v := .tuple #[.agg #[.slice none 0 0], .int .i64 1]) (by simp [results, Try.results13, go_sem, hres]) rfl ?_
  exact ⟨rfl, b1.setCell (p := ⟨w.heap.size + 2, 0, none⟩) (by show w.heap.size ≤ w.heap.size + 2; omega) _⟩

set_option maxRecDepth 10000 in
theorem addMulti_spec2 (v u : Value) (E E' : TypeId) (B C B' C' : Nat) (p q : List (List Int)) (w : World) (h : Grid E w B C (v) p) (h' : Grid E' w B' C' (u) q) (hok : okM p = true) (hok2 : okM q = false) :
    Calls Try.prog 13 #[.agg #[v], .agg #[u]] w fun e w' => e = .returned (.tuple #[.agg #[.slice none 0 0], .int .i64 1]) ∧ Below w.heap.size w w' := by
  have HO := fun W a9 (hW : Below w.heap.size w W) (hp : W.cell? a9 = some (v)) => l04Ok_any a9 _ E B C p W hp (h.below hW)
  have HO' := fun W a9 (hW : Below w.heap.size w W) (hp : W.cell? a9 = some (u)) => l04Ok_any a9 _ E' B' C' q W hp (h'.below hW)
  rw [hok] at HO
  rw [hok2] at HO'
  have hp0 := fun R => (three_start w (v) (u) 26 R).1
  have hp1 := fun R => (three_start w (v) (u) 26 R).2
  clear h h' hok
  go_enter Try.func13, Try.ntmps13
  go_wp2_with fail
  refine (HO _ _ (below_alM (below_alM (below_alM (Below.refl _ _) _) _) _) ?_).mono ?_
  · exact hp0 _
  rintro e w1 ⟨rfl, b1⟩
  obtain ⟨c1, d1, v1, s1, b1⟩ := three_cells w w1 _ _ _ b1
  clear HO hp0 hp1
  go_wp2_with fail
  refine (HO' _ _ b1 d1).mono ?_
  rintro e w2 ⟨rfl, b2⟩
  have s2 := b2.size
  have c2x := (b2.cell (p := ⟨w.heap.size, 0, none⟩) (by show w.heap.size < _; omega)).trans c1
  have d2x := (b2.cell (p := ⟨w.heap.size + 1, 0, none⟩) (by show w.heap.size + 1 < _; omega)).trans d1
  have v2 := v1.below b2
  replace b2 := b1.trans (b2.mono b1.size)
  clear HO' v1 b1 c1 d1
  obtain ⟨c9, f9⟩ := v2
  have hres : ∀ y : Value, (w2.setCell ⟨w.heap.size + 2, 0, none⟩ y).cell? ⟨w.heap.size + 2, 0, none⟩ = some y := fun y => World.cell?_setCell_same _ _ _ (u := .slice none 0 0) c9
  go_wp2
  refine bodyPost_ret (v := .tuple #[.agg #[.slice none 0 0], .int .i64 1]) (by simp [results, Try.results13, go_sem, hres]) rfl ?_
  exact ⟨rfl, b2.setCell (p := ⟨w.heap.size + 2, 0, none⟩) (by show w.heap.size ≤ w.heap.size + 2; omega) _⟩

set_option maxRecDepth 10000 in
theorem addMulti_spec3 (a a2 : Option Addr) (n c m c2 : Nat) (E E' : TypeId) (B C B' C' : Nat) (p q : List (List Int)) (w : World) (h : Grid E w B C (.slice a n c) p) (h' : Grid E' w B' C' (.slice a2 m c2) q) (hok : okM p = true) (hok2 : okM q = true) (hl : p.length ≠ q.length) (hn : n = p.length) (hm : m = q.length) (hn9 : n ≤ 9223372036854775807) (hm9 : m ≤ 9223372036854775807) :
    Calls Try.prog 13 #[.agg #[.slice a n c], .agg #[.slice a2 m c2]] w fun e w' => e = .returned (.tuple #[.agg #[.slice none 0 0], .int .i64 6]) ∧ Below w.heap.size w w' := by
  have HO := fun W a9 (hW : Below w.heap.size w W) (hp : W.cell? a9 = some (.slice a n c)) => l04Ok_any a9 _ E B C p W hp (h.below hW)
  have HO' := fun W a9 (hW : Below w.heap.size w W) (hp : W.cell? a9 = some (.slice a2 m c2)) => l04Ok_any a9 _ E' B' C' q W hp (h'.below hW)
  rw [hok] at HO
  rw [hok2] at HO'
  have hne : ((n : Int) != (m : Int)) = true := by simp; omega
  clear hl hn hm
  have hp0 := fun R => (three_start w (.slice a n c) (.slice a2 m c2) 26 R).1
  have hp1 := fun R => (three_start w (.slice a n c) (.slice a2 m c2) 26 R).2
  clear h h' hok
  go_enter Try.func13, Try.ntmps13
  go_wp2_with fail
  refine (HO _ _ (below_alM (below_alM (below_alM (Below.refl _ _) _) _) _) ?_).mono ?_
  · exact hp0 _
  rintro e w1 ⟨rfl, b1⟩
  obtain ⟨c1, d1, v1, s1, b1⟩ := three_cells w w1 _ _ _ b1
  clear HO hp0 hp1
  go_wp2_with fail
  refine (HO' _ _ b1 d1).mono ?_
  rintro e w2 ⟨rfl, b2⟩
  have s2 := b2.size
  have c2x := (b2.cell (p := ⟨w.heap.size, 0, none⟩) (by show w.heap.size < _; omega)).trans c1
  have d2x := (b2.cell (p := ⟨w.heap.size + 1, 0, none⟩) (by show w.heap.size + 1 < _; omega)).trans d1
  have v2 := v1.below b2
  replace b2 := b1.trans (b2.mono b1.size)
  clear HO' v1 b1 c1 d1
  obtain ⟨c9, f9⟩ := v2
  have hres : ∀ y : Value, (w2.setCell ⟨w.heap.size + 2, 0, none⟩ y).cell? ⟨w.heap.size + 2, 0, none⟩ = some y := fun y => World.cell?_setCell_same _ _ _ (u := .slice none 0 0) c9
  go_wp2
  refine bodyPost_ret (v := .tuple #[.agg #[.slice none 0 0], .int .i64 6]) (by simp [results, Try.results13, go_sem, hres]) rfl ?_
  exact ⟨rfl, b2.setCell (p := ⟨w.heap.size + 2, 0, none⟩) (by show w.heap.size ≤ w.heap.size + 2; omega) _⟩

theorem addMulti_spec (v : Value) (E : TypeId) (B C : Nat) (p : List (List Int)) (u : Value) (E' : TypeId) (B' C' : Nat) (q : List (List Int)) (w : World) (h : Grid E w B C v p) (h' : Grid E' w B' C' u q) :
    Calls Try.prog 13 #[.agg #[v], .agg #[u]] w fun e w' => ∃ x y z, e = .returned (.tuple #[.agg #[.slice x y z], .int .i64 (addMC p q)]) ∧ Grid 32 w' w.heap.size w'.heap.size (.slice x y z) (addMR p q) ∧ Below w.heap.size w w' := by
  cases hok : okM p with
  | false =>
    obtain ⟨e1, e2⟩ := addM_bad1 (q := q) hok
    rw [e1, e2]
    exact (addMulti_spec1 v u E E' B C B' C' p q w h h' hok).mono fun e w' ⟨h1, h2⟩ => ⟨_, _, _, h1, Grid.nil _ _ _ _, h2⟩
  | true =>
    cases hok2 : okM q with
    | false =>
      obtain ⟨e1, e2⟩ := addM_bad2 (p := p) hok2
      rw [e1, e2]
      exact (addMulti_spec2 v u E E' B C B' C' p q w h h' hok hok2).mono fun e w' ⟨h1, h2⟩ => ⟨_, _, _, h1, Grid.nil _ _ _ _, h2⟩
    | true =>
      have n1 := (shapeL_num (okM_shape hok)).1
      have n2 := (shapeL_num (okM_shape hok2)).1
      obtain ⟨g, cap, rfl, _, hg, _, hm⟩ := h.shape.resolve_left fun e => by rw [e.2] at n1; simp at n1
      obtain ⟨g', cap', rfl, _, hg', _, hm'⟩ := h'.shape.resolve_left fun e => by rw [e.2] at n2; simp at n2
      by_cases hl : p.length = q.length
      · obtain ⟨e1, e2⟩ := addM_good hok hok2 hl
        rw [e1, e2]
        rw [← hl] at h' ⊢
        exact addMulti_specR g cap g' cap' p.length E E' B C B' C' p q w h h' rfl hl hg hg' hok hok2
      · obtain ⟨e1, e2⟩ := addM_len hok hok2 hl
        rw [e1, e2]
        exact (addMulti_spec3 _ _ _ _ _ _ E E' B C B' C' p q w h h' hok hok2 hl rfl rfl h.len h'.len).mono fun e w' ⟨h1, h2⟩ => ⟨_, _, _, h1, Grid.nil _ _ _ _, h2⟩
end Go.Proofs.Ytgjmhihomklooaa
