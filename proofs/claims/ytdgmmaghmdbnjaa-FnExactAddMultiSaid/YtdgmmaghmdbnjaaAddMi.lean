/- Multiplex: AddMulti, the program's. Conditions: beats of at most 10^7 throws. -/
import Derived.Test.YtdgmmaghmdbnjaaAddMs
import Derived.Test.YtdgmmaghmdbnjaaConcat
import Derived.Test.YtdgmmaghmdbnjaaRotMi
namespace Go.Proofs.Ytdgmmaghmdbnjaa
open Go.RowKit
set_option linter.unusedSimpArgs false
set_option linter.unusedVariables false

set_option maxRecDepth 10000 in
theorem addMulti_impl1 (v u : Value) (E E' : TypeId) (B C B' C' : Nat) (p q : List (List Int)) (w : World) (h : Grid E w B C (v) p) (h' : Grid E' w B' C' (u) q) (hs : Small p) (hs2 : Small q) (hok : okM p = false) :
    Calls Try.prog 12 #[.agg #[v], .agg #[u]] w fun e w' => e = .returned (.tuple #[.agg #[.slice none 0 0], .int .i64 1]) ∧ Below w.heap.size w w' := by
  have HO := fun W (hW : Below w.heap.size w W) => validMulti_impl (v) E B C p W (h.below hW) hs
  have HO' := fun W (hW : Below w.heap.size w W) => validMulti_impl (u) E' B' C' q W (h'.below hW) hs2
  rw [hok] at HO
  have hp0 := fun R => (three_start w (v) (u) 26 R).1
  have hp1 := fun R => (three_start w (v) (u) 26 R).2
  clear h h' hok
  go_enter Try.func12, Try.ntmps12
  go_wp2_with fail
  refine (HO _ (below_alM (below_alM (below_alM (Below.refl _ _) _) _) _)).mono ?_
  rintro e w1 ⟨rfl, b1⟩
  obtain ⟨c1, d1, v1, s1, b1⟩ := three_cells w w1 _ _ _ b1
  clear HO hp0 hp1
  obtain ⟨c9, f9⟩ := v1
  have hres : ∀ y : Value, (w1.setCell ⟨w.heap.size + 2, 0, none⟩ y).cell? ⟨w.heap.size + 2, 0, none⟩ = some y := fun y => World.cell?_setCell_same _ _ _ (u := .slice none 0 0) c9
  go_wp2
  refine bodyPost_ret (v := .tuple #[.agg #[.slice none 0 0], .int .i64 1]) (by simp [results, Try.results12, go_sem, hres]) rfl ?_
  exact ⟨rfl, b1.setCell (p := ⟨w.heap.size + 2, 0, none⟩) (by show w.heap.size ≤ w.heap.size + 2; omega) _⟩

set_option maxRecDepth 10000 in
theorem addMulti_impl2 (v u : Value) (E E' : TypeId) (B C B' C' : Nat) (p q : List (List Int)) (w : World) (h : Grid E w B C (v) p) (h' : Grid E' w B' C' (u) q) (hs : Small p) (hs2 : Small q) (hok : okM p = true) (hok2 : okM q = false) :
    Calls Try.prog 12 #[.agg #[v], .agg #[u]] w fun e w' => e = .returned (.tuple #[.agg #[.slice none 0 0], .int .i64 1]) ∧ Below w.heap.size w w' := by
  have HO := fun W (hW : Below w.heap.size w W) => validMulti_impl (v) E B C p W (h.below hW) hs
  have HO' := fun W (hW : Below w.heap.size w W) => validMulti_impl (u) E' B' C' q W (h'.below hW) hs2
  rw [hok] at HO
  rw [hok2] at HO'
  have hp0 := fun R => (three_start w (v) (u) 26 R).1
  have hp1 := fun R => (three_start w (v) (u) 26 R).2
  clear h h' hok
  go_enter Try.func12, Try.ntmps12
  go_wp2_with fail
  refine (HO _ (below_alM (below_alM (below_alM (Below.refl _ _) _) _) _)).mono ?_
  rintro e w1 ⟨rfl, b1⟩
  obtain ⟨c1, d1, v1, s1, b1⟩ := three_cells w w1 _ _ _ b1
  clear HO hp0 hp1
  go_wp2_with fail
  refine (HO' _ b1).mono ?_
  rintro e w2 ⟨rfl, b2⟩
  have s2 := b2.size
  have c2x := (b2.cell (p := ⟨w.heap.size, 0, none⟩) (by show w.heap.size < _; omega)).trans c1
  have d2x := (b2.cell (p := ⟨w.heap.size + 1, 0, none⟩) (by show w.heap.size + 1 < _; omega)).trans d1
  have v2 := v1.below b2
  replace b2 := b1.trans (b2.mono b1.size)
  clear HO' v1 b1 c1 d1
  obtain ⟨c9, f9⟩ := v2
  have hres : ∀ y : Value, (w2.setCell ⟨w.heap.size + 2, 0, none⟩ y).cell? ⟨w.heap.size + 2, 0, none⟩ = some y := fun y => World.cell?_setCell_same _ _ _ (u := .slice none 0 0) c9
  go_wp2
  refine bodyPost_ret (v := .tuple #[.agg #[.slice none 0 0], .int .i64 1]) (by simp [results, Try.results12, go_sem, hres]) rfl ?_
  exact ⟨rfl, b2.setCell (p := ⟨w.heap.size + 2, 0, none⟩) (by show w.heap.size ≤ w.heap.size + 2; omega) _⟩

set_option maxRecDepth 10000 in
theorem addMulti_impl3 (a a2 : Option Addr) (n c m c2 : Nat) (E E' : TypeId) (B C B' C' : Nat) (p q : List (List Int)) (w : World) (h : Grid E w B C (.slice a n c) p) (h' : Grid E' w B' C' (.slice a2 m c2) q) (hs : Small p) (hs2 : Small q) (hok : okM p = true) (hok2 : okM q = true) (hl : p.length ≠ q.length) (hn : n = p.length) (hm : m = q.length) (hn9 : n ≤ 9223372036854775807) (hm9 : m ≤ 9223372036854775807) :
    Calls Try.prog 12 #[.agg #[.slice a n c], .agg #[.slice a2 m c2]] w fun e w' => e = .returned (.tuple #[.agg #[.slice none 0 0], .int .i64 6]) ∧ Below w.heap.size w w' := by
  have HO := fun W (hW : Below w.heap.size w W) => validMulti_impl (.slice a n c) E B C p W (h.below hW) hs
  have HO' := fun W (hW : Below w.heap.size w W) => validMulti_impl (.slice a2 m c2) E' B' C' q W (h'.below hW) hs2
  rw [hok] at HO
  rw [hok2] at HO'
  have hne : ((n : Int) != (m : Int)) = true := by simp; omega
  clear hl hn hm
  have hp0 := fun R => (three_start w (.slice a n c) (.slice a2 m c2) 26 R).1
  have hp1 := fun R => (three_start w (.slice a n c) (.slice a2 m c2) 26 R).2
  clear h h' hok
  go_enter Try.func12, Try.ntmps12
  go_wp2_with fail
  refine (HO _ (below_alM (below_alM (below_alM (Below.refl _ _) _) _) _)).mono ?_
  rintro e w1 ⟨rfl, b1⟩
  obtain ⟨c1, d1, v1, s1, b1⟩ := three_cells w w1 _ _ _ b1
  clear HO hp0 hp1
  go_wp2_with fail
  refine (HO' _ b1).mono ?_
  rintro e w2 ⟨rfl, b2⟩
  have s2 := b2.size
  have c2x := (b2.cell (p := ⟨w.heap.size, 0, none⟩) (by show w.heap.size < _; omega)).trans c1
  have d2x := (b2.cell (p := ⟨w.heap.size + 1, 0, none⟩) (by show w.heap.size + 1 < _; omega)).trans d1
  have v2 := v1.below b2
  replace b2 := b1.trans (b2.mono b1.size)
  clear HO' v1 b1 c1 d1
  obtain ⟨c9, f9⟩ := v2
  have hres : ∀ y : Value, (w2.setCell ⟨w.heap.size + 2, 0, none⟩ y).cell? ⟨w.heap.size + 2, 0, none⟩ = some y := fun y => World.cell?_setCell_same _ _ _ (u := .slice none 0 0) c9
  go_wp2
  refine bodyPost_ret (v := .tuple #[.agg #[.slice none 0 0], .int .i64 6]) (by simp [results, Try.results12, go_sem, hres]) rfl ?_
  exact ⟨rfl, b2.setCell (p := ⟨w.heap.size + 2, 0, none⟩) (by show w.heap.size ≤ w.heap.size + 2; omega) _⟩
end Go.Proofs.Ytdgmmaghmdbnjaa
