/- Multiplex, the model's: l04Single is a pattern with one throw at each beat. Conditions: a list of at most 1000 throws. -/
import Derived.Test.YtgjmhihomklooaaGridL
import Derived.Test.YtgjmhihomklooaaSingM
namespace Go.Proofs.Ytgjmhihomklooaa
open Go.RowKit
set_option linter.unusedSimpArgs false
set_option linter.unusedVariables false

def singles (p : List Int) : List (List Int) := p.map fun x => [x]
theorem singles_len (p : List Int) : (singles p).length = p.length := by simp [singles]
theorem singles_take (p : List Int) (k : Nat) (hk : k < p.length) : (singles p).take (k + 1) = (singles p).take k ++ [[p.getD k 0]] := by
  rw [List.take_succ_eq_append_getElem (by rw [singles_len]; exact hk)]
  congr 2
  simp [singles, hk]

theorem cell_alloc2 {W : World} {N : Nat} (o : Obj) (u : Value) {T : TypeId} (hN : W.heap.size = N) : ((W.alloc o).alloc (.cells #[u] T)).cell? ⟨N + 1, 0, none⟩ = some u := by
  have e : ((W.alloc o).alloc (.cells #[u] T)).heap[N + 1]? = some (.cells #[u] T) := by
    subst hN
    show ((W.heap.push _).push _)[W.heap.size + 1]? = _
    simp [Array.getElem?_push, Array.getElem_push]
  simp only [World.cell?, e]
  rfl
/-- a variable of one cell, in a block of its own -/
def Var1 (w : World) (b : Nat) (v : Value) : Prop := w.cell? ⟨b, 0, none⟩ = some v ∧ w.frozen? ⟨b, 0, none⟩ = false
theorem Var1.within {w w' : World} {B C b : Nat} {v : Value} (h : Var1 w b v) (hW : Within B C w w') (hb : b < B) : Var1 w' b v := by
  have hl := cell_block h.1
  have e := hW.block b hl (.inl hb)
  exact ⟨by have := h.1; simp only [World.cell?] at this ⊢; rw [e]; exact this, by have := h.2; simp only [World.frozen?] at this ⊢; rw [e]; exact this⟩
theorem Var1.other {w : World} {b c : Nat} {v : Value} (h : Var1 w b v) (y : Value) (hne : b ≠ c) : Var1 (w.setCell ⟨c, 0, none⟩ y) b v :=
  ⟨(World.cell?_setCell_other w ⟨c, 0, none⟩ ⟨b, 0, none⟩ y (by simp [hne])).trans h.1, by rw [World.frozen?_setCell]; exact h.2⟩
theorem Var1.set {w : World} {b : Nat} {v : Value} (h : Var1 w b v) (y : Value) : Var1 (w.setCell ⟨b, 0, none⟩ y) b y :=
  ⟨World.cell?_setCell_same _ _ _ (u := v) h.1, by rw [World.frozen?_setCell]; exact h.2⟩

set_option maxRecDepth 10000 in
set_option maxHeartbeats 1000000 in
theorem l04Single_row (g cap n : Nat) (p : List Int) (w : World) (hn : n = p.length) (hn2 : n ≤ 1000) (hg : g < w.heap.size) (hc : ∀ i, i < n → w.cell? ⟨g, i, none⟩ = some (.int .i64 (p.getD i 0))) :
    Calls Try.prog 113 #[.slice (some ⟨g, 0, none⟩) n cap] w fun e w' => ∃ x y z, e = .returned (.agg #[.slice x y z]) ∧ Grid 32 w' w.heap.size w'.heap.size (.slice x y z) (singles p) ∧ Below w.heap.size w w' := by
  have HC := Lib.hid hc
  have HTK := Lib.hid (fun k (hk : k < n) => singles_take p k (by omega))
  have HFIN : Hid ((singles p).take n = singles p) := List.take_of_length_le (by rw [singles_len, hn]; exact Nat.le_refl _)
  have HLT := Lib.hid (fun k (hk : k ≤ n) => show ((singles p).take k).length = k from by rw [List.length_take, singles_len]; omega)
  clear hc hn
  obtain ⟨W0, hW0⟩ : ∃ W0, W0 = (w.alloc (.cells #[.slice none 0 0] 26)).alloc (.cells #[.slice none 0 0] 26) := ⟨_, rfl⟩
  have hB0 : Below w.heap.size w W0 := by rw [hW0]; exact below_alM (below_alM (Below.refl _ _) _) _
  have hs0 : W0.heap.size = w.heap.size + 2 := by rw [hW0]; simp
  have hh0 : W0.heap[w.heap.size]? = some (.cells #[.slice none 0 0] 26) := by
    rw [hW0]
    show ((w.heap.push _).push _)[w.heap.size]? = _
    simp [Array.getElem?_push, Array.getElem_push]
  have hh1 : W0.heap[w.heap.size + 1]? = some (.cells #[.slice none 0 0] 26) := by
    rw [hW0]
    show ((w.heap.push _).push _)[w.heap.size + 1]? = _
    simp [Array.getElem?_push, Array.getElem_push]
  go_enter Try.func113, Try.ntmps113
  go_wp2
  rw [← hW0]
  clear hW0
  go_loopw [4] (fun i wr => ∃ (k : Nat) (a : Option Addr) (m c : Nat), k ≤ n ∧ i = .int .i64 k ∧ Var1 wr w.heap.size (.slice none 0 0) ∧ Var1 wr (w.heap.size + 1) (.slice a m c) ∧ Grid 32 wr (w.heap.size + 2) wr.heap.size (.slice a m c) ((singles p).take k) ∧ w.heap.size + 2 ≤ wr.heap.size ∧ Below w.heap.size w wr) (fun i _ => n - (intOf i).toNat)
  case atStart => exact ⟨0, none, 0, 0, Nat.zero_le _, rfl, ⟨by simp [World.cell?, hh0], by simp [World.frozen?, hh0]⟩, ⟨by simp [World.cell?, hh1], by simp [World.frozen?, hh1]⟩, Grid.nil _ _ _ _, by omega, hB0⟩
  case round =>
    clear hB0 hs0 hh0 hh1
    obtain ⟨k, a, m, c, hk, rfl, h0, h1, hG, hs, hb⟩ := hrel
    by_cases hlt : k < n
    · have hcx := (hb.cell (p := ⟨g, k, none⟩) hg).trans (HC.out k hlt)
      have HT := Lib.hid (HTK.out k hlt)
      have hll := HLT.out k hk
      generalize p.getD k 0 = x at *
      obtain ⟨c0, f0⟩ := id h1
      clear HC HTK HFIN HLT
      have HG := Lib.hid hG
      have HH0 := Lib.hid h0
      have HH1 := Lib.hid h1
      have hA1 : ∀ o, (wr.alloc o).cell? ⟨w.heap.size + 1, 0, none⟩ = some (.slice a m c) := fun o => ((below_alM (Below.refl _ _) o).cell (p := ⟨w.heap.size + 1, 0, none⟩) (by show w.heap.size + 1 < _; omega)).trans c0
      have hA2 : ∀ o o', ((wr.alloc o).alloc o').cell? ⟨w.heap.size + 1, 0, none⟩ = some (.slice a m c) := fun o o' => ((below_alM (below_alM (Below.refl _ _) o) o').cell (p := ⟨w.heap.size + 1, 0, none⟩) (by show w.heap.size + 1 < _; omega)).trans c0
      clear h0 h1 hG
      go_wp2
      go_region_law (first | (refine step_append_row _ rfl _ _ rfl (w.heap.size + 2) wr.heap.size _ ((singles p).take k) rfl (HG.out.below (by repeat (first | exact Below.refl _ _ | refine Below.drew ?_ | refine below_drewN ?_ _ | refine below_alM ?_ _))) _ (.slice (some ⟨wr.heap.size, 0, none⟩) 1 1) [x] rfl (cell_alloc2 _ _ rfl) (Ints.alloc (ownInts_one _ x (Nat.le_refl _)) _) (by rw [hll]; omega) hs (by simp; try omega) ?_; intro g4 c4 w4 G4 W4; have W5 := (Within.of_below (w := wr) (by repeat (first | exact Below.refl _ _ | refine Below.drew ?_ | refine below_drewN ?_ _ | refine below_alM ?_ _)) _ _).trans W4; obtain ⟨c4', f4'⟩ := HH1.out.within W5 (by omega)))
      all_goals (have v0 := HH0.out.within W5 (by omega); have v1 := HH1.out.within W5 (by omega); have hs4 := W5.size; have b4 := W5.below hb (by omega) hb.size; rw [← HT.out] at G4; rw [hll] at G4; clear HG HH0 HH1 W4 W5)
      all_goals go_wp2
      all_goals refine ⟨⟨k + 1, some ⟨g4, 0, none⟩, k + 1, c4, by omega, by go_num, v0.other _ (by omega), v1.set _, ?_, by simp; omega, b4.setCell (p := ⟨w.heap.size + 1, 0, none⟩) (by show w.heap.size ≤ w.heap.size + 1; omega) _⟩, by simp [intOf]; omega⟩
      all_goals (have e : (w4.setCell ⟨w.heap.size + 1, 0, none⟩ (.slice (some ⟨g4, 0, none⟩) (k + 1) c4)).heap.size = w4.heap.size := by simp)
      all_goals rw [e]
      all_goals exact G4.keep fun q hq h1 h2 => heap_far _ ⟨w.heap.size + 1, 0, none⟩ _ q (by show w.heap.size + 1 < q; omega)
    · obtain rfl : k = n := by omega
      rw [HFIN.out] at hG
      obtain ⟨c0, f0⟩ := id h1
      obtain ⟨c1, f1⟩ := id h0
      have hres : ∀ y : Value, (wr.setCell ⟨w.heap.size, 0, none⟩ y).cell? ⟨w.heap.size, 0, none⟩ = some y := fun y => World.cell?_setCell_same _ _ _ (u := .slice none 0 0) c1
      go_wp2
      refine bodyPost_ret (v := .agg #[.slice a m c]) (by simp [results, Try.results113, go_sem, hres]) rfl ?_
      refine ⟨a, m, c, rfl, ?_, hb.setCell (Nat.le_refl _) _⟩
      exact (hG.keep fun k hk h1 h2 => heap_far _ ⟨w.heap.size, 0, none⟩ _ k (by show w.heap.size < k; omega)).widen (by omega) (by simp)
theorem l04Single_any (v : Value) (B : Nat) (p : List Int) (w : World) (h : Ints w B v p) (h1 : 1 ≤ p.length) (h2 : p.length ≤ 1000) :
    Calls Try.prog 113 #[v] w fun e w' => ∃ x y z, e = .returned (.agg #[.slice x y z]) ∧ Grid 32 w' w.heap.size w'.heap.size (.slice x y z) (singles p) ∧ Below w.heap.size w w' := by
  obtain ⟨g, cap, rfl, _, hg, _, _⟩ := h.shape2 h1
  exact l04Single_row g cap p.length p w rfl h2 hg fun i hi => h.cell i hi

end Go.Proofs.Ytgjmhihomklooaa
