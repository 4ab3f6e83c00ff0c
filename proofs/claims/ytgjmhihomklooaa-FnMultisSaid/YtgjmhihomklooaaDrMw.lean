/- Words on l04Draw's walk: 'DrM': the source, the variable of the pattern and its rows. No conditions. -/
import Derived.Test.YtgjmhihomklooaaSiteM
import Derived.Test.YtgjmhihomklooaaMultiOf
import Derived.Test.YtgjmhihomklooaaAddMs
namespace Go.Proofs.Ytgjmhihomklooaa
open Go.RowKit
set_option linter.unusedSimpArgs false
set_option linter.unusedVariables false

/-- n beats, none empty, none of more than four throws -/
def MulD (p : List (List Int)) (n : Nat) : Prop := p.length = n ∧ ∀ i, i < n → 1 ≤ (p.getD i []).length ∧ (p.getD i []).length ≤ 4
theorem MulD.singles {p : List Int} {n : Nat} (h : p.length = n) : MulD (singles p) n := by
  refine ⟨by rw [singles_len, h], fun i hi => ?_⟩
  have : (Proofs.Ytgjmhihomklooaa.singles p).getD i [] = [p.getD i 0] := by
    unfold Proofs.Ytgjmhihomklooaa.singles
    rw [List.getD_eq_getElem?_getD, List.getD_eq_getElem?_getD, List.getElem?_map, List.getElem?_eq_getElem (by omega)]
    rfl
  rw [this]
  simp
theorem MulD.ok {p : List (List Int)} {n : Nat} (h : okM p = true) (hl : p.length = n) : MulD p n :=
  ⟨hl, fun i hi => rowOk_num (shapeL_at (okM_shape h) i (by omega))⟩

theorem MulD.add {p q : List (List Int)} {n : Nat} (h : MulD p n) (hc : addMC p q = 0) : MulD (addMR p q) n := by
  unfold addMC addMR at *
  by_cases h1 : okM p = true ∧ okM q = true
  · rw [if_pos h1] at hc
    by_cases h2 : p.length = q.length
    · rw [if_pos h2] at hc
      rw [if_pos ⟨h1.1, h1.2, h2⟩]
      unfold addK at hc
      unfold addR
      by_cases h3 : okM (addG p q) = true
      · rw [if_pos h3]
        exact MulD.ok h3 (by rw [addG_len, h.1])
      · rw [if_neg h3] at hc
        omega
    · rw [if_neg h2] at hc
      omega
  · rw [if_neg h1] at hc
    omega
theorem Var1.block {w w' : World} {N : Nat} {v : Value} (h : Var1 w N v) (hk : w'.heap[N]? = w.heap[N]?) : Var1 w' N v := by
  obtain ⟨h1, h2⟩ := h
  exact ⟨by rw [← h1]; simp [World.cell?, hk], by rw [← h2]; simp [World.frozen?, hk]⟩
theorem Var1.lt {w : World} {N : Nat} {v : Value} (h : Var1 w N v) : N < w.heap.size := cell_block h.1
theorem grown_of_below {w w' : World} (h : Below w.heap.size w w') : w.grownBy w' none := ⟨h.os, h.tape, h.output, h.size, fun k hk _ => h.block k hk⟩
theorem Src.low {w w' : World} {b k : Nat} {cv : Value} (h : Src w b k cv) (hb : Below w.heap.size w w') : Src w' b k cv := h.keep (grown_of_below hb) (by simp)
theorem grown_low {w W W' : World} {b : Nat} (h : w.grownBy W (some b)) (hb : Below W.heap.size W W') : w.grownBy W' (some b) := h.andThen (grown_of_below hb) (fun q hq => by cases hq)
theorem low_al (w : World) (o : Obj) : Below w.heap.size w (w.alloc o) := (Below.refl _ _).alloc (Nat.le_refl _) o

theorem cell_al {W : World} {q : Addr} {v : Value} (h : W.cell? q = some v) (o : Obj) : (W.alloc o).cell? q = some v := ((low_al W o).cell (cell_block h)).trans h
theorem cell_st {W : World} {N bq : Nat} {v : Value} (h : W.cell? ⟨N, 0, none⟩ = some v) (hne : N ≠ bq) (u : Value) : (W.setCell ⟨bq, 0, none⟩ u).cell? ⟨N, 0, none⟩ = some v := (World.cell?_setCell_other _ ⟨_, _, _⟩ ⟨_, _, _⟩ _ (by simp [hne])).trans h
theorem Var1.grown {W u : World} {M b : Nat} {z : Value} (h : Var1 W M z) (g : W.grownBy u (some b)) (hb : b ≠ M) : Var1 u M z := h.block (g.block _ h.lt (by intro e; cases e; omega))

/-- in W, that has grown out of w: the source b, the variable N holds v, v's rows p lie between B and C, the result's variable is still empty -/
structure DrM (w : World) (b N K B C : Nat) (cv v : Value) (p : List (List Int)) (W : World) : Prop where
  src : Src W b K cv
  grown : w.grownBy W (some b)
  rows : Grid 32 W B C v p
  var : Var1 W N v
  res : Var1 W w.heap.size (.slice none 0 0)
  top : C ≤ W.heap.size
section
variable {w : World} {b N K K' B C : Nat} {cv v : Value} {p : List (List Int)} {W W' : World}
theorem DrM.low (h : DrM w b N K B C cv v p W) (hb : Below W.heap.size W W') : DrM w b N K B C cv v p W' :=
  ⟨h.src.low hb, grown_low h.grown hb, h.rows.below hb, h.var.below hb, h.res.below hb, Nat.le_trans h.top hb.size⟩
theorem DrM.more (h : DrM w b N K B C cv v p W) (g : W.grownBy W' (some b)) (s : Src W' b K' cv) (hb : b < w.heap.size) (hN : w.heap.size < N) (hB : w.heap.size < B) : DrM w b N K' B C cv v p W' :=
  ⟨s, h.grown.trans g, h.rows.keep fun k hk h1 h2 => g.block k hk (by intro e; cases e; omega), h.var.block (g.block _ h.var.lt (by intro e; cases e; omega)), h.res.block (g.block _ h.res.lt (by intro e; cases e; omega)), Nat.le_trans h.top g.size⟩
theorem DrM.mono (h : DrM w b N K B C cv v p W) (hk : K ≤ K') : DrM w b N K' B C cv v p W := ⟨h.src.mono hk, h.grown, h.rows, h.var, h.res, h.top⟩
/-- a variable bq is new since U0 and holds v', whose rows q lie elsewhere -/
def OutD (w : World) (b N K B C : Nat) (cv v : Value) (p : List (List Int)) (bq : Nat) (v' : Value) (q : List (List Int)) (U : World) : Prop :=
  DrM w b N K B C cv v p U ∧ Var1 U bq v' ∧ ∃ lo hi, Grid 32 U lo hi v' q ∧ w.heap.size < lo ∧ N < lo ∧ hi ≤ U.heap.size
theorem outD_set {bq lo hi : Nat} {v' z : Value} {q : List (List Int)} (h : DrM w b N K B C cv v p W) (hg : Grid 32 W lo hi v' q) (hv : Var1 W bq z) (hb : b < w.heap.size) (hN : w.heap.size < N) (h1 : C ≤ bq) (h2 : N < bq) (h3 : bq < lo) (h4 : hi ≤ W.heap.size) :
    OutD w b N K B C cv v p bq v' q (W.setCell ⟨bq, 0, none⟩ v') :=
  ⟨⟨h.src.set 0 (by omega) v', grown_new h.grown 0 (by omega) v', h.rows.keep fun k hk e1 e2 => Below.heap_setCell _ _ _ _ (by show k ≠ bq; omega), h.var.other _ (by omega), h.res.other _ (by omega), by simpa using h.top⟩,
   hv.set _, lo, hi, grid_out hg h3 _, by omega, by omega, by simpa using h4⟩
theorem outD_alloc {T : TypeId} {lo hi : Nat} {v' : Value} {q : List (List Int)} (h : DrM w b N K B C cv v p W) (hg : Grid 32 W lo hi v' q) (hN : w.heap.size < N) (h3 : N < lo) (h4 : hi ≤ W.heap.size) :
    OutD w b N K B C cv v p W.heap.size v' q (W.alloc (.cells #[v'] T)) :=
  ⟨h.low (low_al _ _), Var1.made _ _ _, lo, hi, hg.below (low_al _ _), by omega, by omega, by simp; omega⟩
/-- the variable takes it over -/
theorem OutD.take {bq : Nat} {v' : Value} {q : List (List Int)} (h : OutD w b N K B C cv v p bq v' q W) (hb : b < w.heap.size) (hN : w.heap.size < N) :
    ∃ lo hi, w.heap.size < lo ∧ N < lo ∧ DrM w b N K lo hi cv v' q (W.setCell ⟨N, 0, none⟩ v') := by
  obtain ⟨h, hv, lo, hi, hg, h1, h2, h3⟩ := h
  exact ⟨lo, hi, h1, h2, h.src.set 0 (by omega) v', grown_new h.grown 0 (by omega) v', grid_out hg h2 _, h.var.set _, h.res.other _ (by omega), by simpa using h3⟩
end
end Go.Proofs.Ytgjmhihomklooaa
