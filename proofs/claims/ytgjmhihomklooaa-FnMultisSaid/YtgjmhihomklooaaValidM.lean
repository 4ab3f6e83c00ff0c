/- Multiplex, the program's: count, ValidMulti. Conditions: beats of at most 10^7 throws. -/
import Derived.Test.YtgjmhihomklooaaProps
import Derived.Test.YtgjmhihomklooaaGridsB
namespace Go.Proofs.Ytgjmhihomklooaa
open Go.RowKit Go.Maps
set_option linter.unusedSimpArgs false
set_option linter.unusedVariables false

theorem heap_farM (w : World) (p : Addr) (v : Value) (k : Nat) (h : p.block < k) : (w.setCell p v).heap[k]? = w.heap[k]? := Below.heap_setCell w p v k (by omega)
theorem below_alM {w a : World} (h : Below w.heap.size w a) (o : Obj) : Below w.heap.size w (a.alloc o) := h.alloc h.size o

/-- what a beat of a list in its order is, for the walk -/
theorem shape_rows {E : TypeId} {w : World} {B C g n cap : Nat} {pss : List (List Int)} (h : Grid E w B C (.slice (some ⟨g, 0, none⟩) n cap) pss) (hs : shapeL pss = true) (i : Nat) (hi : i < pss.length) :
    ∃ gb cb m, m = (pss.getD i []).length ∧ m ≤ 4 ∧ w.cell? ⟨g, i, none⟩ = some (.slice (some ⟨gb, 0, none⟩) m cb) ∧ gb < w.heap.size ∧ ∀ k, k < m → w.cell? ⟨gb, k, none⟩ = some (.int .i64 ((pss.getD i []).getD k 0)) ∧ 0 ≤ (pss.getD i []).getD k 0 ∧ (pss.getD i []).getD k 0 ≤ 15 := by
  obtain ⟨u, hu, i1, _⟩ := h.row i hi
  have hr := shapeL_at hs i hi
  obtain ⟨h1, h2⟩ := rowOk_num hr
  obtain ⟨gb, cb, rfl, _, hgb, _⟩ := i1.shape.resolve_left fun e => by rw [e.2] at h1; simp at h1
  exact ⟨gb, cb, _, rfl, h2, hu, hgb, fun k hk => ⟨i1.cell k hk, (okAtB_parts (rowOk_at hr k hk)).1⟩⟩

set_option maxRecDepth 10000 in
theorem count_row (g cap n : Nat) (pss : List (List Int)) (w : World) (hn : n = pss.length) (hn2 : n ≤ 12) (hg : g < w.heap.size)
    (hrow : ∀ i, i < n → ∃ gb cb m, m = (pss.getD i []).length ∧ m ≤ 4 ∧ w.cell? ⟨g, i, none⟩ = some (.slice (some ⟨gb, 0, none⟩) m cb) ∧ gb < w.heap.size ∧ ∀ k, k < m → w.cell? ⟨gb, k, none⟩ = some (.int .i64 ((pss.getD i []).getD k 0)) ∧ 0 ≤ (pss.getD i []).getD k 0 ∧ (pss.getD i []).getD k 0 ≤ 15) :
    Calls Try.prog 68 #[.slice (some ⟨g, 0, none⟩) n cap] w fun e w' =>
      e = .returned (.agg #[.map (some (w.heap.size + 1)), .map (some (w.heap.size + 1 + 1))]) ∧ TwoP w' (w.heap.size + 1) (propsTo pss n) ∧ Below w.heap.size w w' := by
  have hmm := @run_makeMap Try.prog
  obtain ⟨O1, hO1⟩ : ∃ o, o = Obj.cells #[.map none, .map none] 91 := ⟨_, rfl⟩
  obtain ⟨O2, hO2⟩ : ∃ o, o = Obj.cells #[.map (some (w.heap.size + 1)), .map (some (w.heap.size + 1 + 1))] 91 := ⟨_, rfl⟩
  obtain ⟨W0, hW0⟩ : ∃ W0, W0 = (((w.alloc O1).alloc (.map #[] 0)).alloc (.map #[] 0)).alloc O2 := ⟨_, rfl⟩
  have hB0 : Below w.heap.size w W0 := by rw [hW0]; exact below_alM (below_alM (below_alM (below_alM (Below.refl _ _) _) _) _) _
  have hsz : W0.heap.size = w.heap.size + 1 + 1 + 1 + 1 := by rw [hW0]; simp
  have hT0 : TwoP W0 (w.heap.size + 1) [] := by
    have m1 := (((World.ownsMap_made (H := Unit) (w.alloc O1) Try.prog 2 (plainElem Try.prog 2)).alloc (.map #[] 0)).alloc O2)
    have m2 := ((World.ownsMap_made (H := Unit) ((w.alloc O1).alloc (.map #[] 0)) Try.prog 2 (plainElem Try.prog 2)).alloc O2)
    rw [← hW0] at m1 m2
    rw [show (w.alloc O1).heap.size = w.heap.size + 1 by simp] at m1
    rw [show ((w.alloc O1).alloc (.map #[] 0)).heap.size = w.heap.size + 1 + 1 by simp] at m2
    exact ⟨m1, m2⟩
  have hh0 : W0.heap[w.heap.size]? = some O1 := by
    rw [hW0]
    show ((((w.heap.push _).push _).push _).push _)[w.heap.size]? = _
    simp [Array.getElem?_push, Array.getElem_push]
    rw [if_neg (by omega), if_neg (by omega)]
  have hh3 : W0.heap[w.heap.size + 1 + 1 + 1]? = some O2 := by
    rw [hW0]
    show ((((w.heap.push _).push _).push _).push _)[w.heap.size + 1 + 1 + 1]? = _
    simp [Array.getElem?_push, Array.getElem_push]
  have HC := eachProp_row g cap n (w.heap.size + 1) pss W0 hn hn2 (by omega) (by omega) hT0 fun i hi => by
    obtain ⟨gb, cb, m, h1, h2, h3, h4, h5⟩ := hrow i hi
    exact ⟨gb, cb, m, h1, h2, (hB0.cell (p := ⟨g, i, none⟩) hg).trans h3, by omega, fun k hk => ⟨(hB0.cell (p := ⟨gb, k, none⟩) h4).trans (h5 k hk).1, (h5 k hk).2⟩⟩
  generalize propsTo pss n = ps at *
  clear hrow hn hT0
  rw [hW0, hO1, hO2] at HC
  go_enter Try.func68, Try.ntmps68
  go_wp2_with fail
  refine HC.mono ?_
  rw [← hO1, ← hO2, ← hW0]
  rintro e w1 ⟨rfl, t1, b1⟩
  have e1 : w1.heap[w.heap.size]? = some O1 := by rw [b1.block _ (by omega) (by omega)]; exact hh0
  have e3 : w1.heap[w.heap.size + 1 + 1 + 1]? = some O2 := by rw [b1.block _ (by omega) (by omega)]; exact hh3
  have hBl : Below w.heap.size w w1 := b1.below hB0 (by omega) hB0.size
  have hs1 : w.heap.size + 1 + 1 + 1 + 1 ≤ w1.heap.size := by have := b1.size; omega
  subst hO1 hO2
  clear b1 HC hB0 hh0 hh3 hW0
  have c1 : w1.cell? ⟨w.heap.size, 0, none⟩ = some (.map none) := by simp [World.cell?, e1]
  have c2 : w1.cell? ⟨w.heap.size, 1, none⟩ = some (.map none) := by simp [World.cell?, e1]
  have f1 : w1.frozen? ⟨w.heap.size, 0, none⟩ = false := by simp [World.frozen?, e1]
  have f2 : w1.frozen? ⟨w.heap.size, 1, none⟩ = false := by simp [World.frozen?, e1]
  have c3 : w1.cell? ⟨w.heap.size + 1 + 1 + 1, 0, none⟩ = some (.map (some (w.heap.size + 1))) := by simp [World.cell?, e3]
  have c4 : w1.cell? ⟨w.heap.size + 1 + 1 + 1, 1, none⟩ = some (.map (some (w.heap.size + 1 + 1))) := by simp [World.cell?, e3]
  clear e1 e3
  have r2 : ∀ x y : Value, ((w1.setCell ⟨w.heap.size, 0, none⟩ x).setCell ⟨w.heap.size, 1, none⟩ y).cell? ⟨w.heap.size, 1, none⟩ = some y := fun x y =>
    World.cell?_setCell_same _ _ _ (u := .map none) ((World.cell?_setCell_other w1 ⟨w.heap.size, 0, none⟩ ⟨w.heap.size, 1, none⟩ x (by simp)).trans c2)
  have r1 : ∀ x y : Value, ((w1.setCell ⟨w.heap.size, 0, none⟩ x).setCell ⟨w.heap.size, 1, none⟩ y).cell? ⟨w.heap.size, 0, none⟩ = some x := fun x y =>
    (World.cell?_setCell_other _ ⟨w.heap.size, 1, none⟩ ⟨w.heap.size, 0, none⟩ y (by simp)).trans (World.cell?_setCell_same _ _ _ (u := .map none) c1)
  go_wp2
  refine bodyPost_ret (v := .agg #[.map (some (w.heap.size + 1)), .map (some (w.heap.size + 1 + 1))]) (by simp [results, Try.results68, go_sem, r1, r2]) rfl ?_
  have hbb : ∀ x y : Value, Below w.heap.size w ((w1.setCell ⟨w.heap.size, 0, none⟩ x).setCell ⟨w.heap.size, 1, none⟩ y) := fun x y => (hBl.setCell (p := ⟨w.heap.size, 0, none⟩) (Nat.le_refl _) x).setCell (p := ⟨w.heap.size, 1, none⟩) (Nat.le_refl _) y
  refine ⟨rfl, ?_, hbb _ _⟩
  have hk : ∀ x y : Value, w1.grownBy ((w1.setCell ⟨w.heap.size, 0, none⟩ x).setCell ⟨w.heap.size, 1, none⟩ y) (some w.heap.size) := fun x y =>
    ⟨rfl, rfl, rfl, by simp, fun k hk hne => (Below.heap_setCell _ ⟨w.heap.size, 1, none⟩ y k (fun e => hne (congrArg some e))).trans (Below.heap_setCell w1 ⟨w.heap.size, 0, none⟩ x k (fun e => hne (congrArg some e)))⟩
  exact ⟨t1.1.kept (hk _ _) (by simp), t1.2.kept (hk _ _) (by simp; omega)⟩
theorem neq_count {H : Type} (W : World) (x y : Value) (xd yd : DataW H) (xp yp : List MemPlace) (hx : plainElem Try.prog 2 x = some (xd, xp)) (hy : plainElem Try.prog 2 y = some (yd, yp)) :
    (binOp .neq 2 x y).run Try.prog W = .ok (.bool (!sameN xd yd)) W ∧ ∀ (a b : Operand), (eqGuard .neq 2 a b x y).run Try.prog W = .ok () W := by
  obtain ⟨a, rfl, h1, _⟩ := plainElem_int_inv Try.underlying2 hx
  obtain ⟨b, rfl, h2, _⟩ := plainElem_int_inv Try.underlying2 hy
  obtain rfl : xd = .lit (.int .i64 a) := by simpa using (congrArg Prod.fst h1)
  obtain rfl : yd = .lit (.int .i64 b) := by simpa using (congrArg Prod.fst h2)
  refine ⟨?_, fun _ _ => by rw [eqGuard_at_int]; rfl⟩
  simp [go_sem, sameN, binOp]
  rfl

theorem mapsEqual_any (K n : Nat) (xs ys : List Int) (w : World) (h : Two w K n xs ys) :
    Calls Try.prog 73 #[.map (some K), .map (some (K + 1))] w fun e w' => e = .returned (.bool (Lib.equalFuncD sameN (cntD (H := Unit) xs) (cntD ys))) ∧ w.grownBy w' none :=
  AnyEq.maps_Equal_opt Try.layMEq law64 (plainElem Try.prog 2) (plainElem Try.prog 2) sameN (some K) (some (K + 1)) _ _ w (.inr ⟨K, n, rfl, h.1⟩) (.inr ⟨K + 1, n, rfl, h.2⟩) (.int .i64 0) Try.zeroValue2 (.lit (.int .i64 0)) [] (plainElem_int Try.underlying2 (by decide)) neq_count

theorem validMulti_bad (v : Value) (E : TypeId) (B C : Nat) (pss : List (List Int)) (w : World) (h : Grid E w B C v pss) (hs : Small pss) (hsh : shapeL pss = false) :
    Calls Try.prog 21 #[.agg #[v]] w fun e w' => e = .returned (.bool (okM pss)) ∧ Below w.heap.size w w' := by
  have hok : okM pss = false := by unfold okM; rw [hsh, Bool.false_and]
  rw [hok]
  have HL := fun W (hW : Below w.heap.size w W) => isListM_any v E B C pss W (h.below hW) hs
  rw [hsh] at HL
  clear h hs hsh hok
  go_enter Try.func21, Try.ntmps21
  go_wp2_with fail
  refine (HL _ (below_alM (Below.refl _ _) _)).mono ?_
  rintro e w1 ⟨rfl, b1⟩
  replace b1 := (below_alM (Below.refl w.heap.size w) _).trans (b1.mono (by simp))
  go_wp2
  go_ret
  exact ⟨rfl, b1⟩

set_option maxRecDepth 10000 in
theorem validMulti_row (g cap n : Nat) (E : TypeId) (B C : Nat) (pss : List (List Int)) (w : World) (h : Grid E w B C (.slice (some ⟨g, 0, none⟩) n cap) pss) (hn : n = pss.length) (hg : g < w.heap.size) (hs : Small pss) (hsh : shapeL pss = true) :
    Calls Try.prog 21 #[.agg #[.slice (some ⟨g, 0, none⟩) n cap]] w fun e w' => e = .returned (.bool (okM pss)) ∧ Below w.heap.size w w' := by
  have HL := fun W (hW : Below w.heap.size w W) => isListM_any _ E B C pss W (h.below hW) hs
  rw [hsh] at HL
  have hn2 : n ≤ 12 := by rw [hn]; exact (shapeL_num hsh).2
  have HC := fun W (hW : Below w.heap.size w W) => count_row g cap n pss W hn hn2 (by have := hW.size; omega) fun i hi => shape_rows (h.below hW) hsh i (by omega)
  have HM : ∀ W K m, Two W K m ((propsTo pss n).map Prod.fst) ((propsTo pss n).map Prod.snd) → Calls Try.prog 73 #[.map (some K), .map (some (K + 1))] W fun e w' => e = .returned (.bool (okM pss)) ∧ Below W.heap.size W w' := fun W K m hT => by
    refine (mapsEqual_any K m _ _ W hT).mono ?_
    rintro e w' ⟨rfl, hg⟩
    refine ⟨?_, ⟨hg.os, hg.tape, hg.output, hg.size, fun k hk => hg.block k hk (by simp)⟩⟩
    have e1 := okM_maps (H := Unit) hsh (by have := hT.1.canon law64; rw [hn] at this; exact this) (by have := hT.2.canon law64; rw [hn] at this; exact this)
    rw [← e1, hn]
    rfl
  generalize okM pss = r at *
  generalize propsTo pss n = ps at *
  clear h hs hsh hn hn2
  go_enter Try.func21, Try.ntmps21
  go_wp2_with fail
  refine (HL _ (below_alM (Below.refl _ _) _)).mono ?_
  rintro e w1 ⟨rfl, b1⟩
  replace b1 := (below_alM (Below.refl w.heap.size w) _).trans (b1.mono (by simp))
  clear HL
  go_wp2_with fail
  refine (HC w1 b1).mono ?_
  rintro e w2 ⟨rfl, t2, b2⟩
  replace b2 := b1.trans (b2.mono b1.size)
  clear HC b1
  go_wp2_with fail
  refine (HM _ (w1.heap.size + 1) _ (Two.keep t2 ((Below.refl _ _).alloc (Nat.le_refl _) _))).mono ?_
  rintro e w3 ⟨rfl, b3⟩
  replace b3 : Below w.heap.size w w3 := (b2.alloc b2.size _).trans (b3.mono (by have := b2.size; simp; omega))
  clear HM b2 t2
  go_wp2
  go_ret
  exact ⟨rfl, b3⟩

/-- ValidMulti: the beats are in their order, and at each beat as many props land as are thrown -/
theorem validMulti_impl (v : Value) (E : TypeId) (B C : Nat) (pss : List (List Int)) (w : World) (h : Grid E w B C v pss) (hs : Small pss) :
    Calls Try.prog 21 #[.agg #[v]] w fun e w' => e = .returned (.bool (okM pss)) ∧ Below w.heap.size w w' := by
  cases hsh : shapeL pss with
  | false => exact validMulti_bad v E B C pss w h hs hsh
  | true =>
    have h1 := (shapeL_num hsh).1
    obtain ⟨g, cap, rfl, _, hg, _, hm⟩ := h.shape.resolve_left fun e => by rw [e.2] at h1; simp at h1
    exact validMulti_row g cap pss.length E B C pss w h rfl hg hs hsh
end Go.Proofs.Ytgjmhihomklooaa
