/- Multiplex: SameMulti, the model's and the program's, answers whether two patterns are equal. No conditions. -/
import Derived.Test.YtmnkfflmljeokaaValidM
import Derived.Deep.RegionHeld3
namespace Go.Proofs.Ytmnkfflmljeokaa
open Go.RowKit
set_option linter.unusedSimpArgs false
set_option linter.unusedVariables false

def sameG (p q : List (List Int)) : Bool := decide (p = q)
theorem rows_ext {a b : List (List Int)} (hl : a.length = b.length) (h : ∀ i, i < a.length → a.getD i [] = b.getD i []) : a = b := by
  apply List.ext_getElem hl
  intro i h1 h2
  have := h i h1
  simpa [h1, h2] using this
theorem sameG_bad {p q : List (List Int)} (i : Nat) (h : p.getD i [] ≠ q.getD i []) : sameG p q = false := by
  unfold sameG
  rw [decide_eq_false_iff_not]
  rintro rfl
  exact h rfl
theorem sameG_good {p q : List (List Int)} (hl : p.length = q.length) (h : ∀ i, i < p.length → p.getD i [] = q.getD i []) : sameG p q = true := decide_eq_true (rows_ext hl h)
theorem sameG_len {p q : List (List Int)} (hl : p.length ≠ q.length) : sameG p q = false := by
  unfold sameG
  rw [decide_eq_false_iff_not]
  rintro rfl
  exact hl rfl

theorem Grid.open {E : TypeId} {w : World} {B C : Nat} {v : Value} {pss : List (List Int)} (h : Grid E w B C v pss) : ∃ a c, v = .slice a pss.length c ∧ (pss.length = 0 ∨ ∃ g, a = some ⟨g, 0, none⟩ ∧ g < w.heap.size ∧ ∀ i, i < pss.length → ∃ u, w.cell? ⟨g, i, none⟩ = some u ∧ Ints w B u (pss.getD i [])) := by
  rcases h.shape with ⟨rfl, rfl⟩ | ⟨g, cap, rfl, _, hg, _, _⟩
  · exact ⟨_, _, rfl, .inl rfl⟩
  · refine ⟨_, _, rfl, .inr ⟨g, rfl, hg, fun i hi => ?_⟩⟩
    obtain ⟨u, h1, h2, _⟩ := h.row i hi
    exact ⟨u, h1, h2⟩

set_option maxRecDepth 10000 in
theorem sameMulti_specL (a b : Option Addr) (n m c c' : Nat) (w : World) (hm : n ≤ 9223372036854775807) (hm' : m ≤ 9223372036854775807) (hne : n ≠ m) :
    Calls Try.prog 25 #[.agg #[.slice a n c], .agg #[.slice b m c']] w fun e w' => e = .returned (.bool false) ∧ Below w.heap.size w w' := by
  have hl' : ((n : Int) != (m : Int)) = true := by simp; omega
  go_enter Try.func25, Try.ntmps25
  go_wp2
  go_ret
  exact ⟨rfl, below_alM (below_alM (Below.refl _ _) _) _⟩

set_option maxRecDepth 10000 in
theorem sameMulti_spec0 (a b : Option Addr) (c c' : Nat) (w : World) :
    Calls Try.prog 25 #[.agg #[.slice a 0 c], .agg #[.slice b 0 c']] w fun e w' => e = .returned (.bool true) ∧ Below w.heap.size w w' := by
  go_enter Try.func25, Try.ntmps25
  go_wp2
  refine wp_loop_rounds 1 ?_
  rw [rounds_succ]
  go_wp2
  go_ret
  exact ⟨rfl, below_alM (below_alM (Below.refl _ _) _) _⟩
set_option maxRecDepth 10000 in
set_option maxHeartbeats 1000000 in
theorem sameMulti_specR (g g' n c c' B B' : Nat) (pss qss : List (List Int)) (w : World) (hm : n ≤ 9223372036854775807) (hg : g < w.heap.size) (hg' : g' < w.heap.size)
    (hbad : ∀ i, i < n → pss.getD i [] ≠ qss.getD i [] → sameG pss qss = false) (hgood : (∀ i, i < n → pss.getD i [] = qss.getD i []) → sameG pss qss = true)
    (h1 : ∀ i, i < n → ∃ u, w.cell? ⟨g, i, none⟩ = some u ∧ Ints w B u (pss.getD i [])) (h2 : ∀ i, i < n → ∃ u, w.cell? ⟨g', i, none⟩ = some u ∧ Ints w B' u (qss.getD i [])) :
    Calls Try.prog 25 #[.agg #[.slice (some ⟨g, 0, none⟩) n c], .agg #[.slice (some ⟨g', 0, none⟩) n c']] w fun e w' => e = .returned (.bool (sameG pss qss)) ∧ Below w.heap.size w w' := by
  have hnn : ((n : Int) != (n : Int)) = false := by simp
  have H1 := Lib.hid h1
  have H2 := Lib.hid h2
  have HBAD := Lib.hid hbad
  have HGOOD := Lib.hid hgood
  clear h1 h2 hbad hgood
  obtain ⟨O1, hO1⟩ : ∃ o, o = Obj.cells #[.slice (some ⟨g, 0, none⟩) n c] 26 := ⟨_, rfl⟩
  obtain ⟨O2, hO2⟩ : ∃ o, o = Obj.cells #[.slice (some ⟨g', 0, none⟩) n c'] 26 := ⟨_, rfl⟩
  have hB0 : Below w.heap.size w ((w.alloc O1).alloc O2) := below_alM (below_alM (Below.refl _ _) _) _
  have hs0 : w.heap.size + 1 < ((w.alloc O1).alloc O2).heap.size := by simp
  have k1 : ((w.alloc O1).alloc O2).cell? ⟨w.heap.size, 0, none⟩ = some (.slice (some ⟨g, 0, none⟩) n c) := by rw [hO1]; simp
  have k2 : ((w.alloc O1).alloc O2).cell? ⟨w.heap.size + 1, 0, none⟩ = some (.slice (some ⟨g', 0, none⟩) n c') := by rw [hO2]; simp
  go_enter Try.func25, Try.ntmps25
  go_wp2
  rw [← hO1, ← hO2]
  generalize (w.alloc O1).alloc O2 = w0 at *
  clear hO1 hO2
  go_loopw [5] (fun i wr => ∃ k : Nat, k ≤ n ∧ i = .int .i64 k ∧ Hid (∀ j, j < k → pss.getD j [] = qss.getD j []) ∧ Below w0.heap.size w0 wr) (fun i _ => n - (intOf i).toNat)
  case atStart => exact ⟨0, Nat.zero_le _, rfl, fun j hj => absurd hj (Nat.not_lt_zero _), Below.refl _ _⟩
  case round =>
    obtain ⟨i, hi, rfl, hall, hb⟩ := hrel
    have hbw : Below w.heap.size w wr := hB0.trans (hb.mono hB0.size)
    have e1 : wr.cell? ⟨w.heap.size, 0, none⟩ = some (.slice (some ⟨g, 0, none⟩) n c) := (hb.cell (p := ⟨w.heap.size, 0, none⟩) (by show w.heap.size < _; omega)).trans k1
    have e2 : wr.cell? ⟨w.heap.size + 1, 0, none⟩ = some (.slice (some ⟨g', 0, none⟩) n c') := (hb.cell (p := ⟨w.heap.size + 1, 0, none⟩) (by show w.heap.size + 1 < _; omega)).trans k2
    by_cases hlt : i < n
    · obtain ⟨u, hu, i1⟩ := H1.out i hlt
      obtain ⟨u', hu', i2⟩ := H2.out i hlt
      have e3 : wr.cell? ⟨g, i, none⟩ = some u := (hbw.cell (p := ⟨g, i, none⟩) hg).trans hu
      have e4 : wr.cell? ⟨g', i, none⟩ = some u' := (hbw.cell (p := ⟨g', i, none⟩) hg').trans hu'
      have hr : sameL (pss.getD i []) (qss.getD i []) = true → ∀ j, j < i + 1 → pss.getD j [] = qss.getD j [] := fun h j hj => by
        by_cases e : j = i
        · subst e; simpa [sameL] using h
        · exact hall.out j (by omega)
      have hr2 : sameL (pss.getD i []) (qss.getD i []) = false → sameG pss qss = false := fun h => HBAD.out i hlt (by simpa [sameL] using h)
      have HR := Lib.hid hr
      have HR2 := Lib.hid hr2
      have HC : ∀ W, Below wr.heap.size wr W → Calls Try.prog 65 #[u, u'] W fun e w' => e = .returned (.bool (sameL (pss.getD i []) (qss.getD i []))) ∧ Below wr.heap.size wr w' ∧ w'.cell? ⟨w.heap.size, 0, none⟩ = some (.slice (some ⟨g, 0, none⟩) n c) ∧ w'.cell? ⟨w.heap.size + 1, 0, none⟩ = some (.slice (some ⟨g', 0, none⟩) n c') ∧ w'.cell? ⟨g, i, none⟩ = some u ∧ w'.cell? ⟨g', i, none⟩ = some u' := fun W hW => by
        refine (l00Same_any u u' _ _ _ _ W (i1.below (hbw.trans (hW.mono hbw.size))) (i2.below (hbw.trans (hW.mono hbw.size)))).mono ?_
        rintro e w1 ⟨rfl, hb1⟩
        have hb2 := hW.trans (hb1.mono hW.size)
        have := hb.size
        have := hbw.size
        exact ⟨rfl, hb2, (hb2.cell (p := ⟨w.heap.size, 0, none⟩) (by show w.heap.size < _; omega)).trans e1, (hb2.cell (p := ⟨w.heap.size + 1, 0, none⟩) (by show w.heap.size + 1 < _; omega)).trans e2, (hb2.cell (p := ⟨g, i, none⟩) (by show g < _; omega)).trans e3, (hb2.cell (p := ⟨g', i, none⟩) (by show g' < _; omega)).trans e4⟩
      generalize sameL (pss.getD i []) (qss.getD i []) = r at *
      have HCC := Lib.hid HC
      clear HC hr hr2 hall i1 i2 hu hu' k1 k2
      cases r with
      | true =>
        have HN := Lib.hid (HR.out rfl)
        clear HR HR2
        go_wp2
        go_region_held3 (fun W => Below wr.heap.size wr W ∧ W.cell? ⟨w.heap.size, 0, none⟩ = some (.slice (some ⟨g, 0, none⟩) n c) ∧ W.cell? ⟨w.heap.size + 1, 0, none⟩ = some (.slice (some ⟨g', 0, none⟩) n c') ∧ W.cell? ⟨g, i, none⟩ = some u ∧ W.cell? ⟨g', i, none⟩ = some u') (first | exact ⟨by assumption, by assumption, by assumption, by assumption, by assumption⟩ | exact ⟨Below.drew (by assumption), by assumption, by assumption, by assumption, by assumption⟩ | exact ⟨Below.refl _ _, by assumption, by assumption, by assumption, by assumption⟩ | exact ⟨Below.drew (Below.refl _ _), by assumption, by assumption, by assumption, by assumption⟩) (first | (go_at_call 65; (with_reducible refine (HCC.out _ ?_).mono ?_); (first | assumption | exact Below.drew (by assumption) | exact Below.refl _ _ | exact Below.drew (Below.refl _ _)); rintro e w1 ⟨rfl, hb1, hx1, hy1, hz1, ht1⟩))
        go_wp2
        go_roundw
        case rel => exact ⟨i + 1, by omega, by go_num, HN, hb.trans (hb1.mono hb.size)⟩
        case measure => simp [intOf]; omega
      | false =>
        have HN := Lib.hid (HR2.out rfl)
        clear HR HR2
        go_wp2
        go_region_held3 (fun W => Below wr.heap.size wr W ∧ W.cell? ⟨w.heap.size, 0, none⟩ = some (.slice (some ⟨g, 0, none⟩) n c) ∧ W.cell? ⟨w.heap.size + 1, 0, none⟩ = some (.slice (some ⟨g', 0, none⟩) n c') ∧ W.cell? ⟨g, i, none⟩ = some u ∧ W.cell? ⟨g', i, none⟩ = some u') (first | exact ⟨by assumption, by assumption, by assumption, by assumption, by assumption⟩ | exact ⟨Below.drew (by assumption), by assumption, by assumption, by assumption, by assumption⟩ | exact ⟨Below.refl _ _, by assumption, by assumption, by assumption, by assumption⟩ | exact ⟨Below.drew (Below.refl _ _), by assumption, by assumption, by assumption, by assumption⟩) (first | (go_at_call 65; (with_reducible refine (HCC.out _ ?_).mono ?_); (first | assumption | exact Below.drew (by assumption) | exact Below.refl _ _ | exact Below.drew (Below.refl _ _)); rintro e w1 ⟨rfl, hb1, hx1, hy1, hz1, ht1⟩))
        go_wp2
        go_ret
        exact ⟨by rw [HN.out]; rfl, hbw.trans (hb1.mono hbw.size)⟩
    · obtain rfl : i = n := by omega
      have HN := Lib.hid (HGOOD.out hall.out)
      clear k1 k2
      go_wp2
      go_ret
      exact ⟨by rw [HN.out]; rfl, hbw⟩

theorem sameMulti_spec (v : Value) (E : TypeId) (B C : Nat) (pss : List (List Int)) (u : Value) (E' : TypeId) (B' C' : Nat) (qss : List (List Int)) (w : World) (h : Grid E w B C v pss) (h' : Grid E' w B' C' u qss) :
    Calls Try.prog 25 #[.agg #[v], .agg #[u]] w fun e w' => e = .returned (.bool (sameG pss qss)) ∧ Below w.heap.size w w' := by
  have hm := h.len
  have hm' := h'.len
  obtain ⟨a, c, rfl, ho⟩ := h.open
  obtain ⟨a', c', rfl, ho'⟩ := h'.open
  by_cases hl : pss.length = qss.length
  · rcases ho with h0 | ⟨g, rfl, hg, hr⟩
    · have e : sameG pss qss = true := sameG_good hl fun i hi => by omega
      rw [e, ← hl, h0]
      exact sameMulti_spec0 _ _ _ _ _
    · rcases ho' with h0 | ⟨g', rfl, hg', hr'⟩
      · have e : sameG pss qss = true := sameG_good hl fun i hi => by omega
        rw [e, hl, h0]
        exact sameMulti_spec0 _ _ _ _ _
      · rw [← hl]
        exact sameMulti_specR g g' _ c c' B B' pss qss w hm hg hg' (fun i _ hne => sameG_bad i hne) (fun hh => sameG_good hl hh) hr (fun i hi => hr' i (by omega))
  · rw [sameG_len hl]
    exact sameMulti_specL _ _ _ _ _ _ w hm hm' hl

/-! ### the program's -/
set_option maxRecDepth 10000 in
theorem equalFunc_len (a b : Option Addr) (n m c c' : Nat) (w : World) (hm : n ≤ 9223372036854775807) (hm' : m ≤ 9223372036854775807) (hne : n ≠ m) :
    Calls Try.prog 77 #[.slice a n c, .slice b m c', .func (.func 78) #[] #[]] w fun e w' => e = .returned (.bool false) ∧ Below w.heap.size w w' := by
  have hl' : ((n : Int) != (m : Int)) = true := by simp; omega
  go_enter Try.func77, Try.ntmps77
  go_wp2
  go_ret
  exact ⟨rfl, Below.refl _ _⟩

set_option maxRecDepth 10000 in
theorem equalFunc_zero (a b : Option Addr) (c c' : Nat) (w : World) :
    Calls Try.prog 77 #[.slice a 0 c, .slice b 0 c', .func (.func 78) #[] #[]] w fun e w' => e = .returned (.bool true) ∧ Below w.heap.size w w' := by
  go_enter Try.func77, Try.ntmps77
  go_wp2
  refine wp_loop_rounds 1 ?_
  rw [rounds_succ]
  go_wp2
  go_ret
  exact ⟨rfl, Below.refl _ _⟩

set_option maxRecDepth 10000 in
set_option maxHeartbeats 1000000 in
theorem equalFunc_row (g g' n c c' B B' : Nat) (pss qss : List (List Int)) (w : World) (hm : n ≤ 9223372036854775807) (hg : g < w.heap.size) (hg' : g' < w.heap.size)
    (hbad : ∀ i, i < n → pss.getD i [] ≠ qss.getD i [] → sameG pss qss = false) (hgood : (∀ i, i < n → pss.getD i [] = qss.getD i []) → sameG pss qss = true)
    (h1 : ∀ i, i < n → ∃ u, w.cell? ⟨g, i, none⟩ = some u ∧ Ints w B u (pss.getD i [])) (h2 : ∀ i, i < n → ∃ u, w.cell? ⟨g', i, none⟩ = some u ∧ Ints w B' u (qss.getD i [])) :
    Calls Try.prog 77 #[.slice (some ⟨g, 0, none⟩) n c, .slice (some ⟨g', 0, none⟩) n c', .func (.func 78) #[] #[]] w fun e w' => e = .returned (.bool (sameG pss qss)) ∧ Below w.heap.size w w' := by
  have hnn : ((n : Int) != (n : Int)) = false := by simp
  have H1 := Lib.hid h1
  have H2 := Lib.hid h2
  have HBAD := Lib.hid hbad
  have HGOOD := Lib.hid hgood
  clear h1 h2 hbad hgood
  go_enter Try.func77, Try.ntmps77
  go_wp2
  go_loopw [17] (fun i wr => ∃ k : Nat, k ≤ n ∧ i = .int .i64 k ∧ Hid (∀ j, j < k → pss.getD j [] = qss.getD j []) ∧ Below w.heap.size w wr) (fun i _ => n - (intOf i).toNat)
  case atStart => exact ⟨0, Nat.zero_le _, rfl, fun j hj => absurd hj (Nat.not_lt_zero _), Below.refl _ _⟩
  case round =>
    obtain ⟨i, hi, rfl, hall, hb⟩ := hrel
    by_cases hlt : i < n
    · obtain ⟨u, hu, i1⟩ := H1.out i hlt
      obtain ⟨u', hu', i2⟩ := H2.out i hlt
      have e3 : wr.cell? ⟨g, i, none⟩ = some u := (hb.cell (p := ⟨g, i, none⟩) hg).trans hu
      have e4 : wr.cell? ⟨g', i, none⟩ = some u' := (hb.cell (p := ⟨g', i, none⟩) hg').trans hu'
      have hr : sameL (pss.getD i []) (qss.getD i []) = true → ∀ j, j < i + 1 → pss.getD j [] = qss.getD j [] := fun h j hj => by
        by_cases e : j = i
        · subst e; simpa [sameL] using h
        · exact hall.out j (by omega)
      have hr2 : sameL (pss.getD i []) (qss.getD i []) = false → sameG pss qss = false := fun h => HBAD.out i hlt (by simpa [sameL] using h)
      have HR := Lib.hid hr
      have HR2 := Lib.hid hr2
      have HC := equalI64_any u u' _ _ _ _ wr (i1.below hb) (i2.below hb)
      generalize sameL (pss.getD i []) (qss.getD i []) = r at *
      clear hr hr2 hall i1 i2 hu hu'
      cases r with
      | true =>
        have HN := Lib.hid (HR.out rfl)
        clear HR HR2
        go_wp2_with fail
        refine HC.mono ?_
        rintro e w1 ⟨rfl, hb1⟩
        go_wp2
        go_roundw
        case rel => exact ⟨i + 1, by omega, by go_num, HN, hb.trans (hb1.mono hb.size)⟩
        case measure => simp [intOf]; omega
      | false =>
        have HN := Lib.hid (HR2.out rfl)
        clear HR HR2
        go_wp2_with fail
        refine HC.mono ?_
        rintro e w1 ⟨rfl, hb1⟩
        go_wp2
        go_ret
        exact ⟨by rw [HN.out]; rfl, hb.trans (hb1.mono hb.size)⟩
    · obtain rfl : i = n := by omega
      have HN := Lib.hid (HGOOD.out hall.out)
      go_wp2
      go_ret
      exact ⟨by rw [HN.out]; rfl, hb⟩

theorem equalFunc_any (v : Value) (E : TypeId) (B C : Nat) (pss : List (List Int)) (u : Value) (E' : TypeId) (B' C' : Nat) (qss : List (List Int)) (w : World) (h : Grid E w B C v pss) (h' : Grid E' w B' C' u qss) :
    Calls Try.prog 77 #[v, u, .func (.func 78) #[] #[]] w fun e w' => e = .returned (.bool (sameG pss qss)) ∧ Below w.heap.size w w' := by
  have hm := h.len
  have hm' := h'.len
  obtain ⟨a, c, rfl, ho⟩ := h.open
  obtain ⟨a', c', rfl, ho'⟩ := h'.open
  by_cases hl : pss.length = qss.length
  · rcases ho with h0 | ⟨g, rfl, hg, hr⟩
    · have e : sameG pss qss = true := sameG_good hl fun i hi => by omega
      rw [e, ← hl, h0]
      exact equalFunc_zero _ _ _ _ _
    · rcases ho' with h0 | ⟨g', rfl, hg', hr'⟩
      · have e : sameG pss qss = true := sameG_good hl fun i hi => by omega
        rw [e, hl, h0]
        exact equalFunc_zero _ _ _ _ _
      · rw [← hl]
        exact equalFunc_row g g' _ c c' B B' pss qss w hm hg hg' (fun i _ hne => sameG_bad i hne) (fun hh => sameG_good hl hh) hr (fun i hi => hr' i (by omega))
  · rw [sameG_len hl]
    exact equalFunc_len _ _ _ _ _ _ w hm hm' hl

set_option maxRecDepth 10000 in
theorem sameMulti_impl (v : Value) (E : TypeId) (B C : Nat) (pss : List (List Int)) (u : Value) (E' : TypeId) (B' C' : Nat) (qss : List (List Int)) (w : World) (h : Grid E w B C v pss) (h' : Grid E' w B' C' u qss) (_hs : Small pss) (_hs' : Small qss) :
    Calls Try.prog 38 #[.agg #[v], .agg #[u]] w fun e w' => e = .returned (.bool (sameG pss qss)) ∧ Below w.heap.size w w' := by
  have HL := fun W (hW : Below w.heap.size w W) => equalFunc_any v E B C pss u E' B' C' qss W (h.below hW) (h'.below hW)
  generalize sameG pss qss = r at *
  clear h h'
  go_enter Try.func38, Try.ntmps38
  go_wp2_with fail
  refine (HL _ (below_alM (below_alM (Below.refl _ _) _) _)).mono ?_
  rintro e w1 ⟨rfl, b1⟩
  replace b1 := (below_alM (below_alM (Below.refl w.heap.size w) _) _).trans (b1.mono (by simp; omega))
  go_wp2
  go_ret
  exact ⟨rfl, b1⟩
end Go.Proofs.Ytmnkfflmljeokaa
