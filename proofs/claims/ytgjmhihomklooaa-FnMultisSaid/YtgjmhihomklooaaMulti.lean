/- The laws' own helpers on a struct of one slice of slices of numbers (Multi): szMulti, toMulti, eqMulti, markMulti, heldMulti. Conditions: bounds on lengths. -/
import Derived.Test.YtgjmhihomklooaaGridsB
namespace Go.Proofs.Ytgjmhihomklooaa
open Go.RowKit
set_option linter.unusedSimpArgs false
set_option linter.unusedVariables false

theorem heap_far (w : World) (p : Addr) (v : Value) (k : Nat) (h : p.block < k) : (w.setCell p v).heap[k]? = w.heap[k]? := Below.heap_setCell w p v k (by omega)
theorem below_al {w a : World} (h : Below w.heap.size w a) (o : Obj) : Below w.heap.size w (a.alloc o) := h.alloc h.size o
theorem szMulti_any (a : Option Addr) (len cap : Nat) (A : Nat → Option Addr) (L C : Nat → Nat) (Z : Nat → List Int) (left : Int) (w : World) (h : IsRows w a len cap A L C Z) (h0 : 0 ≤ left) (h1 : left ≤ 1048576) :
    Calls Try.prog 100 #[.agg #[.slice a len cap], .int .i64 left] w fun e w' =>
      ∃ r, e = .returned (.int .i64 r) ∧ (r = -1 ∨ (0 ≤ r ∧ r = left - len - totL (rowsL len L Z))) ∧ Below w.heap.size w w' := by
  have HC := fun W (hW : Below w.heap.size w W) => szInt64SS_any a len cap A L C Z left W (h.below hW) h0 h1
  generalize totL (rowsL len L Z) = t at *
  clear h
  go_enter Try.func100, Try.ntmps100
  go_wp2_with fail
  refine (HC _ ((Below.refl _ _).alloc (Nat.le_refl _) _)).mono ?_
  rintro e w1 ⟨r, rfl, hr, hb⟩
  replace hb : Below w.heap.size w w1 := ((Below.refl _ _).alloc (Nat.le_refl _) _).trans (hb.mono (by simp))
  rcases hr with rfl | ⟨hr0, hr⟩
  · go_wp2
    go_ret
    exact ⟨_, rfl, .inl rfl, hb⟩
  · have HR := Lib.hid hr
    clear hr
    go_wp2
    go_ret
    exact ⟨_, rfl, .inr ⟨hr0, HR.out⟩, hb⟩

theorem toMulti_any (a : Option Addr) (len cap : Nat) (A : Nat → Option Addr) (L C : Nat → Nat) (Z : Nat → List Int) (w : World) (h : IsRows w a len cap A L C Z) (hbig : len ≤ 1048576) (hrows : ∀ r, r < len → L r ≤ 1048576) :
    Calls Try.prog 104 #[.agg #[.slice a len cap]] w fun e w' =>
      ∃ v, e = .returned (.agg #[v]) ∧ Grid 32 w' w.heap.size w'.heap.size v (rowsL len L Z) ∧ Below w.heap.size w w' := by
  have HC := fun W (hW : Below w.heap.size w W) => toInt64SS_any a len cap A L C Z W (h.below hW) hbig hrows
  generalize rowsL len L Z = R at *
  clear h hrows
  go_enter Try.func104, Try.ntmps104
  go_wp2_with fail
  refine (HC _ (below_al (below_al (below_al (Below.refl _ _) _) _) _)).mono ?_
  rintro e w1 ⟨rfl, hG, hb⟩
  have e1 : w1.heap[w.heap.size + 1]? = some (.cells #[.slice none 0 0] 26) := by
    rw [hb.block _ (by simp)]
    show (((w.heap.push _).push _).push _)[w.heap.size + 1]? = _
    simp [Array.getElem?_push, Array.getElem_push]
  have e2 : w1.heap[w.heap.size + 1 + 1]? = some (.cells #[.slice none 0 0] 26) := by
    rw [hb.block _ (by simp)]
    show (((w.heap.push _).push _).push _)[w.heap.size + 1 + 1]? = _
    simp [Array.getElem?_push, Array.getElem_push]
  have hc1 : w1.cell? ⟨w.heap.size + 1, 0, none⟩ = some (.slice none 0 0) := by simp [World.cell?, e1]
  have hc2 : w1.cell? ⟨w.heap.size + 1 + 1, 0, none⟩ = some (.slice none 0 0) := by simp [World.cell?, e2]
  have hf1 : w1.frozen? ⟨w.heap.size + 1, 0, none⟩ = false := by simp [World.frozen?, e1]
  have hf2 : w1.frozen? ⟨w.heap.size + 1 + 1, 0, none⟩ = false := by simp [World.frozen?, e2]
  clear e1 e2
  have hres : ∀ x y : Value, ((w1.setCell ⟨w.heap.size + 1 + 1, 0, none⟩ x).setCell ⟨w.heap.size + 1, 0, none⟩ y).cell? ⟨w.heap.size + 1, 0, none⟩ = some y := fun x y => by
    exact World.cell?_setCell_same _ _ _ (u := .slice none 0 0) ((World.cell?_setCell_far w1 ⟨w.heap.size + 1 + 1, 0, none⟩ ⟨w.heap.size + 1, 0, none⟩ x (by simp)).trans hc1)
  go_wp2
  refine bodyPost_ret (v := .agg #[.slice (some ⟨w.heap.size + 1 + 1 + 1, 0, none⟩) len len]) (by simp [results, Try.results104, go_sem, hres]) rfl ?_
  have hW2 : ∀ x y : Value, Below (w.heap.size + 1) w1 ((w1.setCell ⟨w.heap.size + 1 + 1, 0, none⟩ x).setCell ⟨w.heap.size + 1, 0, none⟩ y) := fun x y => (((Below.refl _ _).setCell (p := ⟨w.heap.size + 1 + 1, 0, none⟩) (by simp) x).setCell (p := ⟨w.heap.size + 1, 0, none⟩) (by simp) y)
  have hG' : Grid 32 w1 (w.heap.size + 1 + 1 + 1) w1.heap.size (.slice (some ⟨w.heap.size + 1 + 1 + 1, 0, none⟩) len len) R := by simpa using hG
  refine ⟨_, rfl, ?_, ?_⟩
  · have hk : ∀ x y : Value, Grid 32 ((w1.setCell ⟨w.heap.size + 1 + 1, 0, none⟩ x).setCell ⟨w.heap.size + 1, 0, none⟩ y) (w.heap.size + 1 + 1 + 1) w1.heap.size (.slice (some ⟨w.heap.size + 1 + 1 + 1, 0, none⟩) len len) R := fun x y => hG'.keep fun k hk h1 h2 => by
      exact (heap_far _ ⟨w.heap.size + 1, 0, none⟩ y k (by show w.heap.size + 1 < k; omega)).trans (heap_far w1 ⟨w.heap.size + 1 + 1, 0, none⟩ x k (by show w.heap.size + 1 + 1 < k; omega))
    exact (hk _ _).widen (by omega) (by simp)
  · have hw : Below w.heap.size w w1 := (below_al (below_al (below_al (Below.refl _ _) _) _) _).trans (hb.mono (by simp; omega))
    exact hw.trans ((hW2 _ _).mono (by omega))

theorem eqMulti_any (v u : Value) (E : TypeId) (B B' C C' : Nat) (pss : List (List Int)) (w : World) (h : Grid E w B C v pss) (h' : Grid E w B' C' u pss) :
    Calls Try.prog 43 #[.agg #[v], .agg #[u]] w fun e w' => e = .returned (.bool true) ∧ Below w.heap.size w w' := by
  have HC := fun W (hW : Below w.heap.size w W) => eqInt64SS_any v u E B B' C C' pss W (h.below hW) (h'.below hW)
  clear h h'
  go_enter Try.func43, Try.ntmps43
  go_wp2_with fail
  refine (HC _ (below_al (below_al (Below.refl _ _) _) _)).mono ?_
  rintro e w1 ⟨rfl, hb⟩
  replace hb : Below w.heap.size w w1 := (below_al (below_al (Below.refl _ _) _) _).trans (hb.mono (by simp; omega))
  go_wp2
  go_ret
  exact ⟨rfl, hb⟩

theorem markMulti_any (v : Value) (E : TypeId) (hE : E ≠ 2) (B C : Nat) (pss : List (List Int)) (k0 : Int) (w : World) (h : Grid E w B C v pss) (hk0 : 0 ≤ k0) (hk1 : k0 + totL pss ≤ 100000000000) :
    Calls Try.prog 44 #[.agg #[v], .int .i64 k0] w fun e w' => e = .returned (.int .i64 (k0 + totL pss)) ∧ Grid E w' B C v (upsG k0 pss) ∧ Within B C w w' := by
  have HC := fun W (hW : Below w.heap.size w W) => markInt64SS_any v E hE B C pss k0 W (h.below hW) hk0 hk1
  generalize totL pss = t at *
  generalize upsG k0 pss = q at *
  clear h
  go_enter Try.func44, Try.ntmps44
  go_wp2_with fail
  refine (HC _ ((Below.refl _ _).alloc (Nat.le_refl _) _)).mono ?_
  rintro e w1 ⟨rfl, hG, hb⟩
  replace hb : Within B C w w1 := (Within.of_below ((Below.refl _ _).alloc (Nat.le_refl _) _) B C).trans hb
  go_wp2
  go_ret
  exact ⟨rfl, hG, hb⟩

theorem heldMulti_any (v : Value) (E : TypeId) (B C : Nat) (pss : List (List Int)) (k0 : Int) (w : World) (h : Grid E w B C v (upsG k0 pss)) (hk0 : 0 ≤ k0) (hk1 : k0 + totL pss ≤ 100000000000) :
    Calls Try.prog 45 #[.agg #[v], .int .i64 k0] w fun e w' => e = .returned (.int .i64 (k0 + totL pss)) ∧ Below w.heap.size w w' := by
  have HC := fun W (hW : Below w.heap.size w W) => heldInt64SS_any v E B C pss k0 W (h.below hW) hk0 hk1
  have hnn : 0 ≤ k0 + (totL pss : Int) := by omega
  generalize (totL pss : Int) = t at *
  clear h
  generalize k0 + t = m at *
  go_enter Try.func45, Try.ntmps45
  go_wp2_with fail
  refine (HC _ ((Below.refl _ _).alloc (Nat.le_refl _) _)).mono ?_
  rintro e w1 ⟨rfl, hb⟩
  replace hb : Below w.heap.size w w1 := ((Below.refl _ _).alloc (Nat.le_refl _) _).trans (hb.mono (by simp))
  go_wp2
  go_ret
  exact ⟨rfl, hb⟩
end Go.Proofs.Ytgjmhihomklooaa
