/- The program's rotated, root and canonical. Conditions: lists of 1 to 1000 numbers. -/
import Derived.Test.YtlpeigeadjojnaaJoined
import Derived.Test.YtlpeigeadjojnaaSame
import Derived.Deep.RegionWith
namespace Go.Proofs.Ytlpeigeadjojnaa
open Go.RowKit
set_option linter.unusedSimpArgs false
set_option linter.unusedVariables false

theorem Sees.alloc {w : World} {v : Value} {xs : List Int} (h : Sees w v xs) (o : Obj) : Sees (w.alloc o) v xs := h.below ((Below.refl _ _).alloc (Nat.le_refl _) o)
theorem Sees.drew {w : World} {v : Value} {xs : List Int} (h : Sees w v xs) : Sees w.drew v xs := h
/-- the throws behind a place, and those ahead of it -/
theorem Ints.drop_ {w : World} {B g cap : Nat} {p : List Int} (h : Ints w B (.slice (some ⟨g, 0, none⟩) p.length cap) p) (m : Nat) (hg : g < w.heap.size) (hc : p.length ≤ cap) (hm : cap ≤ 9223372036854775807) (hmn : m ≤ p.length) :
    Sees w (.slice (some ⟨g, m, none⟩) (p.length - m) (cap - m)) (p.drop m) := by
  refine ⟨g, m, cap - m, by simp, hg, by simp; omega, by omega, fun i hi => ?_⟩
  simp at hi
  rw [h.cell (m + i) (by omega)]
  simp [List.getD_eq_getElem?_getD]
theorem Ints.take_ {w : World} {B g cap : Nat} {p : List Int} (h : Ints w B (.slice (some ⟨g, 0, none⟩) p.length cap) p) (m : Nat) (hg : g < w.heap.size) (hc : p.length ≤ cap) (hm : cap ≤ 9223372036854775807) (hmn : m ≤ p.length) :
    Sees w (.slice (some ⟨g, 0, none⟩) m cap) (p.take m) := by
  have hl : (p.take m).length = m := by simp; omega
  refine ⟨g, 0, cap, by rw [hl], hg, by omega, by omega, fun i hi => ?_⟩
  rw [hl] at hi
  rw [Nat.zero_add, h.cell i (by omega)]
  simp [List.getD_eq_getElem?_getD, List.getElem?_take, hi]

theorem below_drew1 {B : Nat} {a w : World} (h : Below B a w) : Below B a w.drew := ⟨h.os, h.tape, h.output, h.size, h.block⟩
theorem rot_joined (g cap m B : Nat) (p : List Int) (w : World) (h : Ints w B (.slice (some ⟨g, 0, none⟩) p.length cap) p) (hg : g < w.heap.size) (hc : p.length ≤ cap) (hm : cap ≤ 9223372036854775807) (hmn : m < p.length) (h2 : p.length ≤ 1000) :
    Calls Try.prog 82 #[.slice (some ⟨g, m, none⟩) (p.length - m) (cap - m), .slice (some ⟨w.heap.size, 0, none⟩) 1 1] (w.alloc (.cells #[.slice (some ⟨g, 0, none⟩) m cap] 39)).drew
      fun e w' => ∃ u, e = .returned u ∧ Ints w' w.heap.size u (p.drop m ++ p.take m) ∧ Below w.heap.size w w' := by
  have b0 : Below w.heap.size w (w.alloc (.cells #[.slice (some ⟨g, 0, none⟩) m cap] 39)).drew := below_drew1 ((Below.refl _ _).alloc (Nat.le_refl _) _)
  have s1 := (h.drop_ m hg hc hm (by omega)).below b0
  have s2 := (h.take_ m hg hc hm (by omega)).below b0
  refine (joined_any _ _ (p.drop m) [p.take m] _ s1 (.inr ⟨w.heap.size, 1, rfl, by simp, by simp, fun i hi => ?_⟩) (by simp; omega) (by simp; omega)).mono ?_
  · obtain rfl : i = 0 := by simp at hi; omega
    exact ⟨_, (by show World.cell? (w.alloc _) _ = _; unfold World.cell?; rw [show (Addr.block ⟨w.heap.size, 0, none⟩) = w.heap.size from rfl, heap_alloc_new]; rfl), s2⟩
  · rintro e w' ⟨u, rfl, hi, hb⟩
    have hs := b0.size
    exact ⟨u, rfl, by simpa using hi.mono hs, b0.trans (hb.mono hs)⟩

theorem rotated_any (v : Value) (B : Nat) (p : List Int) (by_ : Int) (w : World) (h : Ints w B v p) (h1 : 1 ≤ p.length) (h2 : p.length ≤ 1000) (ha : -1000000000000 ≤ by_) (ha2 : by_ ≤ 1000000000000) :
    Calls Try.prog 73 #[v, .int .i64 by_] w fun e w' => ∃ u, e = .returned u ∧ Ints w' w.heap.size u (rotL p by_) ∧ Below w.heap.size w w' := by
  obtain ⟨g, cap, rfl, _, hg, hc, hm⟩ := h.shape2 h1
  obtain ⟨m, hmn, he⟩ := mod_nat p.length h1 by_
  rw [← rotL_split p by_ m hmn he]
  have HM := fun W => modulo_any by_ p.length W (by omega) (by omega) ha ha2
  have HJ := rot_joined g cap m B p w h hg hc hm hmn h2
  rw [he] at HM
  clear h he
  generalize p.drop m ++ p.take m = q at *
  generalize p.length = n at *
  have hcm : ¬ cap = m := by omega
  have hml : m ≤ n := by omega
  have hmc : m ≤ cap := by omega
  go_enter Try.func73, Try.ntmps73
  go_wp2_with fail
  refine (period_any _ _ _ _).mono ?_
  rintro e w' ⟨rfl, rfl⟩
  go_wp2_with fail
  refine (HM _).mono ?_
  rintro e w' ⟨rfl, rfl⟩
  clear HM
  go_wp2
  go_region_with (go_at_call 82; refine HJ.mono ?_; rintro e w1 ⟨u, rfl, i1, b1⟩)
  go_wp2
  go_ret
  exact ⟨_, rfl, i1, b1⟩

/- slices.Equal -/
theorem slicesEqual_core (a b : Option Addr) (g g' cap cap' n : Nat) (f h : Nat → Int) (r : Bool) (w : World) (hm : n ≤ 9223372036854775807) (ha : n = 0 ∨ a = some ⟨g, 0, none⟩) (hb : n = 0 ∨ b = some ⟨g', 0, none⟩)
    (hc : ∀ i, i < n → w.cell? ⟨g, i, none⟩ = some (.int .i64 (f i))) (hc' : ∀ i, i < n → w.cell? ⟨g', i, none⟩ = some (.int .i64 (h i))) (hg : n = 0 ∨ g < w.heap.size) (hg' : n = 0 ∨ g' < w.heap.size)
    (hr1 : ∀ k, k < n → f k ≠ h k → r = false) (hr2 : (∀ i, i < n → f i = h i) → r = true) :
    Calls Try.prog 72 #[.slice a n cap, .slice b n cap'] w fun e w' => e = .returned (.bool r) ∧ Below w.heap.size w w' := by
  by_cases hn : n = 0
  · subst hn
    obtain rfl := hr2 fun i hi => by omega
    clear hr1 hr2 hc hc'
    go_enter Try.func72, Try.ntmps72
    go_wp2
    refine wp_loop_rounds 1 ?_
    rw [rounds_succ]
    go_wp2
    go_ret
    exact ⟨rfl, Below.refl _ _⟩
  · obtain rfl := ha.resolve_left hn
    obtain rfl := hb.resolve_left hn
    have hg := hg.resolve_left hn
    have hg' := hg'.resolve_left hn
    have HR1 := Lib.hid hr1
    have HR2 := Lib.hid hr2
    clear hr1 hr2 ha hb
    go_enter Try.func72, Try.ntmps72
    go_wp2
    go_loopw [5, 13] (fun _ i wr => ∃ k : Nat, k ≤ n ∧ i = .int .i64 k ∧ Hid (∀ i, i < k → f i = h i) ∧ Below w.heap.size w wr) (fun _ i _ => n - (intOf i).toNat)
    case atStart => exact ⟨0, Nat.zero_le _, rfl, fun i hi => by omega, Below.refl _ _⟩
    case round =>
      obtain ⟨k, hk, rfl, heq, hB⟩ := hrel
      by_cases hlt : k < n
      · have c1 := (hB.cell (p := ⟨g, k, none⟩) hg).trans (hc k hlt)
        have c2 := (hB.cell (p := ⟨g', k, none⟩) hg').trans (hc' k hlt)
        have hR := Lib.hid (HR1.out k hlt)
        clear hc hc'
        by_cases he : f k = h k
        · have HE := Lib.hid he
          obtain ⟨x, hx⟩ : ∃ x, x = f k := ⟨_, rfl⟩
          rw [← he, ← hx] at c2
          rw [← hx] at c1
          clear he hx
          go_wp2
          go_quiet (fail)
          go_wp2
          go_roundw
          case rel =>
            refine ⟨k + 1, by omega, by go_num, ?_, below_drewN hB _⟩
            intro i hi
            by_cases e : i = k
            · subst e; exact HE.out
            · exact heq.out i (by omega)
          case measure => simp [intOf]; omega
        · obtain rfl := hR.out he
          have he' : (f k == h k) = false := by simpa using he
          go_wp2
          go_quiet (fail)
          go_wp2
          go_ret
          exact ⟨rfl, below_drewN hB _⟩
      · obtain rfl : k = n := by omega
        obtain rfl := HR2.out heq.out
        clear hc hc'
        go_wp2
        go_ret
        exact ⟨rfl, hB⟩

theorem slicesEqual_diff (a b : Option Addr) (n m cap cap' : Nat) (w : World) (hm : n ≤ 9223372036854775807) (hm' : m ≤ 9223372036854775807) (hne : n ≠ m) :
    Calls Try.prog 72 #[.slice a n cap, .slice b m cap'] w fun e w' => e = .returned (.bool false) ∧ Below w.heap.size w w' := by
  have hl' : ((n : Int) == (m : Int)) = false := by simp; omega
  go_enter Try.func72, Try.ntmps72
  go_wp2
  go_ret
  exact ⟨rfl, Below.refl _ _⟩

theorem slicesEqual_any (v u : Value) (B C : Nat) (p q : List Int) (w : World) (h : Ints w B v p) (h' : Ints w C u q) :
    Calls Try.prog 72 #[v, u] w fun e w' => e = .returned (.bool (sameL p q)) ∧ Below w.heap.size w w' := by
  have hm := h.len
  have hm' := h'.len
  obtain ⟨a, g, cap, rfl, ha, hg, hc⟩ := h.open
  obtain ⟨b, g', cap', rfl, hb, hg', hc'⟩ := h'.open
  by_cases hl : p.length = q.length
  · rw [← hl] at hb hg' hc' ⊢
    refine slicesEqual_core a b g g' cap cap' p.length _ _ _ w hm ha hb hc hc' hg hg' (fun k hk hne => ?_) (fun he => ?_)
    · simp only [sameL, decide_eq_false_iff_not]
      rintro rfl
      exact hne rfl
    · simp only [sameL, decide_eq_true_eq]
      exact list_ext hl he
  · have hd : sameL p q = false := by
      simp only [sameL, decide_eq_false_iff_not]
      rintro rfl
      exact hl rfl
    rw [hd]
    exact slicesEqual_diff a b _ _ cap cap' w hm hm' hl

theorem sameL_yes {p q : List Int} (h : p = q) : sameL p q = true := by simp [sameL, h]
theorem sameL_no {p q : List Int} (h : p ≠ q) : sameL p q = false := by simp [sameL, h]

end Go.Proofs.Ytlpeigeadjojnaa
