/- Multiplex, the program's: slices.Equal on two lists of numbers; isBeat and isList answer whether beats are in their order. Conditions: beats of at most 10^7 throws. -/
import Derived.Test.YtgjmhihomklooaaSortBe
import Derived.Test.YtgjmhihomklooaaSpecThr
import Derived.Test.YtgjmhihomklooaaGrid
namespace Go.Proofs.Ytgjmhihomklooaa
open Go.RowKit
set_option linter.unusedSimpArgs false
set_option linter.unusedVariables false

theorem equalI64_core (a b : Option Addr) (g g' cap cap' n : Nat) (f h : Nat → Int) (r : Bool) (w : World) (hm : n ≤ 9223372036854775807) (ha : n = 0 ∨ a = some ⟨g, 0, none⟩) (hb : n = 0 ∨ b = some ⟨g', 0, none⟩)
    (hc : ∀ i, i < n → w.cell? ⟨g, i, none⟩ = some (.int .i64 (f i))) (hc' : ∀ i, i < n → w.cell? ⟨g', i, none⟩ = some (.int .i64 (h i))) (hg : n = 0 ∨ g < w.heap.size) (hg' : n = 0 ∨ g' < w.heap.size)
    (hr1 : ∀ k, k < n → f k ≠ h k → r = false) (hr2 : (∀ i, i < n → f i = h i) → r = true) :
    Calls Try.prog 106 #[.slice a n cap, .slice b n cap'] w fun e w' => e = .returned (.bool r) ∧ Below w.heap.size w w' := by
  have hnn : ((n : Int) != (n : Int)) = false := by simp
  by_cases hn : n = 0
  · subst hn
    obtain rfl := hr2 fun i hi => by omega
    clear hr1 hr2 hc hc'
    go_enter Try.func106, Try.ntmps106
    go_wp2
    refine wp_loop_rounds 1 ?_
    rw [rounds_succ]
    go_wp2
    go_ret
    exact ⟨rfl, Below.refl _ _⟩
  · obtain rfl := ha.resolve_left hn
    obtain rfl := hb.resolve_left hn
    have hg := hg.resolve_left hn
    have hg' := hg'.resolve_left hn
    have HR1 := Lib.hid hr1
    have HR2 := Lib.hid hr2
    clear hr1 hr2 ha hb
    go_enter Try.func106, Try.ntmps106
    go_wp2
    go_loopw [13] (fun i wr => ∃ k : Nat, k ≤ n ∧ i = .int .i64 k ∧ Hid (∀ i, i < k → f i = h i) ∧ Below w.heap.size w wr) (fun i _ => n - (intOf i).toNat)
    case atStart => exact ⟨0, Nat.zero_le _, rfl, fun i hi => by omega, Below.refl _ _⟩
    case round =>
      obtain ⟨k, hk, rfl, heq, hB⟩ := hrel
      by_cases hlt : k < n
      · have c1 := (hB.cell (p := ⟨g, k, none⟩) hg).trans (hc k hlt)
        have c2 := (hB.cell (p := ⟨g', k, none⟩) hg').trans (hc' k hlt)
        have hR := Lib.hid (HR1.out k hlt)
        clear hc hc'
        by_cases he : f k = h k
        · have HE := Lib.hid he
          obtain ⟨x, hx⟩ : ∃ x, x = f k := ⟨_, rfl⟩
          rw [← he, ← hx] at c2
          rw [← hx] at c1
          clear he hx
          have he' : (x != x) = false := by simp
          go_wp2
          go_quiet (fail)
          go_wp2
          go_roundw
          case rel =>
            refine ⟨k + 1, by omega, by go_num, ?_, below_drewN hB _⟩
            intro i hi
            by_cases e : i = k
            · subst e; exact HE.out
            · exact heq.out i (by omega)
          case measure => simp [intOf]; omega
        · obtain rfl := hR.out he
          have he' : (f k != h k) = true := by simpa using he
          go_wp2
          go_quiet (fail)
          go_wp2
          go_ret
          exact ⟨rfl, below_drewN hB _⟩
      · obtain rfl : k = n := by omega
        obtain rfl := HR2.out heq.out
        clear hc hc'
        go_wp2
        go_ret
        exact ⟨rfl, hB⟩

theorem equalI64_diff (a b : Option Addr) (n m cap cap' : Nat) (w : World) (hm : n ≤ 9223372036854775807) (hm' : m ≤ 9223372036854775807) (hne : n ≠ m) :
    Calls Try.prog 106 #[.slice a n cap, .slice b m cap'] w fun e w' => e = .returned (.bool false) ∧ Below w.heap.size w w' := by
  have hl' : ((n : Int) != (m : Int)) = true := by simp; omega
  go_enter Try.func106, Try.ntmps106
  go_wp2
  go_ret
  exact ⟨rfl, Below.refl _ _⟩

theorem equalI64_any (v u : Value) (B C : Nat) (p q : List Int) (w : World) (h : Ints w B v p) (h' : Ints w C u q) :
    Calls Try.prog 106 #[v, u] w fun e w' => e = .returned (.bool (sameL p q)) ∧ Below w.heap.size w w' := by
  have hm := h.len
  have hm' := h'.len
  obtain ⟨a, g, cap, rfl, ha, hg, hc⟩ := h.open
  obtain ⟨b, g', cap', rfl, hb, hg', hc'⟩ := h'.open
  by_cases hl : p.length = q.length
  · rw [← hl] at hb hg' hc' ⊢
    refine equalI64_core a b g g' cap cap' p.length _ _ _ w hm ha hb hc hc' hg hg' (fun k hk hne => ?_) (fun he => ?_)
    · simp only [sameL, decide_eq_false_iff_not]
      rintro rfl
      exact hne rfl
    · simp only [sameL, decide_eq_true_eq]
      exact list_ext hl he
  · have hd : sameL p q = false := by
      simp only [sameL, decide_eq_false_iff_not]
      rintro rfl
      exact hl rfl
    rw [hd]
    exact equalI64_diff a b _ _ cap cap' w hm hm' hl

theorem isBeat_any (v : Value) (B : Nat) (p : List Int) (w : World) (h : Ints w B v p) (hlen : p.length ≤ 10000000) :
    Calls Try.prog 124 #[v] w fun e w' => e = .returned (.bool (rowOk p)) ∧ Below w.heap.size w w' := by
  rw [← isBeat_eq p]
  have HS := sortBeat_impl v B p w h hlen
  have HE : ∀ W u, Below w.heap.size w W → Ints W w.heap.size u (sortR p) → Calls Try.prog 106 #[u, v] W fun e w' => e = .returned (.bool (sameL (sortR p) p)) ∧ Below w.heap.size w w' := fun W u hW hu =>
    (equalI64_any u v _ B _ _ W hu (h.below hW)).mono fun e w' ⟨he, hb⟩ => ⟨he, hW.trans (hb.mono hW.size)⟩
  have HR : sortC p = 0 → sameL (sortR p) p = decide (sortL p = p) := fun h0 => by
    unfold sortC at h0
    unfold sortR
    by_cases h1 : thrB p = true
    · rw [if_pos h1] at h0 ⊢
      by_cases h4 : 4 < (nz p).length
      · rw [if_pos h4] at h0; omega
      · rw [if_neg h4]; rfl
    · rw [if_neg h1] at h0; omega
  generalize sortC p = c at *
  generalize sameL (sortR p) p = r at *
  generalize sortR p = q at *
  by_cases hc : c = 0
  · obtain rfl := HR hc
    subst hc
    generalize decide (sortL p = p) = r at *
    have HH := Lib.hid HE
    clear HE HR h
    go_enter Try.func124, Try.ntmps124
    go_wp2_with fail
    refine HS.mono ?_
    rintro e w1 ⟨u, rfl, i1, b1⟩
    go_wp2_with fail
    refine (HH.out w1 u b1 i1).mono ?_
    rintro e w2 ⟨rfl, b2⟩
    go_wp2
    go_ret
    exact ⟨by simp, b2⟩
  · have hc' : (c == 0) = false := by simpa using hc
    rw [decide_eq_false hc, Bool.false_and]
    clear HE HR h
    go_enter Try.func124, Try.ntmps124
    go_wp2_with fail
    refine HS.mono ?_
    rintro e w1 ⟨u, rfl, i1, b1⟩
    go_wp2
    go_ret
    exact ⟨rfl, b1⟩

/-- no beat is longer than the machine can bear -/
def Small (pss : List (List Int)) : Prop := ∀ i, i < pss.length → (pss.getD i []).length ≤ 10000000

theorem isListM_row (g cap n : Nat) (E : TypeId) (B C : Nat) (pss : List (List Int)) (w : World) (hn1 : 1 ≤ n) (hn2 : n ≤ 12) (hg : g < w.heap.size)
    (hbad : ∀ i, i < n → rowOk (pss.getD i []) = false → shapeL pss = false) (hgood : (∀ i, i < n → rowOk (pss.getD i []) = true) → shapeL pss = true)
    (hrow : ∀ i, i < n → ∃ u, w.cell? ⟨g, i, none⟩ = some u ∧ Ints w B u (pss.getD i []) ∧ (pss.getD i []).length ≤ 10000000) :
    Calls Try.prog 72 #[.slice (some ⟨g, 0, none⟩) n cap] w fun e w' => e = .returned (.bool (shapeL pss)) ∧ Below w.heap.size w w' := by
  have h1 : ¬ (n : Int) < 1 := by omega
  have h2 : ¬ (12 : Int) < n := by omega
  go_enter Try.func72, Try.ntmps72
  go_wp2
  go_loopw [15] (fun i wr => ∃ k : Nat, k ≤ n ∧ i = .int .i64 k ∧ Hid (∀ j, j < k → rowOk (pss.getD j []) = true) ∧ Below w.heap.size w wr) (fun i _ => n - (intOf i).toNat)
  case atStart => exact ⟨0, Nat.zero_le _, rfl, fun j hj => absurd hj (Nat.not_lt_zero _), Below.refl _ _⟩
  case round =>
    obtain ⟨i, hi, rfl, hall, hb⟩ := hrel
    by_cases hlt : i < n
    · obtain ⟨u, hu, i1, hl⟩ := hrow i hlt
      have hu1 : wr.cell? ⟨g, i, none⟩ = some u := by rw [hb.cell hg]; exact hu
      have HB := isBeat_any u B _ wr (i1.below hb) hl
      have HBI := Lib.hid (hbad i hlt)
      obtain ⟨b, hbe⟩ : ∃ b, b = pss.getD i [] := ⟨_, rfl⟩
      have hnext : rowOk b = true → ∀ j, j < i + 1 → rowOk (pss.getD j []) = true := fun hr j hj => by
        by_cases e : j = i
        · subst e; rw [← hbe]; exact hr
        · exact hall.out j (by omega)
      rw [← hbe] at HB HBI
      have HNX := Lib.hid hnext
      clear hrow hbad hgood hu i1 hl hnext hbe hall
      cases hr : rowOk b with
      | true =>
        rw [hr] at HB
        have HN := Lib.hid (HNX.out hr)
        clear hr HBI HNX
        go_wp2_with fail
        refine HB.mono ?_
        rintro e w1 ⟨rfl, b1⟩
        have b2 := hb.trans (b1.mono hb.size)
        clear b1 HB
        go_wp2
        go_roundw
        case rel => exact ⟨i + 1, by omega, by go_num, HN, b2⟩
        case measure => simp [intOf]; omega
      | false =>
        rw [hr] at HB
        have HN := Lib.hid (HBI.out hr)
        clear hr HBI HNX
        go_wp2_with fail
        refine HB.mono ?_
        rintro e w1 ⟨rfl, b1⟩
        have b2 := hb.trans (b1.mono hb.size)
        clear b1 HB
        go_wp2
        go_ret
        exact ⟨by rw [HN.out]; rfl, b2⟩
    · obtain rfl : i = n := by omega
      have HRT := Lib.hid (hgood hall.out)
      clear hrow hbad hgood hall
      go_wp2
      go_ret
      exact ⟨by rw [HRT.out]; rfl, hb⟩

theorem isListM_any (v : Value) (E : TypeId) (B C : Nat) (pss : List (List Int)) (w : World) (h : Grid E w B C v pss) (hs : Small pss) :
    Calls Try.prog 72 #[v] w fun e w' => e = .returned (.bool (shapeL pss)) ∧ Below w.heap.size w w' := by
  by_cases hn : 1 ≤ pss.length ∧ pss.length ≤ 12
  · obtain ⟨hn1, hn2⟩ := hn
    obtain ⟨g, cap, rfl, _, hg, _, hm⟩ := h.shape.resolve_left fun e => by rw [e.2] at hn1; simp at hn1
    exact isListM_row g cap pss.length E B C pss w hn1 hn2 hg (fun i hi => shapeL_bad i hi) (fun hh => shapeL_good hn1 hn2 hh) fun i hi => by
      obtain ⟨u, h1, h2, _⟩ := h.row i hi
      exact ⟨u, h1, h2, hs i hi⟩
  · rw [shapeL_len hn]
    have hm := h.len
    obtain ⟨n, hnn⟩ : ∃ n, n = pss.length := ⟨_, rfl⟩
    obtain ⟨a, cap, rfl⟩ : ∃ a cap, v = .slice a n cap := by
      rcases h.shape with ⟨rfl, h0⟩ | ⟨g, cap, rfl, _⟩
      · exact ⟨none, 0, by rw [hnn, h0]; rfl⟩
      · exact ⟨_, cap, by rw [hnn]⟩
    rw [← hnn] at hn hm
    have hbad : (n : Int) < 1 ∨ (12 : Int) < n := by omega
    clear h hnn hn
    rcases hbad with hbad | hbad
    · go_enter Try.func72, Try.ntmps72
      go_wp2
      go_ret
      exact ⟨rfl, Below.refl _ _⟩
    · have hd1 : ¬ (n : Int) < 1 := by omega
      go_enter Try.func72, Try.ntmps72
      go_wp2
      go_ret
      exact ⟨rfl, Below.refl _ _⟩
end Go.Proofs.Ytgjmhihomklooaa
