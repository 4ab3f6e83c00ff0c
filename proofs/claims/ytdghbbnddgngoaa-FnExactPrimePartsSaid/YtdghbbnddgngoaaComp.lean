/- ComparePatterns and HighestOf, the model's and the program's. No conditions. -/
import Derived.Test.YtdghbbnddgngoaaImpl02
namespace Go.Proofs.Ytdghbbnddgngoaa
open Go.RowKit
set_option linter.unusedSimpArgs false
set_option linter.unusedVariables false

theorem cmpInt64_any (x y : Int) (w : World) :
    Calls Try.prog 133 #[.int .i64 x, .int .i64 y] w fun e w' => e = .returned (.int .i64 (cmpI x y)) ∧ w = w' := by
  rcases Int.lt_trichotomy x y with h | h | h
  · rw [cmpI_lt h]
    go_enter Try.func133, Try.ntmps133
    go_wp2
    go_ret
    exact ⟨rfl, rfl⟩
  · subst h
    rw [cmpI_eq rfl]
    have h1 : ¬ x < x := by omega
    go_enter Try.func133, Try.ntmps133
    go_wp2
    go_ret
    exact ⟨rfl, rfl⟩
  · rw [cmpI_gt h]
    have h1 : ¬ x < y := by omega
    go_enter Try.func133, Try.ntmps133
    go_wp2
    go_ret
    exact ⟨rfl, rfl⟩

theorem cmpInt_any (x y : Int) (w : World) :
    Calls Try.prog 125 #[.int .i64 x, .int .i64 y] w fun e w' => e = .returned (.int .i64 (cmpI x y)) ∧ w = w' := by
  rcases Int.lt_trichotomy x y with h | h | h
  · rw [cmpI_lt h]
    go_enter Try.func125, Try.ntmps125
    go_wp2
    go_ret
    exact ⟨rfl, rfl⟩
  · subst h
    rw [cmpI_eq rfl]
    have h1 : ¬ x < x := by omega
    go_enter Try.func125, Try.ntmps125
    go_wp2
    go_ret
    exact ⟨rfl, rfl⟩
  · rw [cmpI_gt h]
    have h1 : ¬ x < y := by omega
    go_enter Try.func125, Try.ntmps125
    go_wp2
    go_ret
    exact ⟨rfl, rfl⟩

theorem l02Compare_core (a b : Option Addr) (g g' cap cap' n : Nat) (f h : Nat → Int) (r : Int) (w : World) (hm : n ≤ 9223372036854775807) (ha : n = 0 ∨ a = some ⟨g, 0, none⟩) (hb : n = 0 ∨ b = some ⟨g', 0, none⟩)
    (hc : ∀ i, i < n → w.cell? ⟨g, i, none⟩ = some (.int .i64 (f i))) (hc' : ∀ i, i < n → w.cell? ⟨g', i, none⟩ = some (.int .i64 (h i))) (hg : n = 0 ∨ g < w.heap.size) (hg' : n = 0 ∨ g' < w.heap.size)
    (hr1 : ∀ k, k < n → (∀ i, i < k → f i = h i) → f k ≠ h k → cmpI (f k) (h k) = r) (hr2 : (∀ i, i < n → f i = h i) → r = 0) :
    Calls Try.prog 56 #[.slice a n cap, .slice b n cap'] w fun e w' => e = .returned (.int .i64 r) ∧ Below w.heap.size w w' := by
  by_cases hn : n = 0
  · subst hn
    obtain rfl := hr2 fun i hi => by omega
    clear hr1 hr2 hc hc'
    go_enter Try.func56, Try.ntmps56
    go_wp2
    refine wp_loop_rounds 1 ?_
    rw [rounds_succ]
    go_wp2
    go_ret
    exact ⟨rfl, Below.refl _ _⟩
  · obtain rfl := ha.resolve_left hn
    obtain rfl := hb.resolve_left hn
    have hg := hg.resolve_left hn
    have hg' := hg'.resolve_left hn
    have HR1 := Lib.hid hr1
    have HR2 := Lib.hid hr2
    clear hr1 hr2 ha hb
    go_enter Try.func56, Try.ntmps56
    go_wp2
    go_loopw [5] (fun i wr => ∃ k : Nat, k ≤ n ∧ i = .int .i64 k ∧ Hid (∀ i, i < k → f i = h i) ∧ Below w.heap.size w wr) (fun i _ => n - (intOf i).toNat)
    case atStart => exact ⟨0, Nat.zero_le _, rfl, fun i hi => by omega, Below.refl _ _⟩
    case round =>
      obtain ⟨k, hk, rfl, heq, hB⟩ := hrel
      by_cases hlt : k < n
      · have c1 := (hB.cell (p := ⟨g, k, none⟩) hg).trans (hc k hlt)
        have c2 := (hB.cell (p := ⟨g', k, none⟩) hg').trans (hc' k hlt)
        have hR := Lib.hid (HR1.out k hlt heq.out)
        clear hc hc'
        rcases Int.lt_trichotomy (f k) (h k) with hl | he | hl
        · have hR' := hR.out (by omega)
          rw [cmpI_lt hl] at hR'
          subst hR'
          go_wp2
          go_quiet (fail)
          go_wp2
          go_ret
          exact ⟨rfl, below_drewN hB _⟩
        · have HE := Lib.hid he
          obtain ⟨x, hx⟩ : ∃ x, x = f k := ⟨_, rfl⟩
          rw [← he, ← hx] at c2
          rw [← hx] at c1
          clear he hx
          go_wp2
          go_quiet (fail)
          go_wp2
          go_quiet (fail)
          go_wp2
          go_roundw
          case rel =>
            refine ⟨k + 1, by omega, by go_num, ?_, by first | exact below_drewN (below_drewN hB _) _ | exact below_drewN hB _⟩
            intro i hi
            by_cases e : i = k
            · subst e; exact HE.out
            · exact heq.out i (by omega)
          case measure => simp [intOf]; omega
        · have hR' := hR.out (by omega)
          rw [cmpI_gt hl] at hR'
          subst hR'
          have hl' : ¬ f k < h k := by omega
          go_wp2
          go_quiet (fail)
          go_wp2
          go_quiet (fail)
          go_wp2
          go_ret
          exact ⟨rfl, by first | exact below_drewN (below_drewN hB _) _ | exact below_drewN hB _⟩
      · obtain rfl : k = n := by omega
        obtain rfl := HR2.out heq.out
        clear hc hc'
        go_wp2
        go_ret
        exact ⟨rfl, hB⟩

theorem l02Compare_diff (a b : Option Addr) (n m cap cap' : Nat) (w : World) (hm : n ≤ 9223372036854775807) (hm' : m ≤ 9223372036854775807) (hne : n ≠ m) :
    Calls Try.prog 56 #[.slice a n cap, .slice b m cap'] w fun e w' => e = .returned (.int .i64 (cmpI n m)) ∧ Below w.heap.size w w' := by
  rcases Nat.lt_or_gt_of_ne hne with hlt | hlt
  · rw [cmpI_lt (by omega)]
    go_enter Try.func56, Try.ntmps56
    go_wp2
    go_ret
    exact ⟨rfl, Below.refl _ _⟩
  · rw [cmpI_gt (by omega)]
    have h1 : ¬ (n : Int) < m := by omega
    go_enter Try.func56, Try.ntmps56
    go_wp2
    go_ret
    exact ⟨rfl, Below.refl _ _⟩

/-- a row of numbers as two walks of two rows ask it -/
theorem Ints.open {w : World} {B : Nat} {v : Value} {xs : List Int} (h : Ints w B v xs) : ∃ a g cap, v = .slice a xs.length cap ∧ (xs.length = 0 ∨ a = some ⟨g, 0, none⟩) ∧ (xs.length = 0 ∨ g < w.heap.size) ∧ ∀ i, i < xs.length → w.cell? ⟨g, i, none⟩ = some (.int .i64 (xs.getD i 0)) := by
  rcases h.shape with ⟨rfl, rfl⟩ | ⟨g, cap, rfl, _, hg, _⟩
  · exact ⟨none, 0, 0, rfl, .inl rfl, .inl rfl, fun i hi => by simp at hi⟩
  · exact ⟨_, g, cap, rfl, .inr rfl, .inr hg, fun i hi => h.cell i hi⟩

theorem l02Compare_any (v u : Value) (B C : Nat) (p q : List Int) (w : World) (h : Ints w B v p) (h' : Ints w C u q) :
    Calls Try.prog 56 #[v, u] w fun e w' => e = .returned (.int .i64 (compL p q)) ∧ Below w.heap.size w w' := by
  have hm := h.len
  have hm' := h'.len
  obtain ⟨a, g, cap, rfl, ha, hg, hc⟩ := h.open
  obtain ⟨b, g', cap', rfl, hb, hg', hc'⟩ := h'.open
  by_cases hl : p.length = q.length
  · rw [compL_same hl]
    rw [← hl] at hb hg' hc' ⊢
    exact l02Compare_core a b g g' cap cap' p.length _ _ _ w hm ha hb hc hc' hg hg' (fun k hk he hne => (lexL_at hl k hk he hne).symm) (fun he => lexL_none hl he)
  · rw [compL_diff hl]
    exact l02Compare_diff a b _ _ cap cap' w hm hm' hl

theorem comparePatterns_spec (v u : Value) (B C : Nat) (p q : List Int) (w : World) (h : Ints w B v p) (h' : Ints w C u q) :
    Calls Try.prog 23 #[v, u] w fun e w' => e = .returned (.int .i64 (compL p q)) ∧ Below w.heap.size w w' := by
  go_enter Try.func23, Try.ntmps23
  go_wp2_with fail
  refine (l02Compare_any v u B C p q _ h h').mono ?_
  rintro e w' ⟨rfl, hb⟩
  go_wp2
  go_ret
  exact ⟨rfl, hb⟩

theorem slicesCompare_core (a b : Option Addr) (g g' cap cap' n : Nat) (f h : Nat → Int) (r : Int) (w : World) (hm : n ≤ 9223372036854775807) (ha : n = 0 ∨ a = some ⟨g, 0, none⟩) (hb : n = 0 ∨ b = some ⟨g', 0, none⟩)
    (hc : ∀ i, i < n → w.cell? ⟨g, i, none⟩ = some (.int .i64 (f i))) (hc' : ∀ i, i < n → w.cell? ⟨g', i, none⟩ = some (.int .i64 (h i)))
    (hr1 : ∀ k, k < n → (∀ i, i < k → f i = h i) → f k ≠ h k → cmpI (f k) (h k) = r) (hr2 : (∀ i, i < n → f i = h i) → r = 0) :
    Calls Try.prog 126 #[.slice a n cap, .slice b n cap'] w fun e w' => e = .returned (.int .i64 r) ∧ w = w' := by
  by_cases hn : n = 0
  · subst hn
    obtain rfl := hr2 fun i hi => by omega
    clear hr1 hr2 hc hc'
    go_enter Try.func126, Try.ntmps126
    go_wp2
    refine wp_loop_rounds 1 ?_
    rw [rounds_succ]
    go_wp2
    go_ret
    exact ⟨rfl, rfl⟩
  · obtain rfl := ha.resolve_left hn
    obtain rfl := hb.resolve_left hn
    have HR1 := Lib.hid hr1
    have HR2 := Lib.hid hr2
    clear hr1 hr2 ha hb
    go_enter Try.func126, Try.ntmps126
    go_wp2
    go_loop [5, 6, 7, 8, 11] (fun _ _ _ _ i => ∃ k : Nat, k ≤ n ∧ i = .int .i64 k ∧ Hid (∀ i, i < k → f i = h i)) (fun _ _ _ _ i => n - (intOf i).toNat)
    case atStart => exact ⟨0, Nat.zero_le _, rfl, fun i hi => by omega⟩
    case round =>
      obtain ⟨k, hk, rfl, heq⟩ := hrel
      by_cases hlt : k < n
      · have c1 := hc k hlt
        have c2 := hc' k hlt
        have hR := Lib.hid (HR1.out k hlt heq.out)
        clear hc hc'
        by_cases he : f k = h k
        · have HC := cmpInt64_any (f k) (h k) w
          rw [cmpI_eq he] at HC
          have HE := Lib.hid he
          clear he
          go_wp2_with fail
          refine HC.mono ?_
          rintro e w' ⟨rfl, rfl⟩
          go_wp2
          go_round
          case rel =>
            refine ⟨k + 1, by omega, by go_num, ?_⟩
            intro i hi
            by_cases e : i = k
            · subst e; exact HE.out
            · exact heq.out i (by omega)
          case measure => simp [intOf]; omega
        · have HC := cmpInt64_any (f k) (h k) w
          rw [hR.out he] at HC
          have hr0 : (r == 0) = false ∧ (r != 0) = true := by
            have := hR.out he
            rcases Int.lt_trichotomy (f k) (h k) with hl | he' | hl
            · rw [cmpI_lt hl] at this; subst this; decide
            · exact absurd he' he
            · rw [cmpI_gt hl] at this; subst this; decide
          obtain ⟨hr0, hr1⟩ := hr0
          clear he
          go_wp2_with fail
          refine HC.mono ?_
          rintro e w' ⟨rfl, rfl⟩
          go_wp2
          go_ret
          exact ⟨rfl, rfl⟩
      · obtain rfl : k = n := by omega
        obtain rfl := HR2.out heq.out
        clear hc hc'
        go_wp2
        go_ret
        exact ⟨rfl, rfl⟩

theorem comparePatterns_impl (v u : Value) (B C : Nat) (p q : List Int) (w : World) (h : Ints w B v p) (h' : Ints w C u q) :
    Calls Try.prog 104 #[v, u] w fun e w' => e = .returned (.int .i64 (compL p q)) ∧ Below w.heap.size w w' := by
  have hm := h.len
  have hm' := h'.len
  obtain ⟨a, g, cap, rfl, ha, hg, hc⟩ := h.open
  obtain ⟨b, g', cap', rfl, hb, hg', hc'⟩ := h'.open
  by_cases hl : p.length = q.length
  · rw [compL_same hl]
    rw [← hl] at hb hg' hc' ⊢
    have HC := slicesCompare_core a b g g' cap cap' p.length _ _ _ w hm ha hb hc hc' (fun k hk he hne => (lexL_at hl k hk he hne).symm) (fun he => lexL_none hl he)
    clear h h' ha hb hg hg' hc hc' hl
    generalize lexL p q = r at HC ⊢
    generalize p.length = n at *
    go_enter Try.func104, Try.ntmps104
    go_wp2_with fail
    refine HC.mono ?_
    rintro e w' ⟨rfl, rfl⟩
    go_wp2
    go_ret
    exact ⟨rfl, Below.refl _ _⟩
  · rw [compL_diff hl]
    clear h h' ha hb hg hg' hc hc'
    have hl' : ((p.length : Int) == (q.length : Int)) = false := by simp; omega
    generalize p.length = n at *
    generalize q.length = m at *
    clear hl
    go_enter Try.func104, Try.ntmps104
    go_wp2_with fail
    refine (cmpInt_any _ _ _).mono ?_
    rintro e w' ⟨rfl, rfl⟩
    go_wp2
    go_ret
    exact ⟨rfl, Below.refl _ _⟩

end Go.Proofs.Ytdghbbnddgngoaa
