/- The model's chapter 3, first part: l00Own, l00Same, l03Rotate, l03Reverse, l03Checked, l03Repeat, l03Root, l03Canon, l03Alike compute rotations, reversals, roots and canonical forms. No conditions but that a list is not empty where it must not be. -/
import Derived.Test.YtdghbbnddgngoaaRot
import Derived.Test.YtdghbbnddgngoaaSpec02b
import Derived.Deep.RegionWith
namespace Go.Proofs.Ytdghbbnddgngoaa
open Go.RowKit
set_option linter.unusedSimpArgs false
set_option linter.unusedVariables false

theorem l00Same_core (a b : Option Addr) (g g' cap cap' n : Nat) (f h : Nat → Int) (r : Bool) (w : World) (hm : n ≤ 9223372036854775807) (ha : n = 0 ∨ a = some ⟨g, 0, none⟩) (hb : n = 0 ∨ b = some ⟨g', 0, none⟩)
    (hc : ∀ i, i < n → w.cell? ⟨g, i, none⟩ = some (.int .i64 (f i))) (hc' : ∀ i, i < n → w.cell? ⟨g', i, none⟩ = some (.int .i64 (h i))) (hg : n = 0 ∨ g < w.heap.size) (hg' : n = 0 ∨ g' < w.heap.size)
    (hr1 : ∀ k, k < n → f k ≠ h k → r = false) (hr2 : (∀ i, i < n → f i = h i) → r = true) :
    Calls Try.prog 63 #[.slice a n cap, .slice b n cap'] w fun e w' => e = .returned (.bool r) ∧ Below w.heap.size w w' := by
  by_cases hn : n = 0
  · subst hn
    obtain rfl := hr2 fun i hi => by omega
    clear hr1 hr2 hc hc'
    go_enter Try.func63, Try.ntmps63
    go_wp2
    refine wp_loop_rounds 1 ?_
    rw [rounds_succ]
    go_wp2
    go_ret
    exact ⟨rfl, Below.refl _ _⟩
  · obtain rfl := ha.resolve_left hn
    obtain rfl := hb.resolve_left hn
    have hg := hg.resolve_left hn
    have hg' := hg'.resolve_left hn
    have HR1 := Lib.hid hr1
    have HR2 := Lib.hid hr2
    clear hr1 hr2 ha hb
    go_enter Try.func63, Try.ntmps63
    go_wp2
    go_loopw [5] (fun i wr => ∃ k : Nat, k ≤ n ∧ i = .int .i64 k ∧ Hid (∀ i, i < k → f i = h i) ∧ Below w.heap.size w wr) (fun i _ => n - (intOf i).toNat)
    case atStart => exact ⟨0, Nat.zero_le _, rfl, fun i hi => by omega, Below.refl _ _⟩
    case round =>
      obtain ⟨k, hk, rfl, heq, hB⟩ := hrel
      by_cases hlt : k < n
      · have c1 := (hB.cell (p := ⟨g, k, none⟩) hg).trans (hc k hlt)
        have c2 := (hB.cell (p := ⟨g', k, none⟩) hg').trans (hc' k hlt)
        have hR := Lib.hid (HR1.out k hlt)
        clear hc hc'
        by_cases he : f k = h k
        · have HE := Lib.hid he
          obtain ⟨x, hx⟩ : ∃ x, x = f k := ⟨_, rfl⟩
          rw [← he, ← hx] at c2
          rw [← hx] at c1
          clear he hx
          go_wp2
          go_quiet (fail)
          go_wp2
          go_roundw
          case rel =>
            refine ⟨k + 1, by omega, by go_num, ?_, below_drewN hB _⟩
            intro i hi
            by_cases e : i = k
            · subst e; exact HE.out
            · exact heq.out i (by omega)
          case measure => simp [intOf]; omega
        · obtain rfl := hR.out he
          have he' : (f k == h k) = false := by simpa using he
          go_wp2
          go_quiet (fail)
          go_wp2
          go_ret
          exact ⟨rfl, below_drewN hB _⟩
      · obtain rfl : k = n := by omega
        obtain rfl := HR2.out heq.out
        clear hc hc'
        go_wp2
        go_ret
        exact ⟨rfl, hB⟩

theorem l00Same_diff (a b : Option Addr) (n m cap cap' : Nat) (w : World) (hm : n ≤ 9223372036854775807) (hm' : m ≤ 9223372036854775807) (hne : n ≠ m) :
    Calls Try.prog 63 #[.slice a n cap, .slice b m cap'] w fun e w' => e = .returned (.bool false) ∧ Below w.heap.size w w' := by
  have hl' : ((n : Int) == (m : Int)) = false := by simp; omega
  go_enter Try.func63, Try.ntmps63
  go_wp2
  go_ret
  exact ⟨rfl, Below.refl _ _⟩

theorem l00Same_any (v u : Value) (B C : Nat) (p q : List Int) (w : World) (h : Ints w B v p) (h' : Ints w C u q) :
    Calls Try.prog 63 #[v, u] w fun e w' => e = .returned (.bool (sameL p q)) ∧ Below w.heap.size w w' := by
  have hm := h.len
  have hm' := h'.len
  obtain ⟨a, g, cap, rfl, ha, hg, hc⟩ := h.open
  obtain ⟨b, g', cap', rfl, hb, hg', hc'⟩ := h'.open
  by_cases hl : p.length = q.length
  · rw [← hl] at hb hg' hc' ⊢
    refine l00Same_core a b g g' cap cap' p.length _ _ _ w hm ha hb hc hc' hg hg' (fun k hk hne => ?_) (fun he => ?_)
    · simp only [sameL, decide_eq_false_iff_not]
      rintro rfl
      exact hne rfl
    · simp only [sameL, decide_eq_true_eq]
      exact list_ext hl he
  · have hd : sameL p q = false := by
      simp only [sameL, decide_eq_false_iff_not]
      rintro rfl
      exact hl rfl
    rw [hd]
    exact l00Same_diff a b _ _ cap cap' w hm hm' hl

theorem l00Own_any (v : Value) (xs : List Int) (w : World) (h : Sees w v xs) (hlen : xs.length ≤ 100000000) :
    Calls Try.prog 59 #[v] w fun e w' => ∃ u, e = .returned u ∧ Ints w' w.heap.size u xs ∧ Below w.heap.size w w' := by
  have i1 : Ints (w.alloc (.cells #[] 2)) w.heap.size (.slice (some ⟨w.heap.size, 0, none⟩) 0 0) [] := World.ownsRow_lit w #[] 0 (Nat.le_refl _) (by simp [maxLen]) rfl
  have b1 : Below w.heap.size w (w.alloc (.cells #[] 2)) := (Below.refl _ _).alloc (Nat.le_refl _) _
  have hs := h.alloc (.cells #[] 2)
  obtain ⟨g, off, cap, rfl, hg, hc, hm, hcell⟩ := h
  clear hcell
  obtain ⟨n, hn⟩ : ∃ n, n = xs.length := ⟨_, rfl⟩
  rw [← hn] at hlen hs hc ⊢
  have HN := Lib.hid hn
  clear hn
  have hz : w.heap.size ≤ (w.alloc (.cells #[] 2)).heap.size := b1.size
  go_enter Try.func59, Try.ntmps59
  go_wp2_with (at_builtin; refine append_sees _ rfl 24 Try.underlying24 _ _ rfl _ _ _ rfl i1 _ xs rfl hs (by have := HN.out; simp; omega) hz ?_; intro v2 w2 i2 gr2; refine Hid.out ?_)
  have hb2 := i1.below_grown b1 hz gr2
  clear gr2 i1 b1 hs
  refine Lib.hid ?_
  go_wp2
  go_ret
  exact ⟨_, rfl, by simpa using i2, hb2⟩

theorem l03Rotate_any (v : Value) (B : Nat) (p : List Int) (s : Int) (w : World) (h : Ints w B v p) (h1 : 1 ≤ p.length) (h2 : p.length ≤ 1000) (ha : -100000000000 ≤ s) (ha2 : s ≤ 100000000000) :
    Calls Try.prog 89 #[v, .int .i64 s] w fun e w' => ∃ u, e = .returned u ∧ Ints w' w.heap.size u (rotL p s) ∧ Below w.heap.size w w' := by
  have HT := Lib.hid (rotL_take p s)
  have H0 : Hid ((rotL p s).take 0 = []) := by unfold Hid; simp
  have HE : Hid ((rotL p s).take p.length = rotL p s) := List.take_of_length_le (by rw [rotL_len]; exact Nat.le_refl _)
  generalize rotL p s = q at *
  obtain ⟨g, cap, rfl, _, hg, hc, hm⟩ := h.shape2 h1
  go_enter Try.func89, Try.ntmps89
  go_wp2
  go_loopw [5, 6] (fun v i wr => ∃ k : Nat, k ≤ p.length ∧ i = .int .i64 k ∧ Ints wr w.heap.size v (q.take k) ∧ Below w.heap.size w wr) (fun _ i _ => p.length - (intOf i).toNat)
  case atStart =>
    refine ⟨0, Nat.zero_le _, rfl, ?_, (Below.refl _ _).alloc (Nat.le_refl _) _⟩
    rw [H0.out]
    exact World.ownsRow_lit w #[] 0 (Nat.le_refl _) (by simp [maxLen]) rfl
  case round =>
    obtain ⟨k, hk, rfl, hi, hb⟩ := hrel
    by_cases hlt : k < p.length
    · have hA := l02At_any _ B p (k + s) wr (h.below hb) h1 (by omega) (by omega) (by omega)
      have hT := HT.out k hlt
      have hlen : (q.take k).length ≤ 1000000000 := by simp; omega
      have HTT := Lib.hid hT
      have hBs := hb.size
      clear hT h
      generalize atL p (k + s) = x at *
      go_wp2_with fail
      refine hA.mono ?_
      rintro e w' ⟨rfl, rfl⟩
      go_wp2_with (at_builtin; refine append_int _ rfl _ _ rfl _ _ _ rfl hi _ rfl (by omega) hBs ?_; intro v' w1 hi1 hg1; refine Hid.out ?_)
      have hb1 := hi.below_grown hb hBs hg1
      clear hg1 hi hb hA
      refine Lib.hid ?_
      go_wp2
      go_roundw
      case rel => exact ⟨k + 1, by omega, by go_num, by rw [HTT.out]; exact hi1, hb1⟩
      case measure => simp [intOf]; omega
    · obtain rfl : k = p.length := by omega
      rw [HE.out] at hi
      go_wp2
      go_ret
      exact ⟨_, rfl, hi, hb⟩

theorem l03Repeat_any (v : Value) (p : List Int) (t : Int) (m : Nat) (w : World) (h : Sees w v p) (ht : t = m) (h2 : m * p.length ≤ 1000000) (hm : m ≤ 1000000) (hp : p.length ≤ 1000000) :
    Calls Try.prog 106 #[v, .int .i64 t] w fun e w' => ∃ u, e = .returned u ∧ Ints w' w.heap.size u (repL p m) ∧ Below w.heap.size w w' := by
  subst ht
  have hS := fun (wr : World) (hb : Below w.heap.size w wr) => h.below hb
  have hRL : Hid (∀ k, k ≤ m → (repL p k).length ≤ 1000000) := fun k hk => by rw [repL_len]; exact Nat.le_trans (Nat.mul_le_mul_right _ hk) h2
  have hRS : Hid (∀ k, repL p k ++ p = repL p (k + 1)) := fun k => rfl
  obtain ⟨g, off, cap, rfl, hg, hc, hmc, hcell⟩ := h
  have HS := Lib.hid hS
  clear hcell hS h2
  obtain ⟨n, hn⟩ : ∃ n, n = p.length := ⟨_, rfl⟩
  rw [← hn] at hc hp HS ⊢
  have HN := Lib.hid hn
  clear hn
  go_enter Try.func106, Try.ntmps106
  go_wp2
  go_loopw [5, 6] (fun v i wr => ∃ k : Nat, k ≤ m ∧ i = .int .i64 k ∧ Ints wr w.heap.size v (repL p k) ∧ Below w.heap.size w wr) (fun _ i _ => m - (intOf i).toNat)
  case atStart =>
    refine ⟨0, Nat.zero_le _, rfl, ?_, (Below.refl _ _).alloc (Nat.le_refl _) _⟩
    exact World.ownsRow_lit w #[] 0 (Nat.le_refl _) (by simp [maxLen]) rfl
  case round =>
    obtain ⟨k, hk, rfl, hi, hb⟩ := hrel
    by_cases hlt : k < m
    · have hse := HS.out wr hb
      have hlk := hRL.out k (by omega)
      have hBs := hb.size
      go_wp2_with (at_builtin; refine append_sees _ rfl 24 Try.underlying24 _ _ rfl _ _ _ rfl hi _ p rfl hse (by have := HN.out; omega) hBs ?_; intro v2 w2 i2 gr2; refine Hid.out ?_)
      have hb2 := hi.below_grown hb hBs gr2
      clear gr2 hi hb hse hlk
      refine Lib.hid ?_
      go_wp2
      go_roundw
      case rel => exact ⟨k + 1, by omega, by go_num, by rw [← hRS.out]; exact i2, hb2⟩
      case measure => simp [intOf]; omega
    · obtain rfl : k = m := by omega
      go_wp2
      go_ret
      exact ⟨_, rfl, hi, hb⟩
end Go.Proofs.Ytdghbbnddgngoaa
