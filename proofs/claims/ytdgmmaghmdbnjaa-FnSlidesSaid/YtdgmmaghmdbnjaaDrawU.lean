/- The laws' helper f6ints (are two lists equal?), and what FnSlides draws besides. Condition: at most 10^9 bytes. -/
import Derived.Test.YtdgmmaghmdbnjaaSame
import Derived.Test.YtdgmmaghmdbnjaaDrawsS
import Derived.Test.YtdgmmaghmdbnjaaSynU
namespace Go.Proofs.Ytdgmmaghmdbnjaa
open Go.RowKit
set_option linter.unusedSimpArgs false
set_option linter.unusedVariables false

theorem f6ints_core (a b : Option Addr) (g g' cap cap' n : Nat) (f h : Nat → Int) (r : Bool) (w : World) (hm : n ≤ 9223372036854775807) (ha : n = 0 ∨ a = some ⟨g, 0, none⟩) (hb : n = 0 ∨ b = some ⟨g', 0, none⟩)
    (hc : ∀ i, i < n → w.cell? ⟨g, i, none⟩ = some (.int .i64 (f i))) (hc' : ∀ i, i < n → w.cell? ⟨g', i, none⟩ = some (.int .i64 (h i))) (hg : n = 0 ∨ g < w.heap.size) (hg' : n = 0 ∨ g' < w.heap.size)
    (hr1 : ∀ k, k < n → f k ≠ h k → r = false) (hr2 : (∀ i, i < n → f i = h i) → r = true) :
    Calls Try.prog 20 #[.slice a n cap, .slice b n cap'] w fun e w' => e = .returned (.bool r) ∧ Below w.heap.size w w' := by
  by_cases hn : n = 0
  · subst hn
    obtain rfl := hr2 fun i hi => by omega
    clear hr1 hr2 hc hc'
    go_enter Try.func20, Try.ntmps20
    go_wp2
    refine wp_loop_rounds 1 ?_
    rw [rounds_succ]
    go_wp2
    go_ret
    exact ⟨rfl, Below.refl _ _⟩
  · obtain rfl := ha.resolve_left hn
    obtain rfl := hb.resolve_left hn
    have hg := hg.resolve_left hn
    have hg' := hg'.resolve_left hn
    have HR1 := Lib.hid hr1
    have HR2 := Lib.hid hr2
    clear hr1 hr2 ha hb
    go_enter Try.func20, Try.ntmps20
    go_wp2
    go_loopw [5] (fun i wr => ∃ k : Nat, k ≤ n ∧ i = .int .i64 k ∧ Hid (∀ i, i < k → f i = h i) ∧ Below w.heap.size w wr) (fun i _ => n - (intOf i).toNat)
    case atStart => exact ⟨0, Nat.zero_le _, rfl, fun i hi => by omega, Below.refl _ _⟩
    case round =>
      obtain ⟨k, hk, rfl, heq, hB⟩ := hrel
      by_cases hlt : k < n
      · have c1 := (hB.cell (p := ⟨g, k, none⟩) hg).trans (hc k hlt)
        have c2 := (hB.cell (p := ⟨g', k, none⟩) hg').trans (hc' k hlt)
        have hR := Lib.hid (HR1.out k hlt)
        clear hc hc'
        by_cases he : f k = h k
        · have HE := Lib.hid he
          obtain ⟨x, hx⟩ : ∃ x, x = f k := ⟨_, rfl⟩
          rw [← he, ← hx] at c2
          rw [← hx] at c1
          clear he hx
          go_wp2
          go_quiet (fail)
          go_wp2
          go_roundw
          case rel =>
            refine ⟨k + 1, by omega, by go_num, ?_, below_drewN hB _⟩
            intro i hi
            by_cases e : i = k
            · subst e; exact HE.out
            · exact heq.out i (by omega)
          case measure => simp [intOf]; omega
        · obtain rfl := hR.out he
          have he' : (f k == h k) = false := by simpa using he
          go_wp2
          go_quiet (fail)
          go_wp2
          go_ret
          exact ⟨rfl, below_drewN hB _⟩
      · obtain rfl : k = n := by omega
        obtain rfl := HR2.out heq.out
        clear hc hc'
        go_wp2
        go_ret
        exact ⟨rfl, hB⟩

theorem f6ints_diff (a b : Option Addr) (n m cap cap' : Nat) (w : World) (hm : n ≤ 9223372036854775807) (hm' : m ≤ 9223372036854775807) (hne : n ≠ m) :
    Calls Try.prog 20 #[.slice a n cap, .slice b m cap'] w fun e w' => e = .returned (.bool false) ∧ Below w.heap.size w w' := by
  have hl' : ((n : Int) == (m : Int)) = false := by simp; omega
  go_enter Try.func20, Try.ntmps20
  go_wp2
  go_ret
  exact ⟨rfl, Below.refl _ _⟩

theorem f6ints_any (v u : Value) (B C : Nat) (p q : List Int) (w : World) (h : Ints w B v p) (h' : Ints w C u q) :
    Calls Try.prog 20 #[v, u] w fun e w' => e = .returned (.bool (sameL p q)) ∧ Below w.heap.size w w' := by
  have hm := h.len
  have hm' := h'.len
  obtain ⟨a, g, cap, rfl, ha, hg, hc⟩ := h.open
  obtain ⟨b, g', cap', rfl, hb, hg', hc'⟩ := h'.open
  by_cases hl : p.length = q.length
  · rw [← hl] at hb hg' hc' ⊢
    refine f6ints_core a b g g' cap cap' p.length _ _ _ w hm ha hb hc hc' hg hg' (fun k hk hne => ?_) (fun he => ?_)
    · simp only [sameL, decide_eq_false_iff_not]
      rintro rfl
      exact hne rfl
    · simp only [sameL, decide_eq_true_eq]
      exact list_ext hl he
  · have hd : sameL p q = false := by
      simp only [sameL, decide_eq_false_iff_not]
      rintro rfl
      exact hl rfl
    rw [hd]
    exact f6ints_diff a b _ _ cap cap' w hm hm' hl


set_option maxRecDepth 10000 in
set_option maxHeartbeats 1000000 in
theorem drawPairUp_any (a : Option Addr) (len cap : Nat) (zs : List Int) (w : World) (hr : IsRow .u8 w a len cap zs) (hlen : len ≤ 1000000000) :
    Calls Try.prog 32 #[.slice a len cap] w fun e w' => ∃ v p, e = .returned v ∧ Ints w' w.heap.size v p ∧ Below w.heap.size w w' := by
  have hab := hr.apart
  have HROW := Lib.hid (fun wr (hb : Below w.heap.size w wr) => hr.below hb)
  go_enter Try.func32, Try.ntmps32
  go_wp2_with fail
  refine (l00From_any a len cap _).mono ?_
  rintro e w1 ⟨rfl, s1, z1, b1⟩
  have hz1 := b1.size
  have HO := one_any a len cap w.heap.size 0 4 zs w1 s1 (HROW.out _ b1) hlen (by omega) (by omega)
  clear s1 hr
  go_wp2_with fail
  refine HO.mono ?_
  rintro e w2 ⟨x, rfl, s2, g2⟩
  have B2 : Below w.heap.size w w2 := b1.grown g2 hz1 (by intro q hq; cases hq; exact Nat.le_refl _)
  have hz2 := g2.size
  clear HO b1 g2
  cases x with
  | true =>
    have HB := l02Bent_any a len cap w.heap.size (0 + 1) zs w2 s2 (HROW.out _ B2) hab hlen (by omega)
    go_wp2_with fail
    refine HB.mono ?_
    rintro e w3 ⟨v, p, rfl, i3, _, g3⟩
    have B3 : Below w.heap.size w w3 := B2.grown g3 B2.size (by intro q hq; cases hq; exact Nat.le_refl _)
    have i9 := i3.mono B2.size
    clear HB i3 g3 B2 s2
    go_wp2
    go_ret
    first | exact ⟨_, rfl, _, i9, B3⟩ | exact ⟨_, _, rfl, i9, B3⟩
  | false =>
    have HD := l05Draw_any a len cap w.heap.size (0 + 1) 3 zs w2 s2 (HROW.out _ B2) hab hlen (by omega) (by omega) (by omega)
    clear s2
    go_wp2_with fail
    refine HD.mono ?_
    rintro e w3 ⟨v, p, rfl, i3, hp1, hp3, s3, g3⟩
    have B3 : Below w.heap.size w w3 := B2.grown g3 B2.size (by intro q hq; cases hq; exact Nat.le_refl _)
    have HS := slideSync_spec v _ p w3 i3
    have hz3 := g3.size
    clear HD g3 B2
    go_wp2_with fail
    refine HS.mono ?_
    rintro e w4 ⟨u, rfl, i4, b4⟩
    have B4 := B3.trans (b4.mono B3.size)
    have s4 := s3.keep (⟨b4.os, b4.tape, b4.output, b4.size, fun k hk _ => b4.block k hk⟩ : w3.grownBy w4 none) (by simp)
    have i9 := i4.mono B3.size
    have HO3 := one_any a len cap w.heap.size _ 3 zs w4 s4 (HROW.out _ B4) hlen (by omega) (by omega)
    have hlw : w.heap.size < w3.heap.size := by omega
    have iu := i4
    clear HS s3 s4 i3 b4 B3 i9
    go_wp2_with fail
    refine HO3.mono ?_
    rintro e w5 ⟨x5, rfl, s5, g5⟩
    have B5 : Below w.heap.size w w5 := B4.grown g5 B4.size (by intro q hq; cases hq; exact Nat.le_refl _)
    have iu5 := iu.keepb g5 hlw
    clear HO3 g5 B4 iu i4
    cases x5 with
    | false =>
      have i9 := iu5.mono (show w.heap.size ≤ w3.heap.size by omega)
      clear s5
      go_wp2
      go_ret
      first | exact ⟨_, rfl, _, i9, B5⟩ | exact ⟨_, _, rfl, i9, B5⟩
    | true =>
      have HE := l02Draw_any a len cap w.heap.size _ 7 zs w5 s5 (HROW.out _ B5) hab hlen (by omega) (by omega) (by omega)
      clear s5 iu5
      go_wp2_with fail
      refine HE.mono ?_
      rintro e w6 ⟨v6, p6, rfl, i6, _, _, _, g6⟩
      have B6 : Below w.heap.size w w6 := B5.grown g6 B5.size (by intro q hq; cases hq; exact Nat.le_refl _)
      have i9 := i6.mono B5.size
      clear HE i6 g6 B5
      go_wp2
      go_ret
      first | exact ⟨_, rfl, _, i9, B6⟩ | exact ⟨_, _, rfl, i9, B6⟩
end Go.Proofs.Ytdgmmaghmdbnjaa
