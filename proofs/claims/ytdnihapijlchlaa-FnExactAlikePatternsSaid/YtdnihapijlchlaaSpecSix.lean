/- The model's chapter 3, fourth part: SwapLandings, RaiseThrow, ShiftThrows, DualPattern, RepeatPattern answer as the plain mathematics says. No conditions. -/
import Derived.Test.YtdnihapijlchlaaSpecFiv
namespace Go.Proofs.Ytdnihapijlchlaa
open Go.RowKit
set_option linter.unusedSimpArgs false
set_option linter.unusedVariables false

set_option maxHeartbeats 400000 in
theorem raiseThrow_spec (v : Value) (B : Nat) (p : List Int) (i : Int) (w : World) (h : Ints w B v p) :
    Calls Try.prog 51 #[v, .int .i64 i] w fun e w' => ∃ u, e = .returned (.tuple #[u, .int .i64 (patC p (inB i 0 ((p.length : Int) - 1)) (chkC (raiseL p i.toNat)))]) ∧ Ints w' w.heap.size u (resA (patC p (inB i 0 ((p.length : Int) - 1)) (chkC (raiseL p i.toNat))) (raiseL p i.toNat)) ∧ Below w.heap.size w w' := by
  cases hok : okPat p with
  | false =>
    rw [patC_bad _ _ hok, resA_bad _ _ (by decide)]
    go_enter Try.func51, Try.ntmps51
    go_wp2_with fail
    refine (l02Ok_any v B p _ h).mono ?_
    rintro e w' ⟨rfl, hb⟩
    rw [hok]
    go_wp2
    go_ret2
    exact ⟨_, rfl, Ints.nil _ _, hb⟩
  | true =>
    obtain ⟨l1, l2⟩ := okPat_len hok
    obtain ⟨g, cap, rfl, _, hg, hc, hm⟩ := h.shape2 l1
    cases hin : inB i 0 ((p.length : Int) - 1) with
    | false =>
      rw [patC_far _ hok, resA_bad _ _ (by decide)]
      go_enter Try.func51, Try.ntmps51
      go_wp2_with fail
      refine (l02Ok_any _ B p _ h).mono ?_
      rintro e w' ⟨rfl, hb⟩
      rw [hok]
      go_wp2_with fail
      refine (l00In_any _ _ _ _).mono ?_
      rintro e w'' ⟨rfl, rfl⟩
      rw [hin]
      go_wp2
      go_ret2
      exact ⟨_, rfl, Ints.nil _ _, hb⟩
    | true =>
      rw [patC_ok _ hok]
      obtain ⟨hb1, hb2⟩ := inB_iff.1 hin
      obtain ⟨k, rfl⟩ : ∃ k : Nat, i = k := ⟨i.toNat, by omega⟩
      have hk : k < p.length := by omega
      have hx := okPat_at hok k hk
      simp only [Int.toNat_natCast]
      obtain ⟨q, hq⟩ : ∃ q, q = raiseL p k := ⟨_, rfl⟩
      rw [← hq]
      have HR : Hid (q = p.set k (p.getD k 0 + p.length)) := hq
      clear hq
      go_enter Try.func51, Try.ntmps51
      go_wp2_with fail
      refine (l02Ok_any _ B p _ h).mono ?_
      rintro e w1 ⟨rfl, b1⟩
      rw [hok]
      go_wp2_with fail
      refine (l00In_any _ _ _ _).mono ?_
      rintro e w'' ⟨rfl, rfl⟩
      rw [hin]
      have hs := b1.size
      go_wp2_with fail
      refine (l00Own_any _ p _ ((h.below b1).sees l1) (by omega)).mono ?_
      rintro e w2 ⟨u, rfl, i2, b2⟩
      have B2 := b1.trans (b2.mono hs)
      clear hok hin h b2 b1
      obtain ⟨g2, cap2, rfl, hg2, hg2', hc2, hm2⟩ := i2.shape2 l1
      have c2 := i2.cell k hk
      have f2 := i2.free k
      have i3 := (i2.set k (p.getD k 0 + p.length)).mono hs
      rw [← HR.out] at i3
      have b3 := below_cellset B2 k (show w.heap.size ≤ g2 by omega) (.int .i64 (p.getD k 0 + p.length))
      clear i2 B2 HR
      generalize p.getD k 0 = x at *
      generalize p.length = n at *
      obtain ⟨hx1, hx2⟩ := hx
      go_wp2_with (go_at_call 90; (with_reducible refine (l03Checked_any _ _ _ _ i3).mono ?_); rintro e w5 ⟨u, rfl, i5, rfl⟩)
      go_ret2
      exact ⟨_, rfl, i5, b3⟩

set_option maxHeartbeats 400000 in
theorem dualPattern_spec (v : Value) (B : Nat) (p : List Int) (s : Int) (w : World) (h : Ints w B v p) :
    Calls Try.prog 38 #[v, .int .i64 s] w fun e w' => ∃ u, e = .returned (.tuple #[u, .int .i64 (patC p (inB s (highA p) 15) 0)]) ∧ Ints w' w.heap.size u (resA (patC p (inB s (highA p) 15) 0) (dualL p s)) ∧ Below w.heap.size w w' := by
  cases hok : okPat p with
  | false =>
    rw [patC_bad _ _ hok, resA_bad _ _ (by decide)]
    go_enter Try.func38, Try.ntmps38
    go_wp2_with fail
    refine (l02Ok_any v B p _ h).mono ?_
    rintro e w' ⟨rfl, hb⟩
    rw [hok]
    go_wp2
    go_ret2
    exact ⟨_, rfl, Ints.nil _ _, hb⟩
  | true =>
    obtain ⟨l1, l2⟩ := okPat_len hok
    obtain ⟨g, cap, rfl, _, hg, hc, hm⟩ := h.shape2 l1
    have HH : Hid (∀ w1, Below w.heap.size w w1 → Calls Try.prog 78 #[.slice (some ⟨g, 0, none⟩) p.length cap] w1 fun e w' => e = .returned (.int .i64 (highA p)) ∧ w1 = w') := by
      intro w1 hb
      rw [highA_true hok]
      exact l02High_core g cap p.length (fun i => p.getD i 0) (hiF (fun i => p.getD i 0)) w1 l2 rfl (fun i hi => rfl) (fun i hi => (h.below hb).cell i hi)
    cases hin : inB s (highA p) 15 with
    | false =>
      rw [patC_far _ hok, resA_bad _ _ (by decide)]
      generalize highA p = hi at *
      go_enter Try.func38, Try.ntmps38
      go_wp2_with fail
      refine (l02Ok_any _ B p _ h).mono ?_
      rintro e w1 ⟨rfl, hb⟩
      rw [hok]
      have HC := HH.out w1 hb
      go_wp2_with fail
      refine HC.mono ?_
      rintro e w'' ⟨rfl, rfl⟩
      clear HC
      go_wp2_with fail
      refine (l00In_any _ _ _ _).mono ?_
      rintro e w'' ⟨rfl, rfl⟩
      rw [hin]
      go_wp2
      go_ret2
      exact ⟨_, rfl, Ints.nil _ _, hb⟩
    | true =>
      rw [patC_ok _ hok, resA_ok]
      obtain ⟨hb1, hb2⟩ := inB_iff.1 hin
      have hh0 : 0 ≤ highA p := by rw [highA_true hok]; exact (hiF_bound _ _ (fun i hi => okPat_at hok i hi)).1
      have hx := fun i hi => okPat_at hok i hi
      have HOK := Lib.hid hok
      have HIN := Lib.hid hin
      have HT := Lib.hid (dualL_take p s)
      have H0 : Hid ((dualL p s).take 0 = []) := by unfold Hid; simp
      have HE : Hid ((dualL p s).take p.length = dualL p s) := List.take_of_length_le (by rw [dualL_len]; exact Nat.le_refl _)
      have hs0 : 0 ≤ s := by omega
      generalize dualL p s = q at *
      generalize highA p = hi at *
      clear hok hin
      go_enter Try.func38, Try.ntmps38
      go_wp2_with fail
      refine (l02Ok_any _ B p _ h).mono ?_
      rintro e w1 ⟨rfl, b1⟩
      rw [HOK.out]
      have HC := HH.out w1 b1
      go_wp2_with fail
      refine HC.mono ?_
      rintro e w'' ⟨rfl, rfl⟩
      clear HC
      go_wp2_with fail
      refine (l00In_any _ _ _ _).mono ?_
      rintro e w'' ⟨rfl, rfl⟩
      rw [HIN.out]
      have hs := b1.size
      have hp1 := h.below b1
      clear h HOK HIN HH
      go_wp2
      go_loopw [6, 7] (fun v i wr => ∃ (k : Nat) (x : Int), k ≤ p.length ∧ x + k + 1 ≤ p.length ∧ p.length ≤ x + k + 1 ∧ i = .int .i64 x ∧ Ints wr w.heap.size v (q.take k) ∧ Below w.heap.size w wr ∧ Ints wr B (.slice (some ⟨g, 0, none⟩) p.length cap) p) (fun _ i _ => (intOf i + 1).toNat)
      case atStart =>
        refine ⟨0, (p.length : Int) - 1, Nat.zero_le _, by omega, by omega, rfl, ?_, b1.alloc hs _, hp1.alloc _⟩
        rw [H0.out]
        exact World.ownsRow_lit _ #[] _ hs (by simp [maxLen]) rfl
      case round =>
        obtain ⟨k, x, hk, hx1, hx2, rfl, hi, hb, hp⟩ := hrel
        have hBs := hb.size
        by_cases hlt : k < p.length
        · obtain ⟨j, rfl⟩ : ∃ j : Nat, x = j := ⟨x.toNat, by omega⟩
          have hj : p.length - 1 - k = j := by omega
          have hjl : j < p.length := by omega
          have c1 := hp.cell j hjl
          obtain ⟨hy1, hy2⟩ := hx j hjl
          have hT := HT.out k hlt
          rw [hj] at hT
          have hlen : (q.take k).length ≤ 1000000000 := by simp; omega
          have HTT := Lib.hid hT
          have hx0 : 0 ≤ (j : Int) := by omega
          clear hT hp1 hx hj
          generalize p.getD j 0 = y at *
          go_wp2_with (at_builtin; refine append_int _ rfl _ _ rfl _ _ _ rfl hi _ rfl (by omega) hBs ?_; intro v' w3 hi1 hg1; refine Hid.out ?_)
          have hb1' := hi.below_grown hb hBs hg1
          have hp' : Ints w3 B (.slice (some ⟨g, 0, none⟩) p.length cap) p := hp.block (w' := w3) (fun g' hg' hlt' => hg1.block g' hlt' (by
            intro e
            have h1 := hi.own_ge e.symm
            simp [Value.ownBlock] at hg'
            omega))
          clear hg1 hi hb hp
          refine Lib.hid ?_
          go_wp2
          go_roundw
          case rel => exact ⟨k + 1, (j : Int) - 1, by omega, by omega, by omega, rfl, by rw [HTT.out]; exact hi1, hb1', hp'⟩
          case measure => simp [intOf]
        · obtain rfl : k = p.length := by omega
          have hx0 : x < 0 := by omega
          rw [HE.out] at hi
          clear hx
          go_wp2
          go_ret2
          exact ⟨_, rfl, hi, hb⟩

end Go.Proofs.Ytdnihapijlchlaa
