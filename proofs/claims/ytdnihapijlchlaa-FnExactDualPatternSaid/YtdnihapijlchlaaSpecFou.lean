/- The model's chapter 3, second part: l03Root, l03Canon, l03Alike, and RotatePattern, ReversePattern, RootPattern, CanonicalPattern, AlikePatterns, IsSymmetric, RepeatPattern answer as the plain mathematics says. No conditions. -/
import Derived.Test.YtdnihapijlchlaaSpecThr
import Derived.Test.YtdnihapijlchlaaImplSix
import Derived.Deep.RegionHeld3
namespace Go.Proofs.Ytdnihapijlchlaa
open Go.RowKit
set_option linter.unusedSimpArgs false
set_option linter.unusedVariables false

set_option maxRecDepth 100000 in
set_option maxHeartbeats 1000000 in
theorem l03Root_any (v : Value) (B : Nat) (p : List Int) (w : World) (h : Ints w B v p) (h1 : 1 ≤ p.length) (h2 : p.length ≤ 1000) :
    Calls Try.prog 107 #[v] w fun e w' => ∃ u, e = .returned u ∧ Ints w' w.heap.size u (rootL p) ∧ Below w.heap.size w w' := by
  obtain ⟨k1, k2, k3, k4⟩ := rootK_spec h1
  have hroot : rootL p = p.take (rootK p) := rfl
  have HOKK := Lib.hid (repOk_root h1)
  have HNO : Hid (∀ k, 1 ≤ k → k < rootK p → ¬ repOk p k) := fun k hk1 hk hr => k4 k hk1 hk (repOk_rot hk1 (by omega) hr)
  rw [hroot]
  clear hroot k3 k4
  generalize rootK p = K at *
  obtain ⟨g, cap, rfl, _, hg, hc, hm⟩ := h.shape2 h1
  have HS : Hid (∀ (k : Nat) (wr : World), k ≤ p.length → Below w.heap.size w wr → Sees wr (.slice (some ⟨g, 0, none⟩) k cap) (p.take k)) := fun k wr hk hb => (h.below hb).take_ k (by have := hb.size; omega) hc hm hk
  have HI : Hid (∀ (wr : World), Below w.heap.size w wr → Ints wr B (.slice (some ⟨g, 0, none⟩) p.length cap) p) := fun wr hb => h.below hb
  clear h
  obtain ⟨n, hn⟩ : ∃ n, n = p.length := ⟨_, rfl⟩
  rw [← hn] at h1 h2 k2 hc HS HI ⊢
  have HN := Lib.hid hn
  clear hn
  go_enter Try.func107, Try.ntmps107
  go_wp2
  go_loopw [4] (fun i wr => ∃ k : Nat, 1 ≤ k ∧ k ≤ K ∧ i = .int .i64 k ∧ Below w.heap.size w wr) (fun i _ => n - (intOf i).toNat)
  case atStart => exact ⟨1, by omega, by omega, rfl, Below.refl _ _⟩
  case round =>
    obtain ⟨k, hk1, hk, rfl, hb⟩ := hrel
    have hB := hb.size
    have hkc : k ≤ cap := by omega
    by_cases hlt : k < n
    · have hk0 : ¬ k = 0 := by omega
      have hrem : (n : Int).tmod (k : Int) = ((n % k : Nat) : Int) := by rw [Int.tmod_eq_emod_of_nonneg (by omega)]; exact (Int.natCast_emod n k).symm
      by_cases hmod : n % k = 0
      · have hbt : ((n : Int).tmod (k : Int) == 0) = true := by rw [hrem, hmod]; rfl
        have hdiv : (n : Int).tdiv (k : Int) = ((n / k : Nat) : Int) := by rw [Int.tdiv_eq_ediv_of_nonneg (by omega)]; exact (Int.natCast_ediv n k).symm
        have hmul : n / k * k = n := Nat.div_mul_cancel (Nat.dvd_of_mod_eq_zero hmod)
        have hll : (p.take k).length = k := by have := HN.out; simp; omega
        have hdn : n / k ≤ n := Nat.div_le_self n k
        have HREP : ∀ W : World, Below w.heap.size w W → Calls Try.prog 115 #[.slice (some ⟨g, 0, none⟩) k cap, .int .i64 ((n / k : Nat) : Int)] W fun e w' => ∃ u, e = .returned u ∧ (∃ b, Ints w' b u (repL (p.take k) (n / k))) ∧ Below w.heap.size w w' := by
          intro W hW
          refine (l03Repeat_any _ (p.take k) ((n / k : Nat) : Int) (n / k) W (HS.out k W (by omega) hW) rfl (by rw [hll, hmul]; omega) (by omega) (by rw [hll]; omega)).mono ?_
          rintro e w1 ⟨u, rfl, i1, b1⟩
          exact ⟨u, rfl, ⟨_, i1⟩, hW.trans (b1.mono hW.size)⟩
        have HSM : ∀ (u : Value) (W : World), (∃ b, Ints W b u (repL (p.take k) (n / k))) → Below w.heap.size w W → Calls Try.prog 106 #[u, .slice (some ⟨g, 0, none⟩) n cap] W fun e w' => e = .returned (.bool (sameL (repL (p.take k) (n / k)) p)) ∧ Below w.heap.size w w' := by
          rintro u W ⟨b, hu⟩ hW
          refine (l00Same_any u _ b B _ p W hu (HI.out W hW)).mono ?_
          rintro e w1 ⟨rfl, b1⟩
          exact ⟨rfl, hW.trans (b1.mono hW.size)⟩
        have HREP := Lib.hid HREP
        clear hrem
        by_cases hK : k < K
        · have hno := HNO.out k hk1 hK
          have hne : repL (p.take k) (n / k) ≠ p := fun e => hno ⟨by rw [← HN.out]; exact hmod, by rw [← HN.out]; exact e⟩
          rw [sameL_no hne] at HSM
          have HSM := Lib.hid HSM
          have hm9 : n / k ≤ 1000 := Nat.le_trans hdn h2
          clear hno hne hll hmul hdn hmod
          generalize repL (p.take k) (n / k) = rp at *
          generalize n / k = m at *
          have hwm : IntKind.i64.wrap (m : Int) = (m : Int) := IntWalk.i64_in _ (by omega)
          go_wp2
          go_region_held3 (fun W => Below w.heap.size w W) (first | assumption | exact below_drew1 hb) (first | (go_at_call 115; (with_reducible refine (HREP.out _ ?_).mono ?_); assumption; rintro e w1 ⟨u, rfl, i1, hb1⟩) | (go_at_call 106; (with_reducible refine (HSM.out _ _ ?_ ?_).mono ?_); exact i1; exact hb1; rintro e w2 ⟨rfl, hb2⟩))
          go_wp2
          go_roundw
          case rel => exact ⟨k + 1, by omega, by omega, by go_num, hb2⟩
          case measure => simp [intOf]; omega
        · obtain rfl : k = K := by omega
          have hyes : repL (p.take k) (n / k) = p := by have := HOKK.out.2; rw [← HN.out] at this; exact this
          rw [sameL_yes hyes] at HSM
          have HSM := Lib.hid HSM
          have hm9 : n / k ≤ 1000 := Nat.le_trans hdn h2
          have hlk : (p.take k).length ≤ 1000000 := by rw [hll]; omega
          have HLK := Lib.hid hlk
          clear hyes hll hmul hdn hmod hlk
          generalize repL (p.take k) (n / k) = rp at *
          generalize n / k = m at *
          have hwm : IntKind.i64.wrap (m : Int) = (m : Int) := IntWalk.i64_in _ (by omega)
          go_wp2
          go_region_held3 (fun W => Below w.heap.size w W) (first | assumption | exact below_drew1 hb) (first | (go_at_call 115; (with_reducible refine (HREP.out _ ?_).mono ?_); assumption; rintro e w1 ⟨u, rfl, i1, hb1⟩) | (go_at_call 106; (with_reducible refine (HSM.out _ _ ?_ ?_).mono ?_); exact i1; exact hb1; rintro e w2 ⟨rfl, hb2⟩))
          have hse := HS.out k w2 (by omega) hb2
          have hOwn := l00Own_any _ (p.take k) w2 hse (by have := HLK.out; omega)
          have hz2 := hb2.size
          clear hse
          go_wp2_with (go_at_call 89; (with_reducible refine hOwn.mono ?_); rintro e w3 ⟨u3, rfl, i3, b3⟩)
          go_ret
          exact ⟨_, rfl, i3.mono hz2, hb2.trans (b3.mono hz2)⟩
      · have hbf : ((n : Int) % (k : Int) == 0) = false := by rw [← Int.natCast_emod]; simp; omega
        have hK : k < K := by
          refine Classical.byContradiction fun hn => ?_
          have : k = K := by omega
          subst this
          have h0 := HOKK.out.1
          rw [← HN.out] at h0
          exact hmod h0
        clear hrem hmod
        go_wp2
        go_quiet (fail)
        go_wp2
        go_roundw
        case rel => exact ⟨k + 1, by omega, by omega, by go_num, below_drewN hb _⟩
        case measure => simp [intOf]; omega
    · obtain rfl : k = n := by omega
      have hK : K = k := by omega
      subst hK
      have hse := HS.out K wr (by omega) hb
      have hlk : (p.take K).length ≤ 1000000 := by have := HN.out; simp; omega
      have hOwn := l00Own_any _ (p.take K) wr hse (by omega)
      clear hse hlk
      go_wp2_with (go_at_call 89; (with_reducible refine hOwn.mono ?_); rintro e w3 ⟨u3, rfl, i3, b3⟩)
      go_ret
      exact ⟨_, rfl, i3.mono hB, hb.trans (b3.mono hB)⟩
end Go.Proofs.Ytdnihapijlchlaa
