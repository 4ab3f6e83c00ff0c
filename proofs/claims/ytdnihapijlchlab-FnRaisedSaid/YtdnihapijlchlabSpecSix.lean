/- The model's chapter 3, fourth part: SwapLandings, RaiseThrow, ShiftThrows, DualPattern, RepeatPattern answer as the plain mathematics says. No conditions. -/
import Derived.Test.YtdnihapijlchlabSpecFiv
namespace Go.Proofs.Ytdnihapijlchlab
open Go.RowKit
set_option linter.unusedSimpArgs false
set_option linter.unusedVariables false

theorem swapLandings_far_spec (v : Value) (B : Nat) (p : List Int) (i k : Int) (w : World) (h : Ints w B v p) (hok : okPat p = true) (hin : (inB i 0 ((p.length : Int) - 1) && inB k 0 ((p.length : Int) - 1)) = false) :
    Calls Try.prog 31 #[v, .int .i64 i, .int .i64 k] w fun e w' => ∃ u, e = .returned (.tuple #[u, .int .i64 2]) ∧ Ints w' w.heap.size u [] ∧ Below w.heap.size w w' := by
  obtain ⟨l1, l2⟩ := okPat_len hok
  obtain ⟨g, cap, rfl, _, hg, hc, hm⟩ := h.shape2 l1
  cases hi : inB i 0 ((p.length : Int) - 1) with
  | false =>
    clear hin
    go_enter Try.func31, Try.ntmps31
    go_wp2_with fail
    refine (l02Ok_any _ B p _ h).mono ?_
    rintro e w' ⟨rfl, hb⟩
    rw [hok]
    go_wp2_with fail
    refine (l00In_any _ _ _ _).mono ?_
    rintro e w'' ⟨rfl, rfl⟩
    rw [hi]
    go_wp2
    go_ret2
    exact ⟨_, rfl, Ints.nil _ _, hb⟩
  | true =>
    rw [hi, Bool.true_and] at hin
    go_enter Try.func31, Try.ntmps31
    go_wp2_with fail
    refine (l02Ok_any _ B p _ h).mono ?_
    rintro e w' ⟨rfl, hb⟩
    rw [hok]
    go_wp2_with fail
    refine (l00In_any _ _ _ _).mono ?_
    rintro e w'' ⟨rfl, rfl⟩
    rw [hi]
    go_wp2_with fail
    refine (l00In_any _ _ _ _).mono ?_
    rintro e w'' ⟨rfl, rfl⟩
    rw [hin]
    go_wp2
    go_ret2
    exact ⟨_, rfl, Ints.nil _ _, hb⟩

set_option maxHeartbeats 1000000 in
theorem swapLandings_near_spec (v : Value) (B : Nat) (p : List Int) (i k : Nat) (w : World) (h : Ints w B v p) (hok : okPat p = true) (hi : i < p.length) (hk : k < p.length) :
    Calls Try.prog 31 #[v, .int .i64 i, .int .i64 k] w fun e w' => ∃ u, e = .returned (.tuple #[u, .int .i64 (chkC (swapL p i k))]) ∧ Ints w' w.heap.size u (resA (chkC (swapL p i k)) (swapL p i k)) ∧ Below w.heap.size w w' := by
  obtain ⟨l1, l2⟩ := okPat_len hok
  obtain ⟨g, cap, rfl, _, hg, hc, hm⟩ := h.shape2 l1
  have hi1 : inB i 0 ((p.length : Int) - 1) = true := inB_true (by omega)
  have hk1 : inB k 0 ((p.length : Int) - 1) = true := inB_true (by omega)
  obtain ⟨q, hq⟩ : ∃ q, q = swapL p i k := ⟨_, rfl⟩
  rw [← hq]
  have HR : Hid (q = (p.set i (p.getD k 0 + k - i)).set k (p.getD i 0 + i - k)) := hq
  clear hq
  have HI1 := Lib.hid hi1
  have HK1 := Lib.hid hk1
  have HOK := Lib.hid hok
  clear hi1 hk1 hok
  go_enter Try.func31, Try.ntmps31
  go_wp2_with fail
  refine (l02Ok_any _ B p _ h).mono ?_
  rintro e w1 ⟨rfl, b1⟩
  rw [HOK.out]
  go_wp2_with fail
  refine (l00In_any _ _ _ _).mono ?_
  rintro e w'' ⟨rfl, rfl⟩
  rw [HI1.out]
  go_wp2_with fail
  refine (l00In_any _ _ _ _).mono ?_
  rintro e w'' ⟨rfl, rfl⟩
  rw [HK1.out]
  have hs := b1.size
  go_wp2_with fail
  refine (l00Own_any _ p _ ((h.below b1).sees l1) (by omega)).mono ?_
  rintro e w2 ⟨u, rfl, i2, b2⟩
  have B2 := b1.trans (b2.mono hs)
  have hp2 := (h.below b1).below b2
  have cpi := hp2.cell i hi
  have cpk := hp2.cell k hk
  obtain ⟨g2, cap2, rfl, hg2, hg2', hc2, hm2⟩ := i2.shape2 l1
  have c2i := i2.cell i hi
  have c2k := i2.cell k hk
  have f2i := i2.free i
  have f2k := i2.free k
  have i3 := ((i2.set i (p.getD k 0 + k - i)).set k (p.getD i 0 + i - k)).mono hs
  rw [← HR.out] at i3
  have b3 := below_cellset (below_cellset B2 i (show w.heap.size ≤ g2 by omega) (.int .i64 (p.getD k 0 + k - i))) k (show w.heap.size ≤ g2 by omega) (.int .i64 (p.getD i 0 + i - k))
  obtain ⟨hxi1, hxi2⟩ := okPat_at HOK.out i hi
  obtain ⟨hxk1, hxk2⟩ := okPat_at HOK.out k hk
  have hgg : ¬ g2 = g := by have := b1.size; omega
  clear i2 B2 HR h b1 b2 hp2 HI1 HK1 HOK
  generalize p.getD i 0 = x at *
  generalize p.getD k 0 = y at *
  generalize p.length = n at *
  by_cases hik : i = k
  · subst hik
    obtain rfl : x = y := by have := cpi.symm.trans cpk; simpa using this
    rw [show x + (i : Int) - i = x from by omega] at i3 b3
    clear cpk c2k f2k
    go_wp2_with (go_at_call 67; (with_reducible refine (l03Checked_any _ _ _ _ i3).mono ?_); rintro e w5 ⟨u, rfl, i5, rfl⟩)
    go_ret2
    exact ⟨_, rfl, i5, b3⟩
  · go_wp2_with (go_at_call 67; (with_reducible refine (l03Checked_any _ _ _ _ i3).mono ?_); rintro e w5 ⟨u, rfl, i5, rfl⟩)
    go_ret2
    exact ⟨_, rfl, i5, b3⟩

theorem swapLandings_spec (v : Value) (B : Nat) (p : List Int) (i k : Int) (w : World) (h : Ints w B v p) :
    Calls Try.prog 31 #[v, .int .i64 i, .int .i64 k] w fun e w' => ∃ u, e = .returned (.tuple #[u, .int .i64 (swapC p i k)]) ∧ Ints w' w.heap.size u (resA (swapC p i k) (swapL p i.toNat k.toNat)) ∧ Below w.heap.size w w' := by
  cases hok : okPat p with
  | false =>
    rw [swapC, patC_bad _ _ hok, resA_bad _ _ (by decide)]
    go_enter Try.func31, Try.ntmps31
    go_wp2_with fail
    refine (l02Ok_any v B p _ h).mono ?_
    rintro e w' ⟨rfl, hb⟩
    rw [hok]
    go_wp2
    go_ret2
    exact ⟨_, rfl, Ints.nil _ _, hb⟩
  | true =>
    cases hin : (inB i 0 ((p.length : Int) - 1) && inB k 0 ((p.length : Int) - 1)) with
    | false =>
      rw [swapC, hin, patC_far _ hok, resA_bad _ _ (by decide)]
      exact swapLandings_far_spec v B p i k w h hok hin
    | true =>
      rw [swapC, hin, patC_ok _ hok]
      rw [Bool.and_eq_true, inB_iff, inB_iff] at hin
      obtain ⟨a, rfl⟩ : ∃ a : Nat, i = a := ⟨i.toNat, by omega⟩
      obtain ⟨b, rfl⟩ : ∃ b : Nat, k = b := ⟨k.toNat, by omega⟩
      exact swapLandings_near_spec v B p a b w h hok (by omega) (by omega)

set_option maxHeartbeats 400000 in
theorem shiftThrows_spec (v : Value) (B : Nat) (p : List Int) (s : Int) (w : World) (h : Ints w B v p) :
    Calls Try.prog 29 #[v, .int .i64 s] w fun e w' => ∃ u, e = .returned (.tuple #[u, .int .i64 (patC p (inB s (-15) 15) (chkC (shiftL p s)))]) ∧ Ints w' w.heap.size u (resA (patC p (inB s (-15) 15) (chkC (shiftL p s))) (shiftL p s)) ∧ Below w.heap.size w w' := by
  cases hok : okPat p with
  | false =>
    rw [patC_bad _ _ hok, resA_bad _ _ (by decide)]
    go_enter Try.func29, Try.ntmps29
    go_wp2_with fail
    refine (l02Ok_any v B p _ h).mono ?_
    rintro e w' ⟨rfl, hb⟩
    rw [hok]
    go_wp2
    go_ret2
    exact ⟨_, rfl, Ints.nil _ _, hb⟩
  | true =>
    cases hin : inB s (-15) 15 with
    | false =>
      rw [patC_far _ hok, resA_bad _ _ (by decide)]
      go_enter Try.func29, Try.ntmps29
      go_wp2_with fail
      refine (l02Ok_any v B p _ h).mono ?_
      rintro e w' ⟨rfl, hb⟩
      rw [hok]
      go_wp2_with fail
      refine (l00In_any _ _ _ _).mono ?_
      rintro e w'' ⟨rfl, rfl⟩
      rw [hin]
      go_wp2
      go_ret2
      exact ⟨_, rfl, Ints.nil _ _, hb⟩
    | true =>
      rw [patC_ok _ hok]
      obtain ⟨hb1, hb2⟩ := inB_iff.1 hin
      obtain ⟨l1, l2⟩ := okPat_len hok
      obtain ⟨g, cap, rfl, _, hg, hc, hm⟩ := h.shape2 l1
      have hx := fun i hi => okPat_at hok i hi
      have HOK := Lib.hid hok
      have HIN := Lib.hid hin
      have HT := Lib.hid (shiftL_take p s)
      have H0 : Hid ((shiftL p s).take 0 = []) := by unfold Hid; simp
      have HE : Hid ((shiftL p s).take p.length = shiftL p s) := List.take_of_length_le (by rw [shiftL_len]; exact Nat.le_refl _)
      generalize shiftL p s = q at *
      clear hok hin
      go_enter Try.func29, Try.ntmps29
      go_wp2_with fail
      refine (l02Ok_any _ B p _ h).mono ?_
      rintro e w1 ⟨rfl, b1⟩
      rw [HOK.out]
      go_wp2_with fail
      refine (l00In_any _ _ _ _).mono ?_
      rintro e w'' ⟨rfl, rfl⟩
      rw [HIN.out]
      have hs := b1.size
      have hp1 := h.below b1
      clear h HOK HIN
      go_wp2
      go_loopw [6, 7] (fun v i wr => ∃ k : Nat, k ≤ p.length ∧ i = .int .i64 k ∧ Ints wr w.heap.size v (q.take k) ∧ Below w.heap.size w wr ∧ Ints wr B (.slice (some ⟨g, 0, none⟩) p.length cap) p) (fun _ i _ => p.length - (intOf i).toNat)
      case atStart =>
        refine ⟨0, Nat.zero_le _, rfl, ?_, b1.alloc hs _, hp1.alloc _⟩
        rw [H0.out]
        exact World.ownsRow_lit _ #[] _ hs (by simp [maxLen]) rfl
      case round =>
        obtain ⟨k, hk, rfl, hi, hb, hp⟩ := hrel
        have hBs := hb.size
        by_cases hlt : k < p.length
        · have c1 := hp.cell k hlt
          obtain ⟨hx1, hx2⟩ := hx k hlt
          have hT := HT.out k hlt
          have hlen : (q.take k).length ≤ 1000000000 := by simp; omega
          have HTT := Lib.hid hT
          clear hT hp1 hx
          generalize p.getD k 0 = x at *
          go_wp2_with (at_builtin; refine append_int _ rfl _ _ rfl _ _ _ rfl hi _ rfl (by omega) hBs ?_; intro v' w3 hi1 hg1; refine Hid.out ?_)
          have hb1' := hi.below_grown hb hBs hg1
          have hp' : Ints w3 B (.slice (some ⟨g, 0, none⟩) p.length cap) p := hp.block (w' := w3) (fun g' hg' hlt' => hg1.block g' hlt' (by
            intro e
            have h1 := hi.own_ge e.symm
            simp [Value.ownBlock] at hg'
            omega))
          clear hg1 hi hb hp
          refine Lib.hid ?_
          go_wp2
          go_roundw
          case rel => exact ⟨k + 1, by omega, by go_num, by rw [HTT.out]; exact hi1, hb1', hp'⟩
          case measure => simp [intOf]; omega
        · obtain rfl : k = p.length := by omega
          rw [HE.out] at hi
          clear hx
          go_wp2_with (go_at_call 67; (with_reducible refine (l03Checked_any _ _ _ _ hi).mono ?_); rintro e w5 ⟨u, rfl, i5, rfl⟩)
          go_ret2
          exact ⟨_, rfl, i5, hb⟩

theorem repeatPattern_spec (v : Value) (B : Nat) (p : List Int) (s : Int) (w : World) (h : Ints w B v p) :
    Calls Try.prog 20 #[v, .int .i64 s] w fun e w' => ∃ u, e = .returned (.tuple #[u, .int .i64 (patC p (inB s 1 (12 / (p.length : Int))) 0)]) ∧ Ints w' w.heap.size u (resA (patC p (inB s 1 (12 / (p.length : Int))) 0) (repL p s.toNat)) ∧ Below w.heap.size w w' := by
  cases hok : okPat p with
  | false =>
    rw [patC_bad _ _ hok, resA_bad _ _ (by decide)]
    go_enter Try.func20, Try.ntmps20
    go_wp2_with fail
    refine (l02Ok_any v B p _ h).mono ?_
    rintro e w' ⟨rfl, hb⟩
    rw [hok]
    go_wp2
    go_ret2
    exact ⟨_, rfl, Ints.nil _ _, hb⟩
  | true =>
    obtain ⟨l1, l2⟩ := okPat_len hok
    obtain ⟨g, cap, rfl, _, hg, hc, hm⟩ := h.shape2 l1
    have HI := fun W => l00In_any s 1 (12 / (p.length : Int)) W
    have HV := fun w => l02Ok_any (.slice (some ⟨g, 0, none⟩) p.length cap) B p w
    cases hin : inB s 1 (12 / (p.length : Int)) with
    | false =>
      rw [patC_far _ hok, resA_bad _ _ (by decide)]
      rw [hin] at HI
      rw [hok] at HV
      clear hin hok
      generalize hn : p.length = n at *
      clear hn
      have hn0 : ¬ n = 0 := by omega
      go_enter Try.func20, Try.ntmps20
      go_wp2_with fail
      refine (HV _ h).mono ?_
      rintro e w' ⟨rfl, hb⟩
      go_wp2_with fail
      refine (HI _).mono ?_
      rintro e w'' ⟨rfl, rfl⟩
      go_wp2
      go_ret2
      exact ⟨_, rfl, Ints.nil _ _, hb⟩
    | true =>
      rw [patC_ok _ hok, resA_ok]
      obtain ⟨hb1, hb2⟩ := inB_iff.1 hin
      have hmul : s.toNat * p.length ≤ 12 := by
        have h1 : s * (p.length : Int) ≤ 12 := Int.le_trans (Int.mul_le_mul_of_nonneg_right hb2 (by omega)) (Int.ediv_mul_le _ (by omega))
        have h2 : ((s.toNat * p.length : Nat) : Int) ≤ 12 := by rw [Int.natCast_mul, show ((s.toNat : Nat) : Int) = s from by omega]; exact h1
        omega
      have hs12 : s.toNat ≤ 12 := Nat.le_trans (Nat.le_mul_of_pos_right _ l1) hmul
      have HREP : Hid (∀ w1, Below w.heap.size w w1 → Calls Try.prog 56 #[.slice (some ⟨g, 0, none⟩) p.length cap, .int .i64 s] w1 fun e w' => ∃ u, e = .returned u ∧ Ints w' w1.heap.size u (repL p s.toNat) ∧ Below w1.heap.size w1 w') :=
        fun w1 hb => l03Repeat_any _ p s s.toNat w1 ((h.below hb).sees l1) (by omega) (by omega) (by omega) (by omega)
      rw [hin] at HI
      rw [hok] at HV
      generalize repL p s.toNat = q at *
      clear hin hok hb2 hmul hs12
      generalize hn : p.length = n at *
      clear hn
      have hn0 : ¬ n = 0 := by omega
      go_enter Try.func20, Try.ntmps20
      go_wp2_with fail
      refine (HV _ h).mono ?_
      rintro e w1 ⟨rfl, hb⟩
      go_wp2_with fail
      refine (HI _).mono ?_
      rintro e w'' ⟨rfl, rfl⟩
      have HC := HREP.out w1 hb
      have hs := hb.size
      clear HI HV
      go_wp2_with fail
      refine HC.mono ?_
      rintro e w2 ⟨u, rfl, i2, b2⟩
      go_wp2
      go_ret2
      exact ⟨_, rfl, i2.mono hs, hb.trans (b2.mono hs)⟩
end Go.Proofs.Ytdnihapijlchlab
