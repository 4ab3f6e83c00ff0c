/- The states of one kind, the program's: StateAt. No conditions. -/
import Derived.Test.YtjndiaefcmjbmaaGpJ
namespace Go.Proofs.Ytjndiaefcmjbmaa
open Go.RowKit
set_option linter.unusedSimpArgs false
set_option linter.unusedVariables false

set_option maxRecDepth 10000 in
set_option maxHeartbeats 1000000 in
theorem stateAt_impl (n h i : Int) (w : World) (b1 : -9223372036854775808 ≤ i) (b2 : i ≤ 9223372036854775807) :
    Calls Try.prog 21 #[.int .i64 n, .int .i64 h, .int .i64 i] w fun e w' => e = .returned (.tuple #[.agg #[.int .i64 (atH n h i), .int .i64 (atM n h i)], .int .i64 (atC n h i)]) ∧ Below w.heap.size w w' := by
  have HA := fun W => allStates_impl n h W
  have HQ := Blk.made w #[.int .i64 0, .int .i64 0] 26
  have B0 := (Below.refl w.heap.size w).alloc (Nat.le_refl _) (.cells #[.int .i64 0, .int .i64 0] 26)
  have hlen := gndL_len n h
  cases hk : gndOk n h with
  | false =>
    have hat : atOk n h i = false := by rw [atOk, hk]; rfl
    rw [show atH n h i = 0 from by rw [atH, hat]; rfl, show atM n h i = 0 from by rw [atM, hat]; rfl, show atC n h i = 2 from by rw [atC, hat]; rfl]
    rw [show gndC n h = 2 from by rw [gndC, hk]; rfl] at HA
    clear hlen hk hat
    generalize gndL n h = L at *
    go_enter Try.func21, Try.ntmps21
    go_wp2_with fail
    refine (HA _).mono ?_
    rintro e w1 ⟨u, rfl, i1, bq⟩
    have Q1 := HQ.below bq HQ.lt
    have B1 := B0.trans (bq.mono B0.size)
    have d0 := Q1.cell 0
    have d1 := Q1.cell 1
    have f0 := Q1.free 0
    have f1 := Q1.free 1
    simp only [Array.toList, List.getElem?_cons_zero, List.getElem?_cons_succ] at d0 d1
    obtain ⟨r0, r1⟩ := stc_set (.int .i64 0) (.int .i64 0) d0 d1
    clear HA HQ bq Q1 i1
    go_wp2
    refine bodyPost_ret (v := .tuple #[.agg #[.int .i64 0, .int .i64 0], .int .i64 2]) (by simp [results, Try.results21, go_sem, r0, r1]) rfl ?_
    exact ⟨rfl, two_below B1 (Nat.le_refl _) _ _⟩
  | true =>
    rw [show gndC n h = 0 from by rw [gndC, hk]; rfl] at HA
    cases hin : inB i 0 (((gndL n h).length : Int) - 1) with
    | false =>
      have hat : atOk n h i = false := by rw [atOk, hk, hin]; rfl
      rw [show atH n h i = 0 from by rw [atH, hat]; rfl, show atM n h i = 0 from by rw [atM, hat]; rfl, show atC n h i = 2 from by rw [atC, hat]; rfl]
      have hor : i < 0 ∨ ((gndL n h).length : Int) ≤ i := by
        rcases Int.lt_or_le i 0 with q | q
        · exact .inl q
        · rcases Int.lt_or_le i ((gndL n h).length : Int) with q2 | q2
          · rw [inB_true ⟨q, by omega⟩] at hin; cases hin
          · exact .inr q2
      clear hk hat hin
      generalize gndL n h = L at *
      go_enter Try.func21, Try.ntmps21
      go_wp2_with fail
      refine (HA _).mono ?_
      rintro e w1 ⟨u, rfl, i1, bq⟩
      obtain ⟨x, y, rfl⟩ := sts_slO i1
      have Q1 := HQ.below bq HQ.lt
      have B1 := B0.trans (bq.mono B0.size)
      have d0 := Q1.cell 0
      have d1 := Q1.cell 1
      have f0 := Q1.free 0
      have f1 := Q1.free 1
      simp only [Array.toList, List.getElem?_cons_zero, List.getElem?_cons_succ] at d0 d1
      obtain ⟨r0, r1⟩ := stc_set (.int .i64 0) (.int .i64 0) d0 d1
      clear HA HQ bq Q1 i1
      generalize L.length = ln at *
      by_cases hneg : i < 0
      · have t1 : decide (i < 0) = true := decide_eq_true hneg
        clear hor
        go_wp2
        refine bodyPost_ret (v := .tuple #[.agg #[.int .i64 0, .int .i64 0], .int .i64 2]) (by simp [results, Try.results21, go_sem, r0, r1]) rfl ?_
        exact ⟨rfl, two_below B1 (Nat.le_refl _) _ _⟩
      · have t1 : decide (i < 0) = false := decide_eq_false hneg
        have hge : (ln : Int) ≤ i := by omega
        have t2 : decide ((ln : Int) ≤ i) = true := decide_eq_true hge
        clear hor
        go_wp2
        refine bodyPost_ret (v := .tuple #[.agg #[.int .i64 0, .int .i64 0], .int .i64 2]) (by simp [results, Try.results21, go_sem, r0, r1]) rfl ?_
        exact ⟨rfl, two_below B1 (Nat.le_refl _) _ _⟩
    | true =>
      have hat : atOk n h i = true := by rw [atOk, hk, hin]; rfl
      obtain ⟨n1, n2⟩ := inB_iff.1 hin
      have hiL : i.toNat < (gndL n h).length := by omega
      obtain ⟨p, a, rfl, rfl, h1, h2, h3, hL⟩ := gndL_as hk
      have hfst : ((gndL (p : Int) (a : Int)).getD i.toNat (0, 0)).1 = (a : Int) := by
        rw [hL] at hiL ⊢
        rw [mskS_len] at hiL
        rw [mskS_at hiL]
      rw [show atH p a i = a from by rw [atH, hat]; rfl, show atM p a i = ((gndL (p : Int) (a : Int)).getD i.toNat (0, 0)).2 from by rw [atM, hat]; rfl, show atC p a i = 0 from by rw [atC, hat]; rfl]
      clear hk hat hin hL h1 h2 h3
      have HT := Lib.hid hfst
      clear hfst
      generalize gndL (p : Int) (a : Int) = L at *
      obtain ⟨mv, hmv⟩ : ∃ mv, (L.getD i.toNat (0, 0)).2 = mv := ⟨_, rfl⟩
      rw [hmv]
      have HMV := Lib.hid hmv
      clear hmv
      go_enter Try.func21, Try.ntmps21
      go_wp2_with fail
      refine (HA _).mono ?_
      rintro e w1 ⟨u, rfl, i1, bq⟩
      obtain ⟨g, cap, rfl, q1, q2, q3, q4⟩ := OwnK.shape2 i1 (by omega)
      have Q1 := HQ.below bq HQ.lt
      have B1 := B0.trans (bq.mono B0.size)
      have d0 := Q1.cell 0
      have d1 := Q1.cell 1
      have f0 := Q1.free 0
      have f1 := Q1.free 1
      simp only [Array.toList, List.getElem?_cons_zero, List.getElem?_cons_succ] at d0 d1
      have cl := i1.twoS i.toNat hiL
      rw [TwoS, show L.getD i.toNat s0 = L.getD i.toNat (0, 0) from rfl, HT.out, HMV.out] at cl
      obtain ⟨cl0, cl1⟩ := cl
      obtain ⟨r0, r1⟩ := stc_set (.int .i64 a) (.int .i64 mv) d0 d1
      clear HA HQ bq Q1 i1 q1 q3 q4 HT HMV
      generalize L.length = ln at *
      have t1 : decide (i < 0) = false := decide_eq_false (by omega)
      have t2 : decide ((ln : Int) ≤ i) = false := decide_eq_false (by omega)
      go_wp2
      refine bodyPost_ret (v := .tuple #[.agg #[.int .i64 a, .int .i64 mv], .int .i64 0]) (by simp [results, Try.results21, go_sem, r0, r1]) rfl ?_
      exact ⟨rfl, two_below B1 (Nat.le_refl _) _ _⟩
end Go.Proofs.Ytjndiaefcmjbmaa
