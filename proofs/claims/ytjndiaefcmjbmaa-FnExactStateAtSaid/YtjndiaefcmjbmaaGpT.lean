/- The states of one kind, the model's: StateIndex, StateAt. No conditions. -/
import Derived.Test.YtjndiaefcmjbmaaGpS
import Derived.Deep.RegionHeld3
namespace Go.Proofs.Ytjndiaefcmjbmaa
open Go.RowKit
set_option linter.unusedSimpArgs false
set_option linter.unusedVariables false

theorem bel_alGp {w w' : World} (h : Below w.heap.size w w') (o : Obj) : Below w.heap.size w (w'.alloc o) := h.alloc h.size o

set_option maxRecDepth 10000 in
set_option maxHeartbeats 1000000 in
theorem stateIndex_spec (h m : Int) (w : World) :
    Calls Try.prog 18 #[.agg #[.int .i64 h, .int .i64 m]] w fun e w' => e = .returned (.tuple #[.int .i64 (if okSt h m then (idxN m.toNat : Int) else 0), .int .i64 (stC h m)]) ∧ Below w.heap.size w w' := by
  have HV := fun W => l08Ok_any h m W
  cases hok : okSt h m with
  | false =>
    rw [stC_false hok, if_neg (by simp)]
    rw [hok] at HV
    go_enter Try.func18, Try.ntmps18
    go_wp2_with fail
    refine (HV _).mono ?_
    rintro e w1 ⟨rfl, b3⟩
    go_wp2
    go_ret2
    exact ⟨rfl, by first | exact b3 | exact (two_kept b3).2.2⟩
  | true =>
    rw [stC_true hok, if_pos rfl]
    rw [hok] at HV
    obtain ⟨a, b, rfl, rfl, h1, h2, h3⟩ := okSt_nat hok
    rw [Int.toNat_natCast]
    have hp10 := pow_lt_1024 h2
    have HC := Lib.hid (fun W => l08Count_any b W (by omega))
    have HM := Lib.hid (fun W => l09Masks_any (popN b) a W (popN_le b) h2)
    have HF := Lib.hid (fun v B W hI => l09Find_any v B (popN b) (2 ^ a) b W hI h3 rfl hp10)
    clear hok h3 hp10
    generalize mskI (popN b) (2 ^ a) = L at *
    generalize popN b = p at *
    generalize idxN b = x at *
    go_enter Try.func18, Try.ntmps18
    go_wp2_with fail
    refine (HV _).mono ?_
    rintro e w1 ⟨rfl, b3⟩
    obtain ⟨c0, c1, b3⟩ := two_kept b3
    clear HV
    have HCE := Lib.hid (fun W (hW : Below w1.heap.size w1 W) => show W.cell? ⟨w.heap.size, 0, none⟩ = some (.int .i64 a) ∧ W.cell? ⟨w.heap.size, 1, none⟩ = some (.int .i64 b) from
      ⟨(hW.cell (p := ⟨_, _, none⟩) (cell_block c0)).trans c0, (hW.cell (p := ⟨_, _, none⟩) (cell_block c1)).trans c1⟩)
    have BW := Below.refl w1.heap.size w1
    have HC1 := Lib.hid (fun W (hW : Below w1.heap.size w1 W) => (HC.out W).mono (R' := fun e w' => e = .returned (.int .i64 p) ∧ Below w1.heap.size w1 w') fun e w' h => ⟨h.1, hW.trans (h.2.mono hW.size)⟩)
    have HM1 := Lib.hid (fun W (hW : Below w1.heap.size w1 W) => (HM.out W).mono (R' := fun e w' => ∃ u, e = .returned u ∧ Ints w' w1.heap.size u L ∧ Below w1.heap.size w1 w') fun e w' ⟨u, q1, q2, q3⟩ => ⟨u, q1, q2.mono hW.size, hW.trans (q3.mono hW.size)⟩)
    clear HC HM c0 c1
    go_wp2
    go_region_held3 (fun W => Below w1.heap.size w1 W ∧ W.cell? ⟨w.heap.size, 0, none⟩ = some (.int .i64 a) ∧ W.cell? ⟨w.heap.size, 1, none⟩ = some (.int .i64 b)) (refine ⟨?_, HCE.out _ ?_⟩ <;> (repeat (first | assumption | exact Below.refl _ _ | refine Below.drew ?_ | refine below_drewN ?_ _))) (first | (go_at_call 24; (with_reducible refine (HC1.out _ ?_).mono ?_); (repeat (first | assumption | exact Below.refl _ _ | refine Below.drew ?_)); rintro e w2 ⟨rfl, b4⟩) | (go_at_call 28; (with_reducible refine (HM1.out _ ?_).mono ?_); (repeat (first | assumption | exact Below.refl _ _ | refine Below.drew ?_)); rintro e w3 ⟨u, rfl, i2, b6⟩) | (go_at_call 31; (have hE := HF.out _ _ _ i2); (with_reducible refine hE.mono ?_); rintro e w4 ⟨rfl, rfl⟩))
    all_goals go_wp2
    all_goals go_ret2
    all_goals exact ⟨rfl, b3.trans (b6.mono b3.size)⟩

set_option maxRecDepth 10000 in
set_option maxHeartbeats 1000000 in
theorem stateAt_spec (n h i : Int) (w : World) (b1 : -9223372036854775808 ≤ i) (b2 : i ≤ 9223372036854775807) :
    Calls Try.prog 20 #[.int .i64 n, .int .i64 h, .int .i64 i] w fun e w' => e = .returned (.tuple #[.agg #[.int .i64 (atH n h i), .int .i64 (atM n h i)], .int .i64 (atC n h i)]) ∧ Below w.heap.size w w' := by
  have HC := fun W => l09Code_any n h W
  cases hk : gndOk n h with
  | false =>
    have hat : atOk n h i = false := by rw [atOk, hk]; rfl
    rw [show atH n h i = 0 from by rw [atH, hat]; rfl, show atM n h i = 0 from by rw [atM, hat]; rfl, show atC n h i = 2 from by rw [atC, hat]; rfl]
    rw [show gndC n h = 2 from by rw [gndC, hk]; rfl] at HC
    go_enter Try.func20, Try.ntmps20
    go_wp2_with fail
    refine (HC _).mono ?_
    rintro e w1 ⟨rfl, rfl⟩
    go_wp2
    refine bodyPost_ret (v := .tuple #[.agg #[.int .i64 0, .int .i64 0], .int .i64 2]) (by simp [results, Try.results20, go_sem]) rfl ?_
    exact ⟨rfl, (Below.refl _ _).alloc (Nat.le_refl _) _⟩
  | true =>
    rw [show gndC n h = 0 from by rw [gndC, hk]; rfl] at HC
    obtain ⟨p, a, rfl, rfl, h1, h2, h3⟩ := gndOk_nat hk
    have hL : (gndL (p : Int) (a : Int)).length = (mskI p (2 ^ a)).length := by rw [gndL_ok hk, Int.toNat_natCast, Int.toNat_natCast, mskS_len, mskI_len]
    have hml := mskN_len p (2 ^ a)
    have hp10 := pow_lt_1024 h2
    have hil := mskI_len p (2 ^ a)
    have HM := fun W => l09Masks_any p a W (by omega) h2
    have HI := Lib.hid (fun i (hi : i < (mskN p (2 ^ a)).length) => mskI_at hi)
    have HS := Lib.hid (fun i (hi : i < (mskN p (2 ^ a)).length) => mskS_at (a := a) hi)
    have hG : gndL (p : Int) (a : Int) = mskS a p (2 ^ a) := by rw [gndL_ok hk, Int.toNat_natCast, Int.toNat_natCast]
    rw [← hil] at HI HS hml
    cases hin : inB i 0 (((mskI p (2 ^ a)).length : Int) - 1) with
    | false =>
      have hat : atOk p a i = false := by rw [atOk, hk, hL, hin]; rfl
      rw [show atH p a i = 0 from by rw [atH, hat]; rfl, show atM p a i = 0 from by rw [atM, hat]; rfl, show atC p a i = 2 from by rw [atC, hat]; rfl]
      have HIN := fun W => l00In_any i 0 (((mskI p (2 ^ a)).length : Int) - 1) W
      rw [hin] at HIN
      have hLb : (mskI p (2 ^ a)).length ≤ 1024 := by omega
      clear hG hL hat HI HS hin hk hil hml hp10
      generalize mskI p (2 ^ a) = L at *
      generalize hln : L.length = ln at *
      have HLN := Lib.hid hln
      clear hln
      go_enter Try.func20, Try.ntmps20
      go_wp2_with fail
      refine (HC _).mono ?_
      rintro e w1 ⟨rfl, rfl⟩
      go_wp2_with fail
      refine (HM _).mono ?_
      rintro e w2 ⟨u, rfl, i2, b4⟩
      obtain ⟨c0, c1, b5⟩ := two_kept b4
      have F2 : w2.frozen? ⟨w.heap.size, 0, none⟩ = false := (frozen_kept b4 (by simp) _).trans (by simp)
      have F3 : w2.frozen? ⟨w.heap.size, 1, none⟩ = false := (frozen_kept b4 (by simp) _).trans (by simp)
      obtain ⟨ua, uc, rfl⟩ := ints_slO i2
      rw [HLN.out]
      obtain ⟨r0, r1⟩ := stc_set (.int .i64 0) (.int .i64 0) c0 c1
      clear i2 b4
      go_wp2_with fail
      with_reducible refine (HIN _).mono ?_
      rintro e w3 ⟨rfl, rfl⟩
      go_wp2
      refine bodyPost_ret (v := .tuple #[.agg #[.int .i64 0, .int .i64 0], .int .i64 2]) (by simp [results, Try.results20, go_sem, r0, r1]) rfl ?_
      exact ⟨rfl, two_below b5 (Nat.le_refl _) _ _⟩
    | true =>
      have hat : atOk p a i = true := by rw [atOk, hk, hL, hin]; rfl
      obtain ⟨n1, n2⟩ := inB_iff.1 hin
      have hiL : i.toNat < (mskI p (2 ^ a)).length := by omega
      rw [show atH p a i = a from by rw [atH, hat]; rfl, show atM p a i = ((mskN p (2 ^ a)).getD i.toNat 0 : Nat) from by rw [atM, hat, hG, HS.out _ hiL]; rfl, show atC p a i = 0 from by rw [atC, hat]; rfl]
      have HIN := fun W => l00In_any i 0 (((mskI p (2 ^ a)).length : Int) - 1) W
      rw [hin] at HIN
      have hi1 := HI.out _ hiL
      have HI1 := Lib.hid hi1
      have hLb : (mskI p (2 ^ a)).length ≤ 1024 := by omega
      clear hG hL hat HI HS hin hk hi1 hil hml hp10
      generalize (mskN p (2 ^ a)).getD i.toNat 0 = q at *
      generalize mskI p (2 ^ a) = L at *
      go_enter Try.func20, Try.ntmps20
      go_wp2_with fail
      refine (HC _).mono ?_
      rintro e w1 ⟨rfl, rfl⟩
      go_wp2_with fail
      refine (HM _).mono ?_
      rintro e w2 ⟨u, rfl, i2, b4⟩
      obtain ⟨c0, c1, b5⟩ := two_kept b4
      have F2 : w2.frozen? ⟨w.heap.size, 0, none⟩ = false := (frozen_kept b4 (by simp) _).trans (by simp)
      have F3 : w2.frozen? ⟨w.heap.size, 1, none⟩ = false := (frozen_kept b4 (by simp) _).trans (by simp)
      obtain ⟨g, cap, rfl, q1, q2, q3, q4⟩ := Ints.shape2 i2 (by omega)
      have cl := i2.cell i.toNat hiL
      rw [HI1.out] at cl
      obtain ⟨r0, r1⟩ := stc_set (.int .i64 a) (.int .i64 q) c0 c1
      clear i2 b4 q1 q2 q3 q4
      go_wp2_with fail
      with_reducible refine (HIN _).mono ?_
      rintro e w3 ⟨rfl, rfl⟩
      go_wp2
      refine bodyPost_ret (v := .tuple #[.agg #[.int .i64 a, .int .i64 q], .int .i64 0]) (by simp [results, Try.results20, go_sem, r0, r1]) rfl ?_
      exact ⟨rfl, two_below b5 (Nat.le_refl _) _ _⟩
end Go.Proofs.Ytjndiaefcmjbmaa
