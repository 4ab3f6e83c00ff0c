/- The states of one kind, the model's: StateIndex, StateAt. No conditions. -/
import Derived.Test.YtdghbbnddgngoaaDoorGpS
import Derived.Deep.RegionHeld3
namespace Go.Proofs.YtdghbbnddgngoaaDoor
open Go.RowKit
set_option linter.unusedSimpArgs false
set_option linter.unusedVariables false

theorem bel_alGp {w w' : World} (h : Below w.heap.size w w') (o : Obj) : Below w.heap.size w (w'.alloc o) := h.alloc h.size o

set_option maxRecDepth 10000 in
set_option maxHeartbeats 1000000 in
theorem stateIndex_spec (h m : Int) (w : World) :
    Calls Tryd.prog 12 #[.agg #[.int .i64 h, .int .i64 m]] w fun e w' => e = .returned (.tuple #[.int .i64 (if okSt h m then (idxN m.toNat : Int) else 0), .int .i64 (stC h m)]) ∧ Below w.heap.size w w' := by
  have HV := fun W => l08Ok_any h m W
  cases hok : okSt h m with
  | false =>
    rw [stC_false hok, if_neg (by simp)]
    rw [hok] at HV
    go_enter Tryd.func12, Tryd.ntmps12
    go_wp2_with fail
    refine (HV _).mono ?_
    rintro e w1 ⟨rfl, b3⟩
    go_wp2
    go_ret2
    exact ⟨rfl, by first | exact b3 | exact (two_kept b3).2.2⟩
  | true =>
    rw [stC_true hok, if_pos rfl]
    rw [hok] at HV
    obtain ⟨a, b, rfl, rfl, h1, h2, h3⟩ := okSt_nat hok
    rw [Int.toNat_natCast]
    have hp10 := pow_lt_1024 h2
    have HC := Lib.hid (fun W => l08Count_any b W (by omega))
    have HM := Lib.hid (fun W => l09Masks_any (popN b) a W (popN_le b) h2)
    have HF := Lib.hid (fun v B W hI => l09Find_any v B (popN b) (2 ^ a) b W hI h3 rfl hp10)
    clear hok h3 hp10
    generalize mskI (popN b) (2 ^ a) = L at *
    generalize popN b = p at *
    generalize idxN b = x at *
    go_enter Tryd.func12, Tryd.ntmps12
    go_wp2_with fail
    refine (HV _).mono ?_
    rintro e w1 ⟨rfl, b3⟩
    obtain ⟨c0, c1, b3⟩ := two_kept b3
    clear HV
    have HCE := Lib.hid (fun W (hW : Below w1.heap.size w1 W) => show W.cell? ⟨w.heap.size, 0, none⟩ = some (.int .i64 a) ∧ W.cell? ⟨w.heap.size, 1, none⟩ = some (.int .i64 b) from
      ⟨(hW.cell (p := ⟨_, _, none⟩) (cell_block c0)).trans c0, (hW.cell (p := ⟨_, _, none⟩) (cell_block c1)).trans c1⟩)
    have BW := Below.refl w1.heap.size w1
    have HC1 := Lib.hid (fun W (hW : Below w1.heap.size w1 W) => (HC.out W).mono (R' := fun e w' => e = .returned (.int .i64 p) ∧ Below w1.heap.size w1 w') fun e w' h => ⟨h.1, hW.trans (h.2.mono hW.size)⟩)
    have HM1 := Lib.hid (fun W (hW : Below w1.heap.size w1 W) => (HM.out W).mono (R' := fun e w' => ∃ u, e = .returned u ∧ Ints w' w1.heap.size u L ∧ Below w1.heap.size w1 w') fun e w' ⟨u, q1, q2, q3⟩ => ⟨u, q1, q2.mono hW.size, hW.trans (q3.mono hW.size)⟩)
    clear HC HM c0 c1
    go_wp2
    go_region_held3 (fun W => Below w1.heap.size w1 W ∧ W.cell? ⟨w.heap.size, 0, none⟩ = some (.int .i64 a) ∧ W.cell? ⟨w.heap.size, 1, none⟩ = some (.int .i64 b)) (refine ⟨?_, HCE.out _ ?_⟩ <;> (repeat (first | assumption | exact Below.refl _ _ | refine Below.drew ?_ | refine below_drewN ?_ _))) (first | (go_at_call 35; (with_reducible refine (HC1.out _ ?_).mono ?_); (repeat (first | assumption | exact Below.refl _ _ | refine Below.drew ?_)); rintro e w2 ⟨rfl, b4⟩) | (go_at_call 34; (with_reducible refine (HM1.out _ ?_).mono ?_); (repeat (first | assumption | exact Below.refl _ _ | refine Below.drew ?_)); rintro e w3 ⟨u, rfl, i2, b6⟩) | (go_at_call 33; (have hE := HF.out _ _ _ i2); (with_reducible refine hE.mono ?_); rintro e w4 ⟨rfl, rfl⟩))
    all_goals go_wp2
    all_goals go_ret2
    all_goals exact ⟨rfl, b3.trans (b6.mono b3.size)⟩

end Go.Proofs.YtdghbbnddgngoaaDoor
