/- The states of one kind, the program's: index, StateIndex, StateAt. No conditions. -/
import Derived.Test.YtblllikenjofoaaDoorGpI
namespace Go.Proofs.YtblllikenjofoaaDoor
open Go.RowKit
set_option linter.unusedSimpArgs false
set_option linter.unusedVariables false

set_option maxRecDepth 10000 in
set_option maxHeartbeats 2000000 in
theorem sliceIndex_any (v : Value) (B h m K : Nat) (w : World) (hI : Sts w B v (mskS h (popN m) K)) (hm : m < K) (hK : K ≤ 1024) :
    Calls Tryd.prog 82 #[v, .agg #[.int .i64 h, .int .i64 m]] w fun e w' => e = .returned (.int .i64 (idxN m)) ∧ Below w.heap.size w w' := by
  obtain ⟨e1, e2⟩ := mskN_idx hm
  have hln := mskN_len (popN m) K
  have hsl := mskS_len h (popN m) K
  obtain ⟨g, cap, rfl, q1, q2, q3, q4⟩ := OwnK.shape2 hI (by omega)
  rw [hsl]
  have HC := Lib.hid (fun i (hi : i < (mskN (popN m) K).length) => show w.cell? ⟨g, i * 2, none⟩ = some (.int .i64 h) ∧ w.cell? ⟨g, i * 2 + 1, none⟩ = some (.int .i64 ((mskN (popN m) K).getD i 0 : Nat)) from by
    have := hI.twoS i (by omega)
    rw [show (mskS h (popN m) K).getD i s0 = ((h : Int), (((mskN (popN m) K).getD i 0 : Nat) : Int)) from mskS_at hi] at this
    exact this)
  have HN := Lib.hid (fun i (hi : i < idxN m) => mskN_idx_ne hm hi)
  have HE := Lib.hid e2
  clear e2 hI hsl q1 q3 q4
  generalize hn : (mskN (popN m) K).length = n at *
  clear hn
  generalize idxN m = x at *
  have X0 : Blk (w.alloc (.cells #[.int .i64 h, .int .i64 m] 25)) w.heap.size [.int .i64 h, .int .i64 m] 25 := Blk.made w #[.int .i64 h, .int .i64 m] _
  have B0 : Below w.heap.size w (w.alloc (.cells #[.int .i64 h, .int .i64 m] 25)) := (Below.refl _ w).alloc (Nat.le_refl _) _
  go_enter Tryd.func82, Tryd.ntmps82
  go_wp2
  go_loopw [8] (fun i wr => ∃ k : Nat, k ≤ x ∧ i = .int .i64 k ∧ Blk wr w.heap.size [.int .i64 h, .int .i64 m] 25 ∧ Below w.heap.size w wr) (fun i _ => x - (intOf i).toNat)
  case atStart => exact ⟨0, Nat.zero_le _, rfl, X0, B0⟩
  case round =>
    clear X0 B0
    obtain ⟨k, hk, rfl, X, hb⟩ := hrel
    have c0 := X.cell 0
    have c1 := X.cell 1
    simp only [List.getElem?_cons_zero, List.getElem?_cons_succ] at c0 c1
    obtain ⟨a0, a1⟩ := HC.out k (by omega)
    have d0 := (hb.cell (p := ⟨g, k * 2, none⟩) q2).trans a0
    have d1 := (hb.cell (p := ⟨g, k * 2 + 1, none⟩) q2).trans a1
    have hkn : k < n := by omega
    clear a0 a1
    by_cases hlt : k < x
    · have hne := HN.out k hlt
      generalize (mskN (popN m) K).getD k 0 = y at *
      have hq1 : ¬ ((m : Int) = (y : Int)) := by omega
      have hq2 : ¬ (m = y) := by omega
      have hq3 : ((m : Int) == (y : Int)) = false := beq_eq_false_iff_ne.2 hq1
      have HX := Lib.hid X
      clear HC HN HE X hne
      go_wp2
      go_region_held3 (fun W => W.cell? ⟨w.heap.size, 0, none⟩ = some (.int .i64 h) ∧ W.cell? ⟨w.heap.size, 1, none⟩ = some (.int .i64 m) ∧ W.cell? ⟨g, k * 2, none⟩ = some (.int .i64 h) ∧ W.cell? ⟨g, k * 2 + 1, none⟩ = some (.int .i64 y)) (exact ⟨c0, c1, d0, d1⟩) (fail)
      go_wp2
      go_roundw
      case rel => exact ⟨k + 1, by omega, by go_num, HX.out.below (Below.drew (Below.refl _ _)) HX.out.lt, Below.drew hb⟩
      case measure => simp [intOf]; omega
    · obtain rfl : k = x := by omega
      rw [HE.out] at d1
      clear HC HN HE X
      go_wp2
      go_region_held3 (fun W => W.cell? ⟨w.heap.size, 0, none⟩ = some (.int .i64 h) ∧ W.cell? ⟨w.heap.size, 1, none⟩ = some (.int .i64 m) ∧ W.cell? ⟨g, k * 2, none⟩ = some (.int .i64 h) ∧ W.cell? ⟨g, k * 2 + 1, none⟩ = some (.int .i64 m)) (exact ⟨c0, c1, d0, d1⟩) (fail)
      go_wp2
      go_ret
      exact ⟨rfl, Below.drew hb⟩

set_option maxRecDepth 10000 in
set_option maxHeartbeats 1000000 in
theorem index_any (h m : Nat) (w : World) (h1 : 1 ≤ h) (hh : h ≤ 10) (hm : m < 2 ^ h) :
    Calls Tryd.prog 50 #[.agg #[.int .i64 h, .int .i64 m]] w fun e w' => e = .returned (.int .i64 (idxN m)) ∧ Below w.heap.size w w' := by
  have hp10 := pow_lt_1024 hh
  obtain ⟨W0, hW0⟩ : ∃ W0, (w.alloc (.cells #[.int .i64 h, .int .i64 m] 25)) = W0 := ⟨_, rfl⟩
  have B0 : Below w.heap.size w W0 := by rw [← hW0]; exact (Below.refl _ w).alloc (Nat.le_refl _) _
  have P0 : Blk W0 w.heap.size [.int .i64 h, .int .i64 m] 25 := by rw [← hW0]; exact Blk.made w #[.int .i64 h, .int .i64 m] _
  have HCE := Lib.hid (fun W (hW : Below W0.heap.size W0 W) => show W.cell? ⟨w.heap.size, 0, none⟩ = some (.int .i64 h) ∧ W.cell? ⟨w.heap.size, 1, none⟩ = some (.int .i64 m) from
    ⟨(P0.below hW P0.lt).cell 0, (P0.below hW P0.lt).cell 1⟩)
  have HK := Lib.hid (fun W (hW : Below W0.heap.size W0 W) => (kind_any (h : Int) m W (by omega)).mono (R' := fun e w' => e = .returned (.agg #[.int .i64 (popN m), .int .i64 h]) ∧ Below W0.heap.size W0 w') fun e w' q => ⟨q.1, hW.trans (q.2.mono hW.size)⟩)
  have HS := Lib.hid (fun W (hW : Below W0.heap.size W0 W) => (states_any (popN m) h W (popN_le m) h1 hh).mono (R' := fun e w' => ∃ u, e = .returned u ∧ Sts w' W0.heap.size u (mskS h (popN m) (2 ^ h)) ∧ Below W0.heap.size W0 w') fun e w' ⟨u, q1, q2, q3⟩ => ⟨u, q1, q2.mono hW.size, hW.trans (q3.mono hW.size)⟩)
  have HX := Lib.hid (fun v B W hI (hW : Below W0.heap.size W0 W) => (sliceIndex_any v B h m (2 ^ h) W hI hm hp10).mono (R' := fun e w' => e = .returned (.int .i64 (idxN m)) ∧ Below W0.heap.size W0 w') fun e w' q => ⟨q.1, hW.trans (q.2.mono hW.size)⟩)
  clear P0 hp10 hm
  generalize mskS h (popN m) (2 ^ h) = L at *
  generalize popN m = p at *
  generalize idxN m = x at *
  have BW := Below.refl W0.heap.size W0
  go_enter Tryd.func50, Tryd.ntmps50
  go_wp2
  try rw [hW0]
  clear hW0
  go_region_held3 (fun W => Below W0.heap.size W0 W ∧ W.cell? ⟨w.heap.size, 0, none⟩ = some (.int .i64 h) ∧ W.cell? ⟨w.heap.size, 1, none⟩ = some (.int .i64 m)) (refine ⟨?_, HCE.out _ ?_⟩ <;> (repeat (first | assumption | exact Below.refl _ _ | refine Below.drew ?_ | refine below_drewN ?_ _))) (first | (go_at_call 47; (with_reducible refine (HK.out _ ?_).mono ?_); (repeat (first | assumption | exact Below.refl _ _ | refine Below.drew ?_)); rintro e w2 ⟨rfl, b4⟩) | (go_at_call 70; (with_reducible refine (HS.out _ ?_).mono ?_); (repeat (first | assumption | exact Below.refl _ _ | refine Below.drew ?_)); rintro e w3 ⟨u, rfl, i2, b6⟩) | (go_at_call 82; (have hE := HX.out _ _ _ i2 b6); (with_reducible refine hE.mono ?_); rintro e w4 ⟨rfl, b8⟩))
  all_goals go_wp2
  all_goals go_ret
  all_goals exact ⟨rfl, B0.trans (b8.mono B0.size)⟩

end Go.Proofs.YtblllikenjofoaaDoor
