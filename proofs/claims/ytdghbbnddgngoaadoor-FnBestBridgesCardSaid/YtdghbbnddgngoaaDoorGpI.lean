/- The states of one kind, the program's: kind, states, kindOf, AllStates, StateCount. No conditions. -/
import Derived.Test.YtdghbbnddgngoaaDoorGpT
import Derived.Test.YtdghbbnddgngoaaDoorStJ
import Derived.Deep.DeepCutAuto
namespace Go.Proofs.YtdghbbnddgngoaaDoor
open Go.RowKit
set_option linter.unusedSimpArgs false
set_option linter.unusedVariables false

set_option maxRecDepth 10000 in
set_option maxHeartbeats 1000000 in
theorem kind_any (h : Int) (m : Nat) (w : World) (hm : m < 1024) :
    Calls Tryd.prog 24 #[.agg #[.int .i64 h, .int .i64 m]] w fun e w' => e = .returned (.agg #[.int .i64 (popN m), .int .i64 h]) ∧ Below w.heap.size w w' := by
  obtain ⟨W0, hW0⟩ : ∃ W0, ((w.alloc (.cells #[.int .i64 h, .int .i64 m] 35)).alloc (.cells #[.int .i64 0, .int .i64 0] 53)) = W0 := ⟨_, rfl⟩
  have B0 : Below w.heap.size w W0 := by rw [← hW0]; exact bel_alGp ((Below.refl _ w).alloc (Nat.le_refl _) _) _
  have P0 : Blk W0 w.heap.size [.int .i64 h, .int .i64 m] 35 := by rw [← hW0]; exact (Blk.made w #[.int .i64 h, .int .i64 m] 35).alloc _
  have Q0 : Blk W0 (w.heap.size + 1) [.int .i64 0, .int .i64 0] 53 := by
    rw [← hW0]
    have := Blk.made (w.alloc (.cells #[.int .i64 h, .int .i64 m] 35)) #[.int .i64 0, .int .i64 0] 53
    simpa using this
  have HP := Lib.hid (fun W (hW : Below W0.heap.size W0 W) => (props_any h m W hm).mono (R' := fun e w' => e = .returned (.int .i64 (popN m)) ∧ Below W0.heap.size W0 w' ∧ w'.cell? ⟨w.heap.size + 1, 0, none⟩ = some (.int .i64 0) ∧ w'.cell? ⟨w.heap.size + 1, 1, none⟩ = some (.int .i64 0) ∧ w'.frozen? ⟨w.heap.size + 1, 0, none⟩ = false ∧ w'.frozen? ⟨w.heap.size + 1, 1, none⟩ = false) fun e w' q => by
    have b2 := hW.trans (q.2.mono hW.size)
    have Q2 := Q0.below b2 Q0.lt
    exact ⟨q.1, b2, Q2.cell 0, Q2.cell 1, Q2.free 0, Q2.free 1⟩)
  have HCE := Lib.hid (fun W (hW : Below W0.heap.size W0 W) => show W.cell? ⟨w.heap.size, 0, none⟩ = some (.int .i64 h) ∧ W.cell? ⟨w.heap.size, 1, none⟩ = some (.int .i64 m) from
    ⟨(P0.below hW P0.lt).cell 0, (P0.below hW P0.lt).cell 1⟩)
  clear P0 Q0
  generalize popN m = q at *
  go_enter Tryd.func24, Tryd.ntmps24
  go_wp2
  try rw [hW0]
  clear hW0
  have BW := Below.refl W0.heap.size W0
  go_region_held3 (fun W => W.cell? ⟨w.heap.size, 0, none⟩ = some (.int .i64 h) ∧ W.cell? ⟨w.heap.size, 1, none⟩ = some (.int .i64 m)) (first | (refine HCE.out _ ?_ <;> (repeat (first | assumption | exact Below.refl _ _ | refine Below.drew ?_)) <;> done) | exact ⟨(World.cell?_setCell_other _ ⟨_, _, _⟩ ⟨_, _, _⟩ _ (by simp)).trans ((World.cell?_setCell_other _ ⟨_, _, _⟩ ⟨_, _, _⟩ _ (by simp)).trans (HCE.out _ (by assumption)).1), (World.cell?_setCell_other _ ⟨_, _, _⟩ ⟨_, _, _⟩ _ (by simp)).trans ((World.cell?_setCell_other _ ⟨_, _, _⟩ ⟨_, _, _⟩ _ (by simp)).trans (HCE.out _ (by assumption)).2)⟩) (first | (go_at_call 51; (with_reducible refine (HP.out _ ?_).mono ?_); (repeat (first | assumption | exact Below.refl _ _ | refine Below.drew ?_)); rintro e w2 ⟨rfl, b4, d0, d1, e0, e1⟩))
  all_goals obtain ⟨r0, r1⟩ := stc_set (.int .i64 q) (.int .i64 h) d0 d1
  all_goals go_wp2
  all_goals refine bodyPost_ret (v := .agg #[.int .i64 q, .int .i64 h]) (by simp [results, Tryd.results24, go_sem, r0, r1]) rfl ?_
  all_goals exact ⟨rfl, two_below (B0.trans (b4.mono B0.size)) (by omega) _ _⟩

set_option maxRecDepth 10000 in
set_option maxHeartbeats 1000000 in
theorem kindOf_any (n h : Int) (w : World) :
    Calls Tryd.prog 63 #[.int .i64 n, .int .i64 h] w fun e w' => e = .returned (.tuple #[.agg #[.int .i64 (if gndOk n h then n else 0), .int .i64 (if gndOk n h then h else 0)], .int .i64 (gndC n h)]) ∧ Below w.heap.size w w' := by
  have HG := fun W => groundState_impl n h W
  have HQ := Blk.made w #[.int .i64 0, .int .i64 0] 53
  have B0 := (Below.refl w.heap.size w).alloc (Nat.le_refl _) (.cells #[.int .i64 0, .int .i64 0] 53)
  unfold gndC
  cases hk : gndOk n h with
  | false =>
    rw [hk] at HG
    simp only [Bool.false_eq_true, if_false] at HG ⊢
    go_enter Tryd.func63, Tryd.ntmps63
    go_wp2_with fail
    refine (HG _).mono ?_
    rintro e w1 ⟨rfl, b1⟩
    have Q1 := (HQ.below b1 HQ.lt).alloc (.cells #[.int .i64 0, .int .i64 0] 35)
    have B1 := bel_alGp (B0.trans (b1.mono B0.size)) (.cells #[.int .i64 0, .int .i64 0] 35)
    have d0 := Q1.cell 0
    have d1 := Q1.cell 1
    have f0 := Q1.free 0
    have f1 := Q1.free 1
    simp only [Array.toList, List.getElem?_cons_zero, List.getElem?_cons_succ] at d0 d1
    obtain ⟨r0, r1⟩ := stc_set (.int .i64 0) (.int .i64 0) d0 d1
    clear HG HQ b1 Q1
    go_wp2
    refine bodyPost_ret (v := .tuple #[.agg #[.int .i64 0, .int .i64 0], .int .i64 2]) (by simp [results, Tryd.results63, go_sem, r0, r1]) rfl ?_
    exact ⟨rfl, two_below B1 (Nat.le_refl _) _ _⟩
  | true =>
    rw [hk] at HG
    simp only [if_true] at HG ⊢
    generalize (2 : Int) ^ n.toNat - 1 = P at *
    go_enter Tryd.func63, Tryd.ntmps63
    go_wp2_with fail
    refine (HG _).mono ?_
    rintro e w1 ⟨rfl, b1⟩
    have Q1 := (HQ.below b1 HQ.lt).alloc (.cells #[.int .i64 h, .int .i64 P] 35)
    have B1 := bel_alGp (B0.trans (b1.mono B0.size)) (.cells #[.int .i64 h, .int .i64 P] 35)
    have d0 := Q1.cell 0
    have d1 := Q1.cell 1
    have f0 := Q1.free 0
    have f1 := Q1.free 1
    simp only [Array.toList, List.getElem?_cons_zero, List.getElem?_cons_succ] at d0 d1
    obtain ⟨r0, r1⟩ := stc_set (.int .i64 n) (.int .i64 h) d0 d1
    clear HG HQ b1 Q1
    go_wp2
    refine bodyPost_ret (v := .tuple #[.agg #[.int .i64 n, .int .i64 h], .int .i64 0]) (by simp [results, Tryd.results63, go_sem, r0, r1]) rfl ?_
    exact ⟨rfl, two_below B1 (Nat.le_refl _) _ _⟩

theorem eq_cast (a b : Nat) : ((a : Int) == (b : Int)) = decide (a = b) := by
  by_cases h : a = b
  · simp [h]
  · rw [decide_eq_false h]; exact beq_eq_false_iff_ne.2 (by omega)

set_option maxRecDepth 10000 in
set_option maxHeartbeats 4000000 in
theorem states_any (p h : Nat) (w : World) (hp : p ≤ 10) (h1 : 1 ≤ h) (hh : h ≤ 10) :
    Calls Tryd.prog 27 #[.agg #[.int .i64 p, .int .i64 h]] w fun e w' => ∃ u, e = .returned u ∧ Sts w' w.heap.size u (mskS h p (2 ^ h)) ∧ Below w.heap.size w w' := by
  obtain ⟨P, hP, hPN, p1, p2⟩ := nextPow h hh
  obtain ⟨K, hK⟩ : ∃ K : Nat, 2 ^ h = K := ⟨_, rfl⟩
  rw [hK] at hPN ⊢
  subst hPN
  have hP2 : (2 : Int) ^ (h : Int).toNat = (K : Int) := by rw [Int.toNat_natCast]; exact hP
  clear hK
  have HKi := Lib.hid (fun (t : Nat) (W : World) (ht : t < K) => kind_any (h : Int) t W (by omega))
  have HM1 := Lib.hid (fun k => mskS_hit (p := p) (k := k) h)
  have HM2 := Lib.hid (fun k => mskS_miss (p := p) (k := k) h)
  have HML := Lib.hid (fun k => Nat.le_trans (Nat.le_of_eq (mskS_len h p k)) (mskN_len p k))
  have X0 : Blk (w.alloc (.cells #[.int .i64 p, .int .i64 h] 53)) w.heap.size [.int .i64 p, .int .i64 h] 53 := Blk.made w #[.int .i64 p, .int .i64 h] _
  have B0 : Below w.heap.size w (w.alloc (.cells #[.int .i64 p, .int .i64 h] 53)) := (Below.refl _ w).alloc (Nat.le_refl _) _
  have I0 : Sts (w.alloc (.cells #[.int .i64 p, .int .i64 h] 53)) (w.heap.size + 1) (.slice none 0 0) (mskS h p 0) := OwnK.nil _ _ _ _ _
  go_enter Tryd.func27, Tryd.ntmps27
  go_wp2
  go_loopw [3, 9] (fun v i wr => ∃ k : Nat, k ≤ K ∧ i = .int .i64 k ∧ Sts wr (w.heap.size + 1) v (mskS h p k) ∧ Blk wr w.heap.size [.int .i64 p, .int .i64 h] 53 ∧ Below w.heap.size w wr) (fun _ i _ => K - (intOf i).toNat)
  case atStart => exact ⟨0, Nat.zero_le _, rfl, I0, X0, B0⟩
  case round =>
    clear I0 X0 B0
    obtain ⟨k, hk, rfl, hi, X, hb⟩ := hrel
    have c0 := X.cell 0
    have c1 := X.cell 1
    simp only [List.getElem?_cons_zero, List.getElem?_cons_succ] at c0 c1
    by_cases hlt : k < K
    · have hlt' : decide (k < K) = true := decide_eq_true hlt
      have hXl := X.lt
      obtain ⟨W1, hW1⟩ : ∃ W1, (wr.alloc (.cells #[.int .i64 h, .int .i64 k] 35)) = W1 := ⟨_, rfl⟩
      have b1 : Below wr.heap.size wr W1 := by rw [← hW1]; exact (Below.refl _ wr).alloc (Nat.le_refl _) _
      have Y1 : Blk W1 wr.heap.size [.int .i64 h, .int .i64 k] 35 := by rw [← hW1]; exact Blk.made wr #[.int .i64 h, .int .i64 k] _
      have X1 := X.below b1 hXl
      have hi1 := hi.below b1
      have hb1 := hb.trans (b1.mono hb.size)
      have HCE := Lib.hid (fun W (hW : Below W1.heap.size W1 W) => show W.cell? ⟨wr.heap.size, 0, none⟩ = some (.int .i64 h) ∧ W.cell? ⟨wr.heap.size, 1, none⟩ = some (.int .i64 k) ∧ W.cell? ⟨w.heap.size, 0, none⟩ = some (.int .i64 p) ∧ W.cell? ⟨w.heap.size, 1, none⟩ = some (.int .i64 h) from
        ⟨(Y1.below hW Y1.lt).cell 0, (Y1.below hW Y1.lt).cell 1, (X1.below hW X1.lt).cell 0, (X1.below hW X1.lt).cell 1⟩)
      have HKK := Lib.hid (fun W (hW : Below W1.heap.size W1 W) => (HKi.out k W hlt).mono (R' := fun e w' => e = .returned (.agg #[.int .i64 (popN k), .int .i64 h]) ∧ Below W1.heap.size W1 w') fun e w' q => ⟨q.1, hW.trans (q.2.mono hW.size)⟩)
      have h1 := HM1.out k
      have h2 := HM2.out k
      have hlen := HML.out k
      have hkey := eq_cast (popN k) p
      have BW := Below.refl W1.heap.size W1
      clear HKi HM1 HM2 HML X hi hb b1
      generalize popN k = q at *
      have HH1 := Lib.hid h1
      have HH2 := Lib.hid h2
      clear h1 h2
      go_wp2
      try rw [hW1]
      clear hW1
      go_cut [19] (fun r wx => r = .bool (decide (q = p)) ∧ Below W1.heap.size W1 wx)
      case first =>
        by_cases hq : q = p
        · have hq' := hq.symm
          subst hq'
          go_region_held3 (fun W => Below W1.heap.size W1 W ∧ W.cell? ⟨wr.heap.size, 0, none⟩ = some (.int .i64 h) ∧ W.cell? ⟨wr.heap.size, 1, none⟩ = some (.int .i64 k) ∧ W.cell? ⟨w.heap.size, 0, none⟩ = some (.int .i64 p) ∧ W.cell? ⟨w.heap.size, 1, none⟩ = some (.int .i64 h)) (refine ⟨?_, HCE.out _ ?_⟩ <;> (repeat (first | assumption | exact Below.refl _ _ | refine Below.drew ?_ | refine below_drewN ?_ _))) (first | (go_at_call 24; (with_reducible refine (HKK.out _ ?_).mono ?_); (repeat (first | assumption | exact Below.refl _ _ | refine Below.drew ?_ | refine below_drewN ?_ _)); rintro e w2 ⟨rfl, b2⟩))
          all_goals (go_wp2_with fail; go_meet)
          all_goals exact ⟨by simp, b2⟩
        · rw [decide_eq_false hq] at hkey
          have hq2 : ¬ ((q : Int) = (p : Int)) := by omega
          go_region_held3 (fun W => Below W1.heap.size W1 W ∧ W.cell? ⟨wr.heap.size, 0, none⟩ = some (.int .i64 h) ∧ W.cell? ⟨wr.heap.size, 1, none⟩ = some (.int .i64 k) ∧ W.cell? ⟨w.heap.size, 0, none⟩ = some (.int .i64 p) ∧ W.cell? ⟨w.heap.size, 1, none⟩ = some (.int .i64 h)) (refine ⟨?_, HCE.out _ ?_⟩ <;> (repeat (first | assumption | exact Below.refl _ _ | refine Below.drew ?_ | refine below_drewN ?_ _))) (first | (go_at_call 24; (with_reducible refine (HKK.out _ ?_).mono ?_); (repeat (first | assumption | exact Below.refl _ _ | refine Below.drew ?_ | refine below_drewN ?_ _)); rintro e w2 ⟨rfl, b2⟩))
          all_goals (go_wp2_with fail; go_meet)
          all_goals exact ⟨by simp [hq], b2⟩
      case rest =>
        obtain ⟨rfl, b2⟩ := hcut
        obtain ⟨y0, y1, _, _⟩ := HCE.out _ b2
        have hi2 := hi1.below b2
        have hb2 := hb1.trans (b2.mono hb1.size)
        have X2 := X1.below b2 X1.lt
        have hs2 := hb2.size
        have hX2l := X2.lt
        have h1 := HH1.out
        have h2 := HH2.out
        clear HCE HKK hi1 hb1 X1 Y1 BW hkey c0 c1 HH1 HH2
        by_cases hq : q = p
        · rw [decide_eq_true hq]
          have HE := Lib.hid (h1 hq)
          have hlen : (mskS h p k).length ≤ 1000000 := by omega
          clear h1 h2 hq b2
          go_wp2_with (at_builtin; refine append_st _ rfl _ _ rfl _ _ _ rfl hi2 ((h : Int), (k : Int)) rfl hlen hX2l ?_; intro v' w3 hi3 hg3; refine Hid.out ?_)
          have b3 := hi2.below_grown (Below.refl _ wc) hX2l hg3
          have hb3 := hb2.trans (b3.mono (by omega))
          have X3 := X2.below b3 (Nat.lt_succ_self _)
          rw [← HE.out] at hi3
          clear hg3 hi2 hb2 b3 X2
          refine Lib.hid ?_
          go_wp2
          go_roundw
          case rel => exact ⟨k + 1, by omega, by go_num, hi3, X3, hb3⟩
          case measure => simp [intOf]; omega
        · rw [decide_eq_false hq]
          have HE := Lib.hid (h2 hq)
          clear h1 h2 hq b2
          go_wp2
          go_roundw
          case rel => exact ⟨k + 1, by omega, by go_num, by rw [HE.out]; exact hi2, X2, hb2⟩
          case measure => simp [intOf]; omega
    · obtain rfl : k = K := by omega
      have hlt' : decide (k < k) = false := decide_eq_false (Nat.lt_irrefl _)
      clear HKi HM1 HM2 HML X
      go_wp2
      go_ret
      exact ⟨_, rfl, hi.mono (by omega), hb⟩

theorem gndL_as {n h : Int} (k : gndOk n h = true) : ∃ p a : Nat, n = p ∧ h = a ∧ 1 ≤ a ∧ a ≤ 10 ∧ p ≤ a ∧ gndL n h = mskS a p (2 ^ a) := by
  obtain ⟨p, a, rfl, rfl, h1, h2, h3⟩ := gndOk_nat k
  exact ⟨p, a, rfl, rfl, h1, h2, h3, by rw [gndL_ok k, Int.toNat_natCast, Int.toNat_natCast]⟩

theorem sts_slO {w : World} {B : Nat} {v : Value} {xs : List Sta} (h : Sts w B v xs) : ∃ a cap, v = .slice a xs.length cap := by
  rcases OwnK.shape h with ⟨rfl, rfl⟩ | ⟨g, cap, rfl, _⟩
  · exact ⟨_, _, rfl⟩
  · exact ⟨_, _, rfl⟩

end Go.Proofs.YtdghbbnddgngoaaDoor
