/- IsGround, CanFollow, the model's and the program's. No conditions. -/
import Derived.Test.YtblllikenjofoaaStG
import Derived.Test.YtblllikenjofoaaOwnK
import Derived.Deep.RegionHeld3
namespace Go.Proofs.Ytblllikenjofoaa
open Go.RowKit
set_option linter.unusedSimpArgs false
set_option linter.unusedVariables false

theorem bel_alBr {w w' : World} (h : Below w.heap.size w w') (o : Obj) : Below w.heap.size w (w'.alloc o) := h.alloc h.size o
/-- the mask of the ground state -/
def grdM (m : Nat) : Int := (2 : Int) ^ (popN m) - 1

set_option maxRecDepth 10000 in
set_option maxHeartbeats 1000000 in
theorem ground_any (h : Int) (m : Nat) (w : World) (hm : m < 1024) :
    Calls Try.prog 16 #[.agg #[.int .i64 h, .int .i64 m]] w fun e w' => e = .returned (.agg #[.int .i64 h, .int .i64 (grdM m)]) ∧ Below w.heap.size w w' := by
  obtain ⟨W0, hW0⟩ : ∃ W0, ((w.alloc (.cells #[.int .i64 h, .int .i64 m] 28)).alloc (.cells #[.int .i64 0, .int .i64 0] 28)) = W0 := ⟨_, rfl⟩
  have B0 : Below w.heap.size w W0 := by rw [← hW0]; exact bel_alBr ((Below.refl _ w).alloc (Nat.le_refl _) _) _
  have P0 : Blk W0 w.heap.size [.int .i64 h, .int .i64 m] 28 := by rw [← hW0]; exact (Blk.made w #[.int .i64 h, .int .i64 m] 28).alloc _
  have Q0 : Blk W0 (w.heap.size + 1) [.int .i64 0, .int .i64 0] 28 := by
    rw [← hW0]
    have := Blk.made (w.alloc (.cells #[.int .i64 h, .int .i64 m] 28)) #[.int .i64 0, .int .i64 0] 28
    simpa using this
  have hpn := popK_le m 10
  have HP := Lib.hid (fun W (hW : Below W0.heap.size W0 W) => (props_any h m W hm).mono (R' := fun e w' => e = .returned (.int .i64 (popN m)) ∧ Below W0.heap.size W0 w') fun e w' q => ⟨q.1, hW.trans (q.2.mono hW.size)⟩)
  have HL := Lib.hid (fun W (hW : Below W0.heap.size W0 W) => show Calls Try.prog 25 #[.int .i64 (popN m : Nat)] W fun e w' => e = .returned (.int .i64 (grdM m)) ∧ Below W0.heap.size W0 w' ∧ w'.cell? ⟨w.heap.size + 1, 0, none⟩ = some (.int .i64 0) ∧ w'.cell? ⟨w.heap.size + 1, 1, none⟩ = some (.int .i64 0) ∧ w'.frozen? ⟨w.heap.size + 1, 0, none⟩ = false ∧ w'.frozen? ⟨w.heap.size + 1, 1, none⟩ = false from
    (lowestBits_any (popN m : Nat) W (by omega) (by unfold popN; omega)).mono fun e w' q => by
      have b2 : Below W0.heap.size W0 w' := by first | exact hW.trans (q.2.mono hW.size) | (obtain ⟨_, rfl⟩ := q; exact hW)
      have Q2 := Q0.below b2 Q0.lt
      exact ⟨by rw [q.1, Int.toNat_natCast]; rfl, b2, Q2.cell 0, Q2.cell 1, Q2.free 0, Q2.free 1⟩)
  have HCE := Lib.hid (fun W (hW : Below W0.heap.size W0 W) => show W.cell? ⟨w.heap.size, 0, none⟩ = some (.int .i64 h) ∧ W.cell? ⟨w.heap.size, 1, none⟩ = some (.int .i64 m) from
    ⟨(P0.below hW P0.lt).cell 0, (P0.below hW P0.lt).cell 1⟩)
  clear P0 Q0 hpn
  generalize grdM m = q at *
  generalize popN m = n at *
  go_enter Try.func16, Try.ntmps16
  go_wp2
  try rw [hW0]
  clear hW0
  have BW := Below.refl W0.heap.size W0
  go_region_held3 (fun W => W.cell? ⟨w.heap.size, 0, none⟩ = some (.int .i64 h) ∧ W.cell? ⟨w.heap.size, 1, none⟩ = some (.int .i64 m)) (first | (refine HCE.out _ ?_ <;> (repeat (first | assumption | exact Below.refl _ _ | refine Below.drew ?_)) <;> done) | exact ⟨(World.cell?_setCell_other _ ⟨_, _, _⟩ ⟨_, _, _⟩ _ (by simp)).trans ((World.cell?_setCell_other _ ⟨_, _, _⟩ ⟨_, _, _⟩ _ (by simp)).trans (HCE.out _ (by assumption)).1), (World.cell?_setCell_other _ ⟨_, _, _⟩ ⟨_, _, _⟩ _ (by simp)).trans ((World.cell?_setCell_other _ ⟨_, _, _⟩ ⟨_, _, _⟩ _ (by simp)).trans (HCE.out _ (by assumption)).2)⟩) (first | (go_at_call 26; (with_reducible refine (HP.out _ ?_).mono ?_); (repeat (first | assumption | exact Below.refl _ _ | refine Below.drew ?_)); rintro e w2 ⟨rfl, b4⟩) | (go_at_call 25; (with_reducible refine (HL.out _ ?_).mono ?_); (repeat (first | assumption | exact Below.refl _ _ | refine Below.drew ?_)); rintro e w3 ⟨rfl, b5, d0, d1, e0, e1⟩))
  all_goals obtain ⟨r0, r1⟩ := stc_set (.int .i64 h) (.int .i64 q) d0 d1
  all_goals go_wp2
  all_goals refine bodyPost_ret (v := .agg #[.int .i64 h, .int .i64 q]) (by simp [results, Try.results16, go_sem, r0, r1]) rfl ?_
  all_goals exact ⟨rfl, two_below (B0.trans (b5.mono B0.size)) (by omega) _ _⟩

/-- whether a pattern begins in the ground state -/
def isGr (p : List Int) : Bool := decide (ofC p 0 10 = 0) && decide (((ofM p 0 10 : Nat) : Int) = grdM (ofM p 0 10))
def foll (a b : List Int) : Bool := decide (ofC a 0 10 = 0) && (decide (ofC b 0 10 = 0) && decide (ofM a 0 10 = ofM b 0 10))
theorem ofC_pos {p : List Int} {b h : Int} (k : ofC p b h = 0) : ofA p b h = h ∧ ofB p b h = (ofM p b h.toNat : Nat) := by simp [ofA, ofB, k]

set_option maxRecDepth 10000 in
set_option maxHeartbeats 1000000 in
theorem isGround_impl (v : Value) (B : Nat) (p : List Int) (w : World) (hI : Ints w B v p) :
    Calls Try.prog 7 #[v] w fun e w' => e = .returned (.bool (isGr p)) ∧ Below w.heap.size w w' := by
  have HS := stateOf_impl v B p 0 10 w hI
  unfold isGr
  by_cases hc : ofC p 0 10 = 0
  · obtain ⟨e1, e2⟩ := ofC_pos hc
    rw [e1, e2, hc] at HS
    rw [decide_eq_true hc, Bool.true_and]
    have hm := ofM_lt p 0 10
    have h10 : (10 : Int).toNat = 10 := rfl
    rw [h10] at HS
    have HG := fun W => ground_any 10 (ofM p 0 10) W (by omega)
    clear hc e1 e2 h10
    generalize grdM (ofM p 0 10) = q at *
    generalize ofM p 0 10 = m at *
    by_cases hq : (m : Int) = q
    · subst hq
      rw [decide_eq_true (rfl : (m : Int) = (m : Int))]
      go_enter Try.func7, Try.ntmps7
      go_wp2_with fail
      refine HS.mono ?_
      rintro e w1 ⟨rfl, b1⟩
      have BX := bel_alBr b1 (.cells #[.int .i64 10, .int .i64 m] 28)
      obtain ⟨W1, hW1⟩ : ∃ W1, w1.alloc (.cells #[.int .i64 10, .int .i64 m] 28) = W1 := ⟨_, rfl⟩
      have P1 : Blk W1 w1.heap.size [.int .i64 10, .int .i64 m] 28 := by rw [← hW1]; exact Blk.made w1 #[.int .i64 10, .int .i64 m] _
      rw [hW1] at BX
      have HCE := Lib.hid (fun W (hW : Below W1.heap.size W1 W) => show W.cell? ⟨w1.heap.size, 0, none⟩ = some (.int .i64 10) ∧ W.cell? ⟨w1.heap.size, 1, none⟩ = some (.int .i64 m) from ⟨(P1.below hW P1.lt).cell 0, (P1.below hW P1.lt).cell 1⟩)
      have HGG := Lib.hid (fun W (hW : Below W1.heap.size W1 W) => (HG W).mono (R' := fun e w' => e = .returned (.agg #[.int .i64 10, .int .i64 m]) ∧ Below W1.heap.size W1 w') fun e w' k => ⟨k.1, hW.trans (k.2.mono hW.size)⟩)
      have BW := Below.refl W1.heap.size W1
      clear HG P1 HS
      go_wp2
      try rw [hW1]
      clear hW1
      go_region_held3 (fun W => Below W1.heap.size W1 W ∧ W.cell? ⟨w1.heap.size, 0, none⟩ = some (.int .i64 10) ∧ W.cell? ⟨w1.heap.size, 1, none⟩ = some (.int .i64 m)) (refine ⟨?_, HCE.out _ ?_⟩ <;> (repeat (first | assumption | exact Below.refl _ _ | refine Below.drew ?_ | refine below_drewN ?_ _))) (first | (go_at_call 16; (with_reducible refine (HGG.out _ ?_).mono ?_); (repeat (first | assumption | exact Below.refl _ _ | refine Below.drew ?_)); rintro e w2 ⟨rfl, b4⟩))
      all_goals go_wp2
      all_goals go_ret
      all_goals exact ⟨rfl, BX.trans (b4.mono BX.size)⟩
    · have hkey : ((m : Int) == q) = false := by simp [hq]
      rw [decide_eq_false hq]
      clear hq
      go_enter Try.func7, Try.ntmps7
      go_wp2_with fail
      refine HS.mono ?_
      rintro e w1 ⟨rfl, b1⟩
      have BX := bel_alBr b1 (.cells #[.int .i64 10, .int .i64 m] 28)
      obtain ⟨W1, hW1⟩ : ∃ W1, w1.alloc (.cells #[.int .i64 10, .int .i64 m] 28) = W1 := ⟨_, rfl⟩
      have P1 : Blk W1 w1.heap.size [.int .i64 10, .int .i64 m] 28 := by rw [← hW1]; exact Blk.made w1 #[.int .i64 10, .int .i64 m] _
      rw [hW1] at BX
      have HCE := Lib.hid (fun W (hW : Below W1.heap.size W1 W) => show W.cell? ⟨w1.heap.size, 0, none⟩ = some (.int .i64 10) ∧ W.cell? ⟨w1.heap.size, 1, none⟩ = some (.int .i64 m) from ⟨(P1.below hW P1.lt).cell 0, (P1.below hW P1.lt).cell 1⟩)
      have HGG := Lib.hid (fun W (hW : Below W1.heap.size W1 W) => (HG W).mono (R' := fun e w' => e = .returned (.agg #[.int .i64 10, .int .i64 q]) ∧ Below W1.heap.size W1 w') fun e w' k => ⟨k.1, hW.trans (k.2.mono hW.size)⟩)
      have BW := Below.refl W1.heap.size W1
      clear HG P1 HS
      go_wp2
      try rw [hW1]
      clear hW1
      go_region_held3 (fun W => Below W1.heap.size W1 W ∧ W.cell? ⟨w1.heap.size, 0, none⟩ = some (.int .i64 10) ∧ W.cell? ⟨w1.heap.size, 1, none⟩ = some (.int .i64 m)) (refine ⟨?_, HCE.out _ ?_⟩ <;> (repeat (first | assumption | exact Below.refl _ _ | refine Below.drew ?_ | refine below_drewN ?_ _))) (first | (go_at_call 16; (with_reducible refine (HGG.out _ ?_).mono ?_); (repeat (first | assumption | exact Below.refl _ _ | refine Below.drew ?_)); rintro e w2 ⟨rfl, b4⟩))
      all_goals go_wp2
      all_goals go_ret
      all_goals exact ⟨rfl, BX.trans (b4.mono BX.size)⟩
  · have hcd : (ofC p 0 10 == 0) = false := by simp [hc]
    rw [decide_eq_false hc, Bool.false_and]
    clear hc
    generalize ofA p 0 10 = x at *
    generalize ofB p 0 10 = y at *
    generalize ofC p 0 10 = c at *
    go_enter Try.func7, Try.ntmps7
    go_wp2_with fail
    refine HS.mono ?_
    rintro e w1 ⟨rfl, b1⟩
    have BX := bel_alBr b1 (.cells #[.int .i64 x, .int .i64 y] 28)
    go_wp2
    go_quiet (fail)
    go_wp2
    go_ret
    exact ⟨rfl, by first | exact below_drewN BX _ | exact Below.drew BX | exact BX⟩
set_option maxRecDepth 10000 in
set_option maxHeartbeats 1000000 in
theorem isGround_spec (v : Value) (B : Nat) (p : List Int) (w : World) (hI : Ints w B v p) :
    Calls Try.prog 5 #[v] w fun e w' => e = .returned (.bool (isGr p)) ∧ Below w.heap.size w w' := by
  have HS := l08Code_any v B p 0 10 w hI
  unfold isGr
  by_cases hc : ofC p 0 10 = 0
  · have hok : okPat p = true := by
      cases hk : okPat p with
      | true => rfl
      | false => rw [ofC_bad hk] at hc; omega
    rw [hc] at HS
    rw [decide_eq_true hc, Bool.true_and]
    have hm := ofM_lt p 0 10
    have HO := fun W (hW : Below w.heap.size w W) => l08Of_any v B p 0 10 W (hI.below hW) hok (by omega) (by omega) (by omega) (by omega)
    have hpn := popK_le (ofM p 0 10) 10
    have HC := fun W => l08Count_any (ofM p 0 10) W (by omega)
    have HG := fun W => show Calls Try.prog 13 #[.int .i64 (popN (ofM p 0 10) : Nat)] W fun e w' => e = .returned (.int .i64 (grdM (ofM p 0 10))) ∧ W = w' from
      (l08Ground_any (popN (ofM p 0 10) : Nat) W (by omega) (by unfold popN; omega)).mono fun e w' q => ⟨by rw [q.1, Int.toNat_natCast]; rfl, q.2⟩
    clear hc hpn
    generalize grdM (ofM p 0 10) = q at *
    generalize ofM p 0 10 = m at *
    generalize popN m = n at *
    by_cases hq : (m : Int) = q
    · subst hq
      rw [decide_eq_true (rfl : (m : Int) = (m : Int))]
      go_enter Try.func5, Try.ntmps5
      go_wp2_with fail
      refine HS.mono ?_
      rintro e w1 ⟨rfl, b1⟩
      go_wp2_with fail
      refine (HO _ b1).mono ?_
      rintro e w2 ⟨rfl, b2⟩
      have BX := bel_alBr (b1.trans (b2.mono b1.size)) (.cells #[.int .i64 10, .int .i64 m] 28)
      obtain ⟨W1, hW1⟩ : ∃ W1, w2.alloc (.cells #[.int .i64 10, .int .i64 m] 28) = W1 := ⟨_, rfl⟩
      have P1 : Blk W1 w2.heap.size [.int .i64 10, .int .i64 m] 28 := by rw [← hW1]; exact Blk.made w2 #[.int .i64 10, .int .i64 m] _
      rw [hW1] at BX
      have HCE := Lib.hid (fun W (hW : Below W1.heap.size W1 W) => show W.cell? ⟨w2.heap.size, 1, none⟩ = some (.int .i64 m) from (P1.below hW P1.lt).cell 1)
      have HCC := Lib.hid (fun W (hW : Below W1.heap.size W1 W) => (HC W).mono (R' := fun e w' => e = .returned (.int .i64 n) ∧ Below W1.heap.size W1 w') fun e w' k => ⟨k.1, hW.trans (k.2.mono hW.size)⟩)
      have HGG := Lib.hid HG
      have BW := Below.refl W1.heap.size W1
      clear HG HC P1 HS HO b1 b2
      go_wp2
      try rw [hW1]
      clear hW1
      go_region_held3 (fun W => Below W1.heap.size W1 W ∧ W.cell? ⟨w2.heap.size, 1, none⟩ = some (.int .i64 m)) (refine ⟨?_, HCE.out _ ?_⟩ <;> (repeat (first | assumption | exact Below.refl _ _ | refine Below.drew ?_ | refine below_drewN ?_ _))) (first | (go_at_call 14; (with_reducible refine (HCC.out _ ?_).mono ?_); (repeat (first | assumption | exact Below.refl _ _ | refine Below.drew ?_)); rintro e w3 ⟨rfl, b4⟩) | (go_at_call 13; (with_reducible refine (HGG.out _).mono ?_); rintro e w4 ⟨rfl, rfl⟩))
      all_goals go_wp2
      all_goals go_ret
      all_goals exact ⟨rfl, BX.trans (b4.mono BX.size)⟩
    · have hkey : ((m : Int) == q) = false := by simp [hq]
      rw [decide_eq_false hq]
      clear hq
      go_enter Try.func5, Try.ntmps5
      go_wp2_with fail
      refine HS.mono ?_
      rintro e w1 ⟨rfl, b1⟩
      go_wp2_with fail
      refine (HO _ b1).mono ?_
      rintro e w2 ⟨rfl, b2⟩
      have BX := bel_alBr (b1.trans (b2.mono b1.size)) (.cells #[.int .i64 10, .int .i64 m] 28)
      obtain ⟨W1, hW1⟩ : ∃ W1, w2.alloc (.cells #[.int .i64 10, .int .i64 m] 28) = W1 := ⟨_, rfl⟩
      have P1 : Blk W1 w2.heap.size [.int .i64 10, .int .i64 m] 28 := by rw [← hW1]; exact Blk.made w2 #[.int .i64 10, .int .i64 m] _
      rw [hW1] at BX
      have HCE := Lib.hid (fun W (hW : Below W1.heap.size W1 W) => show W.cell? ⟨w2.heap.size, 1, none⟩ = some (.int .i64 m) from (P1.below hW P1.lt).cell 1)
      have HCC := Lib.hid (fun W (hW : Below W1.heap.size W1 W) => (HC W).mono (R' := fun e w' => e = .returned (.int .i64 n) ∧ Below W1.heap.size W1 w') fun e w' k => ⟨k.1, hW.trans (k.2.mono hW.size)⟩)
      have HGG := Lib.hid HG
      have BW := Below.refl W1.heap.size W1
      clear HG HC P1 HS HO b1 b2
      go_wp2
      try rw [hW1]
      clear hW1
      go_region_held3 (fun W => Below W1.heap.size W1 W ∧ W.cell? ⟨w2.heap.size, 1, none⟩ = some (.int .i64 m)) (refine ⟨?_, HCE.out _ ?_⟩ <;> (repeat (first | assumption | exact Below.refl _ _ | refine Below.drew ?_ | refine below_drewN ?_ _))) (first | (go_at_call 14; (with_reducible refine (HCC.out _ ?_).mono ?_); (repeat (first | assumption | exact Below.refl _ _ | refine Below.drew ?_)); rintro e w3 ⟨rfl, b4⟩) | (go_at_call 13; (with_reducible refine (HGG.out _).mono ?_); rintro e w4 ⟨rfl, rfl⟩))
      all_goals go_wp2
      all_goals go_ret
      all_goals exact ⟨rfl, BX.trans (b4.mono BX.size)⟩
  · have hcd : (ofC p 0 10 == 0) = false := by simp [hc]
    rw [decide_eq_false hc, Bool.false_and]
    clear hc
    generalize ofC p 0 10 = c at *
    go_enter Try.func5, Try.ntmps5
    go_wp2_with fail
    refine HS.mono ?_
    rintro e w1 ⟨rfl, b1⟩
    go_wp2
    go_ret
    exact ⟨rfl, b1⟩

set_option maxRecDepth 10000 in
set_option maxHeartbeats 1000000 in
theorem canFollow_spec (v u : Value) (B C : Nat) (a b : List Int) (w : World) (hI : Ints w B v a) (hJ : Ints w C u b) :
    Calls Try.prog 9 #[v, u] w fun e w' => e = .returned (.bool (foll a b)) ∧ Below w.heap.size w w' := by
  have HS := l08Code_any v B a 0 10 w hI
  unfold foll
  by_cases hc : ofC a 0 10 = 0
  · have hok : okPat a = true := by
      cases hk : okPat a with
      | true => rfl
      | false => rw [ofC_bad hk] at hc; omega
    have HT := fun W (hW : Below w.heap.size w W) => l08Code_any u C b 0 10 W (hJ.below hW)
    rw [hc] at HS
    rw [decide_eq_true hc, Bool.true_and]
    by_cases hd : ofC b 0 10 = 0
    · have hok2 : okPat b = true := by
        cases hk : okPat b with
        | true => rfl
        | false => rw [ofC_bad hk] at hd; omega
      rw [hd] at HT
      rw [decide_eq_true hd, Bool.true_and]
      have HO := fun W (hW : Below w.heap.size w W) => l08Of_any v B a 0 10 W (hI.below hW) hok (by omega) (by omega) (by omega) (by omega)
      have HP := fun W (hW : Below w.heap.size w W) => l08Of_any u C b 0 10 W (hJ.below hW) hok2 (by omega) (by omega) (by omega) (by omega)
      clear hc hd
      have hkey : (((ofM a 0 10 : Nat) : Int) == ((ofM b 0 10 : Nat) : Int)) = decide (ofM a 0 10 = ofM b 0 10) := by
        by_cases h : ofM a 0 10 = ofM b 0 10
        · simp [h]
        · rw [decide_eq_false h]; exact beq_eq_false_iff_ne.2 (by omega)
      generalize ofM a 0 10 = m at *
      generalize ofM b 0 10 = q at *
      have fin : ∀ r : Bool, ((m : Int) == (q : Int)) = r → Calls Try.prog 9 #[v, u] w fun e w' => e = .returned (.bool r) ∧ Below w.heap.size w w' := fun r hr => by
        clear hkey
        cases r with
        | true =>
          obtain rfl : m = q := by have h9 : (m : Int) = (q : Int) := by simpa using hr
                                   omega
          clear hr
          go_enter Try.func9, Try.ntmps9
          go_wp2_with fail
          refine HS.mono ?_
          rintro e w1 ⟨rfl, b1⟩
          go_wp2_with fail
          refine (HT _ b1).mono ?_
          rintro e w2 ⟨rfl, b2⟩
          have c2 := b1.trans (b2.mono b1.size)
          go_wp2_with fail
          refine (HO _ c2).mono ?_
          rintro e w3 ⟨rfl, b3⟩
          have c3 := c2.trans (b3.mono c2.size)
          go_wp2_with fail
          refine (HP _ c3).mono ?_
          rintro e w4 ⟨rfl, b4⟩
          have c4 := c3.trans (b4.mono c3.size)
          go_wp2
          go_ret
          exact ⟨rfl, c4⟩
        | false =>
          go_enter Try.func9, Try.ntmps9
          go_wp2_with fail
          refine HS.mono ?_
          rintro e w1 ⟨rfl, b1⟩
          go_wp2_with fail
          refine (HT _ b1).mono ?_
          rintro e w2 ⟨rfl, b2⟩
          have c2 := b1.trans (b2.mono b1.size)
          go_wp2_with fail
          refine (HO _ c2).mono ?_
          rintro e w3 ⟨rfl, b3⟩
          have c3 := c2.trans (b3.mono c2.size)
          go_wp2_with fail
          refine (HP _ c3).mono ?_
          rintro e w4 ⟨rfl, b4⟩
          have c4 := c3.trans (b4.mono c3.size)
          go_wp2
          go_ret
          exact ⟨rfl, c4⟩
      exact fin _ hkey
    · have hcd : (ofC b 0 10 == 0) = false := by simp [hd]
      rw [decide_eq_false hd, Bool.false_and]
      clear hc hd
      generalize ofC b 0 10 = c at *
      go_enter Try.func9, Try.ntmps9
      go_wp2_with fail
      refine HS.mono ?_
      rintro e w1 ⟨rfl, b1⟩
      go_wp2_with fail
      refine (HT _ b1).mono ?_
      rintro e w2 ⟨rfl, b2⟩
      go_wp2
      go_ret
      exact ⟨rfl, b1.trans (b2.mono b1.size)⟩
  · have hcd : (ofC a 0 10 == 0) = false := by simp [hc]
    rw [decide_eq_false hc, Bool.false_and]
    clear hc
    generalize ofC a 0 10 = c at *
    go_enter Try.func9, Try.ntmps9
    go_wp2_with fail
    refine HS.mono ?_
    rintro e w1 ⟨rfl, b1⟩
    have hc0 : c ≠ 0 := fun e => by rw [e] at hcd; simp at hcd
    go_wp2
    trace_state
    go_ret
    exact ⟨rfl, b1⟩

set_option maxRecDepth 10000 in
set_option maxHeartbeats 1000000 in
theorem canFollow_impl (v u : Value) (B C : Nat) (a b : List Int) (w : World) (hI : Ints w B v a) (hJ : Ints w C u b) :
    Calls Try.prog 10 #[v, u] w fun e w' => e = .returned (.bool (foll a b)) ∧ Below w.heap.size w w' := by
  have HS := stateOf_impl v B a 0 10 w hI
  have HT := fun W (hW : Below w.heap.size w W) => stateOf_impl u C b 0 10 W (hJ.below hW)
  have fin : ∀ (x y c x' y' c' : Int) (r : Bool), ofA a 0 10 = x → ofB a 0 10 = y → ofC a 0 10 = c → ofA b 0 10 = x' → ofB b 0 10 = y' → ofC b 0 10 = c' → ((c == 0) && ((c' == 0) && ((x == x') && (y == y')))) = r →
      Calls Try.prog 10 #[v, u] w fun e w' => e = .returned (.bool r) ∧ Below w.heap.size w w' := by
    intro x y c x' y' c' r h1 h2 h3 h4 h5 h6 hr
    rw [h1, h2, h3] at HS
    rw [h4, h5, h6] at HT
    clear h1 h2 h3 h4 h5 h6
    obtain ⟨k1, hk1⟩ : ∃ k, (c == 0) = k := ⟨_, rfl⟩
    obtain ⟨k2, hk2⟩ : ∃ k, (c' == 0) = k := ⟨_, rfl⟩
    obtain ⟨k3, hk3⟩ : ∃ k, (x == x') = k := ⟨_, rfl⟩
    obtain ⟨k4, hk4⟩ : ∃ k, (y == y') = k := ⟨_, rfl⟩
    rw [hk1, hk2, hk3, hk4] at hr
    subst hr
    cases k1 <;> cases k2 <;> cases k3 <;> cases k4
    all_goals (go_enter Try.func10, Try.ntmps10; go_wp2_with fail; (refine HS.mono ?_); (rintro e w1 ⟨rfl, b1⟩); (have BX := bel_alBr b1 (.cells #[.int .i64 x, .int .i64 y] 28)); (obtain ⟨W1, hW1⟩ : ∃ W1, w1.alloc (.cells #[.int .i64 x, .int .i64 y] 28) = W1 := ⟨_, rfl⟩); (have P1 : Blk W1 w1.heap.size [.int .i64 x, .int .i64 y] 28 := by rw [← hW1]; exact Blk.made w1 #[.int .i64 x, .int .i64 y] _); (rw [hW1] at BX); go_wp2_with fail; (try rw [hW1]); (clear hW1); (refine (HT _ BX).mono ?_); (rintro e w2 ⟨rfl, b2⟩); (have P2 := P1.below b2 P1.lt); (have c0 := (P2.alloc (.cells #[.int .i64 x', .int .i64 y'] 28)).cell 0); (have c1 := (P2.alloc (.cells #[.int .i64 x', .int .i64 y'] 28)).cell 1); (simp only [List.getElem?_cons_zero, List.getElem?_cons_succ] at c0 c1); (have c2 := bel_alBr (BX.trans (b2.mono BX.size)) (.cells #[.int .i64 x', .int .i64 y'] 28)); clear HS HT P1 P2; go_wp2; (try (go_quiet (fail); go_wp2)); go_ret; exact ⟨rfl, by first | exact c2 | exact below_drewN c2 _ | exact Below.drew c2⟩)
  refine fin _ _ _ _ _ _ _ rfl rfl rfl rfl rfl rfl ?_
  unfold foll
  by_cases hc : ofC a 0 10 = 0
  · by_cases hd : ofC b 0 10 = 0
    · obtain ⟨e1, e2⟩ := ofC_pos hc
      obtain ⟨e3, e4⟩ := ofC_pos hd
      rw [e1, e2, e3, e4, hc, hd]
      have h10 : (10 : Int).toNat = 10 := rfl
      rw [h10]
      by_cases h : ofM a 0 10 = ofM b 0 10
      · simp [h]
      · have h2 : ((ofM a 0 10 : Nat) : Int) ≠ (ofM b 0 10 : Nat) := by omega
        have h3 : (((ofM a 0 10 : Nat) : Int) == ((ofM b 0 10 : Nat) : Int)) = false := beq_eq_false_iff_ne.2 h2
        rw [h3]
        simp [h]
    · simp [hc, hd]
  · simp [hc]
end Go.Proofs.Ytblllikenjofoaa
