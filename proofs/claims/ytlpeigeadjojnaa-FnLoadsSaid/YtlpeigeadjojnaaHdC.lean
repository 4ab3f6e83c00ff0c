/- Orders of hands: the hand at a beat, the common period, a pattern with an order: the model's and the program's. No conditions. -/
import Derived.Test.YtlpeigeadjojnaaHdB
import Derived.Test.YtlpeigeadjojnaaOwnK
namespace Go.Proofs.Ytlpeigeadjojnaa
open Go.RowKit
set_option linter.unusedSimpArgs false
set_option linter.unusedVariables false

theorem stc_setH {w : World} {b : Nat} {p q : Value} (u v : Value) (h0 : w.cell? ⟨b, 0, none⟩ = some p) (h1 : w.cell? ⟨b, 1, none⟩ = some q) :
    ((w.setCell ⟨b, 0, none⟩ u).setCell ⟨b, 1, none⟩ v).cell? ⟨b, 0, none⟩ = some u ∧ ((w.setCell ⟨b, 0, none⟩ u).setCell ⟨b, 1, none⟩ v).cell? ⟨b, 1, none⟩ = some v := by
  refine ⟨?_, ?_⟩
  · exact (World.cell?_setCell_other _ _ _ _ (by simp)).trans (World.cell?_setCell_same _ _ _ h0)
  · exact World.cell?_setCell_same _ _ _ (u := q) ((World.cell?_setCell_other _ _ _ _ (by simp)).trans h1)

/-- the code and the answer of HandAt -/
def haC (o : List Int) (b : Int) : Int := if okH o then (if inB b (-1000000) 1000000 then 0 else 2) else 1
def haA (o : List Int) (b : Int) : Int := if haC o b = 0 then atL o b else 0
theorem haC_bad {o : List Int} (b : Int) (h : okH o = false) : haC o b = 1 := by rw [haC, if_neg (by simp [h])]
theorem haC_far {o : List Int} {b : Int} (h : okH o = true) (h2 : inB b (-1000000) 1000000 = false) : haC o b = 2 := by rw [haC, if_pos h, if_neg (by simp [h2])]
theorem haC_ok {o : List Int} {b : Int} (h : okH o = true) (h2 : inB b (-1000000) 1000000 = true) : haC o b = 0 := by rw [haC, if_pos h, if_pos h2]
theorem haA_bad {o : List Int} (b : Int) (h : okH o = false) : haA o b = 0 := by rw [haA, haC_bad b h]; rfl
theorem haA_far {o : List Int} {b : Int} (h : okH o = true) (h2 : inB b (-1000000) 1000000 = false) : haA o b = 0 := by rw [haA, haC_far h h2]; rfl
theorem haA_ok {o : List Int} {b : Int} (h : okH o = true) (h2 : inB b (-1000000) 1000000 = true) : haA o b = atL o b := by rw [haA, haC_ok h h2]; rfl

theorem l14At_any (v : Value) (B : Nat) (p : List Int) (beat : Int) (w : World) (h : Ints w B v p) (h1 : 1 ≤ p.length) (h2 : p.length ≤ 100000) (ha : -1000000000000 ≤ beat) (ha2 : beat ≤ 1000000000000) :
    Calls Try.prog 45 #[v, .int .i64 beat] w fun e w' => e = .returned (.int .i64 (atL p beat)) ∧ w = w' := by
  obtain ⟨g, cap, rfl, _, _, _, _⟩ := h.shape2 h1
  have e0 := Int.emod_nonneg beat (show (p.length : Int) ≠ 0 by omega)
  have e1 := Int.emod_lt_of_pos beat (show 0 < (p.length : Int) by omega)
  have hc := h.cell (beat % (p.length : Int)).toNat (by omega)
  have hfold : p.getD (beat % (p.length : Int)).toNat 0 = atL p beat := rfl
  rw [hfold] at hc
  clear h hfold
  generalize atL p beat = x at *
  generalize p.length = n at *
  go_enter Try.func45, Try.ntmps45
  go_wp2_with fail
  refine (l02Mod_any beat n _ (by omega) (by omega) ha ha2).mono ?_
  rintro e w' ⟨rfl, rfl⟩
  go_wp2
  go_ret
  exact ⟨rfl, rfl⟩

theorem hoAt_any (v : Value) (B : Nat) (p : List Int) (beat : Int) (w : World) (h : Ints w B v p) (h1 : 1 ≤ p.length) (h2 : p.length ≤ 100000) (ha : -1000000000000 ≤ beat) (ha2 : beat ≤ 1000000000000) :
    Calls Try.prog 42 #[v, .int .i64 beat] w fun e w' => e = .returned (.int .i64 (atL p beat)) ∧ w = w' := by
  obtain ⟨g, cap, rfl, _, _, _, _⟩ := h.shape2 h1
  have e0 := Int.emod_nonneg beat (show (p.length : Int) ≠ 0 by omega)
  have e1 := Int.emod_lt_of_pos beat (show 0 < (p.length : Int) by omega)
  have hc := h.cell (beat % (p.length : Int)).toNat (by omega)
  have hfold : p.getD (beat % (p.length : Int)).toNat 0 = atL p beat := rfl
  rw [hfold] at hc
  clear h hfold
  generalize atL p beat = x at *
  generalize p.length = n at *
  go_enter Try.func42, Try.ntmps42
  go_wp2_with fail
  refine (modulo_any beat n _ (by omega) (by omega) ha ha2).mono ?_
  rintro e w' ⟨rfl, rfl⟩
  go_wp2
  go_ret
  exact ⟨rfl, rfl⟩

theorem handAt_spec (v : Value) (B : Nat) (o : List Int) (beat : Int) (w : World) (h : Ints w B v o) :
    Calls Try.prog 15 #[v, .int .i64 beat] w fun e w' => e = .returned (.tuple #[.int .i64 (haA o beat), .int .i64 (haC o beat)]) ∧ Below w.heap.size w w' := by
  have HO := l14Ok_any v B o w h
  cases hok : okH o with
  | false =>
    rw [haA_bad _ hok, haC_bad _ hok]
    rw [hok] at HO
    clear h
    go_enter Try.func15, Try.ntmps15
    go_wp2_with fail
    refine HO.mono ?_
    rintro e w1 ⟨rfl, rfl⟩
    go_wp2
    go_ret2
    exact ⟨rfl, Below.refl _ _⟩
  | true =>
    rw [hok] at HO
    cases hin : inB beat (-1000000) 1000000 with
    | false =>
      rw [haA_far hok hin, haC_far hok hin]
      clear h
      go_enter Try.func15, Try.ntmps15
      go_wp2_with fail
      refine HO.mono ?_
      rintro e w1 ⟨rfl, rfl⟩
      go_wp2_with fail
      refine (l00In_hd _ _ _ _).mono ?_
      rintro e w1 ⟨rfl, rfl⟩
      rw [hin]
      go_wp2
      go_ret2
      exact ⟨rfl, Below.refl _ _⟩
    | true =>
      rw [haA_ok hok hin, haC_ok hok hin]
      have hl := okH_len hok
      have hb := hin
      rw [inB, decide_eq_true_eq] at hb
      have HA := l14At_any v B o beat w h (by omega) (by omega) (by omega) (by omega)
      clear h
      go_enter Try.func15, Try.ntmps15
      go_wp2_with fail
      refine HO.mono ?_
      rintro e w1 ⟨rfl, rfl⟩
      go_wp2_with fail
      refine (l00In_hd _ _ _ _).mono ?_
      rintro e w1 ⟨rfl, rfl⟩
      rw [hin]
      go_wp2_with fail
      refine HA.mono ?_
      rintro e w1 ⟨rfl, rfl⟩
      go_wp2
      go_ret2
      exact ⟨rfl, Below.refl _ _⟩

theorem handAt_impl (v : Value) (B : Nat) (o : List Int) (beat : Int) (w : World) (h : Ints w B v o) :
    Calls Try.prog 14 #[v, .int .i64 beat] w fun e w' => e = .returned (.tuple #[.int .i64 (haA o beat), .int .i64 (haC o beat)]) ∧ Below w.heap.size w w' := by
  have HO := validHands_impl v B o w h
  cases hok : okH o with
  | false =>
    rw [haA_bad _ hok, haC_bad _ hok]
    rw [hok] at HO
    clear h
    go_enter Try.func14, Try.ntmps14
    go_wp2_with fail
    refine HO.mono ?_
    rintro e w1 ⟨rfl, b1⟩
    go_wp2
    go_ret2
    exact ⟨rfl, b1⟩
  | true =>
    rw [hok] at HO
    cases hin : inB beat (-1000000) 1000000 with
    | false =>
      rw [haA_far hok hin, haC_far hok hin]
      clear h
      go_enter Try.func14, Try.ntmps14
      go_wp2_with fail
      refine HO.mono ?_
      rintro e w1 ⟨rfl, b1⟩
      go_wp2_with fail
      refine (isNearBeat_any _ _).mono ?_
      rintro e w1 ⟨rfl, rfl⟩
      rw [hin]
      go_wp2
      go_ret2
      exact ⟨rfl, b1⟩
    | true =>
      rw [haA_ok hok hin, haC_ok hok hin]
      have hl := okH_len hok
      have hb := hin
      rw [inB, decide_eq_true_eq] at hb
      have HA := fun W (hW : Below w.heap.size w W) => hoAt_any v B o beat W (h.below hW) (by omega) (by omega) (by omega) (by omega)
      clear h
      go_enter Try.func14, Try.ntmps14
      go_wp2_with fail
      refine HO.mono ?_
      rintro e w1 ⟨rfl, b1⟩
      go_wp2_with fail
      refine (isNearBeat_any _ _).mono ?_
      rintro e w1 ⟨rfl, rfl⟩
      rw [hin]
      go_wp2_with fail
      refine (HA _ b1).mono ?_
      rintro e w1 ⟨rfl, rfl⟩
      go_wp2
      go_ret2
      exact ⟨rfl, b1⟩

/-! ### the common period -/
set_option maxRecDepth 10000 in
theorem commonMultipleI_any (a b : Nat) (w : World) (ha : 1 ≤ a) (ha2 : a ≤ 1000) (hb : 1 ≤ b) (hb2 : b ≤ 15) :
    Calls Try.prog 64 #[.int .i64 a, .int .i64 b] w fun e w' => e = .returned (.int .i64 (Nat.lcm a b : Nat)) ∧ w = w' := by
  have hlb : Nat.lcm a b ≤ 15000 := by
    have h3 : Nat.lcm a b ≤ a * b := by unfold Nat.lcm; exact Nat.div_le_self _ _
    have := Nat.mul_le_mul ha2 hb2
    omega
  have hal : a ∣ Nat.lcm a b := Nat.dvd_lcm_left a b
  have hlp : 1 ≤ Nat.lcm a b := Nat.lcm_pos (by omega) (by omega)
  have HE := Lib.hid (fun (m : Nat) (h1 : a ∣ m) (h2 : m % b = 0) (h3 : 1 ≤ m) (h4 : m ≤ Nat.lcm a b) => show m = Nat.lcm a b from by
    have := Nat.le_of_dvd (by omega) (Nat.lcm_dvd h1 (Nat.dvd_of_mod_eq_zero h2))
    omega)
  have HN := Lib.hid (fun (m : Nat) (h1 : a ∣ m) (h2 : ¬ m % b = 0) (h4 : m ≤ Nat.lcm a b) => show a ∣ m + a ∧ m + a ≤ Nat.lcm a b from by
    refine ⟨Nat.dvd_add h1 (Nat.dvd_refl _), ?_⟩
    have hne : m ≠ Nat.lcm a b := by
      intro e
      apply h2
      rw [e]
      exact Nat.mod_eq_zero_of_dvd (Nat.dvd_lcm_right a b)
    have := Nat.le_of_dvd (by omega) (Nat.dvd_sub hal h1)
    omega)
  have hle : a ≤ Nat.lcm a b := Nat.le_of_dvd (by omega) hal
  clear hal
  generalize Nat.lcm a b = L at *
  go_enter Try.func64, Try.ntmps64
  go_wp2
  go_loop [5] (fun x => ∃ m : Nat, 1 ≤ m ∧ m ≤ L ∧ x = .int .i64 m ∧ Hid (a ∣ m)) (fun x => L - (intOf x).toNat)
  case atStart => exact ⟨a, by omega, hle, rfl, Lib.hid (Nat.dvd_refl _)⟩
  case round =>
    obtain ⟨m, h1, h2, rfl, hd⟩ := hrel
    have emod : ((m : Int) % (b : Int)) = ((m % b : Nat) : Int) := by simp
    obtain ⟨M, hM⟩ : ∃ M : Int, (m : Int) = M := ⟨_, rfl⟩
    by_cases hz : m % b = 0
    · obtain rfl := HE.out m hd.out hz h1 h2
      have hzz : (M % (b : Int)) = 0 := by rw [← hM, emod, hz]; rfl
      clear HE HN hd emod hz
      rw [hM]
      go_wp2
      go_ret
      exact ⟨rfl, rfl⟩
    · obtain ⟨h3, h4⟩ := HN.out m hd.out hz h2
      have HD := Lib.hid h3
      have hzz : ((M % (b : Int)) != 0) = true := by rw [bne_iff_ne, ← hM, emod]; omega
      clear HE HN hd emod hz h3
      have HM := Lib.hid hM
      have hM1 : 1 ≤ M := by omega
      have hM2 : M + a ≤ 15000 := by omega
      rw [hM]
      clear hM
      go_wp2
      go_round
      case rel => exact ⟨m + a, by omega, h4, by rw [← HM.out]; go_num, HD⟩
      case measure => have := HM.out; simp [intOf]; omega

set_option maxRecDepth 10000 in
theorem l14Period_any (a b : Nat) (w : World) (ha : 1 ≤ a) (ha2 : a ≤ 1000) (hb : 1 ≤ b) (hb2 : b ≤ 15) :
    Calls Try.prog 65 #[.int .i64 a, .int .i64 b] w fun e w' => e = .returned (.int .i64 (Nat.lcm a b : Nat)) ∧ w = w' := by
  have hlb : Nat.lcm a b ≤ 15000 := by
    have h3 : Nat.lcm a b ≤ a * b := by unfold Nat.lcm; exact Nat.div_le_self _ _
    have := Nat.mul_le_mul ha2 hb2
    omega
  have hal : a ∣ Nat.lcm a b := Nat.dvd_lcm_left a b
  have hlp : 1 ≤ Nat.lcm a b := Nat.lcm_pos (by omega) (by omega)
  have HE := Lib.hid (fun (m : Nat) (h1 : a ∣ m) (h2 : m % b = 0) (h3 : 1 ≤ m) (h4 : m ≤ Nat.lcm a b) => show m = Nat.lcm a b from by
    have := Nat.le_of_dvd (by omega) (Nat.lcm_dvd h1 (Nat.dvd_of_mod_eq_zero h2))
    omega)
  have HN := Lib.hid (fun (m : Nat) (h1 : a ∣ m) (h2 : ¬ m % b = 0) (h4 : m ≤ Nat.lcm a b) => show a ∣ m + a ∧ m + a ≤ Nat.lcm a b from by
    refine ⟨Nat.dvd_add h1 (Nat.dvd_refl _), ?_⟩
    have hne : m ≠ Nat.lcm a b := by
      intro e
      apply h2
      rw [e]
      exact Nat.mod_eq_zero_of_dvd (Nat.dvd_lcm_right a b)
    have := Nat.le_of_dvd (by omega) (Nat.dvd_sub hal h1)
    omega)
  have hle : a ≤ Nat.lcm a b := Nat.le_of_dvd (by omega) hal
  clear hal
  generalize Nat.lcm a b = L at *
  go_enter Try.func65, Try.ntmps65
  go_wp2
  go_loop [5] (fun x => ∃ m : Nat, 1 ≤ m ∧ m ≤ L ∧ x = .int .i64 m ∧ Hid (a ∣ m)) (fun x => L - (intOf x).toNat)
  case atStart => exact ⟨a, by omega, hle, rfl, Lib.hid (Nat.dvd_refl _)⟩
  case round =>
    obtain ⟨m, h1, h2, rfl, hd⟩ := hrel
    have emod : ((m : Int) % (b : Int)) = ((m % b : Nat) : Int) := by simp
    obtain ⟨M, hM⟩ : ∃ M : Int, (m : Int) = M := ⟨_, rfl⟩
    by_cases hz : m % b = 0
    · obtain rfl := HE.out m hd.out hz h1 h2
      have hzz : (M % (b : Int)) = 0 := by rw [← hM, emod, hz]; rfl
      clear HE HN hd emod hz
      rw [hM]
      go_wp2
      go_ret
      exact ⟨rfl, rfl⟩
    · obtain ⟨h3, h4⟩ := HN.out m hd.out hz h2
      have HD := Lib.hid h3
      have hzz : ((M % (b : Int)) != 0) = true := by rw [bne_iff_ne, ← hM, emod]; omega
      clear HE HN hd emod hz h3
      have HM := Lib.hid hM
      have hM1 : 1 ≤ M := by omega
      have hM2 : M + a ≤ 15000 := by omega
      rw [hM]
      clear hM
      go_wp2
      go_round
      case rel => exact ⟨m + a, by omega, h4, by rw [← HM.out]; go_num, HD⟩
      case measure => have := HM.out; simp [intOf]; omega

theorem l14Common_any (v u : Value) (B C : Nat) (p o : List Int) (w : World) (h : Ints w B v p) (k : Ints w C u o) (h1 : 1 ≤ p.length) (h2 : p.length ≤ 12) (k1 : 1 ≤ o.length) (k2 : o.length ≤ 12) :
    Calls Try.prog 34 #[v, u] w fun e w' => e = .returned (.int .i64 (cpN p o : Nat)) ∧ w = w' := by
  obtain ⟨va, vc, rfl⟩ := ints_slH h
  obtain ⟨ua, uc, rfl⟩ := ints_slH k
  have HL := l14Period_any p.length o.length w h1 (by omega) k1 (by omega)
  clear h k
  go_enter Try.func34, Try.ntmps34
  go_wp2_with fail
  refine HL.mono ?_
  rintro e w1 ⟨rfl, rfl⟩
  go_wp2
  go_ret
  exact ⟨rfl, rfl⟩

theorem commonPeriodH_any (v u : Value) (B C : Nat) (p o : List Int) (w : World) (h : Ints w B v p) (k : Ints w C u o) (h1 : 1 ≤ p.length) (h2 : p.length ≤ 12) (k1 : 1 ≤ o.length) (k2 : o.length ≤ 12) :
    Calls Try.prog 33 #[.agg #[v, u]] w fun e w' => e = .returned (.int .i64 (cpN p o : Nat)) ∧ Below w.heap.size w w' := by
  obtain ⟨va, vc, rfl⟩ := ints_slH h
  obtain ⟨ua, uc, rfl⟩ := ints_slH k
  have HL := fun W => commonMultipleI_any p.length o.length W h1 (by omega) k1 (by omega)
  have b0 := (Below.refl w.heap.size w).alloc (Nat.le_refl _) (.cells #[.slice va p.length vc, .slice ua o.length uc] 42)
  clear h k
  go_enter Try.func33, Try.ntmps33
  go_wp2_with fail
  refine (HL _).mono ?_
  rintro e w1 ⟨rfl, rfl⟩
  go_wp2
  go_ret
  exact ⟨rfl, b0⟩

theorem l14Code_any (v u : Value) (B C : Nat) (p o : List Int) (w : World) (h : Ints w B v p) (k : Ints w C u o) :
    Calls Try.prog 31 #[v, u] w fun e w' => e = .returned (.int .i64 (poC p o)) ∧ Below w.heap.size w w' := by
  have HP := l02Ok_any v B p w h
  have HO := fun W (hW : Below w.heap.size w W) => l14Ok_any u C o W (k.below hW)
  clear h k
  cases hp : okPat p with
  | false =>
    rw [poC_false (show okPO p o = false by rw [okPO, hp, Bool.false_and])]
    rw [hp] at HP
    go_enter Try.func31, Try.ntmps31
    go_wp2_with fail
    refine HP.mono ?_
    rintro e w1 ⟨rfl, b1⟩
    go_wp2
    go_ret
    exact ⟨rfl, b1⟩
  | true =>
    rw [hp] at HP
    cases ho : okH o with
    | false =>
      rw [poC_false (show okPO p o = false by rw [okPO, hp, ho]; rfl)]
      go_enter Try.func31, Try.ntmps31
      go_wp2_with fail
      refine HP.mono ?_
      rintro e w1 ⟨rfl, b1⟩
      go_wp2_with fail
      refine (HO _ b1).mono ?_
      rintro e w1 ⟨rfl, rfl⟩
      rw [ho]
      go_wp2
      go_ret
      exact ⟨rfl, b1⟩
    | true =>
      rw [poC_true (show okPO p o = true by rw [okPO, hp, ho]; rfl)]
      go_enter Try.func31, Try.ntmps31
      go_wp2_with fail
      refine HP.mono ?_
      rintro e w1 ⟨rfl, b1⟩
      go_wp2_with fail
      refine (HO _ b1).mono ?_
      rintro e w1 ⟨rfl, rfl⟩
      rw [ho]
      go_wp2
      go_ret
      exact ⟨rfl, b1⟩

/-- a pattern with an order as the program has it: nothing where one of both is invalid -/
def hdP (p o : List Int) (v u : Value) : Value := if okPO p o then .agg #[v, u] else .agg #[.slice none 0 0, .slice none 0 0]
theorem hdP_true {p o : List Int} (h : okPO p o = true) (v u : Value) : hdP p o v u = .agg #[v, u] := by rw [hdP, if_pos h]
theorem hdP_false {p o : List Int} (h : okPO p o = false) (v u : Value) : hdP p o v u = .agg #[.slice none 0 0, .slice none 0 0] := by rw [hdP, if_neg (by simp [h])]

set_option maxRecDepth 10000 in
theorem handedOf_any (v u : Value) (B C : Nat) (p o : List Int) (w : World) (h : Ints w B v p) (k : Ints w C u o) :
    Calls Try.prog 28 #[v, u] w fun e w' => e = .returned (.tuple #[hdP p o v u, .int .i64 (poC p o)]) ∧ Below w.heap.size w w' := by
  have b0 := (Below.refl w.heap.size w).alloc (Nat.le_refl _) (.cells #[.slice none 0 0, .slice none 0 0] 42)
  have q0 := Blk.made w #[.slice none 0 0, .slice none 0 0] 42
  have HP := fun W (hW : Below w.heap.size w W) => validPattern_impl v B p W (h.below hW)
  have HO := fun W (hW : Below w.heap.size w W) => validHands_impl u C o W (k.below hW)
  obtain ⟨va, vc, rfl⟩ := ints_slH h
  obtain ⟨ua, uc, rfl⟩ := ints_slH k
  clear h k
  cases hp : okPat p with
  | false =>
    have hq : okPO p o = false := by rw [okPO, hp, Bool.false_and]
    rw [poC_false hq, hdP_false hq]
    go_enter Try.func28, Try.ntmps28
    go_wp2_with fail
    refine (HP _ b0).mono ?_
    rintro e w1 ⟨rfl, b1⟩
    rw [hp]
    have B1 := b0.trans (b1.mono b0.size)
    have q1 := q0.below b1 (by simp)
    have c0 := q1.cell 0
    have c1 := q1.cell 1
    have f0 := q1.free 0
    have f1 := q1.free 1
    simp only [List.getElem?_cons_zero, List.getElem?_cons_succ] at c0 c1
    obtain ⟨r0, r1⟩ := stc_setH (.slice none 0 0) (.slice none 0 0) c0 c1
    have B2 := (B1.setCell (p := ⟨w.heap.size, 0, none⟩) (Nat.le_refl _) (.slice none 0 0)).setCell (p := ⟨w.heap.size, 1, none⟩) (Nat.le_refl _) (.slice none 0 0)
    clear HP HO b1 q0 q1 b0 B1
    go_wp2
    refine bodyPost_ret (v := .tuple #[.agg #[.slice none 0 0, .slice none 0 0], .int .i64 1]) (by simp [results, Try.results28, go_sem, r0, r1]) rfl ?_
    exact ⟨rfl, B2⟩
  | true =>
    cases ho : okH o with
    | false =>
      have hq : okPO p o = false := by rw [okPO, hp, ho]; rfl
      rw [poC_false hq, hdP_false hq]
      go_enter Try.func28, Try.ntmps28
      go_wp2_with fail
      refine (HP _ b0).mono ?_
      rintro e w1 ⟨rfl, b1⟩
      rw [hp]
      have B1 := b0.trans (b1.mono b0.size)
      have q1 := q0.below b1 (by simp)
      go_wp2_with fail
      refine (HO _ B1).mono ?_
      rintro e w2 ⟨rfl, b2⟩
      rw [ho]
      have B2 := B1.trans (b2.mono B1.size)
      have q2 := q1.below b2 q1.lt
      have c0 := q2.cell 0
      have c1 := q2.cell 1
      have f0 := q2.free 0
      have f1 := q2.free 1
      simp only [List.getElem?_cons_zero, List.getElem?_cons_succ] at c0 c1
      obtain ⟨r0, r1⟩ := stc_setH (.slice none 0 0) (.slice none 0 0) c0 c1
      have B3 := (B2.setCell (p := ⟨w.heap.size, 0, none⟩) (Nat.le_refl _) (.slice none 0 0)).setCell (p := ⟨w.heap.size, 1, none⟩) (Nat.le_refl _) (.slice none 0 0)
      clear HP HO b1 q0 q1 b0 B1 q2 b2 B2
      go_wp2
      refine bodyPost_ret (v := .tuple #[.agg #[.slice none 0 0, .slice none 0 0], .int .i64 1]) (by simp [results, Try.results28, go_sem, r0, r1]) rfl ?_
      exact ⟨rfl, B3⟩
    | true =>
      have hq : okPO p o = true := by rw [okPO, hp, ho]; rfl
      rw [poC_true hq, hdP_true hq]
      go_enter Try.func28, Try.ntmps28
      go_wp2_with fail
      refine (HP _ b0).mono ?_
      rintro e w1 ⟨rfl, b1⟩
      rw [hp]
      have B1 := b0.trans (b1.mono b0.size)
      have q1 := q0.below b1 (by simp)
      go_wp2_with fail
      refine (HO _ B1).mono ?_
      rintro e w2 ⟨rfl, b2⟩
      rw [ho]
      have B2 := B1.trans (b2.mono B1.size)
      have q2 := q1.below b2 q1.lt
      have c0 := q2.cell 0
      have c1 := q2.cell 1
      have f0 := q2.free 0
      have f1 := q2.free 1
      simp only [List.getElem?_cons_zero, List.getElem?_cons_succ] at c0 c1
      obtain ⟨r0, r1⟩ := stc_setH (.slice va p.length vc) (.slice ua o.length uc) c0 c1
      have B3 := (B2.setCell (p := ⟨w.heap.size, 0, none⟩) (Nat.le_refl _) (.slice va p.length vc)).setCell (p := ⟨w.heap.size, 1, none⟩) (Nat.le_refl _) (.slice ua o.length uc)
      clear HP HO b1 q0 q1 b0 B1 q2 b2 B2
      go_wp2
      refine bodyPost_ret (v := .tuple #[.agg #[.slice va p.length vc, .slice ua o.length uc], .int .i64 0]) (by simp [results, Try.results28, go_sem, r0, r1]) rfl ?_
      exact ⟨rfl, B3⟩

theorem commonPeriod_spec (v u : Value) (B C : Nat) (p o : List Int) (w : World) (h : Ints w B v p) (k : Ints w C u o) :
    Calls Try.prog 10 #[v, u] w fun e w' => e = .returned (.tuple #[.int .i64 (cpA p o), .int .i64 (poC p o)]) ∧ Below w.heap.size w w' := by
  have HC := l14Code_any v u B C p o w h k
  cases hq : okPO p o with
  | false =>
    rw [cpA_false hq, poC_false hq]
    rw [poC_false hq] at HC
    clear h k
    go_enter Try.func10, Try.ntmps10
    go_wp2_with fail
    refine HC.mono ?_
    rintro e w1 ⟨rfl, b1⟩
    go_wp2
    go_ret2
    exact ⟨rfl, b1⟩
  | true =>
    obtain ⟨hp, ho⟩ := okPO_parts hq
    have lp := okPat_len hp
    have lo := okH_len ho
    have HP := fun W (hW : Below w.heap.size w W) => l14Common_any v u B C p o W (h.below hW) (k.below hW) lp.1 lp.2 lo.1 lo.2
    rw [cpA_true hq, poC_true hq]
    rw [poC_true hq] at HC
    clear h k
    go_enter Try.func10, Try.ntmps10
    go_wp2_with fail
    refine HC.mono ?_
    rintro e w1 ⟨rfl, b1⟩
    go_wp2_with fail
    refine (HP _ b1).mono ?_
    rintro e w1 ⟨rfl, rfl⟩
    go_wp2
    go_ret2
    exact ⟨rfl, b1⟩

theorem commonPeriod_impl (v u : Value) (B C : Nat) (p o : List Int) (w : World) (h : Ints w B v p) (k : Ints w C u o) :
    Calls Try.prog 9 #[v, u] w fun e w' => e = .returned (.tuple #[.int .i64 (cpA p o), .int .i64 (poC p o)]) ∧ Below w.heap.size w w' := by
  have HC := handedOf_any v u B C p o w h k
  cases hq : okPO p o with
  | false =>
    rw [cpA_false hq, poC_false hq]
    rw [poC_false hq, hdP_false hq] at HC
    clear h k
    go_enter Try.func9, Try.ntmps9
    go_wp2_with fail
    refine HC.mono ?_
    rintro e w1 ⟨rfl, b1⟩
    have B2 := b1.alloc b1.size (.cells #[.slice none 0 0, .slice none 0 0] 42)
    go_wp2
    go_ret2
    exact ⟨rfl, B2⟩
  | true =>
    obtain ⟨hp, ho⟩ := okPO_parts hq
    have lp := okPat_len hp
    have lo := okH_len ho
    have HP := fun W (hW : Below w.heap.size w W) => commonPeriodH_any v u B C p o W (h.below hW) (k.below hW) lp.1 lp.2 lo.1 lo.2
    rw [cpA_true hq, poC_true hq]
    rw [poC_true hq, hdP_true hq] at HC
    obtain ⟨va, vc, rfl⟩ := ints_slH h
    obtain ⟨ua, uc, rfl⟩ := ints_slH k
    clear h k
    go_enter Try.func9, Try.ntmps9
    go_wp2_with fail
    refine HC.mono ?_
    rintro e w1 ⟨rfl, b1⟩
    have B2 := b1.alloc b1.size (.cells #[.slice va p.length vc, .slice ua o.length uc] 42)
    go_wp2_with fail
    refine (HP _ B2).mono ?_
    rintro e w2 ⟨rfl, b3⟩
    have B3 := B2.trans (b3.mono B2.size)
    go_wp2
    go_ret2
    exact ⟨rfl, B3⟩
end Go.Proofs.Ytlpeigeadjojnaa
