/- FullPeriod, the model's and the program's. No conditions. -/
import Derived.Test.YtlpeigeadjojnabOrP
namespace Go.Proofs.Ytlpeigeadjojnab
open Go.RowKit
set_option linter.unusedSimpArgs false
set_option linter.unusedVariables false

/-- the least common multiple of the first k numbers that are not 0 -/
def lcK (L : List Int) : Nat → Nat
  | 0 => 1
  | k + 1 => if L.getD k 0 = 0 then lcK L k else Nat.lcm (lcK L k) (L.getD k 0).toNat
theorem lcK_zero {L : List Int} {k : Nat} (h : L.getD k 0 = 0) : lcK L (k + 1) = lcK L k := by rw [lcK, if_pos h]
theorem lcK_more {L : List Int} {k : Nat} (h : ¬ L.getD k 0 = 0) : lcK L (k + 1) = Nat.lcm (lcK L k) (L.getD k 0).toNat := by rw [lcK, if_neg h]
theorem lcK_pos {L : List Int} (hL : ∀ k, k < L.length → 0 ≤ L.getD k 0 ∧ L.getD k 0 ≤ 15) (k : Nat) (hk : k ≤ L.length) : 1 ≤ lcK L k ∧ lcK L k ≤ 15 ^ k := by
  induction k with
  | zero => simp [lcK]
  | succ k ih =>
    obtain ⟨h1, h2⟩ := ih (by omega)
    have hb := hL k (by omega)
    have hp : (15 : Nat) ^ k ≤ 15 ^ (k + 1) := Nat.pow_le_pow_right (by decide) (by omega)
    by_cases h : L.getD k 0 = 0
    · rw [lcK_zero h]; omega
    · rw [lcK_more h]
      refine ⟨Nat.lcm_pos (by omega) (by omega), ?_⟩
      have h3 : Nat.lcm (lcK L k) (L.getD k 0).toNat ≤ lcK L k * (L.getD k 0).toNat := by
        unfold Nat.lcm
        exact Nat.div_le_self _ _
      have h4 : lcK L k * (L.getD k 0).toNat ≤ 15 ^ k * 15 := Nat.mul_le_mul h2 (by omega)
      rw [Nat.pow_succ]
      omega
theorem lcK_fits {L : List Int} (hL : ∀ k, k < L.length → 0 ≤ L.getD k 0 ∧ L.getD k 0 ≤ 15) (hl : L.length ≤ 12) (k : Nat) (hk : k ≤ L.length) : 1 ≤ lcK L k ∧ lcK L k ≤ 129746337890625 := by
  obtain ⟨h1, h2⟩ := lcK_pos hL k hk
  have : (15 : Nat) ^ k ≤ 15 ^ 12 := Nat.pow_le_pow_right (by decide) (by omega)
  have e : (15 : Nat) ^ 12 = 129746337890625 := by decide
  omega
theorem ops_at {p : List Int} (hok : okPat p = true) (k : Nat) (hk : k < (opsL p).length) : 0 ≤ (opsL p).getD k 0 ∧ (opsL p).getD k 0 ≤ 15 := by
  rw [opsL_len] at hk
  obtain ⟨h1, _⟩ := fsts_at hk
  have e : (opsL p).getD k 0 = wsum p ((fsts p).getD k 0) / (p.length : Int) := by simp [opsL, hk]
  have hb := wsK_bound hok h1 (wayL p ((fsts p).getD k 0)).length (Nat.le_refl _)
  rw [wsK_all] at hb
  have hl : (wayL p ((fsts p).getD k 0)).length ≤ p.length := by rw [wayL_len]; exact (per_spec hok h1).2.1
  have h0 := (okPat_len hok).1
  rw [e]
  refine ⟨Int.ediv_nonneg hb.1 (by omega), ?_⟩
  have : wsum p ((fsts p).getD k 0) < 16 * (p.length : Int) := by omega
  have := Int.ediv_lt_of_lt_mul (by omega : (0 : Int) < (p.length : Int)) this
  omega
/-- what FullPeriod answers -/
def fpA (p : List Int) : Int := if okPat p then ((lcK (opsL p) (opsL p).length : Nat) : Int) * (p.length : Int) else 0
theorem fpA_true {p : List Int} (h : okPat p = true) : fpA p = ((lcK (opsL p) (opsL p).length : Nat) : Int) * (p.length : Int) := by rw [fpA, if_pos h]
theorem fpA_false {p : List Int} (h : okPat p = false) : fpA p = 0 := by rw [fpA, if_neg (by simp [h])]

set_option maxRecDepth 10000 in
theorem l13Gcd_any (a b : Nat) (w : World) (ha : a ≤ 1000000000000000) (hb : b ≤ 1000000000000000) :
    Calls Try.prog 21 #[.int .i64 a, .int .i64 b] w fun e w' => e = .returned (.int .i64 (Nat.gcd a b : Nat)) ∧ w = w' := by
  obtain ⟨G, hG⟩ : ∃ G, Nat.gcd a b = G := ⟨_, rfl⟩
  rw [hG]
  have HG := Lib.hid hG
  clear hG
  go_enter Try.func21, Try.ntmps21
  go_wp2
  go_loop [0, 1, 5] (fun x y _ => ∃ X Y : Int, 0 ≤ X ∧ 0 ≤ Y ∧ X ≤ 1000000000000000 ∧ Y ≤ 1000000000000000 ∧ x = .int .i64 X ∧ y = .int .i64 Y ∧ Hid (Nat.gcd X.toNat Y.toNat = G)) (fun _ y _ => (intOf y).toNat)
  case atStart => exact ⟨a, b, by omega, by omega, by omega, by omega, rfl, rfl, HG⟩
  case round =>
    obtain ⟨X, Y, hx, hy, hx2, hy2, rfl, rfl, hg⟩ := hrel
    by_cases hz : Y = 0
    · subst hz
      have he : X = (G : Int) := by have := hg.out; simp at this; omega
      subst he
      clear hg
      go_wp2
      go_ret
      exact ⟨rfl, rfl⟩
    · have hyn : (Y != 0) = true := by simpa using hz
      have e0 := Int.emod_nonneg X (show Y ≠ 0 by omega)
      have e1 := Int.emod_lt_of_pos X (show 0 < Y by omega)
      have hg2 : Nat.gcd Y.toNat (X % Y).toNat = G := by
        rw [← hg.out, Int.toNat_emod hx hy, Nat.gcd_comm X.toNat, Nat.gcd_rec Y.toNat X.toNat, Nat.gcd_comm]
      have HG2 := Lib.hid hg2
      clear hg hg2
      go_wp2
      go_round
      case rel => exact ⟨Y, X % Y, by omega, by omega, by omega, by omega, rfl, rfl, HG2⟩
      case measure => simp [intOf]; omega

set_option maxRecDepth 10000 in
theorem commonMultiple_any (a b : Nat) (w : World) (ha : 1 ≤ a) (ha2 : a ≤ 1000000000000000) (hb : 1 ≤ b) (hb2 : b ≤ 15) :
    Calls Try.prog 22 #[.int .i64 a, .int .i64 b] w fun e w' => e = .returned (.int .i64 (Nat.lcm a b : Nat)) ∧ w = w' := by
  have hlb : Nat.lcm a b ≤ 15000000000000000 := by
    have h3 : Nat.lcm a b ≤ a * b := by unfold Nat.lcm; exact Nat.div_le_self _ _
    have := Nat.mul_le_mul ha2 hb2
    omega
  have hal : a ∣ Nat.lcm a b := Nat.dvd_lcm_left a b
  have hlp : 1 ≤ Nat.lcm a b := Nat.lcm_pos (by omega) (by omega)
  have HE := Lib.hid (fun (m : Nat) (h1 : a ∣ m) (h2 : m % b = 0) (h3 : 1 ≤ m) (h4 : m ≤ Nat.lcm a b) => show m = Nat.lcm a b from by
    have := Nat.le_of_dvd (by omega) (Nat.lcm_dvd h1 (Nat.dvd_of_mod_eq_zero h2))
    omega)
  have HN := Lib.hid (fun (m : Nat) (h1 : a ∣ m) (h2 : ¬ m % b = 0) (h4 : m ≤ Nat.lcm a b) => show a ∣ m + a ∧ m + a ≤ Nat.lcm a b from by
    refine ⟨Nat.dvd_add h1 (Nat.dvd_refl _), ?_⟩
    have hne : m ≠ Nat.lcm a b := by
      intro e
      apply h2
      rw [e]
      exact Nat.mod_eq_zero_of_dvd (Nat.dvd_lcm_right a b)
    have := Nat.le_of_dvd (by omega) (Nat.dvd_sub hal h1)
    omega)
  have hle : a ≤ Nat.lcm a b := Nat.le_of_dvd (by omega) hal
  clear hal
  generalize Nat.lcm a b = L at *
  go_enter Try.func22, Try.ntmps22
  go_wp2
  go_loop [5] (fun x => ∃ m : Nat, 1 ≤ m ∧ m ≤ L ∧ x = .int .i64 m ∧ Hid (a ∣ m)) (fun x => L - (intOf x).toNat)
  case atStart => exact ⟨a, by omega, hle, rfl, Lib.hid (Nat.dvd_refl _)⟩
  case round =>
    obtain ⟨m, h1, h2, rfl, hd⟩ := hrel
    have emod : ((m : Int) % (b : Int)) = ((m % b : Nat) : Int) := by simp
    obtain ⟨M, hM⟩ : ∃ M : Int, (m : Int) = M := ⟨_, rfl⟩
    by_cases hz : m % b = 0
    · obtain rfl := HE.out m hd.out hz h1 h2
      have hzz : (M % (b : Int)) = 0 := by rw [← hM, emod, hz]; rfl
      clear HE HN hd emod hz
      rw [hM]
      go_wp2
      go_ret
      exact ⟨rfl, rfl⟩
    · obtain ⟨h3, h4⟩ := HN.out m hd.out hz h2
      have HD := Lib.hid h3
      have hzz : ((M % (b : Int)) != 0) = true := by rw [bne_iff_ne, ← hM, emod]; omega
      clear HE HN hd emod hz h3
      have HM := Lib.hid hM
      have hM1 : 1 ≤ M := by omega
      have hM2 : M + a ≤ 15000000000000000 := by omega
      rw [hM]
      clear hM
      go_wp2
      go_round
      case rel => exact ⟨m + a, by omega, h4, by rw [← HM.out]; go_num, HD⟩
      case measure => have := HM.out; simp [intOf]; omega

/-- one step of the model's least common multiple -/
theorem lcm_step {L : List Int} {k : Nat} {z : Int} (hz : L.getD k 0 = z) (h0 : 0 < z) : (((lcK L k : Nat) : Int) / ((Nat.gcd (lcK L k) z.toNat : Nat) : Int)) * z = ((lcK L (k + 1) : Nat) : Int) := by
  rw [lcK_more (by omega), hz]
  obtain ⟨m, rfl⟩ : ∃ m : Nat, z = m := ⟨z.toNat, by omega⟩
  rw [Int.toNat_natCast]
  unfold Nat.lcm
  rw [← Nat.div_mul_right_comm (Nat.gcd_dvd_left (lcK L k) m)]
  simp

set_option maxRecDepth 10000 in
set_option maxHeartbeats 1000000 in
theorem fullPeriod_spec (v : Value) (B : Nat) (p : List Int) (w : World) (h : Ints w B v p) :
    Calls Try.prog 5 #[v] w fun e w' => e = .returned (.tuple #[.int .i64 (fpA p), .int .i64 (okC p)]) ∧ Below w.heap.size w w' := by
  cases hok : okPat p with
  | false =>
    rw [fpA_false hok, okC_false hok]
    go_enter Try.func5, Try.ntmps5
    go_wp2_with fail
    refine (l02Ok_any v B p _ h).mono ?_
    rintro e w' ⟨rfl, hb⟩
    rw [hok]
    go_wp2
    go_ret2
    exact ⟨rfl, hb⟩
  | true =>
    rw [fpA_true hok, okC_true hok]
    obtain ⟨va, vc, rfl⟩ := ints_slOr h
    obtain ⟨l1, l2⟩ := okPat_len hok
    have hfl := fsts_len p
    have hol := opsL_len p
    have HP := Lib.hid (fun W (hW : Below w.heap.size w W) k (hk : k < (fsts p).length) y B2 (hy : Ints W B2 y (ints (wayL p ((fsts p).getD k 0)))) => show Calls Try.prog 20 #[.slice va p.length vc, y] W fun e w' => e = .returned (.int .i64 ((opsL p).getD k 0)) ∧ W = w' from by
      have := l13Props_any (.slice va p.length vc) y B B2 p _ W (h.below hW) hy hok (fsts_at hk).1
      rwa [show wsum p ((fsts p).getD k 0) / (p.length : Int) = (opsL p).getD k 0 by simp [opsL, hk]] at this)
    have HOL := Lib.hid (orbs_len p)
    have HOA := Lib.hid (fun k (hk : k < (fsts p).length) => orbs_at hk)
    have HB := Lib.hid (fun k (hk : k < (fsts p).length) => ops_at hok k (by rw [hol]; exact hk))
    have HF := Lib.hid (fun k (hk : k ≤ (fsts p).length) => lcK_fits (fun k hk => ops_at hok k hk) (by omega) k (by rw [hol]; exact hk))
    have HZ := Lib.hid (fun k => lcK_zero (L := opsL p) (k := k))
    have HS := Lib.hid (fun k z (hz : (opsL p).getD k 0 = z) (h0 : 0 < z) => lcm_step hz h0)
    have H0 : Hid (lcK (opsL p) 0 = 1) := Lib.hid rfl
    rw [hol]
    go_enter Try.func5, Try.ntmps5
    go_wp2_with fail
    refine (l02Ok_any _ B p _ h).mono ?_
    rintro e w1 ⟨rfl, b1⟩
    have HO := l13Orbits_any _ B p w1 (h.below b1) hok
    rw [hok]
    clear h hok
    go_wp2_with fail
    refine HO.mono ?_
    rintro e w2 ⟨x, rfl, hg, b2⟩
    have B2 := b1.trans (b2.mono b1.size)
    obtain ⟨xa, xc, rfl⟩ := sl_of_grid hg
    have HG := Lib.hid hg
    clear hg HO b1 b2
    generalize hlc : lcK (opsL p) = LK at *
    have HLC := Lib.hid hlc
    clear hlc hol
    generalize hn : (fsts p).length = n at *
    have HN := Lib.hid hn
    clear hn
    go_wp2
    go_loop [4, 6, 7] (fun t x _ => ∃ k : Nat, k ≤ n ∧ x = .int .i64 k ∧ t = .int .i64 (LK k : Nat)) (fun _ x _ => n - (intOf x).toNat)
    case atStart => exact ⟨0, Nat.zero_le _, rfl, by rw [H0.out]; rfl⟩
    case round =>
      obtain ⟨k, hk, rfl, rfl⟩ := hrel
      by_cases hlt : k < n
      · obtain ⟨gx, rfl, y, cc, hy⟩ := HG.out.atSl k (by rw [HOL.out]; exact hlt)
        rw [HOA.out k hlt] at hy
        have HPP := HP.out w2 B2 k hlt y _ hy
        have hzb := HB.out k hlt
        have hlk := HF.out k hk
        have hlk2 := HF.out (k + 1) (by omega)
        obtain ⟨z, hz⟩ : ∃ z, (opsL p).getD k 0 = z := ⟨_, rfl⟩
        by_cases h0 : 0 < z
        · have hst := HS.out k z hz h0
          have hgp : 1 ≤ Nat.gcd (LK k) z.toNat := Nat.gcd_pos_of_pos_left _ (by omega)
          rw [hz] at HPP hzb
          have HGC := l13Gcd_any (LK k) z.toNat w2 (by omega) (by omega)
          rw [show ((z.toNat : Nat) : Int) = z by omega] at HGC
          have hgl : Nat.gcd (LK k) z.toNat ≤ LK k := Nat.gcd_le_left _ (by omega)
          clear HP HOA HB HF HZ HS HG hy hz
          generalize Nat.gcd (LK k) z.toNat = gn at *
          generalize hY : LK (k + 1) = Y at *
          have HY := Lib.hid hY
          clear hY
          generalize LK k = X0 at *
          obtain ⟨X, hX⟩ : ∃ X : Int, ((X0 : Nat) : Int) = X := ⟨_, rfl⟩
          obtain ⟨G, hG⟩ : ∃ G : Int, ((gn : Nat) : Int) = G := ⟨_, rfl⟩
          rw [hX, hG] at hst HGC
          have hX1 : 1 ≤ X ∧ X ≤ 129746337890625 := by omega
          have hG1 : 1 ≤ G := by omega
          have hq1 : 0 ≤ X / G := Int.ediv_nonneg (by omega) (by omega)
          have hq2 : X / G ≤ X := Int.ediv_le_self _ (by omega)
          have hq3 : 0 ≤ (X / G) * z ∧ (X / G) * z ≤ 129746337890625 := by rw [hst]; omega
          have HST := Lib.hid hst
          rw [hX]
          clear hst hX hG hlk hlk2 hgl hgp
          obtain ⟨hX1, hX2⟩ := hX1
          obtain ⟨hq3, hq4⟩ := hq3
          obtain ⟨hz1, hz2⟩ := hzb
          go_wp2_with fail
          refine HPP.mono ?_
          rintro e w3 ⟨rfl, rfl⟩
          go_wp2_with fail
          refine HGC.mono ?_
          rintro e w3 ⟨rfl, rfl⟩
          clear HPP HGC
          go_wp2
          go_round
          case rel => exact ⟨k + 1, by omega, by go_num, by rw [HST.out, HY.out]⟩
          case measure => simp [intOf]; omega
        · have h00 : z = 0 := by rw [hz] at hzb; omega
          subst h00
          have e1 := Lib.hid (HZ.out k hz)
          rw [hz] at HPP
          clear HP HOA HB HF HZ HS HG hy hz hzb hlk hlk2
          go_wp2_with fail
          refine HPP.mono ?_
          rintro e w3 ⟨rfl, rfl⟩
          clear HPP
          go_wp2
          go_round
          case rel => exact ⟨k + 1, by omega, by go_num, by rw [e1.out]⟩
          case measure => simp [intOf]; omega
      · obtain rfl : k = n := by omega
        have hlk := HF.out k hk
        have hm : (LK k : Int) * (p.length : Int) ≤ 129746337890625 * 12 := Int.mul_le_mul (by omega) (by omega) (by omega) (by omega)
        have hm0 : 0 ≤ (LK k : Int) * (p.length : Int) := Int.mul_nonneg (by omega) (by omega)
        clear HP HOA HB HF HZ HS HG
        go_wp2
        go_ret2
        exact ⟨by rw [HLC.out, HN.out]; rfl, B2⟩

set_option maxRecDepth 10000 in
set_option maxHeartbeats 1000000 in
theorem fullPeriod_impl (v : Value) (B : Nat) (p : List Int) (w : World) (h : Ints w B v p) :
    Calls Try.prog 7 #[v] w fun e w' => e = .returned (.tuple #[.int .i64 (fpA p), .int .i64 (okC p)]) ∧ Below w.heap.size w w' := by
  have HO := orbitProps_impl v B p w h
  cases hok : okPat p with
  | false =>
    rw [fpA_false hok, okC_false hok]
    rw [okC_false hok] at HO
    go_enter Try.func7, Try.ntmps7
    go_wp2_with fail
    refine HO.mono ?_
    rintro e w' ⟨x, rfl, hi, hb⟩
    go_wp2
    go_ret2
    exact ⟨rfl, hb⟩
  | true =>
    rw [fpA_true hok, okC_true hok]
    rw [okC_true hok, opsA_true hok] at HO
    obtain ⟨va, vc, rfl⟩ := ints_slOr h
    obtain ⟨l1, l2⟩ := okPat_len hok
    have hfl := fsts_len p
    have hol := opsL_len p
    have HB := Lib.hid (fun k (hk : k < (opsL p).length) => ops_at hok k hk)
    have HF := Lib.hid (fun k (hk : k ≤ (opsL p).length) => lcK_fits (fun k hk => ops_at hok k hk) (by omega) k hk)
    have HZ := Lib.hid (fun k => lcK_zero (L := opsL p) (k := k))
    have HS := Lib.hid (fun k => lcK_more (L := opsL p) (k := k))
    have H0 : Hid (lcK (opsL p) 0 = 1) := Lib.hid rfl
    clear h hok
    go_enter Try.func7, Try.ntmps7
    go_wp2_with fail
    refine HO.mono ?_
    rintro e w2 ⟨x, rfl, hi, B2⟩
    obtain ⟨xa, xc, rfl⟩ := ints_slOr hi
    have HI := Lib.hid hi
    clear hi HO
    generalize hlc : lcK (opsL p) = LK at *
    have HLC := Lib.hid hlc
    have hn12 : (opsL p).length ≤ 12 := by omega
    clear hol
    generalize hn : (opsL p).length = n at *
    have HN := Lib.hid hn
    clear hlc hn
    go_wp2
    go_loop [6, 19] (fun t x => ∃ k : Nat, k ≤ n ∧ x = .int .i64 k ∧ t = .int .i64 (LK k : Nat)) (fun _ x => n - (intOf x).toNat)
    case atStart => exact ⟨0, Nat.zero_le _, rfl, by rw [H0.out]; rfl⟩
    case round =>
      obtain ⟨k, hk, rfl, rfl⟩ := hrel
      by_cases hlt : k < n
      · obtain ⟨gx, rfl, cc⟩ := HI.out.atSl k (by rw [HN.out]; exact hlt)
        have hzb := HB.out k hlt
        have hlk := HF.out k hk
        obtain ⟨z, hz⟩ : ∃ z, (opsL p).getD k 0 = z := ⟨_, rfl⟩
        rw [hz] at cc hzb
        by_cases h0 : z = 0
        · subst h0
          have e1 := Lib.hid (HZ.out k hz)
          clear HB HF HZ HS HI hz hzb hlk
          go_wp2
          go_round
          case rel => exact ⟨k + 1, by omega, by go_num, by rw [e1.out]⟩
          case measure => simp [intOf]; omega
        · have e1 := HS.out k (by rw [hz]; exact h0)
          rw [hz] at e1
          have HCM := commonMultiple_any (LK k) z.toNat w2 hlk.1 (by omega) (by omega) (by omega)
          rw [show ((z.toNat : Nat) : Int) = z by omega] at HCM
          have E1 := Lib.hid e1
          have hzn : (z != 0) = true := by simpa using h0
          clear HB HF HZ HS HI hz hzb hlk e1
          generalize Nat.lcm (LK k) z.toNat = Y at *
          go_wp2_with fail
          refine HCM.mono ?_
          rintro e w3 ⟨rfl, rfl⟩
          clear HCM
          go_wp2
          go_round
          case rel => exact ⟨k + 1, by omega, by go_num, by rw [E1.out]⟩
          case measure => simp [intOf]; omega
      · obtain rfl : k = n := by omega
        have hlk := HF.out k hk
        have hm : (LK k : Int) * (p.length : Int) ≤ 129746337890625 * 12 := Int.mul_le_mul (by omega) (by omega) (by omega) (by omega)
        have hm0 : 0 ≤ (LK k : Int) * (p.length : Int) := Int.mul_nonneg (by omega) (by omega)
        clear HB HF HZ HS HI
        go_wp2
        go_ret2
        exact ⟨by rw [HLC.out, HN.out]; rfl, B2⟩
end Go.Proofs.Ytlpeigeadjojnab
