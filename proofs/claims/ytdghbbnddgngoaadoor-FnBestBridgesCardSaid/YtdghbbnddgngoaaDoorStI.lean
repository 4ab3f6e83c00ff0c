/- States, the program's: heights, masks, Len64, OnesCount64, isValid. No conditions but sizes. -/
import Derived.Test.YtdghbbnddgngoaaDoorStT
import Derived.Lib.BitFns
namespace Go.Proofs.YtdghbbnddgngoaaDoor
open Go.RowKit
set_option linter.unusedSimpArgs false
set_option linter.unusedVariables false

theorem bitLen_iff (x k : Nat) (hx : x < 18446744073709551616) (hk : k ≤ 10) : decide (Lib.bitLen x ≤ k) = decide (x < 2 ^ k) := by
  by_cases h : x < 2 ^ k
  · have := Lib.bitLen_le x k (by omega) h
    rw [decide_eq_true h, decide_eq_true (by omega)]
  · rw [decide_eq_false h]
    have h1 := Lib.bitLen_shift k x (by omega) hx
    have hd : 1 ≤ x / 2 ^ k := (Nat.le_div_iff_mul_le (Nat.two_pow_pos k)).2 (by omega)
    have h2 := Lib.bitLen_half (x / 2 ^ k) (by omega) (Nat.lt_of_le_of_lt (Nat.div_le_self _ _) hx)
    exact decide_eq_false (by omega)

theorem len8_int' (y : Int) (h0 : 0 ≤ y) (h1 : y ≤ 255) : 0 ≤ Lib.len8 y ∧ Lib.len8 y ≤ 8 := by
  rw [Lib.len8_of y h0 h1]
  have := Lib.bitLen_le8' y h0 h1
  omega

set_option maxRecDepth 100000 in
theorem tab_size : (Lib.len8tab.size : Int) = 256 := by
  have : Lib.len8tab.size = 256 := by decide
  omega
theorem tab_at (y : Int) (h : y.toNat < Lib.len8tab.size) (h0 : 0 ≤ y) (h1 : y ≤ 255) : ((Lib.len8tab[y.toNat]'h).toNat : Int) = (Lib.bitLen y.toNat : Nat) := by
  rw [← Lib.len8_of y h0 h1]
  unfold Lib.len8
  rw [getElem?_pos Lib.len8tab y.toNat h]
  rfl
theorem wrap_two (k a b : Nat) (hk : k ≤ 56) (ha : a ≤ 8) (hb : b = k + a) : wrap64 ((k : Int) + wrap64 (a : Int)) = (b : Int) := by
  unfold wrap64
  omega
theorem wrap_one (a : Nat) (ha : a ≤ 8) : wrap64 (a : Int) = (a : Int) := by
  unfold wrap64
  omega
set_option maxRecDepth 100000 in
theorem tab_lt (y : Int) (h0 : 0 ≤ y) (h1 : y ≤ 255) : y.toNat < Lib.len8tab.size := by
  have : Lib.len8tab.size = 256 := by decide
  omega

set_option maxRecDepth 100000 in
set_option maxHeartbeats 4000000 in
theorem len64_any (x : Int) (w : World) (h0 : 0 ≤ x) (h1 : x ≤ 18446744073709551615) :
    Calls Tryd.prog 102 #[.int .u64 x] w fun e w' => e = .returned (.int .i64 (Lib.bitLen x.toNat)) ∧ w' = w := by
  have hsz := tab_size
  have HR : ∃ r, r = Lib.bitLen x.toNat := ⟨_, rfl⟩
  obtain ⟨r, hr⟩ := HR
  rw [← hr]
  by_cases c0_a0 : 4294967296 ≤ x
  · obtain ⟨a0, ea0⟩ : ∃ a0, x / 4294967296 = a0 := ⟨_, rfl⟩
    have ga0 : 1 ≤ a0 ∧ a0 ≤ 4294967295 := by omega
    by_cases c1_a1 : 65536 ≤ a0
    · obtain ⟨a1, ea1⟩ : ∃ a1, a0 / 65536 = a1 := ⟨_, rfl⟩
      have ga1 : 1 ≤ a1 ∧ a1 ≤ 65535 := by omega
      by_cases c2_a2 : 256 ≤ a1
      · obtain ⟨a2, ea2⟩ : ∃ a2, a1 / 256 = a2 := ⟨_, rfl⟩
        have ga2 : 1 ≤ a2 ∧ a2 ≤ 255 := by omega
        have hb := Lib.bitLen_le8' a2 (by omega) (by omega)
        have hlt := tab_lt a2 (by omega) (by omega)
        have htab := tab_at a2 hlt (by omega) (by omega)
        have hsh := Lib.bitLen_shift56 x.toNat (by omega) (by omega)
        rw [show x.toNat / 72057594037927936 = a2.toNat from by omega, ← hr] at hsh
        have HR := Lib.hid hr
        have HSH := Lib.hid hsh
        clear hsh
        have HTB := Lib.hid htab
        have HB := Lib.hid hb
        clear hr htab hb
        go_enter Tryd.func102, Tryd.ntmps102
        go_wp2
        go_ret
        refine ⟨congrArg Ending.returned (congrArg (Value.int IntKind.i64) ?_), rfl⟩
        show wrap64 ((56 : Nat) + wrap64 ((Lib.len8tab[a2.toNat]'hlt).toNat : Int)) = (r : Int)
        rw [HTB.out]
        exact wrap_two 56 _ _ (by decide) HB.out HSH.out
      · have hb := Lib.bitLen_le8' a1 (by omega) (by omega)
        have hlt := tab_lt a1 (by omega) (by omega)
        have htab := tab_at a1 hlt (by omega) (by omega)
        have hsh := Lib.bitLen_shift48 x.toNat (by omega) (by omega)
        rw [show x.toNat / 281474976710656 = a1.toNat from by omega, ← hr] at hsh
        have HR := Lib.hid hr
        have HSH := Lib.hid hsh
        clear hsh
        have HTB := Lib.hid htab
        have HB := Lib.hid hb
        clear hr htab hb
        go_enter Tryd.func102, Tryd.ntmps102
        go_wp2
        go_ret
        refine ⟨congrArg Ending.returned (congrArg (Value.int IntKind.i64) ?_), rfl⟩
        show wrap64 ((48 : Nat) + wrap64 ((Lib.len8tab[a1.toNat]'hlt).toNat : Int)) = (r : Int)
        rw [HTB.out]
        exact wrap_two 48 _ _ (by decide) HB.out HSH.out
    · by_cases c2_a3 : 256 ≤ a0
      · obtain ⟨a3, ea3⟩ : ∃ a3, a0 / 256 = a3 := ⟨_, rfl⟩
        have ga3 : 1 ≤ a3 ∧ a3 ≤ 255 := by omega
        have hb := Lib.bitLen_le8' a3 (by omega) (by omega)
        have hlt := tab_lt a3 (by omega) (by omega)
        have htab := tab_at a3 hlt (by omega) (by omega)
        have hsh := Lib.bitLen_shift40 x.toNat (by omega) (by omega)
        rw [show x.toNat / 1099511627776 = a3.toNat from by omega, ← hr] at hsh
        have HR := Lib.hid hr
        have HSH := Lib.hid hsh
        clear hsh
        have HTB := Lib.hid htab
        have HB := Lib.hid hb
        clear hr htab hb
        go_enter Tryd.func102, Tryd.ntmps102
        go_wp2
        go_ret
        refine ⟨congrArg Ending.returned (congrArg (Value.int IntKind.i64) ?_), rfl⟩
        show wrap64 ((40 : Nat) + wrap64 ((Lib.len8tab[a3.toNat]'hlt).toNat : Int)) = (r : Int)
        rw [HTB.out]
        exact wrap_two 40 _ _ (by decide) HB.out HSH.out
      · have hb := Lib.bitLen_le8' a0 (by omega) (by omega)
        have hlt := tab_lt a0 (by omega) (by omega)
        have htab := tab_at a0 hlt (by omega) (by omega)
        have hsh := Lib.bitLen_shift32 x.toNat (by omega) (by omega)
        rw [show x.toNat / 4294967296 = a0.toNat from by omega, ← hr] at hsh
        have HR := Lib.hid hr
        have HSH := Lib.hid hsh
        clear hsh
        have HTB := Lib.hid htab
        have HB := Lib.hid hb
        clear hr htab hb
        go_enter Tryd.func102, Tryd.ntmps102
        go_wp2
        go_ret
        refine ⟨congrArg Ending.returned (congrArg (Value.int IntKind.i64) ?_), rfl⟩
        show wrap64 ((32 : Nat) + wrap64 ((Lib.len8tab[a0.toNat]'hlt).toNat : Int)) = (r : Int)
        rw [HTB.out]
        exact wrap_two 32 _ _ (by decide) HB.out HSH.out
  · by_cases c1_a4 : 65536 ≤ x
    · obtain ⟨a4, ea4⟩ : ∃ a4, x / 65536 = a4 := ⟨_, rfl⟩
      have ga4 : 1 ≤ a4 ∧ a4 ≤ 65535 := by omega
      by_cases c2_a5 : 256 ≤ a4
      · obtain ⟨a5, ea5⟩ : ∃ a5, a4 / 256 = a5 := ⟨_, rfl⟩
        have ga5 : 1 ≤ a5 ∧ a5 ≤ 255 := by omega
        have hb := Lib.bitLen_le8' a5 (by omega) (by omega)
        have hlt := tab_lt a5 (by omega) (by omega)
        have htab := tab_at a5 hlt (by omega) (by omega)
        have hsh := Lib.bitLen_shift24 x.toNat (by omega) (by omega)
        rw [show x.toNat / 16777216 = a5.toNat from by omega, ← hr] at hsh
        have HR := Lib.hid hr
        have HSH := Lib.hid hsh
        clear hsh
        have HTB := Lib.hid htab
        have HB := Lib.hid hb
        clear hr htab hb
        go_enter Tryd.func102, Tryd.ntmps102
        go_wp2
        go_ret
        refine ⟨congrArg Ending.returned (congrArg (Value.int IntKind.i64) ?_), rfl⟩
        show wrap64 ((24 : Nat) + wrap64 ((Lib.len8tab[a5.toNat]'hlt).toNat : Int)) = (r : Int)
        rw [HTB.out]
        exact wrap_two 24 _ _ (by decide) HB.out HSH.out
      · have hb := Lib.bitLen_le8' a4 (by omega) (by omega)
        have hlt := tab_lt a4 (by omega) (by omega)
        have htab := tab_at a4 hlt (by omega) (by omega)
        have hsh := Lib.bitLen_shift16 x.toNat (by omega) (by omega)
        rw [show x.toNat / 65536 = a4.toNat from by omega, ← hr] at hsh
        have HR := Lib.hid hr
        have HSH := Lib.hid hsh
        clear hsh
        have HTB := Lib.hid htab
        have HB := Lib.hid hb
        clear hr htab hb
        go_enter Tryd.func102, Tryd.ntmps102
        go_wp2
        go_ret
        refine ⟨congrArg Ending.returned (congrArg (Value.int IntKind.i64) ?_), rfl⟩
        show wrap64 ((16 : Nat) + wrap64 ((Lib.len8tab[a4.toNat]'hlt).toNat : Int)) = (r : Int)
        rw [HTB.out]
        exact wrap_two 16 _ _ (by decide) HB.out HSH.out
    · by_cases c2_a6 : 256 ≤ x
      · obtain ⟨a6, ea6⟩ : ∃ a6, x / 256 = a6 := ⟨_, rfl⟩
        have ga6 : 1 ≤ a6 ∧ a6 ≤ 255 := by omega
        have hb := Lib.bitLen_le8' a6 (by omega) (by omega)
        have hlt := tab_lt a6 (by omega) (by omega)
        have htab := tab_at a6 hlt (by omega) (by omega)
        have hsh := Lib.bitLen_shift8 x.toNat (by omega) (by omega)
        rw [show x.toNat / 256 = a6.toNat from by omega, ← hr] at hsh
        have HR := Lib.hid hr
        have HSH := Lib.hid hsh
        clear hsh
        have HTB := Lib.hid htab
        have HB := Lib.hid hb
        clear hr htab hb
        go_enter Tryd.func102, Tryd.ntmps102
        go_wp2
        go_ret
        refine ⟨congrArg Ending.returned (congrArg (Value.int IntKind.i64) ?_), rfl⟩
        show wrap64 ((8 : Nat) + wrap64 ((Lib.len8tab[a6.toNat]'hlt).toNat : Int)) = (r : Int)
        rw [HTB.out]
        exact wrap_two 8 _ _ (by decide) HB.out HSH.out
      · have hb := Lib.bitLen_le8' x (by omega) (by omega)
        have hlt := tab_lt x (by omega) (by omega)
        have htab := tab_at x hlt (by omega) (by omega)
        rw [← hr] at hb htab
        have HR := Lib.hid hr
        have HTB := Lib.hid htab
        have HB := Lib.hid hb
        clear hr htab hb
        go_enter Tryd.func102, Tryd.ntmps102
        go_wp2
        go_ret
        refine ⟨congrArg Ending.returned (congrArg (Value.int IntKind.i64) ?_), rfl⟩
        show wrap64 (wrap64 ((Lib.len8tab[x.toNat]'hlt).toNat : Int)) = (r : Int)
        rw [HTB.out, wrap_one _ HB.out, wrap_one _ HB.out]

theorem isHeight_any (n : Int) (w : World) :
    Calls Tryd.prog 100 #[.int .i64 n] w fun e w' => e = .returned (.bool (inB n 1 10)) ∧ w' = w := by
  by_cases h1 : 1 ≤ n
  · by_cases h2 : n ≤ 10
    · rw [inB_true ⟨h1, h2⟩]
      go_enter Tryd.func100, Tryd.ntmps100
      go_wp2
      go_ret
      exact ⟨rfl, rfl⟩
    · rw [inB_false (by omega)]
      go_enter Tryd.func100, Tryd.ntmps100
      go_wp2
      go_ret
      exact ⟨rfl, rfl⟩
  · rw [inB_false (by omega)]
    go_enter Tryd.func100, Tryd.ntmps100
    go_wp2
    go_ret
    exact ⟨rfl, rfl⟩

theorem lowestBits_any (n : Int) (w : World) (h1 : 0 ≤ n) (h2 : n ≤ 11) :
    Calls Tryd.prog 104 #[.int .i64 n] w fun e w' => e = .returned (.int .i64 (2 ^ n.toNat - 1)) ∧ w' = w := by
  obtain ⟨P, hP, p1, p2⟩ := groundPow n h1 h2
  rw [hP]
  go_enter Tryd.func104, Tryd.ntmps104
  go_wp2
  go_ret
  exact ⟨rfl, rfl⟩

theorem u64_of (m : Int) (b1 : -9223372036854775808 ≤ m) (b2 : m ≤ 9223372036854775807) : ∃ u : Int, IntKind.u64.wrap m = u ∧ 0 ≤ u ∧ u ≤ 18446744073709551615 ∧ ((0 ≤ m ∧ u = m) ∨ (m < 0 ∧ u = m + 18446744073709551616)) := by
  refine ⟨_, rfl, ?_⟩
  rw [IntKind.wrap_u64]
  omega

set_option maxRecDepth 100000 in
theorem onesCount_any (m : Nat) (w : World) (hm : m < 1024) :
    Calls Tryd.prog 76 #[.int .u64 m] w fun e w' => e = .returned (.int .i64 (popN m)) ∧ w' = w := by
  go_enter Tryd.func76, Tryd.ntmps76
  go_wp2
  go_ret
  refine ⟨congrArg Ending.returned (congrArg (Value.int IntKind.i64) ?_), rfl⟩
  clear w
  revert hm
  revert m
  decide +kernel

theorem isValid_any (h m : Int) (w : World) (b1 : -9223372036854775808 ≤ m) (b2 : m ≤ 9223372036854775807) :
    Calls Tryd.prog 75 #[.agg #[.int .i64 h, .int .i64 m]] w fun e w' => e = .returned (.bool (okSt h m)) ∧ Below w.heap.size w w' := by
  cases hk : inB h 1 10 with
  | false =>
    rw [show okSt h m = false from by rw [okSt, hk]; rfl]
    have HI := fun W => isHeight_any h W
    rw [hk] at HI
    go_enter Tryd.func75, Tryd.ntmps75
    go_wp2
    go_quiet ((go_at_call 100; exact Calls.quiet_of_same (HI _)))
    go_wp2
    go_ret
    exact ⟨rfl, below_drewN ((Below.refl _ _).alloc (Nat.le_refl _) _) _⟩
  | true =>
    obtain ⟨h1, h2⟩ := inB_iff.1 hk
    obtain ⟨k, rfl⟩ : ∃ k : Nat, h = k := ⟨h.toNat, by omega⟩
    obtain ⟨u, hu, u1, u2, u3⟩ := u64_of m b1 b2
    have HL := fun W => len64_any u W u1 u2
    have hle : Lib.bitLen u.toNat ≤ 64 := Lib.bitLen_le _ _ (by omega) (by omega)
    have hfin : decide (Lib.bitLen u.toNat ≤ k) = okSt k m := by
      rw [bitLen_iff u.toNat k (by omega) (by omega), okSt, hk, Bool.true_and]
      have hp : ((2 ^ k : Nat) : Int) = (2 : Int) ^ k := by simp
      have hp2 := pow_lt_1024 (a := k) (by omega)
      rcases u3 with ⟨g1, hm⟩ | ⟨g1, hm⟩ <;> subst hm
      · by_cases hlt : u.toNat < 2 ^ k
        · rw [decide_eq_true hlt, inB_true (by rw [Int.toNat_natCast]; omega)]
        · rw [decide_eq_false hlt, inB_false (by rw [Int.toNat_natCast]; omega)]
      · rw [decide_eq_false (by omega), inB_false (by omega)]
    rw [← hfin]
    clear hfin u3 hk b1 b2
    generalize Lib.bitLen u.toNat = q at *
    have HI := fun W => isHeight_any (k : Int) W
    rw [inB_true ⟨h1, h2⟩] at HI
    go_enter Tryd.func75, Tryd.ntmps75
    go_wp2
    go_quiet ((first | (go_at_call 100; exact Calls.quiet_of_same (HI _)) | (go_at_call 102; exact Calls.quiet_of_same (HL _))))
    go_wp2
    go_ret
    exact ⟨rfl, below_drewN ((Below.refl _ _).alloc (Nat.le_refl _) _) _⟩

theorem props_any (h : Int) (m : Nat) (w : World) (hm : m < 1024) :
    Calls Tryd.prog 51 #[.agg #[.int .i64 h, .int .i64 m]] w fun e w' => e = .returned (.int .i64 (popN m)) ∧ Below w.heap.size w w' := by
  have HC := fun W => onesCount_any m W hm
  generalize popN m = q at *
  go_enter Tryd.func51, Tryd.ntmps51
  go_wp2_with fail
  refine (HC _).mono ?_
  rintro e w2 ⟨rfl, rfl⟩
  go_wp2
  go_ret
  exact ⟨rfl, (Below.refl _ _).alloc (Nat.le_refl _) _⟩

theorem groundState_impl (n h : Int) (w : World) :
    Calls Tryd.prog 93 #[.int .i64 n, .int .i64 h] w fun e w' => e = .returned (.tuple #[.agg #[.int .i64 (if gndOk n h then h else 0), .int .i64 (if gndOk n h then 2 ^ n.toNat - 1 else 0)], .int .i64 (if gndOk n h then 0 else 2)]) ∧ Below w.heap.size w w' := by
  have HI := fun W => isHeight_any h W
  cases hk : inB h 1 10 with
  | false =>
    rw [show gndOk n h = false from by rw [gndOk, hk]; rfl]
    simp only [Bool.false_eq_true, if_false]
    rw [hk] at HI
    go_enter Tryd.func93, Tryd.ntmps93
    go_wp2_with fail
    refine (HI _).mono ?_
    rintro e w1 ⟨rfl, rfl⟩
    go_wp2
    refine bodyPost_ret (v := .tuple #[.agg #[.int .i64 0, .int .i64 0], .int .i64 2]) (by simp [results, Tryd.results93, go_sem]) rfl ?_
    exact ⟨rfl, (Below.refl _ _).alloc (Nat.le_refl _) _⟩
  | true =>
    obtain ⟨k1, k2⟩ := inB_iff.1 hk
    rw [hk] at HI
    by_cases n1 : 0 ≤ n
    · by_cases n2 : n ≤ h
      · rw [show gndOk n h = true from by rw [gndOk, hk, inB_true ⟨n1, n2⟩]; rfl]
        simp only [if_true]
        have HG := fun W => lowestBits_any n W n1 (by omega)
        generalize (2 : Int) ^ n.toNat - 1 = P at *
        go_enter Tryd.func93, Tryd.ntmps93
        go_wp2_with fail
        refine (HI _).mono ?_
        rintro e w1 ⟨rfl, rfl⟩
        go_wp2_with fail
        refine (HG _).mono ?_
        rintro e w1 ⟨rfl, rfl⟩
        go_wp2
        refine bodyPost_ret (v := .tuple #[.agg #[.int .i64 h, .int .i64 P], .int .i64 0]) (by simp [results, Tryd.results93, go_sem]) rfl ?_
        exact ⟨rfl, (Below.refl _ _).alloc (Nat.le_refl _) _⟩
      · rw [show gndOk n h = false from by rw [gndOk, hk, inB_false (by omega)]; rfl]
        simp only [Bool.false_eq_true, if_false]
        go_enter Tryd.func93, Tryd.ntmps93
        go_wp2_with fail
        refine (HI _).mono ?_
        rintro e w1 ⟨rfl, rfl⟩
        go_wp2
        refine bodyPost_ret (v := .tuple #[.agg #[.int .i64 0, .int .i64 0], .int .i64 2]) (by simp [results, Tryd.results93, go_sem]) rfl ?_
        exact ⟨rfl, (Below.refl _ _).alloc (Nat.le_refl _) _⟩
    · rw [show gndOk n h = false from by rw [gndOk, hk, inB_false (by omega)]; rfl]
      simp only [Bool.false_eq_true, if_false]
      go_enter Tryd.func93, Tryd.ntmps93
      go_wp2_with fail
      refine (HI _).mono ?_
      rintro e w1 ⟨rfl, rfl⟩
      go_wp2
      refine bodyPost_ret (v := .tuple #[.agg #[.int .i64 0, .int .i64 0], .int .i64 2]) (by simp [results, Tryd.results93, go_sem]) rfl ?_
      exact ⟨rfl, (Below.refl _ _).alloc (Nat.le_refl _) _⟩
end Go.Proofs.YtdghbbnddgngoaaDoor
