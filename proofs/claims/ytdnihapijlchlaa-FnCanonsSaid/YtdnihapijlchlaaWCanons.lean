/- The walk of the law FnCanons: it returns true. No conditions. -/
import Derived.Test.YtdnihapijlchlaaSpecSix
import Derived.Test.YtdnihapijlchlaaDrawD
import Derived.Test.YtdnihapijlchlaaAid
import Derived.Test.YtdnihapijlchlaaSame
import Derived.Test.YtdnihapijlchlaaCanons
namespace Go.Proofs.Ytdnihapijlchlaa
open Go.RowKit
set_option linter.unusedSimpArgs false
set_option linter.unusedVariables false

theorem alike_yes {a b : List Int} (ha : okPat a = true) (hb : okPat b = true) (h : canL a = canL b) : alikeB a b = true := by simp [alikeB, ha, hb, sameL, h]
theorem sym_rev {p : List Int} (h : okPat p = true) : symB (revL p) = symB p := by
  unfold symB
  rw [revL_revL h, revL_ok h, h]
  simp only [Bool.true_and, sameL]
  rw [Bool.eq_iff_iff]
  simp only [decide_eq_true_eq]
  exact eq_comm
set_option maxRecDepth 100000 in
set_option maxHeartbeats 4000000 in
theorem walk_FnCanons (a0 : Option Addr) (len0 cap0 : Nat) (z0 : List Int) (a1 : Option Addr) (len1 cap1 : Nat) (z1 : List Int) (w : World) (r0 : IsRow .u8 w a0 len0 cap0 z0) (r1 : IsRow .u8 w a1 len1 cap1 z1) :
    Calls Try.prog 3 #[.slice a0 len0 cap0, .slice a1 len1 cap1] w fun e w' => e = .returned (.bool true) ∧ Below w.heap.size w w' := by
  have hm0 : len0 ≤ 9223372036854775807 := by have := r0.bytes.2.1; unfold maxLen at this; omega
  have hm1 : len1 ≤ 9223372036854775807 := by have := r1.bytes.2.1; unfold maxLen at this; omega
  have HL := a2Long_any a0 a1 len0 cap0 len1 cap1 w hm0 hm1
  cases hL : longL len0 len1 with
  | true =>
    rw [hL] at HL
    go_enter Try.func3, Try.ntmps3
    go_wp2_with fail
    refine HL.mono ?_
    rintro e w' ⟨rfl, rfl⟩
    go_wp2
    go_ret
    exact ⟨rfl, Below.refl _ _⟩
  | false =>
    rw [hL] at HL
    have hb0 : len0 ≤ 3000 := by simp [longL] at hL; omega
    have hb1 : len1 ≤ 3000 := by simp [longL] at hL; omega
    clear hL hm0 hm1
    have BB := Below.refl w.heap.size w
    go_enter Try.func3, Try.ntmps3
    go_wp2_with fail
    refine HL.mono ?_
    rintro e w' ⟨rfl, rfl⟩
    clear HL
    have HC := a2Pattern_any a0 len0 cap0 z0 _ r0 hb0
    go_wp2_with fail
    refine HC.mono ?_
    rintro e u1 ⟨v, p, rfl, ip, hok, bb⟩
    clear HC
    replace r1 := r1.below bb
    replace BB := BB.trans (bb.mono BB.size)
    clear bb
    have HOK := Lib.hid hok
    obtain ⟨l1, l2⟩ := okPat_len hok
    have hl : 1 ≤ (p.length : Int) ∧ (p.length : Int) ≤ 12 := by omega
    clear hok r0
    obtain ⟨g, cap, rfl, _, _, _, _⟩ := ip.shape2 l1
    have HCO : Hid (okPat (canL p) = true) := canL_ok HOK.out
    have HC := canonicalPattern_impl _ _ p _ ip
    rw [okC_true HOK.out, resA_ok] at HC
    go_wp2_with fail
    refine HC.mono ?_
    rintro e u2 ⟨uc, rfl, ic, bb⟩
    clear HC
    replace r1 := r1.below bb
    replace ip := ip.below bb
    replace BB := BB.trans (bb.mono BB.size)
    clear bb
    have HC := canonicalPattern_impl _ _ (canL p) _ ic
    rw [okC_true HCO.out, resA_ok, canL_canL l1] at HC
    go_wp2_with fail
    refine HC.mono ?_
    rintro e u3 ⟨ua, rfl, ia, bb⟩
    clear HC
    replace r1 := r1.below bb
    replace ip := ip.below bb
    replace ic := ic.below bb
    replace BB := BB.trans (bb.mono BB.size)
    clear bb
    have HC := a2At_any a1 len1 cap1 z1 0 20 _ r1 hb1 (by omega) (by omega) (by omega)
    go_wp2_with fail
    refine HC.mono ?_
    rintro e _ ⟨x, rfl, hx, rfl⟩
    clear HC
    obtain ⟨hx1, hx2⟩ := hx
    have HRO : Hid (okPat (rotL p x) = true) := rotL_ok HOK.out x
    have HC := rotatePattern_spec _ _ p x _ ip
    rw [beatCode_ok x HOK.out (inB_true (by omega)), resA_ok] at HC
    go_wp2_with fail
    refine HC.mono ?_
    rintro e u5 ⟨uq, rfl, iq, bb⟩
    clear HC
    replace r1 := r1.below bb
    replace ip := ip.below bb
    replace ic := ic.below bb
    replace ia := ia.below bb
    replace BB := BB.trans (bb.mono BB.size)
    clear bb
    have HC := canonicalPattern_impl _ _ (rotL p x) _ iq
    rw [okC_true HRO.out, resA_ok, canL_rot l1 x] at HC
    go_wp2_with fail
    refine HC.mono ?_
    rintro e u6 ⟨ud, rfl, idd, bb⟩
    clear HC
    replace r1 := r1.below bb
    replace ip := ip.below bb
    replace ic := ic.below bb
    replace ia := ia.below bb
    replace iq := iq.below bb
    replace BB := BB.trans (bb.mono BB.size)
    clear bb
    have HC := validPattern_spec _ _ _ _ ic
    rw [HCO.out] at HC
    go_wp2_with fail
    refine HC.mono ?_
    rintro e u7 ⟨rfl, bb⟩
    clear HC
    replace r1 := r1.below bb
    replace ip := ip.below bb
    replace ic := ic.below bb
    replace ia := ia.below bb
    replace iq := iq.below bb
    replace idd := idd.below bb
    replace BB := BB.trans (bb.mono BB.size)
    clear bb
    have HC := a2Same_any _ _ _ _ _ _ _ ia ic
    rw [sameL_yes rfl] at HC
    go_wp2_with fail
    refine HC.mono ?_
    rintro e u8 ⟨rfl, bb⟩
    clear HC
    replace r1 := r1.below bb
    replace ip := ip.below bb
    replace ic := ic.below bb
    replace ia := ia.below bb
    replace iq := iq.below bb
    replace idd := idd.below bb
    replace BB := BB.trans (bb.mono BB.size)
    clear bb
    have HC := a2Same_any _ _ _ _ _ _ _ idd ic
    rw [sameL_yes rfl] at HC
    go_wp2_with fail
    refine HC.mono ?_
    rintro e u9 ⟨rfl, bb⟩
    clear HC
    replace r1 := r1.below bb
    replace ip := ip.below bb
    replace ic := ic.below bb
    replace ia := ia.below bb
    replace iq := iq.below bb
    replace idd := idd.below bb
    replace BB := BB.trans (bb.mono BB.size)
    clear bb
    have HC := alikePatterns_impl _ _ _ _ _ _ _ ip iq
    rw [alike_yes HOK.out HRO.out (canL_rot l1 x).symm] at HC
    go_wp2_with fail
    refine HC.mono ?_
    rintro e u10 ⟨rfl, bb⟩
    clear HC
    replace r1 := r1.below bb
    replace ip := ip.below bb
    replace ic := ic.below bb
    replace ia := ia.below bb
    replace iq := iq.below bb
    replace idd := idd.below bb
    replace BB := BB.trans (bb.mono BB.size)
    clear bb
    have HC := alikePatterns_impl _ _ _ _ _ _ _ ip ic
    rw [alike_yes HOK.out HCO.out (canL_canL l1).symm] at HC
    go_wp2_with fail
    refine HC.mono ?_
    rintro e u11 ⟨rfl, bb⟩
    clear HC
    replace r1 := r1.below bb
    replace ip := ip.below bb
    replace ic := ic.below bb
    replace ia := ia.below bb
    replace iq := iq.below bb
    replace idd := idd.below bb
    replace BB := BB.trans (bb.mono BB.size)
    clear bb
    clear ia ic iq idd
    have HC := a2At_any a1 len1 cap1 z1 1 4 _ r1 hb1 (by omega) (by omega) (by omega)
    go_wp2_with fail
    refine HC.mono ?_
    rintro e _ ⟨y, rfl, hy, rfl⟩
    clear HC
    clear r1 hx1 hx2 HRO HCO
    obtain ⟨m, hm⟩ : ∃ m : Nat, 1 + y = (m : Int) := ⟨(1 + y).toNat, by omega⟩
    have hm1 : 1 ≤ m := by omega
    have hm4 : m ≤ 4 := by omega
    have hP1 : 0 ≤ (m : Int) * (p.length : Int) := Int.mul_nonneg (by omega) (by omega)
    have hP2 : (m : Int) * (p.length : Int) ≤ 48 := by
      have h1 : m * p.length ≤ 4 * 12 := Nat.mul_le_mul hm4 l2
      have h2 : ((m * p.length : Nat) : Int) ≤ 48 := by omega
      rwa [Int.natCast_mul] at h2
    clear hy
    cases hin : inB (m : Int) 1 (12 / (p.length : Int)) with
    | false =>
      have hgt : 12 < (m : Int) * (p.length : Int) := by
        refine Classical.byContradiction fun hn => ?_
        have h1 : (m : Int) ≤ 12 / (p.length : Int) := Int.le_ediv_of_mul_le (by omega) (by omega)
        rw [inB_true ⟨by omega, h1⟩] at hin
        cases hin
      have HC := repeatPattern_impl _ _ p m _ ip
      rw [hin, patC_far _ HOK.out] at HC
      go_wp2_with fail
      refine HC.mono ?_
      rintro e u13 ⟨ur, rfl, ir, bb⟩
      clear HC
      replace ip := ip.below bb
      replace BB := BB.trans (bb.mono BB.size)
      clear bb
      clear hin
      go_wp2
      go_ret
      exact ⟨rfl, BB⟩
    | true =>
      have hm12 : m * p.length ≤ 12 := by
        have hb2 := (inB_iff.1 hin).2
        have h1 : (m : Int) * (p.length : Int) ≤ 12 := Int.le_trans (Int.mul_le_mul_of_nonneg_right hb2 (by omega)) (Int.ediv_mul_le _ (by omega))
        have h2 : ((m * p.length : Nat) : Int) ≤ 12 := by rw [Int.natCast_mul]; exact h1
        omega
      have HRP : Hid (okPat (repL p m) = true) := repL_ok HOK.out hm1 hm12
      have HRL : Hid (rootL (repL p m) = rootL p) := rootL_rep l1 hm1
      have HCL : Hid (canL (repL p m) = canL p) := canL_rep l1 hm1
      have HLN : Hid ((((repL p m).length : Nat) : Int) = (m : Int) * (p.length : Int)) := by
        show (((repL p m).length : Nat) : Int) = (m : Int) * (p.length : Int)
        rw [repL_len, Int.natCast_mul]
      have HC := repeatPattern_impl _ _ p m _ ip
      rw [hin, patC_ok _ HOK.out, resA_ok, Int.toNat_natCast] at HC
      go_wp2_with fail
      refine HC.mono ?_
      rintro e u13 ⟨ur, rfl, ir, bb⟩
      clear HC
      replace ip := ip.below bb
      replace BB := BB.trans (bb.mono BB.size)
      clear bb
      clear hin hm12
      have hr1 : 1 ≤ (repL p m).length := by have := okPat_len HRP.out; omega
      obtain ⟨gr, cr, rfl, _, _, _, _⟩ := ir.shape2 hr1
      have hLN := HLN.out
      generalize repL p m = rp at *
      have hEQ : (((rp.length : Nat) : Int) == (m : Int) * (p.length : Int)) = true := by rw [hLN]; simp
      have hn48 : rp.length ≤ 48 := by omega
      clear hLN
      have HC := rootPattern_impl _ _ rp _ ir
      rw [okC_true HRP.out, resA_ok, HRL.out] at HC
      go_wp2_with fail
      refine HC.mono ?_
      rintro e u14 ⟨uo, rfl, io, bb⟩
      clear HC
      replace ip := ip.below bb
      replace ir := ir.below bb
      replace BB := BB.trans (bb.mono BB.size)
      clear bb
      have HC := rootPattern_impl _ _ p _ ip
      rw [okC_true HOK.out, resA_ok] at HC
      go_wp2_with fail
      refine HC.mono ?_
      rintro e u15 ⟨uw, rfl, iw, bb⟩
      clear HC
      replace ip := ip.below bb
      replace ir := ir.below bb
      replace io := io.below bb
      replace BB := BB.trans (bb.mono BB.size)
      clear bb
      have HC := reversePattern_spec _ _ p _ ip
      rw [okC_true HOK.out, resA_ok] at HC
      go_wp2_with fail
      refine HC.mono ?_
      rintro e u16 ⟨ub, rfl, ib, bb⟩
      clear HC
      replace ip := ip.below bb
      replace ir := ir.below bb
      replace io := io.below bb
      replace iw := iw.below bb
      replace BB := BB.trans (bb.mono BB.size)
      clear bb
      have HC := a2Same_any _ _ _ _ _ _ _ io iw
      rw [sameL_yes rfl] at HC
      go_wp2_with fail
      refine HC.mono ?_
      rintro e u17 ⟨rfl, bb⟩
      clear HC
      replace ip := ip.below bb
      replace ir := ir.below bb
      replace io := io.below bb
      replace iw := iw.below bb
      replace ib := ib.below bb
      replace BB := BB.trans (bb.mono BB.size)
      clear bb
      have HC := alikePatterns_impl _ _ _ _ _ _ _ ir ip
      rw [alike_yes HRP.out HOK.out HCL.out] at HC
      go_wp2_with fail
      refine HC.mono ?_
      rintro e u18 ⟨rfl, bb⟩
      clear HC
      replace ip := ip.below bb
      replace ir := ir.below bb
      replace io := io.below bb
      replace iw := iw.below bb
      replace ib := ib.below bb
      replace BB := BB.trans (bb.mono BB.size)
      clear bb
      have HC := isSymmetric_impl _ _ _ _ ip
      go_wp2_with fail
      refine HC.mono ?_
      rintro e u19 ⟨rfl, bb⟩
      clear HC
      replace ip := ip.below bb
      replace ir := ir.below bb
      replace io := io.below bb
      replace iw := iw.below bb
      replace ib := ib.below bb
      replace BB := BB.trans (bb.mono BB.size)
      clear bb
      have HC := isSymmetric_impl _ _ _ _ ib
      rw [sym_rev HOK.out] at HC
      go_wp2_with fail
      refine HC.mono ?_
      rintro e u20 ⟨rfl, bb⟩
      clear HC
      replace ip := ip.below bb
      replace ir := ir.below bb
      replace io := io.below bb
      replace iw := iw.below bb
      replace ib := ib.below bb
      replace BB := BB.trans (bb.mono BB.size)
      clear bb
      go_wp2
      go_ret
      exact ⟨ret_bool (by simp), BB⟩
end Go.Proofs.Ytdnihapijlchlaa
