/- The walk of the law FnTurns: it returns true. No conditions. -/
import Derived.Test.YtdnihapijlchlabImplSix
import Derived.Test.YtdnihapijlchlabDrawD
import Derived.Test.YtdnihapijlchlabAid
import Derived.Test.YtdnihapijlchlabSame
import Derived.Test.YtdnihapijlchlabSpec02b
namespace Go.Proofs.Ytdnihapijlchlab
open Go.RowKit
set_option linter.unusedSimpArgs false
set_option linter.unusedVariables false

set_option maxHeartbeats 4000000 in
theorem walk_FnTurns (a0 : Option Addr) (len0 cap0 : Nat) (z0 : List Int) (a1 : Option Addr) (len1 cap1 : Nat) (z1 : List Int) (w : World) (r0 : IsRow .u8 w a0 len0 cap0 z0) (r1 : IsRow .u8 w a1 len1 cap1 z1) :
    Calls Try.prog 14 #[.slice a0 len0 cap0, .slice a1 len1 cap1] w fun e w' => e = .returned (.bool true) ∧ Below w.heap.size w w' := by
  have hm0 : len0 ≤ 9223372036854775807 := by have := r0.bytes.2.1; unfold maxLen at this; omega
  have hm1 : len1 ≤ 9223372036854775807 := by have := r1.bytes.2.1; unfold maxLen at this; omega
  have HL := a2Long_any a0 a1 len0 cap0 len1 cap1 w hm0 hm1
  cases hL : longL len0 len1 with
  | true =>
    rw [hL] at HL
    go_enter Try.func14, Try.ntmps14
    go_wp2_with fail
    refine HL.mono ?_
    rintro e w' ⟨rfl, rfl⟩
    go_wp2
    go_ret
    exact ⟨rfl, Below.refl _ _⟩
  | false =>
    rw [hL] at HL
    have hb0 : len0 ≤ 3000 := by simp [longL] at hL; omega
    have hb1 : len1 ≤ 3000 := by simp [longL] at hL; omega
    clear hL hm0 hm1
    have BB := Below.refl w.heap.size w
    go_enter Try.func14, Try.ntmps14
    go_wp2_with fail
    refine HL.mono ?_
    rintro e w' ⟨rfl, rfl⟩
    clear HL
    have HC := a2Pattern_any a0 len0 cap0 z0 _ r0 hb0
    go_wp2_with fail
    refine HC.mono ?_
    rintro e u1 ⟨v, p, rfl, ip, hok, bb⟩
    clear HC
    replace r1 := r1.below bb
    replace BB := BB.trans (bb.mono BB.size)
    clear bb
    have HOK := Lib.hid hok
    obtain ⟨l1, l2⟩ := okPat_len hok
    have hl : 1 ≤ (p.length : Int) ∧ (p.length : Int) ≤ 12 := by omega
    clear hok r0
    obtain ⟨g, cap, rfl, _, _, _, _⟩ := ip.shape2 l1
    have HC := a2At_any a1 len1 cap1 z1 0 30 _ r1 hb1 (by omega) (by omega) (by omega)
    go_wp2_with fail
    refine HC.mono ?_
    rintro e _ ⟨x, rfl, hx, rfl⟩
    clear HC
    obtain ⟨hx1, hx2⟩ := hx
    have HRO : Hid (okPat (rotL p x) = true) := rotL_ok HOK.out x
    have HC := rotatePattern_impl _ _ p x _ ip
    rw [beatCode_ok x HOK.out (inB_true (by omega)), resA_ok] at HC
    go_wp2_with fail
    refine HC.mono ?_
    rintro e u3 ⟨ua, rfl, ia, bb⟩
    clear HC
    replace r1 := r1.below bb
    replace ip := ip.below bb
    replace BB := BB.trans (bb.mono BB.size)
    clear bb
    have HC := rotatePattern_impl _ _ (rotL p x) (-x) _ ia
    rw [beatCode_ok (-x) HRO.out (inB_true (by omega)), resA_ok, rotL_back l1] at HC
    go_wp2_with fail
    refine HC.mono ?_
    rintro e u4 ⟨ub, rfl, ib, bb⟩
    clear HC
    replace r1 := r1.below bb
    replace ip := ip.below bb
    replace ia := ia.below bb
    replace BB := BB.trans (bb.mono BB.size)
    clear bb
    have HRV : Hid (okPat (revL p) = true) := revL_ok HOK.out
    have HC := reversePattern_impl _ _ p _ ip
    rw [okC_true HOK.out, resA_ok] at HC
    go_wp2_with fail
    refine HC.mono ?_
    rintro e u5 ⟨uc, rfl, ic, bb⟩
    clear HC
    replace r1 := r1.below bb
    replace ip := ip.below bb
    replace ia := ia.below bb
    replace ib := ib.below bb
    replace BB := BB.trans (bb.mono BB.size)
    clear bb
    have HC := reversePattern_impl _ _ (revL p) _ ic
    rw [okC_true HRV.out, resA_ok, revL_revL HOK.out] at HC
    go_wp2_with fail
    refine HC.mono ?_
    rintro e u6 ⟨ud, rfl, idd, bb⟩
    clear HC
    replace r1 := r1.below bb
    replace ip := ip.below bb
    replace ia := ia.below bb
    replace ib := ib.below bb
    replace ic := ic.below bb
    replace BB := BB.trans (bb.mono BB.size)
    clear bb
    have HC := a2Same_any _ _ _ _ _ _ _ ib ip
    rw [sameL_yes rfl] at HC
    go_wp2_with fail
    refine HC.mono ?_
    rintro e u7 ⟨rfl, bb⟩
    clear HC
    replace r1 := r1.below bb
    replace ip := ip.below bb
    replace ia := ia.below bb
    replace ib := ib.below bb
    replace ic := ic.below bb
    replace idd := idd.below bb
    replace BB := BB.trans (bb.mono BB.size)
    clear bb
    have HC := a2Same_any _ _ _ _ _ _ _ idd ip
    rw [sameL_yes rfl] at HC
    go_wp2_with fail
    refine HC.mono ?_
    rintro e u8 ⟨rfl, bb⟩
    clear HC
    replace r1 := r1.below bb
    replace ip := ip.below bb
    replace ia := ia.below bb
    replace ib := ib.below bb
    replace ic := ic.below bb
    replace idd := idd.below bb
    replace BB := BB.trans (bb.mono BB.size)
    clear bb
    have HC := validPattern_spec _ _ _ _ ic
    rw [HRV.out] at HC
    go_wp2_with fail
    refine HC.mono ?_
    rintro e u9 ⟨rfl, bb⟩
    clear HC
    replace r1 := r1.below bb
    replace ip := ip.below bb
    replace ia := ia.below bb
    replace ib := ib.below bb
    replace ic := ic.below bb
    replace idd := idd.below bb
    replace BB := BB.trans (bb.mono BB.size)
    clear bb
    have HC := a2Sum_any _ _ _ _ ic (okPat_list HRV.out)
    rw [revL_sum HOK.out] at HC
    go_wp2_with fail
    refine HC.mono ?_
    rintro e _ ⟨rfl, rfl⟩
    clear HC
    have HC := a2Sum_any _ _ _ _ ip (okPat_list HOK.out)
    go_wp2_with fail
    refine HC.mono ?_
    rintro e _ ⟨rfl, rfl⟩
    clear HC
    have HC := a2Sum_any _ _ _ _ ia (okPat_list HRO.out)
    rw [rotL_sum l1] at HC
    go_wp2_with fail
    refine HC.mono ?_
    rintro e _ ⟨rfl, rfl⟩
    clear HC
    have HC := a2Sum_any _ _ _ _ ip (okPat_list HOK.out)
    go_wp2_with fail
    refine HC.mono ?_
    rintro e _ ⟨rfl, rfl⟩
    clear HC
    clear ia ib ic idd
    have HC := a2At_any a1 len1 cap1 z1 1 p.length _ r1 hb1 (by omega) (by omega) (by omega)
    go_wp2_with fail
    refine HC.mono ?_
    rintro e _ ⟨i, rfl, hi, rfl⟩
    clear HC
    have HC := a2At_any a1 len1 cap1 z1 2 p.length _ r1 hb1 (by omega) (by omega) (by omega)
    go_wp2_with fail
    refine HC.mono ?_
    rintro e _ ⟨k, rfl, hk, rfl⟩
    clear HC
    obtain ⟨i, rfl⟩ : ∃ j : Nat, i = j := ⟨i.toNat, by omega⟩
    obtain ⟨k, rfl⟩ : ∃ j : Nat, k = j := ⟨k.toNat, by omega⟩
    have hi' : i < p.length := by omega
    have hk' : k < p.length := by omega
    have HSW : Hid (swapC p i k = chkC (swapL p i k)) := by
      have e : (inB (i : Int) 0 ((p.length : Int) - 1) && inB (k : Int) 0 ((p.length : Int) - 1)) = true := by rw [inB_true (by omega), inB_true (by omega)]; rfl
      show swapC p i k = chkC (swapL p i k)
      rw [swapC, e, patC_ok _ HOK.out, Int.toNat_natCast, Int.toNat_natCast]
    clear hi hk r1 hx1 hx2
    cases hsw : okList (swapL p i k) with
    | false =>
      have hik : ((i : Int) != (k : Int)) = true := by
        rw [bne_iff_ne]
        intro e
        obtain rfl : i = k := by omega
        rw [swapL_same p i hi', okPat_list HOK.out] at hsw
        cases hsw
      have HC := swapLandings_impl _ _ p i k _ ip
      rw [HSW.out, chkC_bad hsw] at HC
      go_wp2_with fail
      refine HC.mono ?_
      rintro e u16 ⟨ue, rfl, ie, bb⟩
      clear HC
      replace ip := ip.below bb
      replace BB := BB.trans (bb.mono BB.size)
      clear bb
      clear hsw
      go_wp2
      go_ret
      exact ⟨rfl, BB⟩
    | true =>
      have HSK : Hid (okPat (swapL p i k) = true) := swapL_ok HOK.out i k hi' hk' hsw
      have HC := swapLandings_impl _ _ p i k _ ip
      rw [HSW.out, chkC_ok hsw, resA_ok, Int.toNat_natCast, Int.toNat_natCast] at HC
      go_wp2_with fail
      refine HC.mono ?_
      rintro e u16 ⟨ue, rfl, ie, bb⟩
      clear HC
      replace ip := ip.below bb
      replace BB := BB.trans (bb.mono BB.size)
      clear bb
      clear hsw
      have HSW2 : Hid (swapC (swapL p i k) i k = 0) := by
        have e : (inB (i : Int) 0 (((swapL p i k).length : Int) - 1) && inB (k : Int) 0 (((swapL p i k).length : Int) - 1)) = true := by rw [swapL_len, inB_true (by omega), inB_true (by omega)]; rfl
        show swapC (swapL p i k) i k = 0
        rw [swapC, e, patC_ok _ HSK.out, Int.toNat_natCast, Int.toNat_natCast, swapL_twice p i k hi' hk', chkC_ok (okPat_list HOK.out)]
      have HC := swapLandings_impl _ _ (swapL p i k) i k _ ie
      rw [HSW2.out, resA_ok, Int.toNat_natCast, Int.toNat_natCast, swapL_twice p i k hi' hk'] at HC
      go_wp2_with fail
      refine HC.mono ?_
      rintro e u17 ⟨uf, rfl, jf, bb⟩
      clear HC
      replace ip := ip.below bb
      replace ie := ie.below bb
      replace BB := BB.trans (bb.mono BB.size)
      clear bb
      have HC := validPattern_spec _ _ _ _ ie
      rw [HSK.out] at HC
      go_wp2_with fail
      refine HC.mono ?_
      rintro e u18 ⟨rfl, bb⟩
      clear HC
      replace ip := ip.below bb
      replace ie := ie.below bb
      replace jf := jf.below bb
      replace BB := BB.trans (bb.mono BB.size)
      clear bb
      have HC := a2Sum_any _ _ _ _ ie (okPat_list HSK.out)
      rw [swapL_sum p i k hi' hk'] at HC
      go_wp2_with fail
      refine HC.mono ?_
      rintro e _ ⟨rfl, rfl⟩
      clear HC
      have HC := a2Sum_any _ _ _ _ ip (okPat_list HOK.out)
      go_wp2_with fail
      refine HC.mono ?_
      rintro e _ ⟨rfl, rfl⟩
      clear HC
      have HC := a2Same_any _ _ _ _ _ _ _ jf ip
      rw [sameL_yes rfl] at HC
      go_wp2_with fail
      refine HC.mono ?_
      rintro e u21 ⟨rfl, bb⟩
      clear HC
      replace ip := ip.below bb
      replace ie := ie.below bb
      replace jf := jf.below bb
      replace BB := BB.trans (bb.mono BB.size)
      clear bb
      go_wp2
      go_ret
      exact ⟨rfl, BB⟩
end Go.Proofs.Ytdnihapijlchlab
