/- The walk of the law FnRaised: it returns true. No conditions. -/
import Derived.Test.YtdnihapijlchlabSpecSix
import Derived.Test.YtdnihapijlchlabDrawD
import Derived.Test.YtdnihapijlchlabAid
import Derived.Test.YtdnihapijlchlabSame
namespace Go.Proofs.Ytdnihapijlchlab
open Go.RowKit
set_option linter.unusedSimpArgs false
set_option linter.unusedVariables false

set_option maxRecDepth 100000 in
set_option maxHeartbeats 4000000 in
theorem walk_FnRaised (a0 : Option Addr) (len0 cap0 : Nat) (z0 : List Int) (a1 : Option Addr) (len1 cap1 : Nat) (z1 : List Int) (w : World) (r0 : IsRow .u8 w a0 len0 cap0 z0) (r1 : IsRow .u8 w a1 len1 cap1 z1) :
    Calls Try.prog 13 #[.slice a0 len0 cap0, .slice a1 len1 cap1] w fun e w' => e = .returned (.bool true) ∧ Below w.heap.size w w' := by
  have hm0 : len0 ≤ 9223372036854775807 := by have := r0.bytes.2.1; unfold maxLen at this; omega
  have hm1 : len1 ≤ 9223372036854775807 := by have := r1.bytes.2.1; unfold maxLen at this; omega
  have HL := a2Long_any a0 a1 len0 cap0 len1 cap1 w hm0 hm1
  cases hL : longL len0 len1 with
  | true =>
    rw [hL] at HL
    go_enter Try.func13, Try.ntmps13
    go_wp2_with fail
    refine HL.mono ?_
    rintro e w' ⟨rfl, rfl⟩
    go_wp2
    go_ret
    exact ⟨rfl, Below.refl _ _⟩
  | false =>
    rw [hL] at HL
    have hb0 : len0 ≤ 3000 := by simp [longL] at hL; omega
    have hb1 : len1 ≤ 3000 := by simp [longL] at hL; omega
    clear hL hm0 hm1
    have BB := Below.refl w.heap.size w
    go_enter Try.func13, Try.ntmps13
    go_wp2_with fail
    refine HL.mono ?_
    rintro e w' ⟨rfl, rfl⟩
    clear HL
    have HC := a2Pattern_any a0 len0 cap0 z0 _ r0 hb0
    go_wp2_with fail
    refine HC.mono ?_
    rintro e u1 ⟨v, p, rfl, ip, hok, bb⟩
    clear HC
    replace r1 := r1.below bb
    replace BB := BB.trans (bb.mono BB.size)
    clear bb
    have HOK := Lib.hid hok
    obtain ⟨l1, l2⟩ := okPat_len hok
    have hl : 1 ≤ (p.length : Int) ∧ (p.length : Int) ≤ 12 := by omega
    obtain ⟨P, hP⟩ : ∃ P : Int, p.sum / (p.length : Int) = P := ⟨_, rfl⟩
    have hPb : 0 ≤ P ∧ P ≤ 200 := by
      have hsb := sum_bound (fun i hi => okPat_at hok i hi) p.length (Nat.le_refl _)
      rw [List.take_length] at hsb
      rw [← hP]
      exact ⟨Int.ediv_nonneg hsb.1 (by omega), Int.le_trans (Int.ediv_le_self _ hsb.1) (by omega)⟩
    have HP := Lib.hid hP
    have hHb : 0 ≤ highA p ∧ highA p ≤ 15 := by rw [highA_true hok]; exact hiF_bound _ _ (fun i hi => okPat_at hok i hi)
    have HHE : Hid (highA p = hiF (fun i => p.getD i 0) p.length) := highA_true hok
    obtain ⟨H, hH⟩ : ∃ H, H = highA p := ⟨_, rfl⟩
    rw [← hH] at hHb
    have HH := Lib.hid hH
    obtain ⟨hPb1, hPb2⟩ := hPb
    obtain ⟨hHb1, hHb2⟩ := hHb
    clear hok r0 hP hH
    obtain ⟨g, cap, rfl, _, _, _, _⟩ := ip.shape2 l1
    have HC := propsOf_spec _ _ p _ ip
    rw [propsA_true HOK.out, okC_true HOK.out, HP.out] at HC
    go_wp2_with fail
    refine HC.mono ?_
    rintro e u2 ⟨rfl, bb⟩
    clear HC
    replace r1 := r1.below bb
    replace ip := ip.below bb
    replace BB := BB.trans (bb.mono BB.size)
    clear bb
    have HC := highestOf_spec _ _ p _ ip
    rw [okC_true HOK.out, ← HH.out] at HC
    go_wp2_with fail
    refine HC.mono ?_
    rintro e u3 ⟨rfl, bb⟩
    clear HC
    replace r1 := r1.below bb
    replace ip := ip.below bb
    replace BB := BB.trans (bb.mono BB.size)
    clear bb
    have HC := a2At_any a1 len1 cap1 z1 0 p.length _ r1 hb1 (by omega) (by omega) (by omega)
    go_wp2_with fail
    refine HC.mono ?_
    rintro e _ ⟨i, rfl, hi, rfl⟩
    clear HC
    obtain ⟨i, rfl⟩ : ∃ j : Nat, i = j := ⟨i.toNat, by omega⟩
    have hi' : i < p.length := by omega
    clear hi
    have HIN : Hid (inB (i : Int) 0 ((p.length : Int) - 1) = true) := inB_true (by omega)
    cases hra : okList (raiseL p i) with
    | true =>
      have HRK : Hid (okPat (raiseL p i) = true) := raiseL_ok HOK.out i hi' hra
      have HC := raiseThrow_impl _ _ p i _ ip
      rw [HIN.out, Int.toNat_natCast, patC_ok _ HOK.out, chkC_ok hra, resA_ok] at HC
      go_wp2_with fail
      refine HC.mono ?_
      rintro e u5 ⟨ua, rfl, ia, bb⟩
      clear HC
      replace r1 := r1.below bb
      replace ip := ip.below bb
      replace BB := BB.trans (bb.mono BB.size)
      clear bb
      clear hra
      have HC := propsOf_spec _ _ (raiseL p i) _ ia
      rw [propsA_true HRK.out, okC_true HRK.out, raiseL_props HOK.out i hi', HP.out] at HC
      go_wp2_with fail
      refine HC.mono ?_
      rintro e u6 ⟨rfl, bb⟩
      clear HC
      replace r1 := r1.below bb
      replace ip := ip.below bb
      replace ia := ia.below bb
      replace BB := BB.trans (bb.mono BB.size)
      clear bb
      clear ia
      have HC := a2At_any a1 len1 cap1 z1 1 7 _ r1 hb1 (by omega) (by omega) (by omega)
      go_wp2_with fail
      refine HC.mono ?_
      rintro e _ ⟨y, rfl, hy, rfl⟩
      clear HC
      obtain ⟨s, hs⟩ : ∃ s : Int, y - 3 = s := ⟨_, rfl⟩
      have hs1 : -3 ≤ s := by omega
      have hs2 : s ≤ 3 := by omega
      have HSB : Hid (inB s (-15) 15 = true) := inB_true (by omega)
      clear hy
      cases hsh : okList (shiftL p s) with
      | true =>
        have HSK : Hid (okPat (shiftL p s) = true) := shiftL_ok HOK.out s hsh
        have HC := shiftThrows_impl _ _ p s _ ip
        rw [HSB.out, patC_ok _ HOK.out, chkC_ok hsh, resA_ok] at HC
        go_wp2_with fail
        refine HC.mono ?_
        rintro e u8 ⟨us, rfl, is_, bb⟩
        clear HC
        replace r1 := r1.below bb
        replace ip := ip.below bb
        replace BB := BB.trans (bb.mono BB.size)
        clear bb
        clear hsh
        have HC := propsOf_spec _ _ (shiftL p s) _ is_
        rw [propsA_true HSK.out, okC_true HSK.out, shiftL_props HOK.out s, HP.out] at HC
        go_wp2_with fail
        refine HC.mono ?_
        rintro e u9 ⟨rfl, bb⟩
        clear HC
        replace r1 := r1.below bb
        replace ip := ip.below bb
        replace is_ := is_.below bb
        replace BB := BB.trans (bb.mono BB.size)
        clear bb
        clear is_
        have HC := a2At_any a1 len1 cap1 z1 2 3 _ r1 hb1 (by omega) (by omega) (by omega)
        go_wp2_with fail
        refine HC.mono ?_
        rintro e _ ⟨z, rfl, hz, rfl⟩
        clear HC
        obtain ⟨hz1, hz2⟩ := hz
        by_cases h15 : 15 < H + z
        · have HDI : Hid (inB (H + z) (highA p) 15 = false) := inB_false (by omega)
          have HC := dualPattern_impl _ _ p (H + z) _ ip
          rw [HDI.out, patC_far _ HOK.out] at HC
          go_wp2_with fail
          refine HC.mono ?_
          rintro e u11 ⟨ud, rfl, idd, bb⟩
          clear HC
          replace r1 := r1.below bb
          replace ip := ip.below bb
          replace BB := BB.trans (bb.mono BB.size)
          clear bb
          go_wp2
          go_ret
          exact ⟨rfl, BB⟩
        · have HDI : Hid (inB (H + z) (highA p) 15 = true) := inB_true (by rw [← HH.out]; omega)
          have HDL : Hid (okList (dualL p (H + z)) = true) := dualL_list HOK.out _ (by rw [← HHE.out, ← HH.out]; omega) (by omega)
          have HDK : Hid (okPat (dualL p (H + z)) = true) := dualL_ok HOK.out _ HDL.out
          have HDH : Hid (inB (H + z) (highA (dualL p (H + z))) 15 = true) := inB_true ⟨by rw [highA_true HDK.out]; exact dualL_high HOK.out _ (by rw [← HHE.out, ← HH.out]; omega), by omega⟩
          have HC := dualPattern_impl _ _ p (H + z) _ ip
          rw [HDI.out, patC_ok _ HOK.out, resA_ok] at HC
          go_wp2_with fail
          refine HC.mono ?_
          rintro e u12 ⟨ud, rfl, idd, bb⟩
          clear HC
          replace r1 := r1.below bb
          replace ip := ip.below bb
          replace BB := BB.trans (bb.mono BB.size)
          clear bb
          have HC := dualPattern_impl _ _ (dualL p (H + z)) (H + z) _ idd
          rw [HDH.out, patC_ok _ HDK.out, resA_ok, dualL_dualL] at HC
          go_wp2_with fail
          refine HC.mono ?_
          rintro e u13 ⟨ue, rfl, ie, bb⟩
          clear HC
          replace r1 := r1.below bb
          replace ip := ip.below bb
          replace idd := idd.below bb
          replace BB := BB.trans (bb.mono BB.size)
          clear bb
          have HC := propsOf_spec _ _ (dualL p (H + z)) _ idd
          rw [propsA_true HDK.out, okC_true HDK.out, dualL_props HOK.out (H + z), HP.out] at HC
          go_wp2_with fail
          refine HC.mono ?_
          rintro e u14 ⟨rfl, bb⟩
          clear HC
          replace r1 := r1.below bb
          replace ip := ip.below bb
          replace idd := idd.below bb
          replace ie := ie.below bb
          replace BB := BB.trans (bb.mono BB.size)
          clear bb
          have HC := a2Same_any _ _ _ _ _ _ _ ie ip
          rw [sameL_yes rfl] at HC
          go_wp2_with fail
          refine HC.mono ?_
          rintro e u15 ⟨rfl, bb⟩
          clear HC
          replace r1 := r1.below bb
          replace ip := ip.below bb
          replace idd := idd.below bb
          replace ie := ie.below bb
          replace BB := BB.trans (bb.mono BB.size)
          clear bb
          go_wp2
          go_ret
          exact ⟨by first | rfl | exact ret_bool (by simp), BB⟩
      | false =>
        have HC := shiftThrows_impl _ _ p s _ ip
        rw [HSB.out, patC_ok _ HOK.out, chkC_bad hsh] at HC
        go_wp2_with fail
        refine HC.mono ?_
        rintro e u16 ⟨us, rfl, is_, bb⟩
        clear HC
        replace r1 := r1.below bb
        replace ip := ip.below bb
        replace BB := BB.trans (bb.mono BB.size)
        clear bb
        clear hsh
        clear is_
        have HC := a2At_any a1 len1 cap1 z1 2 3 _ r1 hb1 (by omega) (by omega) (by omega)
        go_wp2_with fail
        refine HC.mono ?_
        rintro e _ ⟨z, rfl, hz, rfl⟩
        clear HC
        obtain ⟨hz1, hz2⟩ := hz
        by_cases h15 : 15 < H + z
        · have HDI : Hid (inB (H + z) (highA p) 15 = false) := inB_false (by omega)
          have HC := dualPattern_impl _ _ p (H + z) _ ip
          rw [HDI.out, patC_far _ HOK.out] at HC
          go_wp2_with fail
          refine HC.mono ?_
          rintro e u18 ⟨ud, rfl, idd, bb⟩
          clear HC
          replace r1 := r1.below bb
          replace ip := ip.below bb
          replace BB := BB.trans (bb.mono BB.size)
          clear bb
          go_wp2
          go_ret
          exact ⟨rfl, BB⟩
        · have HDI : Hid (inB (H + z) (highA p) 15 = true) := inB_true (by rw [← HH.out]; omega)
          have HDL : Hid (okList (dualL p (H + z)) = true) := dualL_list HOK.out _ (by rw [← HHE.out, ← HH.out]; omega) (by omega)
          have HDK : Hid (okPat (dualL p (H + z)) = true) := dualL_ok HOK.out _ HDL.out
          have HDH : Hid (inB (H + z) (highA (dualL p (H + z))) 15 = true) := inB_true ⟨by rw [highA_true HDK.out]; exact dualL_high HOK.out _ (by rw [← HHE.out, ← HH.out]; omega), by omega⟩
          have HC := dualPattern_impl _ _ p (H + z) _ ip
          rw [HDI.out, patC_ok _ HOK.out, resA_ok] at HC
          go_wp2_with fail
          refine HC.mono ?_
          rintro e u19 ⟨ud, rfl, idd, bb⟩
          clear HC
          replace r1 := r1.below bb
          replace ip := ip.below bb
          replace BB := BB.trans (bb.mono BB.size)
          clear bb
          have HC := dualPattern_impl _ _ (dualL p (H + z)) (H + z) _ idd
          rw [HDH.out, patC_ok _ HDK.out, resA_ok, dualL_dualL] at HC
          go_wp2_with fail
          refine HC.mono ?_
          rintro e u20 ⟨ue, rfl, ie, bb⟩
          clear HC
          replace r1 := r1.below bb
          replace ip := ip.below bb
          replace idd := idd.below bb
          replace BB := BB.trans (bb.mono BB.size)
          clear bb
          have HC := propsOf_spec _ _ (dualL p (H + z)) _ idd
          rw [propsA_true HDK.out, okC_true HDK.out, dualL_props HOK.out (H + z), HP.out] at HC
          go_wp2_with fail
          refine HC.mono ?_
          rintro e u21 ⟨rfl, bb⟩
          clear HC
          replace r1 := r1.below bb
          replace ip := ip.below bb
          replace idd := idd.below bb
          replace ie := ie.below bb
          replace BB := BB.trans (bb.mono BB.size)
          clear bb
          have HC := a2Same_any _ _ _ _ _ _ _ ie ip
          rw [sameL_yes rfl] at HC
          go_wp2_with fail
          refine HC.mono ?_
          rintro e u22 ⟨rfl, bb⟩
          clear HC
          replace r1 := r1.below bb
          replace ip := ip.below bb
          replace idd := idd.below bb
          replace ie := ie.below bb
          replace BB := BB.trans (bb.mono BB.size)
          clear bb
          go_wp2
          go_ret
          exact ⟨by first | rfl | exact ret_bool (by simp), BB⟩
    | false =>
      have hgt : ¬ p.getD i 0 + (p.length : Int) ≤ 15 := by
        intro hle
        rw [raiseL_list HOK.out i hi' hle] at hra
        cases hra
      obtain ⟨hv1, hv2⟩ := okPat_at HOK.out i hi'
      have HC := raiseThrow_impl _ _ p i _ ip
      rw [HIN.out, Int.toNat_natCast, patC_ok _ HOK.out, chkC_bad hra] at HC
      go_wp2_with fail
      refine HC.mono ?_
      rintro e u23 ⟨ua, rfl, ia, bb⟩
      clear HC
      replace r1 := r1.below bb
      replace ip := ip.below bb
      replace BB := BB.trans (bb.mono BB.size)
      clear bb
      clear hra
      have ci := ip.cell i hi'
      clear ia
      obtain ⟨V, hV⟩ : ∃ V, V = p.getD i 0 := ⟨_, rfl⟩
      rw [← hV] at hgt hv1 hv2 ci
      clear hV
      have hgt' : 15 < V + (p.length : Int) := by omega
      clear hgt
      have HC := a2At_any a1 len1 cap1 z1 1 7 _ r1 hb1 (by omega) (by omega) (by omega)
      go_wp2_with fail
      refine HC.mono ?_
      rintro e _ ⟨y, rfl, hy, rfl⟩
      clear HC
      obtain ⟨s, hs⟩ : ∃ s : Int, y - 3 = s := ⟨_, rfl⟩
      have hs1 : -3 ≤ s := by omega
      have hs2 : s ≤ 3 := by omega
      have HSB : Hid (inB s (-15) 15 = true) := inB_true (by omega)
      clear hy
      cases hsh : okList (shiftL p s) with
      | true =>
        have HSK : Hid (okPat (shiftL p s) = true) := shiftL_ok HOK.out s hsh
        have HC := shiftThrows_impl _ _ p s _ ip
        rw [HSB.out, patC_ok _ HOK.out, chkC_ok hsh, resA_ok] at HC
        go_wp2_with fail
        refine HC.mono ?_
        rintro e u25 ⟨us, rfl, is_, bb⟩
        clear HC
        replace r1 := r1.below bb
        replace ip := ip.below bb
        replace BB := BB.trans (bb.mono BB.size)
        clear bb
        clear hsh
        have HC := propsOf_spec _ _ (shiftL p s) _ is_
        rw [propsA_true HSK.out, okC_true HSK.out, shiftL_props HOK.out s, HP.out] at HC
        go_wp2_with fail
        refine HC.mono ?_
        rintro e u26 ⟨rfl, bb⟩
        clear HC
        replace r1 := r1.below bb
        replace ip := ip.below bb
        replace is_ := is_.below bb
        replace BB := BB.trans (bb.mono BB.size)
        clear bb
        clear is_
        have HC := a2At_any a1 len1 cap1 z1 2 3 _ r1 hb1 (by omega) (by omega) (by omega)
        go_wp2_with fail
        refine HC.mono ?_
        rintro e _ ⟨z, rfl, hz, rfl⟩
        clear HC
        obtain ⟨hz1, hz2⟩ := hz
        by_cases h15 : 15 < H + z
        · have HDI : Hid (inB (H + z) (highA p) 15 = false) := inB_false (by omega)
          have HC := dualPattern_impl _ _ p (H + z) _ ip
          rw [HDI.out, patC_far _ HOK.out] at HC
          go_wp2_with fail
          refine HC.mono ?_
          rintro e u28 ⟨ud, rfl, idd, bb⟩
          clear HC
          replace r1 := r1.below bb
          replace ip := ip.below bb
          replace BB := BB.trans (bb.mono BB.size)
          clear bb
          go_wp2
          go_ret
          exact ⟨rfl, BB⟩
        · have HDI : Hid (inB (H + z) (highA p) 15 = true) := inB_true (by rw [← HH.out]; omega)
          have HDL : Hid (okList (dualL p (H + z)) = true) := dualL_list HOK.out _ (by rw [← HHE.out, ← HH.out]; omega) (by omega)
          have HDK : Hid (okPat (dualL p (H + z)) = true) := dualL_ok HOK.out _ HDL.out
          have HDH : Hid (inB (H + z) (highA (dualL p (H + z))) 15 = true) := inB_true ⟨by rw [highA_true HDK.out]; exact dualL_high HOK.out _ (by rw [← HHE.out, ← HH.out]; omega), by omega⟩
          have HC := dualPattern_impl _ _ p (H + z) _ ip
          rw [HDI.out, patC_ok _ HOK.out, resA_ok] at HC
          go_wp2_with fail
          refine HC.mono ?_
          rintro e u29 ⟨ud, rfl, idd, bb⟩
          clear HC
          replace r1 := r1.below bb
          replace ip := ip.below bb
          replace BB := BB.trans (bb.mono BB.size)
          clear bb
          have HC := dualPattern_impl _ _ (dualL p (H + z)) (H + z) _ idd
          rw [HDH.out, patC_ok _ HDK.out, resA_ok, dualL_dualL] at HC
          go_wp2_with fail
          refine HC.mono ?_
          rintro e u30 ⟨ue, rfl, ie, bb⟩
          clear HC
          replace r1 := r1.below bb
          replace ip := ip.below bb
          replace idd := idd.below bb
          replace BB := BB.trans (bb.mono BB.size)
          clear bb
          have HC := propsOf_spec _ _ (dualL p (H + z)) _ idd
          rw [propsA_true HDK.out, okC_true HDK.out, dualL_props HOK.out (H + z), HP.out] at HC
          go_wp2_with fail
          refine HC.mono ?_
          rintro e u31 ⟨rfl, bb⟩
          clear HC
          replace r1 := r1.below bb
          replace ip := ip.below bb
          replace idd := idd.below bb
          replace ie := ie.below bb
          replace BB := BB.trans (bb.mono BB.size)
          clear bb
          have HC := a2Same_any _ _ _ _ _ _ _ ie ip
          rw [sameL_yes rfl] at HC
          go_wp2_with fail
          refine HC.mono ?_
          rintro e u32 ⟨rfl, bb⟩
          clear HC
          replace r1 := r1.below bb
          replace ip := ip.below bb
          replace idd := idd.below bb
          replace ie := ie.below bb
          replace BB := BB.trans (bb.mono BB.size)
          clear bb
          go_wp2
          go_ret
          exact ⟨by first | rfl | exact ret_bool (by simp), BB⟩
      | false =>
        have HC := shiftThrows_impl _ _ p s _ ip
        rw [HSB.out, patC_ok _ HOK.out, chkC_bad hsh] at HC
        go_wp2_with fail
        refine HC.mono ?_
        rintro e u33 ⟨us, rfl, is_, bb⟩
        clear HC
        replace r1 := r1.below bb
        replace ip := ip.below bb
        replace BB := BB.trans (bb.mono BB.size)
        clear bb
        clear hsh
        clear is_
        have HC := a2At_any a1 len1 cap1 z1 2 3 _ r1 hb1 (by omega) (by omega) (by omega)
        go_wp2_with fail
        refine HC.mono ?_
        rintro e _ ⟨z, rfl, hz, rfl⟩
        clear HC
        obtain ⟨hz1, hz2⟩ := hz
        by_cases h15 : 15 < H + z
        · have HDI : Hid (inB (H + z) (highA p) 15 = false) := inB_false (by omega)
          have HC := dualPattern_impl _ _ p (H + z) _ ip
          rw [HDI.out, patC_far _ HOK.out] at HC
          go_wp2_with fail
          refine HC.mono ?_
          rintro e u35 ⟨ud, rfl, idd, bb⟩
          clear HC
          replace r1 := r1.below bb
          replace ip := ip.below bb
          replace BB := BB.trans (bb.mono BB.size)
          clear bb
          go_wp2
          go_ret
          exact ⟨rfl, BB⟩
        · have HDI : Hid (inB (H + z) (highA p) 15 = true) := inB_true (by rw [← HH.out]; omega)
          have HDL : Hid (okList (dualL p (H + z)) = true) := dualL_list HOK.out _ (by rw [← HHE.out, ← HH.out]; omega) (by omega)
          have HDK : Hid (okPat (dualL p (H + z)) = true) := dualL_ok HOK.out _ HDL.out
          have HDH : Hid (inB (H + z) (highA (dualL p (H + z))) 15 = true) := inB_true ⟨by rw [highA_true HDK.out]; exact dualL_high HOK.out _ (by rw [← HHE.out, ← HH.out]; omega), by omega⟩
          have HC := dualPattern_impl _ _ p (H + z) _ ip
          rw [HDI.out, patC_ok _ HOK.out, resA_ok] at HC
          go_wp2_with fail
          refine HC.mono ?_
          rintro e u36 ⟨ud, rfl, idd, bb⟩
          clear HC
          replace r1 := r1.below bb
          replace ip := ip.below bb
          replace BB := BB.trans (bb.mono BB.size)
          clear bb
          have HC := dualPattern_impl _ _ (dualL p (H + z)) (H + z) _ idd
          rw [HDH.out, patC_ok _ HDK.out, resA_ok, dualL_dualL] at HC
          go_wp2_with fail
          refine HC.mono ?_
          rintro e u37 ⟨ue, rfl, ie, bb⟩
          clear HC
          replace r1 := r1.below bb
          replace ip := ip.below bb
          replace idd := idd.below bb
          replace BB := BB.trans (bb.mono BB.size)
          clear bb
          have HC := propsOf_spec _ _ (dualL p (H + z)) _ idd
          rw [propsA_true HDK.out, okC_true HDK.out, dualL_props HOK.out (H + z), HP.out] at HC
          go_wp2_with fail
          refine HC.mono ?_
          rintro e u38 ⟨rfl, bb⟩
          clear HC
          replace r1 := r1.below bb
          replace ip := ip.below bb
          replace idd := idd.below bb
          replace ie := ie.below bb
          replace BB := BB.trans (bb.mono BB.size)
          clear bb
          have HC := a2Same_any _ _ _ _ _ _ _ ie ip
          rw [sameL_yes rfl] at HC
          go_wp2_with fail
          refine HC.mono ?_
          rintro e u39 ⟨rfl, bb⟩
          clear HC
          replace r1 := r1.below bb
          replace ip := ip.below bb
          replace idd := idd.below bb
          replace ie := ie.below bb
          replace BB := BB.trans (bb.mono BB.size)
          clear bb
          go_wp2
          go_ret
          exact ⟨by first | rfl | exact ret_bool (by simp), BB⟩
end Go.Proofs.Ytdnihapijlchlab
