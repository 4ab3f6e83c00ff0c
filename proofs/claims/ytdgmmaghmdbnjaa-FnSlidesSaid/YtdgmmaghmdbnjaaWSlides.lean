/- The walk of the law FnSlides: it returns true. No conditions. -/
import Derived.Test.YtdgmmaghmdbnjaaSlideP
import Derived.Test.YtdgmmaghmdbnjaaDrawU
import Derived.Test.YtdgmmaghmdbnjaaPairI
import Derived.Test.YtdgmmaghmdbnjaaSynN
import Derived.Test.YtdgmmaghmdbnjaaSynL
import Derived.Test.YtdgmmaghmdbnjaaImpl02b
namespace Go.Proofs.Ytdgmmaghmdbnjaa
open Go.RowKit
set_option linter.unusedSimpArgs false
set_option linter.unusedVariables false

theorem sameS_same (p : List Syn) : sameS p p = true := decide_eq_true rfl
theorem sameL_same (p : List Int) : sameL p p = true := decide_eq_true rfl

set_option maxRecDepth 100000 in
set_option maxHeartbeats 8000000 in
theorem walk_FnSlides (a0 : Option Addr) (len0 cap0 : Nat) (z0 : List Int) (w : World) (r0 : IsRow .u8 w a0 len0 cap0 z0) :
    Calls Try.prog 5 #[.slice a0 len0 cap0] w fun e w' => e = .returned (.bool true) ∧ Below w.heap.size w w' := by
  have hm0 : len0 ≤ 9223372036854775807 := by have := r0.bytes.2.1; unfold maxLen at this; omega
  have HL := fun W => f6big_any a0 len0 cap0 W hm0
  by_cases hb : 4096 < (len0 : Int)
  · rw [decide_eq_true hb] at HL
    go_enter Try.func5, Try.ntmps5
    go_wp2_with fail
    refine (HL _).mono ?_
    rintro e w' ⟨rfl, rfl⟩
    go_wp2
    go_ret
    exact ⟨rfl, Below.refl _ _⟩
  · rw [decide_eq_false hb] at HL
    have hb0 : len0 ≤ 1000000000 := by omega
    clear hb hm0
    have BB := Below.refl w.heap.size w
    go_enter Try.func5, Try.ntmps5
    go_wp2_with fail
    refine (HL _).mono ?_
    rintro e w' ⟨rfl, rfl⟩
    clear HL
    have HC := drawSlideSync_any a0 len0 cap0 z0 _ r0 hb0
    go_wp2_with fail
    refine HC.mono ?_
    rintro e u1 ⟨vp, p, rfl, ip, hp8, bb⟩
    clear HC
    replace r0 := r0.below bb
    replace BB := BB.trans (bb.mono BB.size)
    clear bb
    have HC := slideSync_impl _ _ p _ ip
    go_wp2_with fail
    refine HC.mono ?_
    rintro e u2 ⟨vx, rfl, ix, bb⟩
    clear HC
    replace r0 := r0.below bb
    replace ip := ip.below bb
    replace BB := BB.trans (bb.mono BB.size)
    clear bb
    have HC := slideSync_spec _ _ p _ ip
    go_wp2_with fail
    refine HC.mono ?_
    rintro e u3 ⟨vm, rfl, im, bb⟩
    clear HC
    replace r0 := r0.below bb
    replace ip := ip.below bb
    replace ix := ix.below bb
    replace BB := BB.trans (bb.mono BB.size)
    clear bb
    have HC := drawPairUp_any a0 len0 cap0 z0 _ r0 hb0
    go_wp2_with fail
    refine HC.mono ?_
    rintro e u4 ⟨vq, q, rfl, iq, bb⟩
    clear HC
    replace r0 := r0.below bb
    replace ip := ip.below bb
    replace ix := ix.below bb
    replace im := im.below bb
    replace BB := BB.trans (bb.mono BB.size)
    clear bb
    have HC := pairUp_impl _ _ q _ iq
    go_wp2_with fail
    refine HC.mono ?_
    rintro e u5 ⟨vy, rfl, iy, bb⟩
    clear HC
    replace r0 := r0.below bb
    replace ip := ip.below bb
    replace ix := ix.below bb
    replace im := im.below bb
    replace iq := iq.below bb
    replace BB := BB.trans (bb.mono BB.size)
    clear bb
    have HC := pairUp_spec _ _ q _ iq
    go_wp2_with fail
    refine HC.mono ?_
    rintro e u6 ⟨vs, rfl, iss, bb⟩
    clear HC
    replace r0 := r0.below bb
    replace ip := ip.below bb
    replace ix := ix.below bb
    replace im := im.below bb
    replace iq := iq.below bb
    replace iy := iy.below bb
    replace BB := BB.trans (bb.mono BB.size)
    clear bb
    have HC := syncProps_impl _ _ p _ ip
    go_wp2_with fail
    refine HC.mono ?_
    rintro e u7 ⟨rfl, bb⟩
    clear HC
    replace r0 := r0.below bb
    replace ip := ip.below bb
    replace ix := ix.below bb
    replace im := im.below bb
    replace iq := iq.below bb
    replace iy := iy.below bb
    replace iss := iss.below bb
    replace BB := BB.trans (bb.mono BB.size)
    clear bb
    have HC := syncProps_spec _ _ p _ ip
    go_wp2_with fail
    refine HC.mono ?_
    rintro e u8 ⟨rfl, bb⟩
    clear HC
    replace r0 := r0.below bb
    replace ip := ip.below bb
    replace ix := ix.below bb
    replace im := im.below bb
    replace iq := iq.below bb
    replace iy := iy.below bb
    replace iss := iss.below bb
    replace BB := BB.trans (bb.mono BB.size)
    clear bb
    have HC := crossCount_impl _ _ p _ ip
    go_wp2_with fail
    refine HC.mono ?_
    rintro e u9 ⟨rfl, bb⟩
    clear HC
    replace r0 := r0.below bb
    replace ip := ip.below bb
    replace ix := ix.below bb
    replace im := im.below bb
    replace iq := iq.below bb
    replace iy := iy.below bb
    replace iss := iss.below bb
    replace BB := BB.trans (bb.mono BB.size)
    clear bb
    have HC := crossCount_spec _ _ p _ ip
    go_wp2_with fail
    refine HC.mono ?_
    rintro e u10 ⟨rfl, bb⟩
    clear HC
    replace r0 := r0.below bb
    replace ip := ip.below bb
    replace ix := ix.below bb
    replace im := im.below bb
    replace iq := iq.below bb
    replace iy := iy.below bb
    replace iss := iss.below bb
    replace BB := BB.trans (bb.mono BB.size)
    clear bb
    clear r0
    have HC := f6ints_any _ _ _ _ _ _ _ ix im
    rw [sameL_same] at HC
    go_wp2_with fail
    refine HC.mono ?_
    rintro e u11 ⟨rfl, bb⟩
    clear HC
    replace ip := ip.below bb
    replace ix := ix.below bb
    replace im := im.below bb
    replace iq := iq.below bb
    replace iy := iy.below bb
    replace iss := iss.below bb
    replace BB := BB.trans (bb.mono BB.size)
    clear bb
    have HC := sameSync_spec _ _ _ _ _ _ _ iy iss
    rw [sameS_same] at HC
    go_wp2_with fail
    refine HC.mono ?_
    rintro e u12 ⟨rfl, bb⟩
    clear HC
    replace ip := ip.below bb
    replace ix := ix.below bb
    replace im := im.below bb
    replace iq := iq.below bb
    replace iy := iy.below bb
    replace iss := iss.below bb
    replace BB := BB.trans (bb.mono BB.size)
    clear bb
    clear im iss
    by_cases hst : pairC q = 0
    · obtain ⟨hok, hsl, hq1, hll, hy6⟩ := pair_ok hst
      have h9 : (pairC q == 0) = true := by simp [hst]
      clear hst
      have hcy : okSC (pairR q) = 0 := okSC_true hok
      have hgt := allP_get hq1
      have hsr : slideR (pairR q) = allP q := by rw [slideR, if_pos hok, hsl]
      have HC := slideSync_impl _ _ _ _ iy
      rw [hsr, hcy] at HC
      go_wp2_with fail
      refine HC.mono ?_
      rintro e u13 ⟨vo, rfl, io, bb⟩
      clear HC
      replace ip := ip.below bb
      replace ix := ix.below bb
      replace iq := iq.below bb
      replace iy := iy.below bb
      replace BB := BB.trans (bb.mono BB.size)
      clear bb
      have HC := validSync_impl _ _ _ _ iy
      rw [hok] at HC
      go_wp2_with fail
      refine HC.mono ?_
      rintro e u14 ⟨rfl, bb⟩
      clear HC
      replace ip := ip.below bb
      replace ix := ix.below bb
      replace iq := iq.below bb
      replace iy := iy.below bb
      replace io := io.below bb
      replace BB := BB.trans (bb.mono BB.size)
      clear bb
      have hy1 : 1 ≤ (pairR q).length := okSL_len (okS_list hok) |>.1
      obtain ⟨ay, cy, rfl⟩ := iy.sl
      obtain ⟨go, co, rfl, _, hgo, hco1, _⟩ := io.shape2 (by omega)
      obtain ⟨gq, cq, rfl, _, hgq, hcq1, hcq2⟩ := iq.shape2 hq1
      rw [hll] at hco1 ⊢
      have CO := Lib.hid (fun W (hW : Below u14.heap.size u14 W) i (hi : i < 2 * (pairR q).length) => show W.cell? ⟨go, i, none⟩ = some (.int .i64 ((allP q).getD i 0)) from (hW.cell (p := ⟨go, i, none⟩) hgo).trans (io.cell i (by omega)))
      have CQ := Lib.hid (fun W (hW : Below u14.heap.size u14 W) i (hi : i < q.length) => show W.cell? ⟨gq, i, none⟩ = some (.int .i64 (q.getD i 0)) from (hW.cell (p := ⟨gq, i, none⟩) hgq).trans (iq.cell i hi))
      have HGT := Lib.hid (fun i (hi : i < 2 * (pairR q).length) => hgt i (by omega))
      have PAY := Lib.hid ip
      have PAX := Lib.hid ix
      have hqn : (q.length : Int) ≤ 9223372036854775807 := by omega
      have hq1' : (1 : Int) ≤ (q.length : Int) := by omega
      have hy6' : ((pairR q).length : Int) ≤ 6 := by omega
      clear ip ix iy io iq hgt hsr hcy hok hsl hll hcq1 hcq2 hco1
      generalize (pairR q).length = n at *
      generalize hqq : q.length = m at *
      have hgd1 : (((2 * n : Nat) : Int) != 2 * (n : Int)) = false := by simp
      have hgd2 : (2 * (n : Int) != 2 * (n : Int)) = false := by simp
      have hgd3 : IntKind.i64.wrap (2 * (n : Int)) = 2 * (n : Int) := IntWalk.i64_in _ (by omega)
      go_wp2
      go_loopw [23] (fun i wr => ∃ k : Nat, k ≤ 2 * n ∧ i = .int .i64 (k : Int) ∧ Below u14.heap.size u14 wr) (fun i _ => 2 * n - (intOf i).toNat)
      case atStart => exact ⟨0, Nat.zero_le _, rfl, Below.refl _ _⟩
      case round =>
        obtain ⟨k, hk, rfl, hbr⟩ := hrel
        by_cases hlt : k < 2 * n
        · have hlt' : (k : Int) < 2 * (n : Int) := by omega
          have hkm : k % m < m := Nat.mod_lt _ (by omega)
          have c0 := CO.out wr hbr k hlt
          have c1 := CQ.out wr hbr (k % m) hkm
          rw [HGT.out k hlt] at c0
          have hmd : (k : Int) % (m : Int) = ((k % m : Nat) : Int) := by omega
          obtain ⟨r, hr⟩ : ∃ r, k % m = r := ⟨_, rfl⟩
          rw [hr] at c0 c1 hmd hkm
          have hkm' : (r : Int) < (m : Int) := by omega
          generalize q.getD r 0 = x at *
          clear CO CQ HGT PAY PAX hr
          go_wp2
          go_quiet (fail)
          go_wp2
          go_roundw
          case rel => exact ⟨k + 1, by omega, by go_num, below_drewN hbr _⟩
          case measure => simp [intOf]; omega
        · obtain rfl : k = 2 * n := by omega
          have hlt' : ¬ ((2 * n : Nat) : Int) < 2 * (n : Int) := by omega
          have ip := PAY.out.below hbr
          have ix := PAX.out.below hbr
          replace BB := BB.trans (hbr.mono BB.size)
          clear CO CQ HGT PAY PAX hbr hgd1 hgd2 hgd3
          cases hop : okS p with
          | false =>
            have h8 : (okSC p != 0) = true := by rw [okSC_false hop]; decide
            clear hop
            go_wp2
            go_ret
            exact ⟨rfl, BB⟩
          | true =>
            have h8 : (okSC p != 0) = false := by rw [okSC_true hop]; decide
            have hcp : okSC p = 0 := okSC_true hop
            have hpr : propsA (slideL p) = spropsA p := slide_props hop
            have hoc : okC (slideL p) = 0 := okC_true (slide_ok hop)
            obtain ⟨hpc, hpp⟩ := pair_slide hop
            rw [show slideR p = slideL p from by rw [slideR, if_pos hop]] at ix
            clear hop
            have HC := propsOf_impl _ _ (slideL p) _ ix
            rw [hpr, hoc] at HC
            go_wp2_with fail
            refine HC.mono ?_
            rintro e u15 ⟨rfl, bb⟩
            clear HC
            replace ip := ip.below bb
            replace ix := ix.below bb
            replace BB := BB.trans (bb.mono BB.size)
            clear bb
            have HC := pairUp_impl _ _ (slideL p) _ ix
            rw [hpc, hpp] at HC
            go_wp2_with fail
            refine HC.mono ?_
            rintro e u16 ⟨vk, rfl, ik, bb⟩
            clear HC
            replace ip := ip.below bb
            replace ix := ix.below bb
            replace BB := BB.trans (bb.mono BB.size)
            clear bb
            have HC := sameSync_spec _ _ _ _ _ _ _ ik ip
            rw [sameS_same] at HC
            go_wp2_with fail
            refine HC.mono ?_
            rintro e u17 ⟨rfl, bb⟩
            clear HC
            replace ip := ip.below bb
            replace ix := ix.below bb
            replace ik := ik.below bb
            replace BB := BB.trans (bb.mono BB.size)
            clear bb
            go_wp2
            go_ret
            exact ⟨rfl, BB⟩
    · have h9 : (pairC q == 0) = false := by simp [hst]
      clear hst
      cases hop : okS p with
      | false =>
        have h8 : (okSC p != 0) = true := by rw [okSC_false hop]; decide
        clear hop
        go_wp2
        go_ret
        exact ⟨rfl, BB⟩
      | true =>
        have h8 : (okSC p != 0) = false := by rw [okSC_true hop]; decide
        have hcp : okSC p = 0 := okSC_true hop
        have hpr : propsA (slideL p) = spropsA p := slide_props hop
        have hoc : okC (slideL p) = 0 := okC_true (slide_ok hop)
        obtain ⟨hpc, hpp⟩ := pair_slide hop
        rw [show slideR p = slideL p from by rw [slideR, if_pos hop]] at ix
        clear hop
        have HC := propsOf_impl _ _ (slideL p) _ ix
        rw [hpr, hoc] at HC
        go_wp2_with fail
        refine HC.mono ?_
        rintro e u15 ⟨rfl, bb⟩
        clear HC
        replace ip := ip.below bb
        replace ix := ix.below bb
        replace BB := BB.trans (bb.mono BB.size)
        clear bb
        have HC := pairUp_impl _ _ (slideL p) _ ix
        rw [hpc, hpp] at HC
        go_wp2_with fail
        refine HC.mono ?_
        rintro e u16 ⟨vk, rfl, ik, bb⟩
        clear HC
        replace ip := ip.below bb
        replace ix := ix.below bb
        replace BB := BB.trans (bb.mono BB.size)
        clear bb
        have HC := sameSync_spec _ _ _ _ _ _ _ ik ip
        rw [sameS_same] at HC
        go_wp2_with fail
        refine HC.mono ?_
        rintro e u17 ⟨rfl, bb⟩
        clear HC
        replace ip := ip.below bb
        replace ix := ix.below bb
        replace ik := ik.below bb
        replace BB := BB.trans (bb.mono BB.size)
        clear bb
        go_wp2
        go_ret
        exact ⟨rfl, BB⟩
end Go.Proofs.Ytdgmmaghmdbnjaa
