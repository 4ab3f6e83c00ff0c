/- The walk of the law FnMirrors: it returns true. No conditions. -/
import Derived.Test.YtgjmhihomklooaaDrawT
namespace Go.Proofs.Ytgjmhihomklooaa
open Go.RowKit
set_option linter.unusedSimpArgs false
set_option linter.unusedVariables false

theorem sameS_refl (p : List Syn) : sameS p p = true := decide_eq_true rfl
theorem elem_syn : Try.prog.elem 44 = 115 := by kernel_rfl
theorem size_syn (W : World) : (sizeOf 115).run Try.prog W = .ok 4 W := by kernel_rfl
theorem low_run (g n c : Nat) (h : n ≤ c) (W : World) : (Instr.slice 44 (.slice (some ⟨g, 0, none⟩) (2 * n) c) none (some (.int .i64 (n : Int))) none).run Try.prog W = .ok (.slice (some ⟨g, 0, none⟩) n c) W := by
  have h1 := run_slice_h (P := Try.prog) (w := W) 44 (some ⟨g, 0, none⟩) (2 * n) c (by rw [elem_syn]; exact Try.underlying44) .i64 (n : Int) (by omega) (by omega)
  rw [h1]
  rw [elem_syn, size_syn]
  simp [Result.andThen, sliced, Addr.add]
theorem high_run (g n c : Nat) (h0 : 1 ≤ n) (h : 2 * n ≤ c) (W : World) : (Instr.slice 44 (.slice (some ⟨g, 0, none⟩) (2 * n) c) (some (.int .i64 (n : Int))) none none).run Try.prog W = .ok (.slice (some ⟨g, n * 4, none⟩) n (c - n)) W := by
  have h1 := run_slice_l (P := Try.prog) (w := W) 44 (some ⟨g, 0, none⟩) (2 * n) c (by rw [elem_syn]; exact Try.underlying44) .i64 (n : Int) (by omega) (by omega)
  rw [h1]
  rw [elem_syn, size_syn]
  have e0 : sliced (some ⟨g, 0, none⟩) n (2 * n) c 4 = .slice (some ⟨g, n * 4, none⟩) n (c - n) := by
    simp only [sliced, if_neg (show ¬ c = n by omega), Option.map_some, Addr.add]
    have h3 : n * 4 ≠ 0 := by omega
    simp [h3]
    omega
  simp [Result.andThen, e0]

set_option maxRecDepth 100000 in
set_option maxHeartbeats 8000000 in
theorem walk_FnMirrors (a0 : Option Addr) (len0 cap0 : Nat) (z0 : List Int) (w : World) (r0 : IsRow .u8 w a0 len0 cap0 z0) :
    Calls Try.prog 5 #[.slice a0 len0 cap0] w fun e w' => e = .returned (.bool true) ∧ Below w.heap.size w w' := by
  have hm0 : len0 ≤ 9223372036854775807 := by have := r0.bytes.2.1; unfold maxLen at this; omega
  have HL := fun W => f6big_any a0 len0 cap0 W hm0
  by_cases hb : 4096 < (len0 : Int)
  · rw [decide_eq_true hb] at HL
    go_enter Try.func5, Try.ntmps5
    go_wp2_with fail
    refine (HL _).mono ?_
    rintro e w' ⟨rfl, rfl⟩
    go_wp2
    go_ret
    exact ⟨rfl, Below.refl _ _⟩
  · rw [decide_eq_false hb] at HL
    have hb0 : len0 ≤ 1000000000 := by omega
    clear hb hm0
    have BB := Below.refl w.heap.size w
    go_enter Try.func5, Try.ntmps5
    go_wp2_with fail
    refine (HL _).mono ?_
    rintro e w' ⟨rfl, rfl⟩
    clear HL
    have HC := drawMirrorSync_any a0 len0 cap0 z0 _ r0 hb0
    go_wp2_with fail
    refine HC.mono ?_
    rintro e u1 ⟨vp, p, rfl, ip, hp8, bb⟩
    clear HC
    replace r0 := r0.below bb
    replace BB := BB.trans (bb.mono BB.size)
    clear bb
    have HC := mirrorSync_impl _ _ p _ ip
    go_wp2_with fail
    refine HC.mono ?_
    rintro e u2 ⟨vx, rfl, ix, bb⟩
    clear HC
    replace r0 := r0.below bb
    replace ip := ip.below bb
    replace BB := BB.trans (bb.mono BB.size)
    clear bb
    have HC := mirrorSync_spec _ _ p _ ip
    go_wp2_with fail
    refine HC.mono ?_
    rintro e u3 ⟨vm, rfl, im, bb⟩
    clear HC
    replace r0 := r0.below bb
    replace ip := ip.below bb
    replace ix := ix.below bb
    replace BB := BB.trans (bb.mono BB.size)
    clear bb
    have HC := drawStarSync_any a0 len0 cap0 z0 _ r0 hb0
    go_wp2_with fail
    refine HC.mono ?_
    rintro e u4 ⟨vq, q, rfl, iq, hq8, bb⟩
    clear HC
    replace r0 := r0.below bb
    replace ip := ip.below bb
    replace ix := ix.below bb
    replace im := im.below bb
    replace BB := BB.trans (bb.mono BB.size)
    clear bb
    obtain ⟨aq, cq, rfl⟩ := iq.sl
    have HC := starSync_impl _ _ q _ iq
    go_wp2_with fail
    refine HC.mono ?_
    rintro e u5 ⟨vy, rfl, iy, bb⟩
    clear HC
    replace r0 := r0.below bb
    replace ip := ip.below bb
    replace ix := ix.below bb
    replace im := im.below bb
    replace iq := iq.below bb
    replace BB := BB.trans (bb.mono BB.size)
    clear bb
    have HC := starSync_spec _ _ q _ iq
    go_wp2_with fail
    refine HC.mono ?_
    rintro e u6 ⟨vs, rfl, iss, bb⟩
    clear HC
    replace r0 := r0.below bb
    replace ip := ip.below bb
    replace ix := ix.below bb
    replace im := im.below bb
    replace iq := iq.below bb
    replace iy := iy.below bb
    replace BB := BB.trans (bb.mono BB.size)
    clear bb
    have HC := drawSyncClash_any a0 len0 cap0 z0 _ r0 hb0
    go_wp2_with fail
    refine HC.mono ?_
    rintro e u7 ⟨vc, c, rfl, ic, hc8, bb⟩
    clear HC
    replace r0 := r0.below bb
    replace ip := ip.below bb
    replace ix := ix.below bb
    replace im := im.below bb
    replace iq := iq.below bb
    replace iy := iy.below bb
    replace iss := iss.below bb
    replace BB := BB.trans (bb.mono BB.size)
    clear bb
    have HC := syncClash_impl _ _ c _ ic
    go_wp2_with fail
    refine HC.mono ?_
    rintro e u8 ⟨rfl, bb⟩
    clear HC
    replace r0 := r0.below bb
    replace ip := ip.below bb
    replace ix := ix.below bb
    replace im := im.below bb
    replace iq := iq.below bb
    replace iy := iy.below bb
    replace iss := iss.below bb
    replace ic := ic.below bb
    replace BB := BB.trans (bb.mono BB.size)
    clear bb
    have HC := syncClash_spec _ _ c _ ic
    go_wp2_with fail
    refine HC.mono ?_
    rintro e u9 ⟨rfl, bb⟩
    clear HC
    replace r0 := r0.below bb
    replace ip := ip.below bb
    replace ix := ix.below bb
    replace im := im.below bb
    replace iq := iq.below bb
    replace iy := iy.below bb
    replace iss := iss.below bb
    replace ic := ic.below bb
    replace BB := BB.trans (bb.mono BB.size)
    clear bb
    have HC := drawSameSync_any a0 len0 cap0 z0 _ r0 hb0
    go_wp2_with fail
    refine HC.mono ?_
    rintro e u10 ⟨va, pa, vb, pb, rfl, ia, ib, bb⟩
    clear HC
    replace r0 := r0.below bb
    replace ip := ip.below bb
    replace ix := ix.below bb
    replace im := im.below bb
    replace iq := iq.below bb
    replace iy := iy.below bb
    replace iss := iss.below bb
    replace ic := ic.below bb
    replace BB := BB.trans (bb.mono BB.size)
    clear bb
    have HSC := scC_ok c
    clear r0
    have HC := sameSync_spec _ _ _ _ _ _ _ ix im
    rw [sameS_refl] at HC
    go_wp2_with fail
    refine HC.mono ?_
    rintro e u11 ⟨rfl, bb⟩
    clear HC
    replace ip := ip.below bb
    replace ix := ix.below bb
    replace im := im.below bb
    replace iq := iq.below bb
    replace iy := iy.below bb
    replace iss := iss.below bb
    replace ic := ic.below bb
    replace ia := ia.below bb
    replace ib := ib.below bb
    replace BB := BB.trans (bb.mono BB.size)
    clear bb
    have HC := sameSync_spec _ _ _ _ _ _ _ iy iss
    rw [sameS_refl] at HC
    go_wp2_with fail
    refine HC.mono ?_
    rintro e u12 ⟨rfl, bb⟩
    clear HC
    replace ip := ip.below bb
    replace ix := ix.below bb
    replace im := im.below bb
    replace iq := iq.below bb
    replace iy := iy.below bb
    replace iss := iss.below bb
    replace ic := ic.below bb
    replace ia := ia.below bb
    replace ib := ib.below bb
    replace BB := BB.trans (bb.mono BB.size)
    clear bb
    have HC := sameSync_impl _ _ _ _ _ _ _ ia ib
    go_wp2_with fail
    refine HC.mono ?_
    rintro e u13 ⟨rfl, bb⟩
    clear HC
    replace ip := ip.below bb
    replace ix := ix.below bb
    replace im := im.below bb
    replace iq := iq.below bb
    replace iy := iy.below bb
    replace iss := iss.below bb
    replace ic := ic.below bb
    replace ia := ia.below bb
    replace ib := ib.below bb
    replace BB := BB.trans (bb.mono BB.size)
    clear bb
    have HC := sameSync_spec _ _ _ _ _ _ _ ia ib
    go_wp2_with fail
    refine HC.mono ?_
    rintro e u14 ⟨rfl, bb⟩
    clear HC
    replace ip := ip.below bb
    replace ix := ix.below bb
    replace im := im.below bb
    replace iq := iq.below bb
    replace iy := iy.below bb
    replace iss := iss.below bb
    replace ic := ic.below bb
    replace ia := ia.below bb
    replace ib := ib.below bb
    replace BB := BB.trans (bb.mono BB.size)
    clear bb
    have HC := validSync_impl _ _ _ _ ic
    go_wp2_with fail
    refine HC.mono ?_
    rintro e u15 ⟨rfl, bb⟩
    clear HC
    replace ip := ip.below bb
    replace ix := ix.below bb
    replace im := im.below bb
    replace iq := iq.below bb
    replace iy := iy.below bb
    replace iss := iss.below bb
    replace ic := ic.below bb
    replace ia := ia.below bb
    replace ib := ib.below bb
    replace BB := BB.trans (bb.mono BB.size)
    clear bb
    clear im iss ia ib ic
    by_cases hst : starC q = 0
    · obtain ⟨es, hok, hq1, hq3⟩ := star_ok hst
      have h9 : (starC q == 0) = true := by simp [hst]
      clear hst
      have hmy : mirR (starR q) = mirS q ++ q := by rw [es, mirR_ok hok, mirS_append, mirS_mirS]
      have hcy : okSC (starR q) = 0 := by rw [es]; exact okSC_true hok
      have HC := mirrorSync_impl _ _ _ _ iy
      rw [hmy, hcy] at HC
      go_wp2_with fail
      refine HC.mono ?_
      rintro e u16 ⟨vo, rfl, io, bb⟩
      clear HC
      replace ip := ip.below bb
      replace ix := ix.below bb
      replace iq := iq.below bb
      replace iy := iy.below bb
      replace BB := BB.trans (bb.mono BB.size)
      clear bb
      rw [es] at iy
      have hly : (q ++ mirS q).length = 2 * q.length := by rw [List.length_append, mirS_len]; omega
      have hlo : (mirS q ++ q).length = 2 * q.length := by rw [List.length_append, mirS_len]; omega
      obtain ⟨gy, cy, rfl, _, hgy, hcy1, _⟩ := iy.shape2 (by omega)
      obtain ⟨go, co, rfl, _, hgo, hco1, _⟩ := io.shape2 (by omega)
      rw [hly] at iy hcy1 ⊢
      rw [hlo] at io hco1 ⊢
      have s1 := fun W => low_run go q.length co (by omega) W
      have s2 := fun W => high_run gy q.length cy (by omega) (by omega) W
      have s3 := fun W => high_run go q.length co (by omega) (by omega) W
      have s4 := fun W => low_run gy q.length cy (by omega) W
      have FY : ∀ i, i < 2 * q.length → Four u16 gy (i * 4) ((q ++ mirS q).getD i s0) := fun i hi => iy.four i (by omega)
      have FO : ∀ i, i < 2 * q.length → Four u16 go (i * 4) ((mirS q ++ q).getD i s0) := fun i hi => io.four i (by omega)
      have g1 : ∀ i, i < q.length → (q ++ mirS q).getD i s0 = q.getD i s0 := fun i hi => by simp [List.getD_eq_getElem?_getD, List.getElem?_append_left hi]
      have g2 : ∀ i, i < q.length → (q ++ mirS q).getD (q.length + i) s0 = (mirS q).getD i s0 := fun i hi => by simp [List.getD_eq_getElem?_getD, List.getElem?_append_right]
      have g3 : ∀ i, i < q.length → (mirS q ++ q).getD i s0 = (mirS q).getD i s0 := fun i hi => by simp [List.getD_eq_getElem?_getD, List.getElem?_append_left (show i < (mirS q).length by rw [mirS_len]; exact hi)]
      have g4 : ∀ i, i < q.length → (mirS q ++ q).getD (q.length + i) s0 = q.getD i s0 := fun i hi => by
        rw [List.getD_eq_getElem?_getD, List.getElem?_append_right (by rw [mirS_len]; omega), mirS_len, show q.length + i - q.length = i by omega, ← List.getD_eq_getElem?_getD]
      have K1 := Lib.hid (fun W (hW : Below u16.heap.size u16 W) => show Calls Try.prog 39 #[.slice (some ⟨go, 0, none⟩) q.length co, .slice (some ⟨gy, q.length * 4, none⟩) q.length (cy - q.length)] W fun e w' => e = .returned (.bool true) ∧ Below u16.heap.size u16 w' from
        (sameSync_off go 0 gy (q.length * 4) co (cy - q.length) q.length (mirS q) (mirS q) W (by omega) (by rw [mirS_len]) (by rw [mirS_len]) (Nat.lt_of_lt_of_le hgo hW.size) (Nat.lt_of_lt_of_le hgy hW.size)
          (fun i hi => by have := (FO i (by omega)).below hW hgo; rw [g3 i hi] at this; rw [Nat.zero_add]; exact this)
          (fun i hi => by have := (FY (q.length + i) (by omega)).below hW hgy; rw [g2 i hi, show (q.length + i) * 4 = q.length * 4 + i * 4 by omega] at this; exact this)).mono fun e w' ⟨h1, h2⟩ => ⟨by rw [h1, sameS_refl], hW.trans (h2.mono hW.size)⟩)
      have K2 := Lib.hid (fun W (hW : Below u16.heap.size u16 W) => show Calls Try.prog 39 #[.slice (some ⟨go, q.length * 4, none⟩) q.length (co - q.length), .slice (some ⟨gy, 0, none⟩) q.length cy] W fun e w' => e = .returned (.bool true) ∧ Below u16.heap.size u16 w' from
        (sameSync_off go (q.length * 4) gy 0 (co - q.length) cy q.length q q W (by omega) rfl rfl (Nat.lt_of_lt_of_le hgo hW.size) (Nat.lt_of_lt_of_le hgy hW.size)
          (fun i hi => by have := (FO (q.length + i) (by omega)).below hW hgo; rw [g4 i hi, show (q.length + i) * 4 = q.length * 4 + i * 4 by omega] at this; exact this)
          (fun i hi => by have := (FY i (by omega)).below hW hgy; rw [g1 i hi] at this; rw [Nat.zero_add]; exact this)).mono fun e w' ⟨h1, h2⟩ => ⟨by rw [h1, sameS_refl], hW.trans (h2.mono hW.size)⟩)
      have PAY := Lib.hid ip
      have PAX := Lib.hid ix
      have hn9 : (q.length : Int) ≤ 3 := by omega
      have hn8 : (1 : Int) ≤ (q.length : Int) := by omega
      clear FY FO g1 g2 g3 g4 iy io iq es hok hmy hcy hly hlo
      generalize q.length = n at *
      have hgd1 : (((2 * n : Nat) : Int) != 2 * (n : Int)) = false := by simp
      have hgd2 : (2 * (n : Int) != 2 * (n : Int)) = false := by simp
      have hgd3 : IntKind.i64.wrap (2 * (n : Int)) = 2 * (n : Int) := IntWalk.i64_in _ (by omega)
      go_wp2
      go_region_held3 (fun W => Below u16.heap.size u16 W) (first | assumption | exact Below.refl _ _ | exact Below.drew (by assumption) | exact Below.drew (Below.refl _ _)) (first | (go_at_call 39; (with_reducible refine (K1.out _ ?_).mono ?_); (first | assumption | exact Below.refl _ _ | exact Below.drew (by assumption) | exact Below.drew (Below.refl _ _)); rintro e wa ⟨rfl, hba⟩) | (go_at_call 39; (with_reducible refine (K2.out _ ?_).mono ?_); (first | assumption | exact Below.drew (by assumption)); rintro e wb ⟨rfl, hbb⟩))
      have ip := PAY.out.below hbb
      have ix := PAX.out.below hbb
      replace BB := BB.trans (hbb.mono BB.size)
      clear K1 K2 PAY PAX hba hbb s1 s2 s3 s4 hgd1 hgd2 hgd3
      cases hop : okS p with
      | false =>
        have h8 : (okSC p != 0) = true := by rw [okSC_false hop]; decide
        clear hop
        go_wp2
        go_ret
        exact ⟨rfl, BB⟩
      | true =>
        have h8 : (okSC p != 0) = false := by rw [okSC_true hop]; decide
        have hcp : okSC p = 0 := okSC_true hop
        have hcm : okSC (mirS p) = 0 := okSC_true (okS_mir hop)
        have hsp : spropsA (mirS p) = spropsA p := spropsA_mir hop
        have hmm : mirR (mirS p) = p := by rw [mirR_ok (okS_mir hop), mirS_mirS]
        rw [mirR_ok hop] at ix
        clear hop
        have HC := syncProps_impl _ _ p _ ip
        rw [hcp] at HC
        go_wp2_with fail
        refine HC.mono ?_
        rintro e u17 ⟨rfl, bb⟩
        clear HC
        replace ip := ip.below bb
        replace ix := ix.below bb
        replace BB := BB.trans (bb.mono BB.size)
        clear bb
        have HC := syncProps_impl _ _ (mirS p) _ ix
        rw [hcm, hsp] at HC
        go_wp2_with fail
        refine HC.mono ?_
        rintro e u18 ⟨rfl, bb⟩
        clear HC
        replace ip := ip.below bb
        replace ix := ix.below bb
        replace BB := BB.trans (bb.mono BB.size)
        clear bb
        have HC := mirrorSync_impl _ _ (mirS p) _ ix
        rw [hcm, hmm] at HC
        go_wp2_with fail
        refine HC.mono ?_
        rintro e u19 ⟨vk, rfl, ik, bb⟩
        clear HC
        replace ip := ip.below bb
        replace ix := ix.below bb
        replace BB := BB.trans (bb.mono BB.size)
        clear bb
        have HC := sameSync_spec _ _ _ _ _ _ _ ik ip
        rw [sameS_refl] at HC
        go_wp2_with fail
        refine HC.mono ?_
        rintro e u20 ⟨rfl, bb⟩
        clear HC
        replace ip := ip.below bb
        replace ix := ix.below bb
        replace ik := ik.below bb
        replace BB := BB.trans (bb.mono BB.size)
        clear bb
        go_wp2
        go_ret
        exact ⟨rfl, BB⟩
    · have h9 : (starC q == 0) = false := by simp [hst]
      clear hst
      cases hop : okS p with
      | false =>
        have h8 : (okSC p != 0) = true := by rw [okSC_false hop]; decide
        clear hop
        go_wp2
        go_ret
        exact ⟨rfl, BB⟩
      | true =>
        have h8 : (okSC p != 0) = false := by rw [okSC_true hop]; decide
        have hcp : okSC p = 0 := okSC_true hop
        have hcm : okSC (mirS p) = 0 := okSC_true (okS_mir hop)
        have hsp : spropsA (mirS p) = spropsA p := spropsA_mir hop
        have hmm : mirR (mirS p) = p := by rw [mirR_ok (okS_mir hop), mirS_mirS]
        rw [mirR_ok hop] at ix
        clear hop
        have HC := syncProps_impl _ _ p _ ip
        rw [hcp] at HC
        go_wp2_with fail
        refine HC.mono ?_
        rintro e u17 ⟨rfl, bb⟩
        clear HC
        replace ip := ip.below bb
        replace ix := ix.below bb
        replace BB := BB.trans (bb.mono BB.size)
        clear bb
        have HC := syncProps_impl _ _ (mirS p) _ ix
        rw [hcm, hsp] at HC
        go_wp2_with fail
        refine HC.mono ?_
        rintro e u18 ⟨rfl, bb⟩
        clear HC
        replace ip := ip.below bb
        replace ix := ix.below bb
        replace BB := BB.trans (bb.mono BB.size)
        clear bb
        have HC := mirrorSync_impl _ _ (mirS p) _ ix
        rw [hcm, hmm] at HC
        go_wp2_with fail
        refine HC.mono ?_
        rintro e u19 ⟨vk, rfl, ik, bb⟩
        clear HC
        replace ip := ip.below bb
        replace ix := ix.below bb
        replace BB := BB.trans (bb.mono BB.size)
        clear bb
        have HC := sameSync_spec _ _ _ _ _ _ _ ik ip
        rw [sameS_refl] at HC
        go_wp2_with fail
        refine HC.mono ?_
        rintro e u20 ⟨rfl, bb⟩
        clear HC
        replace ip := ip.below bb
        replace ix := ix.below bb
        replace ik := ik.below bb
        replace BB := BB.trans (bb.mono BB.size)
        clear bb
        go_wp2
        go_ret
        exact ⟨rfl, BB⟩
end Go.Proofs.Ytgjmhihomklooaa
