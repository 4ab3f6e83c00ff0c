/- The walk of the law FnHands: it returns true. No conditions. -/
import Derived.Test.YtlpeigeadjojnaaHdD
import Derived.Test.YtlpeigeadjojnaaHdY
import Derived.Test.YtlpeigeadjojnaaHdX
import Derived.Test.YtlpeigeadjojnaaHdO
import Derived.Test.YtlpeigeadjojnaaHdL
namespace Go.Proofs.Ytlpeigeadjojnaa
open Go.RowKit
set_option linter.unusedSimpArgs false
set_option linter.unusedVariables false

theorem thK_sorted (p o : List Int) : ∀ (k j : Nat), j + 1 < (thK p o k).length → ((thK p o k).getD j ht0).1 < ((thK p o k).getD (j + 1) ht0).1
  | 0, j, h => by simp [thK] at h
  | k + 1, j, h => by
    by_cases h0 : atL p (k : Int) = 0
    · rw [thK_zero h0] at h ⊢
      exact thK_sorted p o k j h
    · rw [thK_more h0] at h ⊢
      rw [List.length_append, List.length_singleton] at h
      by_cases e : j + 1 < (thK p o k).length
      · have := thK_sorted p o k j e
        rw [show (thK p o k ++ [hthAt p o k]).getD j ht0 = (thK p o k).getD j ht0 by simp [List.getElem?_append_left (show j < (thK p o k).length by omega)], show (thK p o k ++ [hthAt p o k]).getD (j + 1) ht0 = (thK p o k).getD (j + 1) ht0 by simp [List.getElem?_append_left e]]
        exact this
      · have hl : (thK p o k).length = j + 1 := by omega
        rw [show (thK p o k ++ [hthAt p o k]).getD j ht0 = (thK p o k).getD j ht0 by simp [List.getElem?_append_left (show j < (thK p o k).length by omega)], show (thK p o k ++ [hthAt p o k]).getD (j + 1) ht0 = hthAt p o k by rw [← hl]; simp]
        have hm : (thK p o k).getD j ht0 ∈ thK p o k := by
          rw [List.getD_eq_getElem?_getD, List.getElem?_eq_getElem (by omega)]
          exact List.getElem_mem _
        obtain ⟨b, hb, _, e2⟩ := thK_mem hm
        rw [e2]
        show (b : Int) < (k : Int)
        omega
/-- what a throw of the list is -/
theorem thH_is {p o : List Int} (k : Nat) (hk : k < (thH p o).length) : ∃ b : Nat, b < cpN p o ∧ (thH p o).getD k ht0 = hthAt p o b := by
  have hm : (thH p o).getD k ht0 ∈ thH p o := by
    rw [List.getD_eq_getElem?_getD, List.getElem?_eq_getElem hk]
    exact List.getElem_mem _
  obtain ⟨b, hb, _, e⟩ := thK_mem hm
  exact ⟨b, hb, e⟩

set_option maxRecDepth 100000 in
set_option maxHeartbeats 4000000 in
theorem walk_FnHands (a0 : Option Addr) (len0 cap0 : Nat) (z0 : List Int) (w : World) (r0 : IsRow .u8 w a0 len0 cap0 z0) :
    Calls Try.prog 3 #[.slice a0 len0 cap0] w fun e w' => e = .returned (.bool true) ∧ Below w.heap.size w w' := by
  have hm0 : len0 ≤ 9223372036854775807 := by have := r0.bytes.2.1; unfold maxLen at this; omega
  have HF := f6bigH_any a0 len0 cap0 w hm0
  by_cases hbig : 4096 < (len0 : Int)
  · rw [decide_eq_true hbig] at HF
    clear r0
    go_enter Try.func3, Try.ntmps3
    go_wp2_with fail
    refine HF.mono ?_
    rintro e w' ⟨rfl, rfl⟩
    go_wp2
    go_ret
    exact ⟨rfl, Below.refl _ _⟩
  · rw [decide_eq_false hbig] at HF
    have hl0 : len0 ≤ 1000000000 := by omega
    clear hbig hm0
    have BB := Below.refl w.heap.size w
    go_enter Try.func3, Try.ntmps3
    go_wp2_with fail
    refine HF.mono ?_
    rintro e w' ⟨rfl, rfl⟩
    clear HF
    go_wp2_with fail
    refine (drawHandThrows_any a0 len0 cap0 z0 _ r0 hl0).mono ?_
    rintro e w1 ⟨v, p, u, o, rfl, ip, io, bb⟩
    replace r0 := r0.below bb
    replace BB := BB.trans (bb.mono BB.size)
    clear bb
    go_wp2_with fail
    refine (handThrows_impl _ _ _ _ p o _ ip io).mono ?_
    rintro e w2 ⟨x1, rfl, j1, bb⟩
    replace r0 := r0.below bb
    replace ip := ip.below bb
    replace io := io.below bb
    replace BB := BB.trans (bb.mono BB.size)
    clear bb
    go_wp2_with fail
    refine (handThrows_spec _ _ _ _ p o _ ip io).mono ?_
    rintro e w3 ⟨x2, rfl, j2, bb⟩
    replace r0 := r0.below bb
    replace ip := ip.below bb
    replace io := io.below bb
    replace j1 := j1.below bb
    replace BB := BB.trans (bb.mono BB.size)
    clear bb
    go_wp2_with fail
    refine (commonPeriod_impl _ _ _ _ p o _ ip io).mono ?_
    rintro e w4 ⟨rfl, bb⟩
    replace r0 := r0.below bb
    replace ip := ip.below bb
    replace io := io.below bb
    replace j1 := j1.below bb
    replace j2 := j2.below bb
    replace BB := BB.trans (bb.mono BB.size)
    clear bb
    go_wp2_with fail
    refine (commonPeriod_spec _ _ _ _ p o _ ip io).mono ?_
    rintro e w5 ⟨rfl, bb⟩
    replace r0 := r0.below bb
    replace ip := ip.below bb
    replace io := io.below bb
    replace j1 := j1.below bb
    replace j2 := j2.below bb
    replace BB := BB.trans (bb.mono BB.size)
    clear bb
    go_wp2_with fail
    refine (crossingsOf_impl _ _ _ _ p o _ ip io).mono ?_
    rintro e w6 ⟨rfl, bb⟩
    replace r0 := r0.below bb
    replace ip := ip.below bb
    replace io := io.below bb
    replace j1 := j1.below bb
    replace j2 := j2.below bb
    replace BB := BB.trans (bb.mono BB.size)
    clear bb
    go_wp2_with fail
    refine (crossingsOf_spec _ _ _ _ p o _ ip io).mono ?_
    rintro e w7 ⟨rfl, bb⟩
    replace r0 := r0.below bb
    replace ip := ip.below bb
    replace io := io.below bb
    replace j1 := j1.below bb
    replace j2 := j2.below bb
    replace BB := BB.trans (bb.mono BB.size)
    clear bb
    go_wp2_with fail
    refine (drawHandAt_any a0 len0 cap0 z0 _ r0 hl0).mono ?_
    rintro e w8 ⟨v2, o2, beat, rfl, io2, bb⟩
    replace ip := ip.below bb
    replace io := io.below bb
    replace j1 := j1.below bb
    replace j2 := j2.below bb
    replace BB := BB.trans (bb.mono BB.size)
    clear bb r0
    go_wp2_with fail
    refine (handAt_impl _ _ o2 beat _ io2).mono ?_
    rintro e w9 ⟨rfl, bb⟩
    replace ip := ip.below bb
    replace io := io.below bb
    replace j1 := j1.below bb
    replace j2 := j2.below bb
    replace io2 := io2.below bb
    replace BB := BB.trans (bb.mono BB.size)
    clear bb
    go_wp2_with fail
    refine (handAt_spec _ _ o2 beat _ io2).mono ?_
    rintro e w10 ⟨rfl, bb⟩
    replace ip := ip.below bb
    replace io := io.below bb
    replace j1 := j1.below bb
    replace j2 := j2.below bb
    replace BB := BB.trans (bb.mono BB.size)
    clear bb io2
    obtain ⟨xa1, xc1, rfl, hx1⟩ := hth_sl j1
    obtain ⟨xa2, xc2, rfl, hx2⟩ := hth_sl j2
    have n1 : (poC p o != poC p o) = false := by simp
    have n2 : ((thA p o).length != (thA p o).length) = false := by simp
    have n2' : (((thA p o).length : Int) != ((thA p o).length : Int)) = false := by simp
    have n3 : (cpA p o != cpA p o) = false := by simp
    have n4 : (crsA p o != crsA p o) = false := by simp
    have n5 : (haC o2 beat != haC o2 beat) = false := by simp
    have n6 : (haA o2 beat != haA o2 beat) = false := by simp
    have n7 : (ambA p o != ambA p o) = false := by simp
    have HAI := isAmbidextrous_impl _ _ _ _ p o _ ip io
    go_wp2_with fail
    refine HAI.mono ?_
    rintro e w11 ⟨rfl, bb⟩
    have ip1 := ip.below bb
    have io1 := io.below bb
    have BB1 := BB.trans (bb.mono BB.size)
    have HAS := isAmbidextrous_spec _ _ _ _ p o _ ip1 io1
    have bb1 := bb
    clear HAI
    go_wp2_with fail
    refine HAS.mono ?_
    rintro e w12 ⟨rfl, bb⟩
    have ip2 := ip1.below bb
    have io2 := io1.below bb
    have BB2 := BB1.trans (bb.mono BB1.size)
    have b12 := bb1.trans (bb.mono bb1.size)
    have HX1 := Lib.hid (fun k (hk : k < (thA p o).length) => show ∃ g, xa1 = some ⟨g, 0, none⟩ ∧ g < w12.heap.size ∧ FourH w12 g (k * 4) ((thA p o).getD k ht0) from by
      obtain ⟨g, e, hg, _, hf⟩ := hx1 k hk
      exact ⟨g, e, by have := b12.size; omega, hf.below b12 hg⟩)
    have HX2 := Lib.hid (fun k (hk : k < (thA p o).length) => show ∃ g, xa2 = some ⟨g, 0, none⟩ ∧ g < w12.heap.size ∧ FourH w12 g (k * 4) ((thA p o).getD k ht0) from by
      obtain ⟨g, e, hg, _, hf⟩ := hx2 k hk
      exact ⟨g, e, by have := b12.size; omega, hf.below b12 hg⟩)
    clear HAS ip1 io1 BB1 bb1 bb j1 j2 hx1 hx2 ip io b12 BB n1 n2 n2' n3 n4 n5 n6 n7
    cases hq : okPO p o with
    | false =>
      rw [poC_false hq]
      clear HX1 HX2 ip2 io2
      go_wp2
      go_ret
      exact ⟨rfl, BB2⟩
    | true =>
      obtain ⟨hp, ho⟩ := okPO_parts hq
      obtain ⟨lp1, lp2⟩ := okPat_len hp
      obtain ⟨lo1, lo2⟩ := okH_len ho
      obtain ⟨cp1, cp2⟩ := cpN_bound hq
      have hlen := thH_len hq
      rw [poC_true hq, cpA_true hq, crsA_true hq]
      rw [thA_true hq] at HX1 HX2 ⊢
      obtain ⟨va, vc, rfl⟩ := ints_slH ip2
      have IO := Lib.hid (fun W (hW : Below w12.heap.size w12 W) => io2.below hW)
      obtain ⟨ua, uc, rfl⟩ := ints_slH io2
      have m1 : ((cpN p o : Nat) : Int) % (p.length : Int) = 0 := Int.emod_eq_zero_of_dvd (Int.natCast_dvd_natCast.2 (Nat.dvd_lcm_left _ _))
      have m2 : ((cpN p o : Nat) : Int) % (o.length : Int) = 0 := Int.emod_eq_zero_of_dvd (Int.natCast_dvd_natCast.2 (Nat.dvd_lcm_right _ _))
      have HAI := Lib.hid (fun (b : Int) W (hW : Below w12.heap.size w12 W) (h0 : 0 ≤ b) (h2 : b ≤ 1000) => show Calls Try.prog 14 #[.slice ua o.length uc, .int .i64 b] W fun e w' => e = .returned (.tuple #[.int .i64 (atL o b), .int .i64 0]) ∧ Below W.heap.size W w' from by
        have hin : inB b (-1000000) 1000000 = true := inB_true (by omega)
        have := handAt_impl _ _ o b W (IO.out W hW)
        rwa [haA_ok ho hin, haC_ok ho hin] at this)
      have HIS := Lib.hid (fun k (hk : k < (thH p o).length) => show ∃ b : Nat, b ≤ 144 ∧ (thH p o).getD k ht0 = ((b : Int), atL p (b : Int), atL o (b : Int), atL o ((b : Int) + atL p (b : Int))) ∧ 0 ≤ atL p (b : Int) ∧ atL p (b : Int) ≤ 15 from by
        obtain ⟨b, hb, e⟩ := thH_is k hk
        have := atP_rng hp (b : Int)
        exact ⟨b, by omega, e, this.1, this.2⟩)
      have HSO := Lib.hid (fun j (hj : j + 1 < (thH p o).length) => thK_sorted p o (cpN p o) j hj)
      have HTK := Lib.hid (fun k (hk : k < (thH p o).length) => hth_take (thH p o) k hk)
      have HCL := Lib.hid (fun k => show crsL ((thH p o).take k) ≤ 144 from by have h1 := crsL_le ((thH p o).take k); have := List.length_take_le' k (thH p o); omega)
      have HTA : Hid ((thH p o).take (thH p o).length = thH p o) := Lib.hid (List.take_length)
      rw [show thK p o (cpN p o) = thH p o from rfl] at HSO
      clear ip2 io2 IO hp ho hq
      generalize hL : thH p o = L at *
      generalize hn : L.length = n at *
      generalize hcp : cpN p o = cp at *
      generalize hpl : p.length = pl at *
      generalize hol : o.length = ol at *
      clear hL hn hcp hpl hol
      have m1' : (((cp : Int) % (pl : Int)) != 0) = false := by rw [m1]; rfl
      have m2' : (((cp : Int) % (ol : Int)) != 0) = false := by rw [m2]; rfl
      go_wp2
      go_loopw [23, 24, 25, 26, 27, 28, 29] (fun t i _ _ _ _ _ wr => ∃ k : Nat, k ≤ n ∧ i = .int .i64 k ∧ t = .int .i64 (crsL (L.take k) : Nat) ∧ Below w12.heap.size w12 wr) (fun _ i _ _ _ _ _ _ => n - (intOf i).toNat)
      case atStart => exact ⟨0, Nat.zero_le _, rfl, rfl, Below.refl _ _⟩
      case round =>
        obtain ⟨k, hk, rfl, rfl, hb⟩ := hrel
        clear m1 m2 m1' m2'
        by_cases hlt : k < n
        · obtain ⟨g1, rfl, hg1, hf1⟩ := HX1.out k hlt
          obtain ⟨g2, rfl, hg2, hf2⟩ := HX2.out k hlt
          obtain ⟨b, hb144, hy, ht0', ht15⟩ := HIS.out k hlt
          have htk := HTK.out k hlt
          have hcl := HCL.out k
          have hprev : k = 0 ∨ ∃ k', k = k' + 1 ∧ FourH w12 g1 (k' * 4) (L.getD k' ht0) ∧ (L.getD k' ht0).1 < (b : Int) := by
            by_cases e : k = 0
            · exact .inl e
            · refine .inr ⟨k - 1, by omega, ?_, ?_⟩
              · obtain ⟨g, e2, _, hf⟩ := HX1.out (k - 1) (by omega)
                cases e2
                exact hf
              · have := HSO.out (k - 1) (by omega)
                rw [show k - 1 + 1 = k by omega, hy] at this
                exact this
          rw [hy] at hf1 hf2 htk
          have H1 := Lib.hid (fun W (hW : Below w12.heap.size w12 W) => HAI.out (b : Int) W hW (by omega) (by omega))
          have H2 := Lib.hid (fun W (hW : Below w12.heap.size w12 W) => HAI.out ((b : Int) + atL p (b : Int)) W hW (by omega) (by omega))
          have hcrs : (atL o (b : Int) = atL o ((b : Int) + atL p (b : Int)) → crsL (L.take (k + 1)) = crsL (L.take k)) ∧ (¬ atL o (b : Int) = atL o ((b : Int) + atL p (b : Int)) → crsL (L.take (k + 1)) = crsL (L.take k) + 1) := by
            rw [htk]
            exact ⟨fun e => crsL_same _ _ e, fun e => crsL_more _ _ e⟩
          generalize atL o ((b : Int) + atL p (b : Int)) = y3 at *
          generalize atL o (b : Int) = y2 at *
          generalize atL p (b : Int) = y1 at *
          have hbw := hb.alloc hb.size (.cells #[.int .i64 (b : Int), .int .i64 y1, .int .i64 y2, .int .i64 y3] 37)
          have qx := Blk.made wr #[.int .i64 (b : Int), .int .i64 y1, .int .i64 y2, .int .i64 y3] 37
          obtain ⟨s0, s1, s2, s3⟩ := hf1.below hb hg1
          simp only at s0 s1 s2 s3
          obtain ⟨c0, c1, c2, c3⟩ := hf1.below hbw hg1
          obtain ⟨d0, d1, d2, d3⟩ := hf2.below hbw hg2
          simp only at c0 c1 c2 c3 d0 d1 d2 d3
          have q0 := qx.cell 0
          have q1 := qx.cell 1
          have q2 := qx.cell 2
          have q3 := qx.cell 3
          simp only [List.getElem?_cons_zero, List.getElem?_cons_succ] at q0 q1 q2 q3
          have e0 : ((b : Int) != (b : Int)) = false := by simp
          have e1 : (y1 != y1) = false := by simp
          have e2 : (y2 != y2) = false := by simp
          have e3 : (y3 != y3) = false := by simp
          have HBW := Lib.hid hbw
          have QX := Lib.hid qx
          have HCRS := Lib.hid hcrs
          have HBB := Lib.hid hb
          clear HX1 HX2 HAI HIS HSO HTK HCL htk hcrs hf1 hf2 hy hbw qx hb
          generalize crsL (L.take k) = cc at *
          rcases hprev with rfl | ⟨k', rfl, hf', hbt⟩
          · skip
            by_cases hyy : y2 = y3
            · have hs := Lib.hid (HCRS.out.1 hyy)
              have hne : (y2 != y3) = false := by simpa using hyy
              clear HCRS hyy
              go_wp2
              go_quiet (fail)
              go_wp2_with fail
              refine (H1.out _ (below_drewN HBW.out _)).mono ?_
              rintro e w13 ⟨rfl, b13⟩
              have B13 := (below_drewN HBW.out _).trans (b13.mono HBW.out.size)
              have qx13 : Blk w13 wr.heap.size [.int .i64 (b : Int), .int .i64 y1, .int .i64 y2, .int .i64 y3] 37 := QX.out.block (b13.block _ QX.out.lt)
              have p0 := qx13.cell 0
              have p1 := qx13.cell 1
              simp only [List.getElem?_cons_zero, List.getElem?_cons_succ] at p0 p1
              clear H1 b13 q0 q1 q2 q3 s0 s1 s2 s3 c0 c1 c2 c3 d0 d1 d2 d3
              go_wp2_with fail
              refine (H2.out _ B13).mono ?_
              rintro e w14 ⟨rfl, b14⟩
              have B14 := B13.trans (b14.mono B13.size)
              have qx14 := qx13.below b14 qx13.lt
              have p2 := qx14.cell 2
              have p3 := qx14.cell 3
              simp only [List.getElem?_cons_zero, List.getElem?_cons_succ] at p2 p3
              clear H2 b14 B13 qx13 qx14 p0 p1 HBW QX HBB
              go_wp2
              go_roundw
              case rel => exact ⟨0 + 1, by omega, by go_num, by rw [hs.out]; first | done | go_num, B14⟩
              case measure => simp [intOf]; omega
            · have hs := Lib.hid (HCRS.out.2 hyy)
              have hne : (y2 != y3) = true := by simpa using hyy
              clear HCRS hyy
              go_wp2
              go_quiet (fail)
              go_wp2_with fail
              refine (H1.out _ (below_drewN HBW.out _)).mono ?_
              rintro e w13 ⟨rfl, b13⟩
              have B13 := (below_drewN HBW.out _).trans (b13.mono HBW.out.size)
              have qx13 : Blk w13 wr.heap.size [.int .i64 (b : Int), .int .i64 y1, .int .i64 y2, .int .i64 y3] 37 := QX.out.block (b13.block _ QX.out.lt)
              have p0 := qx13.cell 0
              have p1 := qx13.cell 1
              simp only [List.getElem?_cons_zero, List.getElem?_cons_succ] at p0 p1
              clear H1 b13 q0 q1 q2 q3 s0 s1 s2 s3 c0 c1 c2 c3 d0 d1 d2 d3
              go_wp2_with fail
              refine (H2.out _ B13).mono ?_
              rintro e w14 ⟨rfl, b14⟩
              have B14 := B13.trans (b14.mono B13.size)
              have qx14 := qx13.below b14 qx13.lt
              have p2 := qx14.cell 2
              have p3 := qx14.cell 3
              simp only [List.getElem?_cons_zero, List.getElem?_cons_succ] at p2 p3
              clear H2 b14 B13 qx13 qx14 p0 p1 HBW QX HBB
              go_wp2
              go_roundw
              case rel => exact ⟨0 + 1, by omega, by go_num, by rw [hs.out]; first | done | go_num, B14⟩
              case measure => simp [intOf]; omega
          · obtain ⟨f0, _, _, _⟩ := hf'.below HBW.out hg1
            have hle : ¬ (b : Int) ≤ (L.getD k' ht0).1 := by omega
            clear hf' hbt
            generalize (L.getD k' ht0).1 = yp at *
            by_cases hyy : y2 = y3
            · have hs := Lib.hid (HCRS.out.1 hyy)
              have hne : (y2 != y3) = false := by simpa using hyy
              clear HCRS hyy
              go_wp2
              go_quiet (fail)
              go_wp2_with fail
              refine (H1.out _ (below_drewN HBW.out _)).mono ?_
              rintro e w13 ⟨rfl, b13⟩
              have B13 := (below_drewN HBW.out _).trans (b13.mono HBW.out.size)
              have qx13 : Blk w13 wr.heap.size [.int .i64 (b : Int), .int .i64 y1, .int .i64 y2, .int .i64 y3] 37 := QX.out.block (b13.block _ QX.out.lt)
              have p0 := qx13.cell 0
              have p1 := qx13.cell 1
              simp only [List.getElem?_cons_zero, List.getElem?_cons_succ] at p0 p1
              clear H1 b13 q0 q1 q2 q3 s0 s1 s2 s3 c0 c1 c2 c3 d0 d1 d2 d3 f0
              go_wp2_with fail
              refine (H2.out _ B13).mono ?_
              rintro e w14 ⟨rfl, b14⟩
              have B14 := B13.trans (b14.mono B13.size)
              have qx14 := qx13.below b14 qx13.lt
              have p2 := qx14.cell 2
              have p3 := qx14.cell 3
              simp only [List.getElem?_cons_zero, List.getElem?_cons_succ] at p2 p3
              clear H2 b14 B13 qx13 qx14 p0 p1 HBW QX HBB
              go_wp2
              go_roundw
              case rel => exact ⟨k' + 1 + 1, by omega, by go_num, by rw [hs.out]; first | done | go_num, B14⟩
              case measure => simp [intOf]; omega
            · have hs := Lib.hid (HCRS.out.2 hyy)
              have hne : (y2 != y3) = true := by simpa using hyy
              clear HCRS hyy
              go_wp2
              go_quiet (fail)
              go_wp2_with fail
              refine (H1.out _ (below_drewN HBW.out _)).mono ?_
              rintro e w13 ⟨rfl, b13⟩
              have B13 := (below_drewN HBW.out _).trans (b13.mono HBW.out.size)
              have qx13 : Blk w13 wr.heap.size [.int .i64 (b : Int), .int .i64 y1, .int .i64 y2, .int .i64 y3] 37 := QX.out.block (b13.block _ QX.out.lt)
              have p0 := qx13.cell 0
              have p1 := qx13.cell 1
              simp only [List.getElem?_cons_zero, List.getElem?_cons_succ] at p0 p1
              clear H1 b13 q0 q1 q2 q3 s0 s1 s2 s3 c0 c1 c2 c3 d0 d1 d2 d3 f0
              go_wp2_with fail
              refine (H2.out _ B13).mono ?_
              rintro e w14 ⟨rfl, b14⟩
              have B14 := B13.trans (b14.mono B13.size)
              have qx14 := qx13.below b14 qx13.lt
              have p2 := qx14.cell 2
              have p3 := qx14.cell 3
              simp only [List.getElem?_cons_zero, List.getElem?_cons_succ] at p2 p3
              clear H2 b14 B13 qx13 qx14 p0 p1 HBW QX HBB
              go_wp2
              go_roundw
              case rel => exact ⟨k' + 1 + 1, by omega, by go_num, by rw [hs.out]; first | done | go_num, B14⟩
              case measure => simp [intOf]; omega
        · obtain rfl : k = n := by omega
          rw [HTA.out]
          have hcl := HCL.out k
          rw [HTA.out] at hcl
          have B3 := BB2.trans (hb.mono BB2.size)
          have nn : (((crsL L : Nat) : Int) == ((crsL L : Nat) : Int)) = true := by simp
          clear HX1 HX2 HAI HIS HSO HTK HCL HTA
          go_wp2
          go_ret
          exact ⟨by first | rfl | simp, B3⟩
end Go.Proofs.Ytlpeigeadjojnaa
