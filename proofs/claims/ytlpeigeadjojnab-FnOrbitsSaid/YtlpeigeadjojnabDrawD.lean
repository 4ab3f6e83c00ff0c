/- The model's l10Draw answers something, and A2Pattern a pattern. Conditions: at most 3000 bytes. -/
import Derived.Test.YtlpeigeadjojnabDrawC
import Derived.Test.YtlpeigeadjojnabRead
namespace Go.Proofs.Ytlpeigeadjojnab
open Go.RowKit
set_option linter.unusedSimpArgs false
set_option linter.unusedVariables false

set_option maxHeartbeats 2000000 in
theorem l10Draw_any (a : Option Addr) (len cap b k : Nat) (zs : List Int) (w : World) (hs : Src w b k (.slice a len cap)) (hr : IsRow .u8 w a len cap zs) (hab : ∀ x, a = some x → 0 < zs.length → x.block ≠ b) (hlen : len ≤ 1000000000) (hk : k ≤ 800000) :
    Calls Try.prog 25 #[.pointer (some ⟨b, 0, none⟩)] w fun e w' => ∃ v p, e = .returned v ∧ Ints w' w.heap.size v p ∧ Src w' b (k + 3000) (.slice a len cap) ∧ w.grownBy w' (some b) := by
  have HO := one_any a len cap b k 12 zs w hs hr hlen (by omega) (by omega)
  have hbw := hs.lt
  have hrow : ∀ wr : World, w.grownBy wr (some b) → IsRow .u8 wr a len cap zs := fun wr hg => hr.grown hg fun x hx h0 => by simpa using hab x hx h0
  have HROW := Lib.hid hrow
  clear hrow hr hs
  go_enter Try.func25, Try.ntmps25
  go_wp2_with fail
  refine HO.mono ?_
  rintro e w1 ⟨x, rfl, s1, g1⟩
  have z1 := g1.size
  clear HO
  cases x with
  | true =>
    have HB := l02Bent_any a len cap b (k + 1) zs w1 s1 (HROW.out _ g1) hab hlen (by omega)
    go_wp2_with fail
    refine HB.mono ?_
    rintro e w2 ⟨v, p, rfl, i2, s2, g2⟩
    go_wp2
    go_ret
    exact ⟨_, _, rfl, i2.mono z1, s2.mono (by omega), g1.trans g2⟩
  | false =>
    have HO := one_any a len cap b (k + 1) 3 zs w1 s1 (HROW.out _ g1) hlen (by omega) (by omega)
    go_wp2_with fail
    refine HO.mono ?_
    rintro e w2 ⟨x, rfl, s2, g2⟩
    have G2 := g1.trans g2
    have z2 := G2.size
    clear HO s1 g1 g2
    cases x with
    | true =>
      have s4 := fun o => s2.keep (World.grownBy_alloc w2 o none) (by simp)
      have G4 := fun o => G2.trans (World.grownBy_alloc w2 o (some b))
      go_wp2_with fail
      refine (text_any a len cap b (k + 2) w2.heap.size 14 _ _ zs _ (s4 _) (HROW.out _ (G4 _)) hlen (by omega) (heap_alloc_new w2 _) (by omega) rfl (by first | kernel_rfl | decide | simp [shortStr, ByteArray.size]) (by omega) (by omega)).mono ?_
      rintro e w5 ⟨s, rfl, hss, s5, g5⟩
      have G5 := (G4 _).trans g5
      have z5 := G5.size
      clear s4 G4 g5
      go_wp2_with fail
      refine (l02Read_any s _ (by omega)).mono ?_
      rintro e w6 ⟨v, rfl, i6, b6⟩
      have g6 : w5.grownBy w6 none := ⟨b6.os, b6.tape, b6.output, b6.size, fun q hq _ => b6.block q hq⟩
      have s6 := s5.keep g6 (by simp)
      have G6 : w.grownBy w6 (some b) := G5.trans ⟨b6.os, b6.tape, b6.output, b6.size, fun q hq _ => b6.block q hq⟩
      go_wp2
      go_ret
      exact ⟨_, _, rfl, i6.mono z5, s6.mono (by omega), G6⟩
    | false =>
      have HP := pick_any a len cap b (k + 2) 4 zs w2 s2 (HROW.out _ G2) hlen (by omega) (by omega)
      go_wp2_with fail
      refine HP.mono ?_
      rintro e w1 ⟨x, rfl, hx, s1, g1⟩
      clear HP
      have g1 := G2.trans g1
      have z1 := g1.size
      have i1 : Ints (w1.alloc (.cells #[] 2)) w.heap.size (.slice (some ⟨w1.heap.size, 0, none⟩) 0 0) [] := World.ownsRow_lit w1 #[] 0 z1 (by simp [maxLen]) rfl
      have G1 : w.grownBy (w1.alloc (.cells #[] 2)) (some b) := g1.trans (World.grownBy_alloc _ _ _)
      have S1 := s1.keep (World.grownBy_alloc w1 (.cells #[] 2) none) (by simp)
      obtain ⟨n, hn⟩ : ∃ n : Nat, 1 + x = (n : Int) := ⟨(1 + x).toNat, by omega⟩
      have hn1 : 1 ≤ n := by omega
      have hn7 : n ≤ 4 := by omega
      clear s1 g1 G2 s2 hx
      go_wp2
      clear hn
      go_loopw [4, 5, 6] (fun v i _ wr => ∃ (L : List Int) (j : Nat), i = .int .i64 j ∧ j ≤ n ∧ IsPerm L j ∧ Ints wr w.heap.size v L ∧ Src wr b (k + 3 + j) (.slice a len cap) ∧ w.grownBy wr (some b)) (fun _ i _ _ => n - (intOf i).toNat)
      case atStart => exact ⟨[], 0, rfl, Nat.zero_le _, IsPerm.nil, i1, S1, G1⟩
      case round =>
        obtain ⟨L, j, rfl, hj, hL, hi, hs, hg⟩ := hrel
        have hLl := hL.1
        have hzr := hg.size
        by_cases hlt : j < n
        · have HC := pick_any a len cap b (k + 3 + j) (j + 1) zs _ hs (HROW.out _ hg) hlen (by omega) (by omega)
          have hl9 : L.length ≤ 1000000000 := by omega
          go_wp2_with fail
          refine HC.mono ?_
          rintro e w3 ⟨y, rfl, hy, s3, g3⟩
          have i3 := hi.block (w' := w3) (fun g hg hlt => g3.block g hlt (by have := hi.own_ge hg; intro e; cases e; omega))
          have G3 := hg.trans g3
          have Z3 := G3.size
          go_wp2_with (at_builtin; refine append_int _ rfl _ _ rfl _ _ _ rfl i3 _ rfl hl9 (by omega) ?_; intro v' w4 i4 g4; refine Hid.out ?_)
          have G4 : w.grownBy w4 (some b) := G3.andThen g4 (fun q hq => .inl (by have := i3.own_ge hq; exact this))
          have S4 := s3.keep g4 (by intro e; have := i3.own_ge e.symm; omega)
          obtain ⟨q, rfl⟩ : ∃ q : Nat, y = q := ⟨y.toNat, by omega⟩
          have hqj : q ≤ j := by omega
          have HM := hL.more hqj
          have hll : (L ++ [(j : Int)]).length = j + 1 := by simp [hLl]
          clear HC hi hs hg i3 s3 g3 g4 G3 Z3
          rcases i4.shape with ⟨rfl, hnil⟩ | ⟨g, cap', rfl, hBg, hgs, _⟩
          · simp at hnil
          have cq := i4.cell q (by omega)
          have cj := i4.cell j (by omega)
          have fq := i4.free q
          have fj := i4.free j
          rw [hll] at *
          generalize hX : L ++ [(j : Int)] = X at *
          have hbg : b ≠ g := by omega
          have GA := grown_new (grown_new G4 j hBg (.int .i64 (X.getD q 0))) q hBg (.int .i64 j)
          have SA := (S4.set j hbg (.int .i64 (X.getD q 0))).set q hbg (.int .i64 j)
          have IA := (i4.set j (X.getD q 0)).set q (j : Int)
          have hqj' : q < j + 1 := by omega
          have hX := Lib.hid hX
          generalize X.getD q 0 = y at *
          refine Lib.hid ?_
          by_cases hqe : q = j
          · subst hqe
            go_wp2
            go_roundw
            case rel => exact ⟨_, q + 1, by go_num, by omega, HM, IA, SA.mono (by omega), GA⟩
            case measure => simp [intOf]; omega
          · go_wp2
            go_roundw
            case rel => exact ⟨_, j + 1, by go_num, by omega, HM, IA, SA.mono (by omega), GA⟩
            case measure => simp [intOf]; omega
        · obtain rfl : j = n := by omega
          rcases hi.shape with ⟨rfl, rfl⟩ | ⟨g, cap', rfl, hBg, hgs, _⟩
          · simp at hLl; omega
          have i2 : Ints (wr.alloc (.cells #[] 2)) wr.heap.size (.slice (some ⟨wr.heap.size, 0, none⟩) 0 0) [] := World.ownsRow_lit wr #[] 0 (Nat.le_refl _) (by simp [maxLen]) rfl
          have hi := hi.alloc (.cells #[] 2)
          have G2 : w.grownBy (wr.alloc (.cells #[] 2)) (some b) := hg.trans (World.grownBy_alloc _ _ _)
          have S2 := hs.keep (World.grownBy_alloc wr (.cells #[] 2) none) (by simp)
          rw [hLl] at *
          obtain ⟨C, hC⟩ : ∃ C, C = wr.heap.size := ⟨_, rfl⟩
          rw [← hC] at i2 hgs
          have hCw : w.heap.size ≤ C := by omega
          have hCz : C ≤ (wr.alloc (.cells #[] 2)).heap.size := by simp; omega
          have HLB := Lib.hid hL
          clear hs hg i1 G1 S1 z1 hzr hLl hL
          go_wp2
          rw [← hC]
          clear hC
          go_loopw [7, 8, 9] (fun v i _ wr => ∃ (p : List Int) (q : Nat), i = .int .i64 q ∧ q ≤ j ∧ Hid (p.length = q) ∧ Ints wr C v p ∧ Ints wr w.heap.size (.slice (some ⟨g, 0, none⟩) j cap') L ∧ Src wr b (k + 3 + j + 2 * q) (.slice a len cap) ∧ w.grownBy wr (some b) ∧ C ≤ wr.heap.size) (fun _ i _ _ => j - (intOf i).toNat)
          case atStart => exact ⟨[], 0, rfl, Nat.zero_le _, rfl, i2, hi, by simpa using S2, G2, hCz⟩
          case round =>
            clear i2 hi G2 S2
            rename_i wx
            obtain ⟨p, q, rfl, hq, hpp, ip, il, hs, hg, hzC⟩ := hrel
            have hzr := hg.size
            by_cases hlt : q < j
            · have hLl := HLB.out.1
              have cq := il.cell q (by omega)
              have bq := HLB.out.2.1 q hlt
              have ht0 := Int.emod_nonneg (L.getD q 0 - q) (show (j : Int) ≠ 0 by omega)
              have ht1 := Int.emod_lt_of_pos (L.getD q 0 - q) (show (0 : Int) < j by omega)
              have HMM := fun W => l02Mod_any (L.getD q 0 - q) j W (by omega) (by omega) (by omega) (by omega)
              obtain ⟨t0, ht⟩ : ∃ t0 : Nat, (L.getD q 0 - q) % (j : Int) = t0 := ⟨((L.getD q 0 - q) % (j : Int)).toNat, by omega⟩
              rw [ht] at HMM ht0 ht1
              clear ht hLl
              generalize hy : L.getD q 0 = y at *
              clear hy
              obtain ⟨bq1, bq2⟩ := bq
              go_wp2_with fail
              refine (HMM _).mono ?_
              rintro e w' ⟨rfl, rfl⟩
              clear HMM
              have hbC : b < C := by omega
              have hpl : p.length ≤ 7 := by rw [hpp.out]; omega
              by_cases hte : (t0 : Int) + j ≤ 6
              · have HO := one_any a len cap b (k + 3 + j + 2 * q) 2 zs _ hs (HROW.out _ hg) hlen (by omega) (by omega)
                go_wp2_with fail
                refine HO.mono ?_
                rintro e wE ⟨x, rfl, sE, gE0⟩
                clear HO hs
                cases x with
                | true =>
                  have ipE := ip.keepb gE0 hbC
                  have ilE := il.keepb gE0 hbw
                  have gE := hg.trans gE0
                  have zE := gE.size
                  have zC : C ≤ wE.heap.size := Nat.le_trans hzC gE0.size
                  clear ip il hg gE0
                  go_wp2_with (at_builtin; refine append_int _ rfl _ _ rfl _ _ _ rfl ipE _ rfl (by omega) zC ?_; intro v' w6 i6 g6; refine Hid.out ?_)
                  have zC6 := g6.size
                  have G6 : w.grownBy w6 (some b) := gE.andThen g6 (fun q hq => .inl (by have := ipE.own_ge hq; omega))
                  have il6 : Ints w6 w.heap.size (.slice (some ⟨g, 0, none⟩) j cap') L := ilE.block fun g' hg' hlt' => g6.block g' hlt' (by
                    intro e
                    have h1 := ipE.own_ge e.symm
                    simp [Value.ownBlock] at hg'
                    omega)
                  have s6 := sE.keep g6 (by intro e; have := ipE.own_ge e.symm; omega)
                  clear ipE ilE sE gE g6
                  refine Lib.hid ?_
                  go_wp2
                  go_roundw
                  case rel => exact ⟨_, q + 1, by go_num, by omega, by unfold Hid; rw [List.length_append, hpp.out]; rfl, i6, il6, s6.mono (by omega), G6, Nat.le_trans zC zC6⟩
                  case measure => simp [intOf]; omega
                | false =>
                  have ipE := ip.keepb gE0 hbC
                  have ilE := il.keepb gE0 hbw
                  have gE := hg.trans gE0
                  have zE := gE.size
                  have zC : C ≤ wE.heap.size := Nat.le_trans hzC gE0.size
                  clear ip il hg gE0
                  go_wp2_with (at_builtin; refine append_int _ rfl _ _ rfl _ _ _ rfl ipE _ rfl (by omega) zC ?_; intro v' w6 i6 g6; refine Hid.out ?_)
                  have zC6 := g6.size
                  have G6 : w.grownBy w6 (some b) := gE.andThen g6 (fun q hq => .inl (by have := ipE.own_ge hq; omega))
                  have il6 : Ints w6 w.heap.size (.slice (some ⟨g, 0, none⟩) j cap') L := ilE.block fun g' hg' hlt' => g6.block g' hlt' (by
                    intro e
                    have h1 := ipE.own_ge e.symm
                    simp [Value.ownBlock] at hg'
                    omega)
                  have s6 := sE.keep g6 (by intro e; have := ipE.own_ge e.symm; omega)
                  clear ipE ilE sE gE g6
                  refine Lib.hid ?_
                  go_wp2
                  go_roundw
                  case rel => exact ⟨_, q + 1, by go_num, by omega, by unfold Hid; rw [List.length_append, hpp.out]; rfl, i6, il6, s6.mono (by omega), G6, Nat.le_trans zC zC6⟩
                  case measure => simp [intOf]; omega
              · obtain ⟨wE, rfl⟩ : ∃ wE : World, wE = w' := ⟨_, rfl⟩
                have sE := hs
                have gE0 := World.grownBy.refl wE (some b)
                clear hs
                have ipE := ip.keepb gE0 hbC
                have ilE := il.keepb gE0 hbw
                have gE := hg.trans gE0
                have zE := gE.size
                have zC : C ≤ wE.heap.size := Nat.le_trans hzC gE0.size
                clear ip il hg gE0
                go_wp2_with (at_builtin; refine append_int _ rfl _ _ rfl _ _ _ rfl ipE _ rfl (by omega) zC ?_; intro v' w6 i6 g6; refine Hid.out ?_)
                have zC6 := g6.size
                have G6 : w.grownBy w6 (some b) := gE.andThen g6 (fun q hq => .inl (by have := ipE.own_ge hq; omega))
                have il6 : Ints w6 w.heap.size (.slice (some ⟨g, 0, none⟩) j cap') L := ilE.block fun g' hg' hlt' => g6.block g' hlt' (by
                  intro e
                  have h1 := ipE.own_ge e.symm
                  simp [Value.ownBlock] at hg'
                  omega)
                have s6 := sE.keep g6 (by intro e; have := ipE.own_ge e.symm; omega)
                clear ipE ilE sE gE g6
                refine Lib.hid ?_
                go_wp2
                go_roundw
                case rel => exact ⟨_, q + 1, by go_num, by omega, by unfold Hid; rw [List.length_append, hpp.out]; rfl, i6, il6, s6.mono (by omega), G6, Nat.le_trans zC zC6⟩
                case measure => simp [intOf]; omega
            · obtain rfl : q = j := by omega
              go_wp2
              go_ret
              exact ⟨_, _, rfl, ip.mono hCw, hs.mono (by omega), hg⟩

theorem a2Pattern_any (a : Option Addr) (len cap : Nat) (zs : List Int) (w : World) (hr : IsRow .u8 w a len cap zs) (hlen : len ≤ 3000) :
    Calls Try.prog 10 #[.slice a len cap] w fun e w' => ∃ v p, e = .returned v ∧ Ints w' w.heap.size v p ∧ okPat p = true ∧ Below w.heap.size w w' := by
  have hab : ∀ x, a = some x → 0 < zs.length → x.block ≠ w.heap.size := by
    intro x hx h0
    rcases hr with ⟨rfl, _⟩ | ⟨y, rfl, _, _, _, hc, _⟩
    · cases hx
    · cases hx
      have h1 := cell_block (hc 0 h0)
      have e : (Addr.add _ 0).block = _ := show (Addr.add x 0).block = x.block by simp [Addr.add]
      rw [e] at h1
      omega
  go_enter Try.func10, Try.ntmps10
  go_wp2_with fail
  refine (l00From_any a len cap _).mono ?_
  rintro e w1 ⟨rfl, s1, z1, b1⟩
  have r1 := hr.below b1
  have hz1 := b1.size
  have HO := one_any a len cap w.heap.size 0 3 zs w1 s1 r1 (by omega) (by omega) (by omega)
  clear s1
  go_wp2_with fail
  refine HO.mono ?_
  rintro e w2 ⟨x, rfl, s2, g2⟩
  clear HO
  have r2 := r1.grown g2 fun x hx h0 => by simpa using hab x hx h0
  have B2 : Below w.heap.size w w2 := b1.grown g2 hz1 (by intro q hq; cases hq; exact Nat.le_refl _)
  have hz2 := B2.size
  clear r1 b1 g2
  have HLAST : ∀ (W : World) (kk : Nat), kk ≤ 100000 → Below w.heap.size w W → Src W w.heap.size kk (.slice a len cap) → IsRow .u8 W a len cap zs → Calls Try.prog 26 #[.pointer (some ⟨w.heap.size, 0, none⟩), .int .i64 7] W fun e w' => ∃ v p, e = .returned v ∧ Ints w' w.heap.size v p ∧ okPat p = true ∧ Below w.heap.size w w' := by
    intro W kk hkk hB hS hR
    refine (l02Draw_any a len cap w.heap.size kk 7 zs W hS hR hab (by omega) (by omega) (by omega) (by omega)).mono ?_
    rintro e w' ⟨v, p, rfl, i, hok, _, _, g⟩
    exact ⟨v, p, rfl, i.mono hB.size, hok, hB.grown g hB.size (by intro q hq; cases hq; exact Nat.le_refl _)⟩
  have HLAST := Lib.hid HLAST
  cases x with
  | false =>
    have HC := HLAST.out w2 _ (by omega) B2 s2 r2
    clear HLAST
    go_wp2_with fail
    refine HC.mono ?_
    rintro e w3 ⟨v, p, rfl, i3, hok, b3⟩
    have HK := Lib.hid hok
    clear hok
    go_wp2
    go_ret
    exact ⟨_, _, rfl, i3, HK.out, b3⟩
  | true =>
    have HD := l10Draw_any a len cap w.heap.size (0 + 1) zs w2 s2 r2 hab (by omega) (by omega)
    clear s2
    go_wp2_with fail
    refine HD.mono ?_
    rintro e w3 ⟨v, p, rfl, i3, s3, g3⟩
    clear HD
    have r3 := r2.grown g3 fun x hx h0 => by simpa using hab x hx h0
    have B3 : Below w.heap.size w w3 := B2.grown g3 hz2 (by intro q hq; cases hq; exact Nat.le_refl _)
    have i3 := i3.mono hz2
    have hz3 := B3.size
    clear r2 g3 B2
    go_wp2_with fail
    refine (l02Ok_any v _ p _ i3).mono ?_
    rintro e w4 ⟨rfl, b4⟩
    have B4 := B3.trans (b4.mono hz3)
    have i4 := i3.below b4
    have r4 := r3.below b4
    have s4 := s3.keep (⟨b4.os, b4.tape, b4.output, b4.size, fun q hq _ => b4.block q hq⟩ : w3.grownBy w4 none) (by simp)
    clear b4 i3 r3 s3 B3
    cases hok : okPat p with
    | true =>
      have HK := Lib.hid hok
      clear hok HLAST
      go_wp2
      go_ret
      exact ⟨_, _, rfl, i4, HK.out, B4⟩
    | false =>
      have HC := HLAST.out w4 _ (by omega) B4 s4 r4
      clear HLAST hok
      go_wp2_with fail
      refine HC.mono ?_
      rintro e w5 ⟨u, q, rfl, i5, hok, b5⟩
      have HK := Lib.hid hok
      clear hok
      go_wp2
      go_ret
      exact ⟨_, _, rfl, i5, HK.out, b5⟩
end Go.Proofs.Ytlpeigeadjojnab
