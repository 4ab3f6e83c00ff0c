/- The model's l02Draw answers a pattern. Conditions: the source has read at most a million bytes, the greatest period is 1 to 7. -/
import Derived.Test.YtlpeigeadjojnaaDraw
namespace Go.Proofs.Ytlpeigeadjojnaa
open Go.RowKit
set_option linter.unusedSimpArgs false
set_option linter.unusedVariables false

theorem Ints.keepb {w w' : World} {C b : Nat} {v : Value} {p : List Int} (h : Ints w C v p) (g : w.grownBy w' (some b)) (hb : b < C) : Ints w' C v p :=
  h.block fun q hq hlt => g.block q hlt (by intro e; cases e; have := h.own_ge hq; omega)

/-- the throws that are drawn for landings -/
def Drawn (L p : List Int) (n q : Nat) : Prop := p.length = q ∧ ∀ i, i < q → (0 ≤ p.getD i 0 ∧ p.getD i 0 ≤ 15) ∧ ((i : Int) + p.getD i 0) % (n : Int) = L.getD i 0
theorem Drawn.nil (L : List Int) (n : Nat) : Drawn L [] n 0 := ⟨rfl, fun i hi => by omega⟩
theorem Drawn.more {L p : List Int} {n q : Nat} (h : Drawn L p n q) {t : Int} (h0 : 0 ≤ t) (h1 : t ≤ 15) (hn : 1 ≤ n) (hl : 0 ≤ L.getD q 0 ∧ L.getD q 0 < n) (ht : t % (n : Int) = (L.getD q 0 - q) % (n : Int)) : Drawn L (p ++ [t]) n (q + 1) := by
  refine ⟨by simp [h.1], fun i hi => ?_⟩
  rw [getD_push, h.1]
  by_cases e : i = q
  · subst e
    rw [if_pos rfl]
    refine ⟨⟨h0, h1⟩, ?_⟩
    rw [Int.add_emod, ht, ← Int.add_emod, show (i : Int) + (L.getD i 0 - i) = L.getD i 0 from by omega]
    exact Int.emod_eq_of_lt hl.1 hl.2
  · rw [if_neg e]
    exact h.2 i (by omega)

set_option maxHeartbeats 2000000 in
theorem l02Draw_any (a : Option Addr) (len cap b k : Nat) (m : Int) (zs : List Int) (w : World) (hs : Src w b k (.slice a len cap)) (hr : IsRow .u8 w a len cap zs) (hab : ∀ x, a = some x → 0 < zs.length → x.block ≠ b) (hlen : len ≤ 1000000000) (hk : k ≤ 1000000) (hm1 : 1 ≤ m) (hm : m ≤ 7) :
    Calls Try.prog 79 #[.pointer (some ⟨b, 0, none⟩), .int .i64 m] w fun e w' => ∃ v p, e = .returned v ∧ Ints w' w.heap.size v p ∧ okPat p = true ∧ p.length ≤ 7 ∧ Src w' b (k + 1000) (.slice a len cap) ∧ w.grownBy w' (some b) := by
  have HP := pick_any a len cap b k m zs w hs hr hlen (by omega) (by omega)
  go_enter Try.func79, Try.ntmps79
  go_wp2_with fail
  refine HP.mono ?_
  rintro e w1 ⟨x, rfl, hx, s1, g1⟩
  clear HP
  have hbw := hs.lt
  have z1 := g1.size
  have hrow : ∀ wr : World, w.grownBy wr (some b) → IsRow .u8 wr a len cap zs := fun wr hg => hr.grown hg fun x hx h0 => by simpa using hab x hx h0
  have HROW := Lib.hid hrow
  have i1 : Ints (w1.alloc (.cells #[] 2)) w.heap.size (.slice (some ⟨w1.heap.size, 0, none⟩) 0 0) [] := World.ownsRow_lit w1 #[] 0 z1 (by simp [maxLen]) rfl
  have G1 : w.grownBy (w1.alloc (.cells #[] 2)) (some b) := g1.trans (World.grownBy_alloc _ _ _)
  have S1 := s1.keep (World.grownBy_alloc w1 (.cells #[] 2) none) (by simp)
  obtain ⟨n, hn⟩ : ∃ n : Nat, 1 + x = (n : Int) := ⟨(1 + x).toNat, by omega⟩
  have hn1 : 1 ≤ n := by omega
  have hn7 : n ≤ 7 := by omega
  clear s1 g1 hs hr hrow hx hab
  go_wp2
  clear hn
  go_loopw [6, 7, 8] (fun v i _ wr => ∃ (L : List Int) (j : Nat), i = .int .i64 j ∧ j ≤ n ∧ IsPerm L j ∧ Ints wr w.heap.size v L ∧ Src wr b (k + 1 + j) (.slice a len cap) ∧ w.grownBy wr (some b)) (fun _ i _ _ => n - (intOf i).toNat)
  case atStart => exact ⟨[], 0, rfl, Nat.zero_le _, IsPerm.nil, i1, S1, G1⟩
  case round =>
    obtain ⟨L, j, rfl, hj, hL, hi, hs, hg⟩ := hrel
    have hLl := hL.1
    have hzr := hg.size
    by_cases hlt : j < n
    · have HC := pick_any a len cap b (k + 1 + j) (j + 1) zs _ hs (HROW.out _ hg) hlen (by omega) (by omega)
      have hl9 : L.length ≤ 1000000000 := by omega
      go_wp2_with fail
      refine HC.mono ?_
      rintro e w3 ⟨y, rfl, hy, s3, g3⟩
      have i3 := hi.block (w' := w3) (fun g hg hlt => g3.block g hlt (by have := hi.own_ge hg; intro e; cases e; omega))
      have G3 := hg.trans g3
      have Z3 := G3.size
      go_wp2_with (at_builtin; refine append_int _ rfl _ _ rfl _ _ _ rfl i3 _ rfl hl9 (by omega) ?_; intro v' w4 i4 g4; refine Hid.out ?_)
      have G4 : w.grownBy w4 (some b) := G3.andThen g4 (fun q hq => .inl (by have := i3.own_ge hq; exact this))
      have S4 := s3.keep g4 (by intro e; have := i3.own_ge e.symm; omega)
      obtain ⟨q, rfl⟩ : ∃ q : Nat, y = q := ⟨y.toNat, by omega⟩
      have hqj : q ≤ j := by omega
      have HM := hL.more hqj
      have hll : (L ++ [(j : Int)]).length = j + 1 := by simp [hLl]
      clear HC hi hs hg i3 s3 g3 g4 G3 Z3
      rcases i4.shape with ⟨rfl, hnil⟩ | ⟨g, cap', rfl, hBg, hgs, _⟩
      · simp at hnil
      have cq := i4.cell q (by omega)
      have cj := i4.cell j (by omega)
      have fq := i4.free q
      have fj := i4.free j
      rw [hll] at *
      generalize hX : L ++ [(j : Int)] = X at *
      have hbg : b ≠ g := by omega
      have GA := grown_new (grown_new G4 j hBg (.int .i64 (X.getD q 0))) q hBg (.int .i64 j)
      have SA := (S4.set j hbg (.int .i64 (X.getD q 0))).set q hbg (.int .i64 j)
      have IA := (i4.set j (X.getD q 0)).set q (j : Int)
      have hqj' : q < j + 1 := by omega
      have hX := Lib.hid hX
      generalize X.getD q 0 = y at *
      refine Lib.hid ?_
      by_cases hqe : q = j
      · subst hqe
        go_wp2
        go_roundw
        case rel => exact ⟨_, q + 1, by go_num, by omega, HM, IA, SA.mono (by omega), GA⟩
        case measure => simp [intOf]; omega
      · go_wp2
        go_roundw
        case rel => exact ⟨_, j + 1, by go_num, by omega, HM, IA, SA.mono (by omega), GA⟩
        case measure => simp [intOf]; omega
    · obtain rfl : j = n := by omega
      rcases hi.shape with ⟨rfl, rfl⟩ | ⟨g, cap', rfl, hBg, hgs, _⟩
      · simp at hLl; omega
      have i2 : Ints (wr.alloc (.cells #[] 2)) wr.heap.size (.slice (some ⟨wr.heap.size, 0, none⟩) 0 0) [] := World.ownsRow_lit wr #[] 0 (Nat.le_refl _) (by simp [maxLen]) rfl
      have hi := hi.alloc (.cells #[] 2)
      have G2 : w.grownBy (wr.alloc (.cells #[] 2)) (some b) := hg.trans (World.grownBy_alloc _ _ _)
      have S2 := hs.keep (World.grownBy_alloc wr (.cells #[] 2) none) (by simp)
      rw [hLl] at *
      obtain ⟨C, hC⟩ : ∃ C, C = wr.heap.size := ⟨_, rfl⟩
      rw [← hC] at i2 hgs
      have hCw : w.heap.size ≤ C := by omega
      have hCz : C ≤ (wr.alloc (.cells #[] 2)).heap.size := by simp; omega
      have HLB := Lib.hid hL
      clear hs hg i1 G1 S1 z1 hzr hLl hL
      go_wp2
      rw [← hC]
      clear hC
      go_loopw [9, 10, 11] (fun v i _ wr => ∃ (p : List Int) (q : Nat), i = .int .i64 q ∧ q ≤ j ∧ Drawn L p j q ∧ Ints wr C v p ∧ Ints wr w.heap.size (.slice (some ⟨g, 0, none⟩) j cap') L ∧ Src wr b (k + 1 + j + 12 * q) (.slice a len cap) ∧ w.grownBy wr (some b) ∧ C ≤ wr.heap.size) (fun _ i _ _ => j - (intOf i).toNat)
      case atStart => exact ⟨[], 0, rfl, Nat.zero_le _, Drawn.nil _ _, i2, hi, by simpa using S2, G2, hCz⟩
      case round =>
        clear i2 hi G2 S2
        rename_i wx
        obtain ⟨p, q, rfl, hq, hpp, ip, il, hs, hg, hzC⟩ := hrel
        have hzr := hg.size
        by_cases hlt : q < j
        · have hLl := HLB.out.1
          have cq := il.cell q (by omega)
          have bq := HLB.out.2.1 q hlt
          have ht0 := Int.emod_nonneg (L.getD q 0 - q) (show (j : Int) ≠ 0 by omega)
          have ht1 := Int.emod_lt_of_pos (L.getD q 0 - q) (show (0 : Int) < j by omega)
          have HMM := fun W => l02Mod_any (L.getD q 0 - q) j W (by omega) (by omega) (by omega) (by omega)
          have HBQ := Lib.hid bq
          obtain ⟨t0, ht⟩ : ∃ t0 : Nat, (L.getD q 0 - q) % (j : Int) = t0 := ⟨((L.getD q 0 - q) % (j : Int)).toNat, by omega⟩
          rw [ht] at HMM ht0 ht1
          have HT := Lib.hid ht
          clear ht hLl
          generalize hy : L.getD q 0 = y at *
          have HY := Lib.hid hy
          clear hy
          obtain ⟨bq1, bq2⟩ := bq
          go_wp2_with fail
          refine (HMM _).mono ?_
          rintro e w' ⟨rfl, rfl⟩
          clear HMM
          have hbC : b < C := by omega
          have hpl : p.length ≤ 7 := by rw [hpp.1]; omega
          go_wp2
          go_loopw [11] (fun tv wv => ∃ t : Nat, tv = .int .i64 t ∧ t ≤ 9 ∧ Hid ((t : Int) % (j : Int) = t0) ∧ Src wv b (k + 1 + j + 12 * q + t) (.slice a len cap) ∧ w'.grownBy wv (some b)) (fun tv _ => 9 - (intOf tv).toNat)
          case atStart => exact ⟨t0, rfl, by omega, by unfold Hid; rw [← HT.out]; exact Int.emod_emod_of_dvd _ (Int.dvd_refl _), hs.mono (by omega), World.grownBy.refl _ _⟩
          case round =>
            obtain ⟨t, rfl, ht9, hmod, ss, gg⟩ := hrel
            by_cases hte : (t : Int) + j ≤ 9
            · have HO := one_any a len cap b (k + 1 + j + 12 * q + t) 2 zs _ ss (HROW.out _ (hg.trans gg)) hlen (by omega) (by omega)
              go_wp2_with fail
              refine HO.mono ?_
              rintro e wE ⟨x, rfl, sE, g5⟩
              have gE0 := gg.trans g5
              clear HO ss gg g5
              cases x with
              | true =>
                go_wp2
                go_roundw
                case rel => exact ⟨t + j, by go_num, by omega, by unfold Hid; rw [← hmod.out]; simp, sE.mono (by omega), gE0⟩
                case measure => simp [intOf]; omega
              | false =>
                have ipE := ip.keepb gE0 hbC
                have ilE := il.keepb gE0 hbw
                have gE := hg.trans gE0
                have zE := gE.size
                have zC : C ≤ wE.heap.size := Nat.le_trans hzC gE0.size
                clear ip il hg gE0
                go_wp2_with (at_builtin; refine append_int _ rfl _ _ rfl _ _ _ rfl ipE _ rfl (by omega) zC ?_; intro v' w6 i6 g6; refine Hid.out ?_)
                have zC6 := g6.size
                have G6 : w.grownBy w6 (some b) := gE.andThen g6 (fun q hq => .inl (by have := ipE.own_ge hq; omega))
                have il6 : Ints w6 w.heap.size (.slice (some ⟨g, 0, none⟩) j cap') L := ilE.block fun g' hg' hlt' => g6.block g' hlt' (by
                  intro e
                  have h1 := ipE.own_ge e.symm
                  simp [Value.ownBlock] at hg'
                  omega)
                have s6 := sE.keep g6 (by intro e; have := ipE.own_ge e.symm; omega)
                have hD := hpp.more (t := (t : Int)) (by omega) (by omega) hn1 (by rw [HY.out]; exact HBQ.out) (by rw [hmod.out, HY.out]; exact HT.out.symm)
                clear ipE ilE sE gE g6
                refine Lib.hid ?_
                go_wp2
                go_roundw
                case rel => exact ⟨_, q + 1, by go_num, by omega, hD, i6, il6, s6.mono (by omega), G6, Nat.le_trans zC zC6⟩
                case measure => simp [intOf]; omega
            · obtain ⟨wE, rfl⟩ : ∃ wE : World, wE = wr := ⟨_, rfl⟩
              have sE := ss
              have gE0 := gg
              clear ss gg
              have ipE := ip.keepb gE0 hbC
              have ilE := il.keepb gE0 hbw
              have gE := hg.trans gE0
              have zE := gE.size
              have zC : C ≤ wE.heap.size := Nat.le_trans hzC gE0.size
              clear ip il hg gE0
              go_wp2_with (at_builtin; refine append_int _ rfl _ _ rfl _ _ _ rfl ipE _ rfl (by omega) zC ?_; intro v' w6 i6 g6; refine Hid.out ?_)
              have zC6 := g6.size
              have G6 : w.grownBy w6 (some b) := gE.andThen g6 (fun q hq => .inl (by have := ipE.own_ge hq; omega))
              have il6 : Ints w6 w.heap.size (.slice (some ⟨g, 0, none⟩) j cap') L := ilE.block fun g' hg' hlt' => g6.block g' hlt' (by
                intro e
                have h1 := ipE.own_ge e.symm
                simp [Value.ownBlock] at hg'
                omega)
              have s6 := sE.keep g6 (by intro e; have := ipE.own_ge e.symm; omega)
              have hD := hpp.more (t := (t : Int)) (by omega) (by omega) hn1 (by rw [HY.out]; exact HBQ.out) (by rw [hmod.out, HY.out]; exact HT.out.symm)
              clear ipE ilE sE gE g6
              refine Lib.hid ?_
              go_wp2
              go_roundw
              case rel => exact ⟨_, q + 1, by go_num, by omega, hD, i6, il6, s6.mono (by omega), G6, Nat.le_trans zC zC6⟩
              case measure => simp [intOf]; omega
        · obtain rfl : q = j := by omega
          have hok := HLB.out.okPat hn1 (by omega) hpp.1 (fun i hi => (hpp.2 i hi).1) (fun i hi => (hpp.2 i hi).2)
          have hpl : p.length ≤ 7 := by rw [hpp.1]; exact hn7
          go_wp2
          go_ret
          exact ⟨_, _, rfl, ip.mono hCw, hok, hpl, hs.mono (by omega), hg⟩
end Go.Proofs.Ytlpeigeadjojnaa
