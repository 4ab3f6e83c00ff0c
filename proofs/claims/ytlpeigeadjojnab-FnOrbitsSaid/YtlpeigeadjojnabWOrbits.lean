/- The walk of the law FnOrbits: it returns true. No conditions. -/
import Derived.Test.YtlpeigeadjojnabOrT
import Derived.Test.YtlpeigeadjojnabDrawD
import Derived.Test.YtlpeigeadjojnabAid
import Derived.Test.YtlpeigeadjojnabSame
import Derived.Deep.RegionHeld3
namespace Go.Proofs.Ytlpeigeadjojnab
open Go.RowKit
set_option linter.unusedSimpArgs false
set_option linter.unusedVariables false

theorem Bls2.setElse {w : World} {B : Nat} {v : Value} {xs : List Bool} (h : Bls2 w B v xs) (g j : Nat) (x : Value) (hg : g < B) : Bls2 (w.setCell ⟨g, j, none⟩ x) B v xs :=
  h.block fun g' hg' _ => Below.heap_setCell _ _ _ _ (by have := h.own_ge hg'; simp; omega)

/-- a row of truth values and a row of numbers lie in two blocks -/
theorem own_ne_rowB {w : World} {B B' a b : Nat} {v u : Value} {xs : List Bool} {ys : List Int} (h : Bls2 w B v xs) (h' : Ints w B' u ys) (hv : v.ownBlock = some a) (hu : u.ownBlock = some b) (e : b = a) : False := by
  subst e
  rcases h.2 with ⟨e1, _⟩ | ⟨g, cap, cur, e1, _, h3, _⟩
  · subst e1; simp [Value.ownBlock] at hv
  · rcases h'.2 with ⟨e2, _⟩ | ⟨g', cap', cur', e2, _, h4, _⟩
    · subst e2; simp [Value.ownBlock] at hu
    · subst e1 e2
      simp [Value.ownBlock] at hv hu
      subst hv hu
      rw [h3] at h4
      injection h4 with h4
      injection h4 with _ h5
      exact absurd h5 (by decide)

set_option maxRecDepth 100000 in
set_option maxHeartbeats 4000000 in
theorem walk_FnOrbits (ad0 : Option Addr) (len0 cap0 : Nat) (z0 : List Int) (w : World) (r0 : IsRow .u8 w ad0 len0 cap0 z0) :
    Calls Try.prog 4 #[.slice ad0 len0 cap0] w fun e w' => e = .returned (.bool true) ∧ Below w.heap.size w w' := by
  have hm0 : len0 ≤ 9223372036854775807 := by have := r0.bytes.2.1; unfold maxLen at this; omega
  have HL := a2Long_any ad0 none len0 cap0 0 0 w hm0 (by decide)
  cases hL : longL len0 0 with
  | true =>
    rw [hL] at HL
    go_enter Try.func4, Try.ntmps4
    go_wp2_with fail
    refine HL.mono ?_
    rintro e w' ⟨rfl, rfl⟩
    go_wp2
    go_ret
    exact ⟨rfl, Below.refl _ _⟩
  | false =>
    rw [hL] at HL
    have hb0 : len0 ≤ 3000 := by simp [longL] at hL; omega
    clear hL hm0
    go_enter Try.func4, Try.ntmps4
    go_wp2_with fail
    refine HL.mono ?_
    rintro e w' ⟨rfl, rfl⟩
    clear HL
    go_wp2_with fail
    refine (a2Pattern_any ad0 len0 cap0 z0 _ r0 hb0).mono ?_
    rintro e w1 ⟨v, p, rfl, ip, hok, b1⟩
    clear r0 hb0
    obtain ⟨l1, l2⟩ := okPat_len hok
    obtain ⟨g0, c0, rfl, _, hg0, _, _⟩ := ip.shape2 l1
    have HIP := Lib.hid (fun W (hW : Below w1.heap.size w1 W) => ip.below hW)
    have HPO := propsOf_spec _ _ p _ ip
    rw [okC_true hok] at HPO
    have HOF := Lib.hid (fun W (hW : Below w1.heap.size w1 W) => orbitsOf_impl _ _ p W (ip.below hW))
    rw [okC_true hok, orbA_true hok] at HOF
    have HOP := Lib.hid (fun W (hW : Below w1.heap.size w1 W) => orbitProps_impl _ _ p W (ip.below hW))
    rw [okC_true hok, opsA_true hok] at HOP
    have HFP := Lib.hid (fun W (hW : Below w1.heap.size w1 W) => fullPeriod_impl _ _ p W (ip.below hW))
    rw [okC_true hok] at HFP
    have HPT := Lib.hid (fun (k : Nat) (hk : k < (fsts p).length) W (hW : Below w1.heap.size w1 W) => show Calls Try.prog 15 #[.slice (some ⟨g0, 0, none⟩) p.length c0, .int .i64 (k : Nat)] W fun e w' => ∃ u, e = .returned (.tuple #[u, .int .i64 0]) ∧ Ints w' W.heap.size u (aloneL p ((fsts p).getD k 0)) ∧ Below W.heap.size W w' from by
      have := orbitPattern_impl _ _ p (k : Int) W (ip.below hW)
      have e1 := opC_ok (p := p) (o := (k : Int)) hok (inB_true (by omega))
      rwa [opA, if_pos e1, e1, Int.toNat_natCast] at this)
    have HPP := Lib.hid (fun (k : Nat) (hk : k < (fsts p).length) W B u (hu : Ints W B u (aloneL p ((fsts p).getD k 0))) => show Calls Try.prog 11 #[u] W fun e w' => e = .returned (.tuple #[.int .i64 ((opsL p).getD k 0), .int .i64 0]) ∧ Below W.heap.size W w' from by
      have := propsOf_spec u B _ W hu
      rwa [aloneL_props hok hk, okC_true (aloneL_ok hok (fsts_at hk).1 (fsts_at hk).2)] at this)
    have HOO := Lib.hid (fun (k i : Nat) (hk : k < (fsts p).length) (hi : i < (wayL p ((fsts p).getD k 0)).length) W (hW : Below w1.heap.size w1 W) => show Calls Try.prog 16 #[.slice (some ⟨g0, 0, none⟩) p.length c0, .int .i64 ((wayL p ((fsts p).getD k 0)).getD i 0 : Nat)] W fun e w' => e = .returned (.tuple #[.int .i64 (k : Nat), .int .i64 0]) ∧ Below W.heap.size W w' from by
      have := orbitOf_impl _ _ p ((wayL p ((fsts p).getD k 0)).getD i 0 : Nat) W (ip.below hW)
      have hz := way_at hok (fsts_at hk).1 hi
      have e1 := ooC_ok (p := p) (o := (((wayL p ((fsts p).getD k 0)).getD i 0 : Nat) : Int)) hok (inB_true (by omega))
      rwa [ooA, if_pos e1, e1, Int.toNat_natCast, way_ixO hok hk hi] at this)
    have hfb := full_bounds hok
    have HFM := Lib.hid (fun (k : Nat) (hk : k < (fsts p).length) (h0 : 0 < (opsL p).getD k 0) => full_mod hok hk h0)
    have HOB := Lib.hid (fun (k : Nat) (hk : k < (opsL p).length) => ops_at hok k hk)
    have HOS := Lib.hid (ops_sum hok)
    have HOK := Lib.hid (ops_okList hok)
    have hfl := fsts_len p
    have hol := opsL_len p
    have HOL := Lib.hid (opsL_len p)
    have HGW := Lib.hid (fun (k : Nat) (hk : k < (fsts p).length) W B2 C a c (hg : Grid 22 W B2 C (.slice a (fsts p).length c) (orbs p)) => grid_way hok hg hk)
    have HWL := Lib.hid (fun (k : Nat) (hk : k < (fsts p).length) => way_len hok (fsts_at hk).1)
    have HWA := Lib.hid (fun (k : Nat) (hk : k < (fsts p).length) q hq => way_at hok (fsts_at hk).1 (k := q) hq)
    have HKS := Lib.hid (fun (k j : Nat) (hk : k < (fsts p).length) (hj : j < p.length) => smK_step hok hk hj)
    have HKA := Lib.hid (smK_all hok)
    have HSA := Lib.hid (fun (k : Nat) (hk : k < (fsts p).length) => snI_all hok hk)
    have HSN := Lib.hid (fun (k i : Nat) (hk : k < (fsts p).length) (hi : i < (wayL p ((fsts p).getD k 0)).length) => snI_new hok hk hi)
    have HAB := Lib.hid (fun (k j : Nat) (hk : k < (fsts p).length) (hj : j < p.length) => show 0 ≤ (aloneL p ((fsts p).getD k 0)).getD j 0 ∧ (aloneL p ((fsts p).getD k 0)).getD j 0 ≤ 15 from okPat_at (aloneL_ok hok (fsts_at hk).1 (fsts_at hk).2) j (by rw [aloneL_len]; exact hj))
    have HKB := Lib.hid (fun (k j : Nat) (hj : j < p.length) => show 0 ≤ (smK p k).getD j 0 ∧ (smK p k).getD j 0 ≤ 15 from by
      rw [smK_at p k j hj]
      have := okPat_at hok j hj
      split <;> omega)
    have HIX := Lib.hid (fun (j : Nat) (hj : j < p.length) => (ixO_spec hok hj).1)
    clear ip hok
    obtain ⟨hf1, hf2, hf3⟩ := hfb
    go_wp2_with fail
    refine HPO.mono ?_
    rintro e w2 ⟨rfl, b2⟩
    clear HPO
    go_wp2_with fail
    refine (HOF.out _ b2).mono ?_
    rintro e w3 ⟨x, rfl, hg, b3⟩
    have B3 := b2.trans (b3.mono b2.size)
    obtain ⟨xa, xc, rfl⟩ := sl_of_grid hg
    clear HOF b2 b3
    go_wp2_with fail
    refine (HOP.out _ B3).mono ?_
    rintro e w4 ⟨y, rfl, iy, b4⟩
    have B4 := B3.trans (b4.mono B3.size)
    replace hg := hg.below b4
    obtain ⟨ya, yc, rfl⟩ := ints_slOr iy
    rw [hol]
    rw [hol] at iy
    clear HOP B3 b4
    go_wp2_with fail
    refine (HFP.out _ B4).mono ?_
    rintro e w5 ⟨rfl, b5⟩
    have B5 := B4.trans (b5.mono B4.size)
    replace hg := hg.below b5
    replace iy := iy.below b5
    clear HFP B4 b5
    generalize fpA p = FP at *
    have HA2 := a2Sum_any _ _ _ _ iy HOK.out
    rw [HOS.out] at HA2
    generalize propsA p = P at *
    have n1 : (P != P) = false := by simp
    have n2 : decide (FP < (p.length : Int)) = false := decide_eq_false (by omega)
    have n3 : (FP % (p.length : Int)) = 0 := hf3
    obtain ⟨i0, hi0, hz0, hz1, hz2⟩ := info_parts Try.info64
    obtain ⟨j0, hj0, hy0, hy1, hy2⟩ := info_parts Try.infoBl2
    go_wp2_with fail
    refine HA2.mono ?_
    rintro e w6 ⟨rfl, rfl⟩
    clear HA2 HOS HOK
    go_wp2_with (at_make; refine wpList_make_full _ rfl _ _ 22 rfl w5.heap.size 2 i0 (.int .i64 0) 1 Try.underlying22 hi0 hz0 hz1 _ _ _ _ p.length rfl rfl rfl rfl (by rw [hz2]; omega) (by unfold maxLen; omega) (Nat.le_refl _) ?_; intro w6 hown hgr; refine Hid.out ?_)
    have hI : Ints w6 w5.heap.size (.slice (some ⟨w5.heap.size, 0, none⟩) p.length p.length) (smK p 0) := by
      rw [smK_zero]
      unfold Ints
      generalize p.length = n2 at hown ⊢
      rw [List.length_replicate, List.map_replicate]
      have e9 := hown
      rw [Nat.mul_one] at e9
      have e8 : (madeCells (Value.int IntKind.i64 0).cells n2).toList = List.replicate n2 (Value.int IntKind.i64 0) := toList_madeCells_one _ _
      rw [e8] at e9
      exact e9
    have b6 : Below w5.heap.size w5 w6 := (Below.refl _ _).grown hgr (Nat.le_refl _) (by simp)
    clear hown hgr hi0 hz0 hz1 hz2
    refine Lib.hid ?_
    go_wp2_with (at_make; refine wpList_make_full _ rfl _ _ 37 rfl w6.heap.size 4 j0 (.bool false) 1 Try.underlying37 hj0 hy0 hy1 _ _ _ _ p.length rfl rfl rfl rfl (by rw [hy2]; omega) (by unfold maxLen; omega) (Nat.le_refl _) ?_; intro w7 hown hgr; refine Hid.out ?_)
    have hS : Bls2 w7 w6.heap.size (.slice (some ⟨w6.heap.size, 0, none⟩) p.length p.length) (snK p 0) := by
      rw [snK_zero]
      unfold Bls2 Own
      generalize p.length = n2 at hown ⊢
      rw [List.length_replicate, List.map_replicate]
      have e9 := hown
      rw [Nat.mul_one] at e9
      have e8 : (madeCells (Value.bool false).cells n2).toList = List.replicate n2 (Value.bool false) := toList_madeCells_one _ _
      rw [e8] at e9
      exact e9
    have b7' : Below w6.heap.size w6 w7 := (Below.refl _ _).grown hgr (Nat.le_refl _) (by simp)
    replace hI := hI.below b7'
    have b7 : Below w5.heap.size w5 w7 := b6.trans (b7'.mono b6.size)
    have hN6 : w5.heap.size < w6.heap.size := by have := hI.under w5.heap.size rfl; have := hS.own_ge (g := w6.heap.size) rfl; have := b6.size; exact Classical.byContradiction fun hn => own_ne_rowB hS hI (a := w6.heap.size) (b := w5.heap.size) rfl rfl (by omega)
    have HG := Lib.hid (fun W (hW : Below w5.heap.size w5 W) => hg.below hW)
    have HY := Lib.hid (fun W (hW : Below w5.heap.size w5 W) k (hk : k < (fsts p).length) => (iy.below hW).atSl k (by rw [hol]; exact hk))
    have BW := Lib.hid (b1.trans (B5.mono b1.size))
    have hs5 := B5.size
    clear hown hgr hj0 hy0 hy1 hy2 hg iy b6 b7' b1
    generalize w6.heap.size = N6 at *
    refine Lib.hid ?_
    go_wp2
    have hfm : (fsts p).length ≤ 12 := by omega
    generalize hm : (fsts p).length = m at *
    have HM := Lib.hid hm
    clear hm hol
    have hSz : N6 < w7.heap.size := hS.under N6 rfl
    go_loopw [14] (fun x wr => ∃ k : Nat, k ≤ m ∧ x = .int .i64 k ∧ Ints wr w5.heap.size (.slice (some ⟨w5.heap.size, 0, none⟩) p.length p.length) (smK p k) ∧ Bls2 wr N6 (.slice (some ⟨N6, 0, none⟩) p.length p.length) (snK p k) ∧ Below w5.heap.size w5 wr ∧ N6 < wr.heap.size) (fun x _ => m - (intOf x).toNat)
    case atStart => exact ⟨0, Nat.zero_le _, rfl, hI, hS, b7, hSz⟩
    case round =>
      clear hI hS b7 hSz
      obtain ⟨k, hk, rfl, hI, hS, hb, hz⟩ := hrel
      have hbs := hb.size
      by_cases hlt : k < m
      · have HT := HPT.out k hlt wr (B5.trans (hb.mono hs5))
        have HP2 := Lib.hid (HPP.out k hlt)
        have hob := HOB.out k (by rw [HOL.out]; exact hlt)
        have HF2 := Lib.hid (HFM.out k hlt)
        have HAB2 := Lib.hid (HAB.out k · hlt)
        have HKS2 := Lib.hid (HKS.out k · hlt)
        have HOO2 := Lib.hid (HOO.out k · hlt)
        have HWA2 := Lib.hid (HWA.out k hlt)
        have hwl := HWL.out k hlt
        have HSN2 := Lib.hid (HSN.out k · hlt)
        have HSA2 := Lib.hid (HSA.out k hlt)
        have HGW2 := Lib.hid (HGW.out k hlt)
        go_wp2_with fail
        refine HT.mono ?_
        rintro e w8 ⟨u, rfl, iu, b8⟩
        replace hb := hb.trans (b8.mono hbs)
        replace hI := hI.below b8
        replace hS := hS.below b8
        have hC : N6 < wr.heap.size := hz
        replace hz : N6 < w8.heap.size := Nat.lt_of_lt_of_le hz b8.size
        obtain ⟨ua, uc, rfl⟩ := ints_slOr iu
        rw [aloneL_len]
        rw [aloneL_len] at iu
        have HQL := Lib.hid (aloneL_len p ((fsts p).getD k 0))
        clear HT b8 hbs
        have hbs := hb.size
        have HP3 := HP2.out w8 _ _ iu
        go_wp2_with fail
        refine HP3.mono ?_
        rintro e w9 ⟨rfl, b9⟩
        replace hb := hb.trans (b9.mono hbs)
        replace hI := hI.below b9
        replace hS := hS.below b9
        replace iu := iu.below b9
        replace hz : N6 < w9.heap.size := Nat.lt_of_lt_of_le hz b9.size
        obtain ⟨gy, e9, cy⟩ := HY.out w9 hb k hlt
        cases e9
        have hF3 := HF2.out
        clear HP3 b9 hbs HPT HPP HOO HFM HOB HGW HWL HWA HKS HKA HSA HSN HAB HIX HY HIP HF2 HP2
        have hbs := hb.size
        generalize aloneL p ((fsts p).getD k 0) = Q at *
        generalize (opsL p).getD k 0 = z at *
        obtain ⟨C, hCE⟩ : ∃ C, wr.heap.size = C := ⟨_, rfl⟩
        rw [hCE] at iu hC
        clear hCE
        rcases Int.lt_or_le 0 z with hz0 | hz0
        · have hF4 := hF3 hz0
          clear hF3
          have hzn1 : 1 ≤ z * (p.length : Int) := by have := Int.mul_le_mul (show (1 : Int) ≤ z by omega) (show (1 : Int) ≤ (p.length : Int) by omega) (by omega) (by omega); omega
          have hzn2 : z * (p.length : Int) ≤ 180 := by have := Int.mul_le_mul (show z ≤ 15 by omega) (show (p.length : Int) ≤ 12 by omega) (by omega) (by omega); omega
          have g1 : decide (0 < z) = true := decide_eq_true hz0
          have g2 : (FP % (z * (p.length : Int)) != 0) = false := by rw [hF4]; rfl
          clear hF4
          go_wp2
          clear g1 g2 hzn1 hzn2
          go_loopw [19] (fun x wv => ∃ i : Nat, i ≤ p.length ∧ x = .int .i64 i ∧ Ints wv w5.heap.size (.slice (some ⟨w5.heap.size, 0, none⟩) p.length p.length) (smI p k i) ∧ Bls2 wv N6 (.slice (some ⟨N6, 0, none⟩) p.length p.length) (snK p k) ∧ Ints wv C (.slice ua p.length uc) Q ∧ Below w5.heap.size w5 wv ∧ N6 < wv.heap.size) (fun x _ => p.length - (intOf x).toNat)
          case atStart => exact ⟨0, Nat.zero_le _, rfl, by rw [smI_zero]; exact hI, hS, iu, hb, hz⟩
          case round =>
            clear hI hS iu hb hz hbs
            obtain ⟨i, hi, rfl, hI, hS, iu, hb, hz⟩ := hrel
            have hbs := hb.size
            by_cases hit : i < p.length
            · have c1 := hI.cell i (by rw [smI_len p k i hi]; exact hit)
              rw [smI_at p k i hit] at c1
              have f1 := hI.free i
              obtain ⟨gq, rfl, cq⟩ := iu.atSl i (by rw [HQL.out]; exact hit)
              have hsum := HKS2.out i hit
              have hab := HAB2.out i hit
              have hkb := HKB.out k i hit
              have hn := hI.set i ((smK p (k + 1)).getD i 0)
              rw [smI_set k i hit] at hn
              have hS2 := hS.setElse w5.heap.size i (.int .i64 ((smK p (k + 1)).getD i 0)) hN6
              have iu2 := iu.setElse w5.heap.size i (.int .i64 ((smK p (k + 1)).getD i 0)) (by omega)
              have hb2 := hb.setCell (p := ⟨w5.heap.size, i, none⟩) (Nat.le_refl _) (.int .i64 ((smK p (k + 1)).getD i 0))
              have hz2 : N6 < (wr.setCell ⟨w5.heap.size, i, none⟩ (.int .i64 ((smK p (k + 1)).getD i 0))).heap.size := by simpa using hz
              rw [← hsum] at hn hS2 iu2 hb2 hz2
              clear hI hS iu hb hz HKB HKS2 HAB2 HOO2 HWA2 HSN2 HSA2 HGW2 HG hsum
              generalize (smK p k).getD i 0 = s1 at *
              generalize Q.getD i 0 = s2 at *
              have hwr : IntKind.i64.wrap (s1 + s2) = s1 + s2 := IntWalk.i64_in _ (by omega)
              go_wp2
              go_region
              go_wp2
              go_roundw
              case rel => exact ⟨i + 1, by omega, by go_num, hn, hS2, iu2, below_drew1 hb2, hz2⟩
              case measure => simp [intOf]; omega
            · obtain rfl : i = p.length := by omega
              rw [smI_all] at hI
              rw [← snI_zero] at hS
              clear iu
              obtain ⟨gx, rfl, gw, cw, cg, hgx, hgw, hcw⟩ := HGW2.out wr _ _ _ _ (HG.out wr hb)
              have HCG := Lib.hid (fun W (hW : Below w5.heap.size w5 W) => show ∃ gw cw, W.cell? ⟨gx, k, none⟩ = some (.slice (some ⟨gw, 0, none⟩) (wayL p ((fsts p).getD k 0)).length cw) ∧ ∀ q, q < (wayL p ((fsts p).getD k 0)).length → W.cell? ⟨gw, q, none⟩ = some (.int .i64 ((wayL p ((fsts p).getD k 0)).getD q 0 : Nat)) from by
                obtain ⟨_, e9, gw, cw, cg, _, _, hcw⟩ := HGW2.out W _ _ _ _ (HG.out W hW)
                cases e9
                exact ⟨gw, cw, cg, hcw⟩)
              clear cg hgx hgw hcw
              generalize hML : (wayL p ((fsts p).getD k 0)).length = M at *
              have HML := Lib.hid hML
              clear hML
              obtain ⟨hw1, hw2⟩ := hwl
              have hi0 : Bls2 wr N6 (.slice (some ⟨N6, 0, none⟩) p.length p.length) (snI p k 0) := hS
              go_wp2
              go_loopw [20] (fun x wv => ∃ i : Nat, i ≤ M ∧ x = .int .i64 i ∧ Ints wv w5.heap.size (.slice (some ⟨w5.heap.size, 0, none⟩) p.length p.length) (smK p (k + 1)) ∧ Bls2 wv N6 (.slice (some ⟨N6, 0, none⟩) p.length p.length) (snI p k i) ∧ Below w5.heap.size w5 wv ∧ N6 < wv.heap.size) (fun x _ => M - (intOf x).toNat)
              case atStart => exact ⟨0, Nat.zero_le _, rfl, hI, hi0, hb, hz⟩
              case round =>
                clear hI hS hb hz hbs hi0
                obtain ⟨i, hi, rfl, hI, hS, hb, hz⟩ := hrel
                have hbs := hb.size
                obtain ⟨gw2, cw2, cg, hcw⟩ := HCG.out _ hb
                by_cases hit : i < M
                · have c1 := hcw i hit
                  have ha := HWA2.out i hit
                  have c2 := hS.cell false ((wayL p ((fsts p).getD k 0)).getD i 0) (by rw [snI_len]; exact ha)
                  rw [HSN2.out i hit] at c2
                  have f2 := hS.free ((wayL p ((fsts p).getD k 0)).getD i 0)
                  have hS2 := hS.set ((wayL p ((fsts p).getD k 0)).getD i 0) true
                  rw [snI_set (by rw [HML.out]; exact hit)] at hS2
                  have hb2 := hb.setCell (p := ⟨N6, (wayL p ((fsts p).getD k 0)).getD i 0, none⟩) (show w5.heap.size ≤ N6 by omega) (.bool true)
                  have hI2 : Ints (wr.setCell ⟨N6, (wayL p ((fsts p).getD k 0)).getD i 0, none⟩ (.bool true)) w5.heap.size (.slice (some ⟨w5.heap.size, 0, none⟩) p.length p.length) (smK p (k + 1)) := hI.block fun j hj _ => Below.heap_setCell _ _ _ _ (by have hj' : w5.heap.size = j := (by simpa [Value.ownBlock] using hj); simp; omega)
                  have hz2 : N6 < (wr.setCell ⟨N6, (wayL p ((fsts p).getD k 0)).getD i 0, none⟩ (.bool true)).heap.size := by simpa using hz
                  have HO2 := HOO2.out i hit _ (B5.trans (hb2.mono hs5))
                  clear hI hS hb hcw HCG HWA2 HSN2 HSA2 HOO2 HML HGW2 HG
                  generalize (wayL p ((fsts p).getD k 0)).getD i 0 = z2 at *
                  go_wp2_with fail
                  refine HO2.mono ?_
                  rintro e wo ⟨rfl, bo⟩
                  have hI3 := hI2.below bo
                  have hS3 := hS2.below bo
                  have hb3 := hb2.trans (bo.mono hb2.size)
                  have hz3 : N6 < wo.heap.size := Nat.lt_of_lt_of_le hz2 bo.size
                  clear HO2 hI2 hS2 hb2 hz2 bo
                  go_wp2
                  go_roundw
                  case rel => exact ⟨i + 1, by omega, by go_num, hI3, hS3, hb3, hz3⟩
                  case measure => simp [intOf]; omega
                · obtain rfl : i = M := by omega
                  rw [HSA2.out] at hS
                  clear hcw
                  go_wp2
                  go_roundw
                  case rel => exact ⟨k + 1, by omega, by go_num, hI, hS, hb, hz⟩
                  case measure => simp [intOf]; omega
        · obtain rfl : z = 0 := by omega
          clear hF3
          go_wp2
          go_loopw [19] (fun x wv => ∃ i : Nat, i ≤ p.length ∧ x = .int .i64 i ∧ Ints wv w5.heap.size (.slice (some ⟨w5.heap.size, 0, none⟩) p.length p.length) (smI p k i) ∧ Bls2 wv N6 (.slice (some ⟨N6, 0, none⟩) p.length p.length) (snK p k) ∧ Ints wv C (.slice ua p.length uc) Q ∧ Below w5.heap.size w5 wv ∧ N6 < wv.heap.size) (fun x _ => p.length - (intOf x).toNat)
          case atStart => exact ⟨0, Nat.zero_le _, rfl, by rw [smI_zero]; exact hI, hS, iu, hb, hz⟩
          case round =>
            clear hI hS iu hb hz hbs
            obtain ⟨i, hi, rfl, hI, hS, iu, hb, hz⟩ := hrel
            have hbs := hb.size
            by_cases hit : i < p.length
            · have c1 := hI.cell i (by rw [smI_len p k i hi]; exact hit)
              rw [smI_at p k i hit] at c1
              have f1 := hI.free i
              obtain ⟨gq, rfl, cq⟩ := iu.atSl i (by rw [HQL.out]; exact hit)
              have hsum := HKS2.out i hit
              have hab := HAB2.out i hit
              have hkb := HKB.out k i hit
              have hn := hI.set i ((smK p (k + 1)).getD i 0)
              rw [smI_set k i hit] at hn
              have hS2 := hS.setElse w5.heap.size i (.int .i64 ((smK p (k + 1)).getD i 0)) hN6
              have iu2 := iu.setElse w5.heap.size i (.int .i64 ((smK p (k + 1)).getD i 0)) (by omega)
              have hb2 := hb.setCell (p := ⟨w5.heap.size, i, none⟩) (Nat.le_refl _) (.int .i64 ((smK p (k + 1)).getD i 0))
              have hz2 : N6 < (wr.setCell ⟨w5.heap.size, i, none⟩ (.int .i64 ((smK p (k + 1)).getD i 0))).heap.size := by simpa using hz
              rw [← hsum] at hn hS2 iu2 hb2 hz2
              clear hI hS iu hb hz HKB HKS2 HAB2 HOO2 HWA2 HSN2 HSA2 HGW2 HG hsum
              generalize (smK p k).getD i 0 = s1 at *
              generalize Q.getD i 0 = s2 at *
              have hwr : IntKind.i64.wrap (s1 + s2) = s1 + s2 := IntWalk.i64_in _ (by omega)
              go_wp2
              go_region
              go_wp2
              go_roundw
              case rel => exact ⟨i + 1, by omega, by go_num, hn, hS2, iu2, below_drew1 hb2, hz2⟩
              case measure => simp [intOf]; omega
            · obtain rfl : i = p.length := by omega
              rw [smI_all] at hI
              rw [← snI_zero] at hS
              clear iu
              obtain ⟨gx, rfl, gw, cw, cg, hgx, hgw, hcw⟩ := HGW2.out wr _ _ _ _ (HG.out wr hb)
              have HCG := Lib.hid (fun W (hW : Below w5.heap.size w5 W) => show ∃ gw cw, W.cell? ⟨gx, k, none⟩ = some (.slice (some ⟨gw, 0, none⟩) (wayL p ((fsts p).getD k 0)).length cw) ∧ ∀ q, q < (wayL p ((fsts p).getD k 0)).length → W.cell? ⟨gw, q, none⟩ = some (.int .i64 ((wayL p ((fsts p).getD k 0)).getD q 0 : Nat)) from by
                obtain ⟨_, e9, gw, cw, cg, _, _, hcw⟩ := HGW2.out W _ _ _ _ (HG.out W hW)
                cases e9
                exact ⟨gw, cw, cg, hcw⟩)
              clear cg hgx hgw hcw
              generalize hML : (wayL p ((fsts p).getD k 0)).length = M at *
              have HML := Lib.hid hML
              clear hML
              obtain ⟨hw1, hw2⟩ := hwl
              have hi0 : Bls2 wr N6 (.slice (some ⟨N6, 0, none⟩) p.length p.length) (snI p k 0) := hS
              go_wp2
              go_loopw [20] (fun x wv => ∃ i : Nat, i ≤ M ∧ x = .int .i64 i ∧ Ints wv w5.heap.size (.slice (some ⟨w5.heap.size, 0, none⟩) p.length p.length) (smK p (k + 1)) ∧ Bls2 wv N6 (.slice (some ⟨N6, 0, none⟩) p.length p.length) (snI p k i) ∧ Below w5.heap.size w5 wv ∧ N6 < wv.heap.size) (fun x _ => M - (intOf x).toNat)
              case atStart => exact ⟨0, Nat.zero_le _, rfl, hI, hi0, hb, hz⟩
              case round =>
                clear hI hS hb hz hbs hi0
                obtain ⟨i, hi, rfl, hI, hS, hb, hz⟩ := hrel
                have hbs := hb.size
                obtain ⟨gw2, cw2, cg, hcw⟩ := HCG.out _ hb
                by_cases hit : i < M
                · have c1 := hcw i hit
                  have ha := HWA2.out i hit
                  have c2 := hS.cell false ((wayL p ((fsts p).getD k 0)).getD i 0) (by rw [snI_len]; exact ha)
                  rw [HSN2.out i hit] at c2
                  have f2 := hS.free ((wayL p ((fsts p).getD k 0)).getD i 0)
                  have hS2 := hS.set ((wayL p ((fsts p).getD k 0)).getD i 0) true
                  rw [snI_set (by rw [HML.out]; exact hit)] at hS2
                  have hb2 := hb.setCell (p := ⟨N6, (wayL p ((fsts p).getD k 0)).getD i 0, none⟩) (show w5.heap.size ≤ N6 by omega) (.bool true)
                  have hI2 : Ints (wr.setCell ⟨N6, (wayL p ((fsts p).getD k 0)).getD i 0, none⟩ (.bool true)) w5.heap.size (.slice (some ⟨w5.heap.size, 0, none⟩) p.length p.length) (smK p (k + 1)) := hI.block fun j hj _ => Below.heap_setCell _ _ _ _ (by have hj' : w5.heap.size = j := (by simpa [Value.ownBlock] using hj); simp; omega)
                  have hz2 : N6 < (wr.setCell ⟨N6, (wayL p ((fsts p).getD k 0)).getD i 0, none⟩ (.bool true)).heap.size := by simpa using hz
                  have HO2 := HOO2.out i hit _ (B5.trans (hb2.mono hs5))
                  clear hI hS hb hcw HCG HWA2 HSN2 HSA2 HOO2 HML HGW2 HG
                  generalize (wayL p ((fsts p).getD k 0)).getD i 0 = z2 at *
                  go_wp2_with fail
                  refine HO2.mono ?_
                  rintro e wo ⟨rfl, bo⟩
                  have hI3 := hI2.below bo
                  have hS3 := hS2.below bo
                  have hb3 := hb2.trans (bo.mono hb2.size)
                  have hz3 : N6 < wo.heap.size := Nat.lt_of_lt_of_le hz2 bo.size
                  clear HO2 hI2 hS2 hb2 hz2 bo
                  go_wp2
                  go_roundw
                  case rel => exact ⟨i + 1, by omega, by go_num, hI3, hS3, hb3, hz3⟩
                  case measure => simp [intOf]; omega
                · obtain rfl : i = M := by omega
                  rw [HSA2.out] at hS
                  clear hcw
                  go_wp2
                  go_roundw
                  case rel => exact ⟨k + 1, by omega, by go_num, hI, hS, hb, hz⟩
                  case measure => simp [intOf]; omega
      · obtain rfl : k = m := by omega
        have hSK : smK p k = p := HKA.out
        rw [hSK] at hI
        have HIXX := Lib.hid (fun (j : Nat) (hj : j < p.length) => show (snK p k).getD j false = true from by
          rw [snK_at p k j hj]
          exact decide_eq_true (HIX.out j hj))
        have HSL := Lib.hid (snK_len p k)
        have HBP := Lib.hid (HIP.out wr (B5.trans (hb.mono hs5)))
        clear HPT HPP HOO HFM HOB HGW HWL HWA HKS HKA HSA HSN HAB HKB HIX HG HY HIP hSK
        go_wp2
        go_loop [24] (fun x => ∃ j : Nat, j ≤ p.length ∧ x = .int .i64 j) (fun x => p.length - (intOf x).toNat)
        case atStart => exact ⟨0, Nat.zero_le _, rfl⟩
        case round =>
          obtain ⟨j, hj, rfl⟩ := hrel
          by_cases hjt : j < p.length
          · have c1 := hS.cell false j (by rw [HSL.out]; exact hjt)
            rw [HIXX.out j hjt] at c1
            clear HIXX HSL HBP
            go_wp2
            go_round
            case rel => exact ⟨j + 1, by omega, by go_num⟩
            case measure => simp [intOf]; omega
          · obtain rfl : j = p.length := by omega
            have HA := a2Same_any _ _ _ _ _ _ wr hI HBP.out
            rw [sameL_yes rfl] at HA
            clear HIXX HSL HBP
            go_wp2_with fail
            refine HA.mono ?_
            rintro e w9 ⟨rfl, b9⟩
            go_wp2
            go_ret
            exact ⟨rfl, BW.out.trans ((hb.trans (b9.mono hbs)).mono BW.out.size)⟩
end Go.Proofs.Ytlpeigeadjojnab
