/- The walk of the law FnExactApartOf: it returns true. No conditions. -/
import Derived.Test.YtjhhldfhfebboaaAprH
import Derived.Test.YtjhhldfhfebboaaPasT
import Derived.Test.YtjhhldfhfebboaaPasE
import Derived.Deep.RegionHeld3
namespace Go.Proofs.Ytjhhldfhfebboaa
open Go.RowKit
set_option linter.unusedSimpArgs false
set_option linter.unusedVariables false

set_option maxRecDepth 100000 in
set_option maxHeartbeats 8000000 in
theorem walk_ApartOf (a0 b0 : Option Addr) (la0 ca0 lb0 cb0 : Nat) (y0 z0 : List Pt) (w : World) (wa0 : IsPas w a0 la0 ca0 y0) (wb0 : IsPas w b0 lb0 cb0 z0) :
    Calls Try.prog 4 #[.agg #[.slice a0 la0 ca0, .slice b0 lb0 cb0]] w fun e w' => e = .returned (.bool true) ∧ Below w.heap.size w w' := by
  have hm0 := wa0.max
  have hn0 := wb0.max
  have E0 := one_par w (.slice a0 la0 ca0) (.slice b0 lb0 cb0) 24
  have BB : Below w.heap.size w (w.alloc (.cells #[.slice a0 la0 ca0, .slice b0 lb0 cb0] 24)) := (Below.refl w.heap.size w).alloc (Nat.le_refl _) _
  have HSP := fun va vb B C W (h : PasP W B C va vb y0 z0) => apartOf_spec va vb B C y0 z0 W h
  have HIP := fun va vb B C W (h : PasP W B C va vb y0 z0) => apartOf_impl va vb B C y0 z0 W h
  have hlA : (arA y0 z0).length ≤ 8 := arL_A y0 z0
  have hlB : (arB y0 z0).length ≤ 8 := arL_B y0 z0
  generalize arA y0 z0 = LA at *
  generalize arB y0 z0 = LB at *
  generalize arC y0 z0 = kC at *
  have HSP := Lib.hid HSP
  have HIP := Lib.hid HIP
  go_enter Try.func4, Try.ntmps4
  have cE00 := E0.fst
  have cE01 := E0.snd
  have HC := szPassing_any a0 b0 la0 ca0 lb0 cb0 1048576 (w.alloc (.cells #[.slice a0 la0 ca0, .slice b0 lb0 cb0] 24)) hm0 hn0 (by omega) (by omega)
  go_wp2_with fail
  refine HC.mono ?_
  rintro e wd1 ⟨r0, rfl, hr0, bb⟩
  clear HC
  clear cE00 cE01
  have S1 := bb.size
  try simp only [World.size_alloc] at S1
  replace E0 := E0.below bb
  replace BB := BB.trans (bb.mono BB.size)
  clear bb
  rcases hr0 with rfl | ⟨hrp0, hrv0⟩
  · go_wp2
    go_ret
    exact ⟨rfl, BB⟩
  have HRV0 := Lib.hid hrv0
  have hla0 : la0 ≤ 1048576 := by omega
  have hlb0 : lb0 ≤ 1048576 := by omega
  have hrq0 : r0 ≤ 1048576 := by omega
  clear hrv0
  have hly0 : y0.length ≤ 1048576 := by have := wa0.num; omega
  have hlz0 : z0.length ≤ 1048576 := by have := wb0.num; omega
  have cE00 := E0.fst
  have cE01 := E0.snd
  have HC := toPassing_any a0 b0 la0 ca0 lb0 cb0 y0 z0 _ (wa0.below pasV_len BB) (wb0.below pasV_len BB) hla0 hlb0
  go_wp2_with fail
  refine HC.mono ?_
  rintro e wd2 ⟨xF1, yF1, zF1, pF1, qF1, rF1, rfl, F1, bb⟩
  clear HC
  clear cE00 cE01
  have S2 := bb.size
  try simp only [World.size_alloc] at S2
  replace E0 := E0.below bb
  replace BB := BB.trans (bb.mono BB.size)
  clear bb
  try simp only [World.size_alloc] at F1
  have cE00 := E0.fst
  have cE01 := E0.snd
  have HC := HSP.out _ _ _ _ _ F1
  go_wp2_with fail
  refine HC.mono ?_
  rintro e wd3 ⟨uF2, vF2, rfl, F2, bb⟩
  clear HC
  clear cE00 cE01
  have S3 := bb.size
  try simp only [World.size_alloc] at S3
  replace F1 := F1.below bb
  replace E0 := E0.below bb
  replace BB := BB.trans (bb.mono BB.size)
  clear bb
  try simp only [World.size_alloc] at F2
  clear F1 HSP
  have cE00 := E0.fst
  have cE01 := E0.snd
  have HC := toPassing_any a0 b0 la0 ca0 lb0 cb0 y0 z0 _ (wa0.below pasV_len BB) (wb0.below pasV_len BB) hla0 hlb0
  go_wp2_with fail
  refine HC.mono ?_
  rintro e wd4 ⟨xF3, yF3, zF3, pF3, qF3, rF3, rfl, F3, bb⟩
  clear HC
  clear cE00 cE01
  have S4 := bb.size
  try simp only [World.size_alloc] at S4
  replace F2 := F2.below bb
  replace E0 := E0.below bb
  replace BB := BB.trans (bb.mono BB.size)
  clear bb
  try simp only [World.size_alloc] at F3
  have al := al2 wd4 (.slice xF3 yF3 zF3) (.slice pF3 qF3 rF3)
  have VF3 := Va2.made wd4 (.slice xF3 yF3 zF3) (.slice pF3 qF3 rF3)
  replace F2 := F2.below al
  replace F3 := F3.below al
  replace E0 := E0.below al
  replace BB := BB.trans (al.mono BB.size)
  clear al
  have TF3 := VF3.lt
  try simp only [World.size_alloc] at TF3
  have cE00 := E0.fst
  have cE01 := E0.snd
  have cVF30 := VF3.fst
  have cVF31 := VF3.snd
  have HC := HIP.out _ _ _ _ _ F3
  go_wp2_with fail
  refine HC.mono ?_
  rintro e wd5 ⟨uF4, vF4, rfl, F4, bb⟩
  clear HC
  clear cE00 cE01 cVF30 cVF31
  have S5 := bb.size
  try simp only [World.size_alloc] at S5
  replace F2 := F2.below bb
  replace F3 := F3.below bb
  replace E0 := E0.below bb
  replace VF3 := VF3.below bb
  replace BB := BB.trans (bb.mono BB.size)
  clear bb
  try simp only [World.size_alloc] at F4
  have cE00 := E0.fst
  have cE01 := E0.snd
  have cVF30 := VF3.fst
  have cVF31 := VF3.snd
  have HC := eqInt64S_any _ _ _ _ _ _ F4.fst F2.fst
  go_wp2_with fail
  refine HC.mono ?_
  rintro e wd6 ⟨rfl, bb⟩
  clear HC
  clear cE00 cE01 cVF30 cVF31
  have S6 := bb.size
  try simp only [World.size_alloc] at S6
  replace F2 := F2.below bb
  replace F3 := F3.below bb
  replace F4 := F4.below bb
  replace E0 := E0.below bb
  replace VF3 := VF3.below bb
  replace BB := BB.trans (bb.mono BB.size)
  clear bb
  have cE00 := E0.fst
  have cE01 := E0.snd
  have cVF30 := VF3.fst
  have cVF31 := VF3.snd
  have HC := eqInt64S_any _ _ _ _ _ _ F4.snd F2.snd
  go_wp2_with fail
  refine HC.mono ?_
  rintro e wd7 ⟨rfl, bb⟩
  clear HC
  clear cE00 cE01 cVF30 cVF31
  have S7 := bb.size
  try simp only [World.size_alloc] at S7
  replace F2 := F2.below bb
  replace F3 := F3.below bb
  replace F4 := F4.below bb
  replace E0 := E0.below bb
  replace VF3 := VF3.below bb
  replace BB := BB.trans (bb.mono BB.size)
  clear bb
  have HC0 := Lib.hid (fun W (hW : Below wd7.heap.size wd7 W) => show W.cell? ⟨wd4.heap.size, 0, none⟩ = some (.slice xF3 yF3 zF3) from ((VF3.below hW).fst))
  have HC1 := Lib.hid (fun W (hW : Below wd7.heap.size wd7 W) => show W.cell? ⟨wd4.heap.size, 1, none⟩ = some (.slice pF3 qF3 rF3) from ((VF3.below hW).snd))
  have HC2 := Lib.hid (fun W (hW : Below wd7.heap.size wd7 W) => show W.cell? ⟨w.heap.size, 0, none⟩ = some (.slice a0 la0 ca0) from ((E0.below hW).fst))
  have HC3 := Lib.hid (fun W (hW : Below wd7.heap.size wd7 W) => show W.cell? ⟨w.heap.size, 1, none⟩ = some (.slice b0 lb0 cb0) from ((E0.below hW).snd))
  have HT0 := Lib.hid (fun W (hW : Below wd7.heap.size wd7 W) => show Calls Try.prog 13 #[.agg #[.slice a0 la0 ca0, .slice b0 lb0 cb0]] W fun e w' => ∃ x y z p q r, e = .returned (.agg #[.slice x y z, .slice p q r]) ∧ PasP w' W.heap.size w'.heap.size (.slice x y z) (.slice p q r) y0 z0 ∧ Below W.heap.size W w' ∧ Below wd7.heap.size wd7 w' ∧ w'.cell? ⟨wd4.heap.size, 0, none⟩ = some (.slice xF3 yF3 zF3) ∧ w'.cell? ⟨wd4.heap.size, 1, none⟩ = some (.slice pF3 qF3 rF3) ∧ w'.cell? ⟨w.heap.size, 0, none⟩ = some (.slice a0 la0 ca0) ∧ w'.cell? ⟨w.heap.size, 1, none⟩ = some (.slice b0 lb0 cb0) from
    (toPassing_any a0 b0 la0 ca0 lb0 cb0 y0 z0 W (wa0.below pasV_len (BB.trans (hW.mono BB.size))) (wb0.below pasV_len (BB.trans (hW.mono BB.size))) hla0 hlb0).mono fun e w' ⟨x, y, z, p, q, r, he, hg, hb⟩ => by
      have hb2 := hW.trans (hb.mono hW.size)
      exact ⟨x, y, z, p, q, r, he, hg, hb, hb2, HC0.out _ hb2, HC1.out _ hb2, HC2.out _ hb2, HC3.out _ hb2⟩)
  have HE := Lib.hid (fun W (hW : Below wd7.heap.size wd7 W) x y z p q r lo hi (h1 : PasP W lo hi (.slice x y z) (.slice p q r) y0 z0) => show Calls Try.prog 16 #[.agg #[.slice xF3 yF3 zF3, .slice pF3 qF3 rF3], .agg #[.slice x y z, .slice p q r]] W fun e w' => e = .returned (.bool true) ∧ Below wd7.heap.size wd7 w' ∧ w'.cell? ⟨wd4.heap.size, 0, none⟩ = some (.slice xF3 yF3 zF3) ∧ w'.cell? ⟨wd4.heap.size, 1, none⟩ = some (.slice pF3 qF3 rF3) ∧ w'.cell? ⟨w.heap.size, 0, none⟩ = some (.slice a0 la0 ca0) ∧ w'.cell? ⟨w.heap.size, 1, none⟩ = some (.slice b0 lb0 cb0) from
    (eqPassing_any _ _ _ _ _ _ _ _ _ _ W (F3.below hW) h1).mono fun e w' ⟨he, hb⟩ => by
      have hb2 := hW.trans (hb.mono hW.size)
      exact ⟨he, hb2, HC0.out _ hb2, HC1.out _ hb2, HC2.out _ hb2, HC3.out _ hb2⟩)
  have cc0 := HC0.out _ (Below.refl _ _)
  have cc1 := HC1.out _ (Below.refl _ _)
  have cc2 := HC2.out _ (Below.refl _ _)
  have cc3 := HC3.out _ (Below.refl _ _)
  have bA := Below.refl wd7.heap.size wd7
  go_wp2
  go_region_held3 (fun W => Below wd7.heap.size wd7 W ∧ W.cell? ⟨wd4.heap.size, 0, none⟩ = some (.slice xF3 yF3 zF3) ∧ W.cell? ⟨wd4.heap.size, 1, none⟩ = some (.slice pF3 qF3 rF3) ∧ W.cell? ⟨w.heap.size, 0, none⟩ = some (.slice a0 la0 ca0) ∧ W.cell? ⟨w.heap.size, 1, none⟩ = some (.slice b0 lb0 cb0)) (first | exact ⟨by assumption, by assumption, by assumption, by assumption, by assumption⟩ | exact ⟨Below.drew (by assumption), by assumption, by assumption, by assumption, by assumption⟩ | exact ⟨Below.refl _ _, by assumption, by assumption, by assumption, by assumption⟩ | exact ⟨Below.drew (Below.refl _ _), by assumption, by assumption, by assumption, by assumption⟩) (first | (go_at_call 13; (with_reducible refine (HT0.out _ ?_).mono ?_); (repeat (first | assumption | exact Below.refl _ _ | refine Below.drew ?_ | refine below_drewN ?_ _)); rintro e va8 ⟨xa, ya, za, pa, qa, ra, rfl, hG1, hbW, hb1, hc0, hc1, hc2, hc3⟩) | (go_at_call 16; (first | have hE := HE.out _ hb1 _ _ _ _ _ _ _ _ hG1 | have hE := HE.out _ (Below.drew hb1) _ _ _ _ _ _ _ _ (PasP.drew hG1)); refine hE.mono ?_; rintro e wd8 ⟨rfl, bb, he0, he1, he2, he3⟩; clear hE))
  clear bA HT0 HE hc0 he0 hc1 he1 hc2 he2 hc3 he3 hG1 hbW hb1 HC0 cc0 HC1 cc1 HC2 cc2 HC3 cc3
  have S8 := bb.size
  try simp only [World.size_alloc] at S8
  replace F2 := F2.below bb
  replace F3 := F3.below bb
  replace F4 := F4.below bb
  replace E0 := E0.below bb
  replace VF3 := VF3.below bb
  replace BB := BB.trans (bb.mono BB.size)
  clear bb
  have cE00 := E0.fst
  have cE01 := E0.snd
  have cVF30 := VF3.fst
  have cVF31 := VF3.snd
  have HC := markPassing_any _ _ _ _ _ _ 1 _ F3 (by omega) (by omega)
  go_wp2_with fail
  refine HC.mono ?_
  rintro e wd9 ⟨rfl, NN, ww⟩
  clear HC
  clear cE00 cE01 cVF30 cVF31
  have S9 := ww.size
  try simp only [World.size_alloc] at S9
  replace BB := ww.below BB (by omega) BB.size
  replace F2 := F2.within ww (by omega)
  replace F4 := F4.within ww (by omega)
  replace E0 := E0.within ww (by omega)
  replace VF3 := VF3.within ww (by omega)
  replace F3 := NN
  clear NN ww
  have cE00 := E0.fst
  have cE01 := E0.snd
  have cVF30 := VF3.fst
  have cVF31 := VF3.snd
  have HC := eqInt64S_any _ _ _ _ _ _ F4.fst F2.fst
  go_wp2_with fail
  refine HC.mono ?_
  rintro e wd10 ⟨rfl, bb⟩
  clear HC
  clear cE00 cE01 cVF30 cVF31
  have S10 := bb.size
  try simp only [World.size_alloc] at S10
  replace F2 := F2.below bb
  replace F3 := F3.below bb
  replace F4 := F4.below bb
  replace E0 := E0.below bb
  replace VF3 := VF3.below bb
  replace BB := BB.trans (bb.mono BB.size)
  clear bb
  have cE00 := E0.fst
  have cE01 := E0.snd
  have cVF30 := VF3.fst
  have cVF31 := VF3.snd
  have HC := eqInt64S_any _ _ _ _ _ _ F4.snd F2.snd
  go_wp2_with fail
  refine HC.mono ?_
  rintro e wd11 ⟨rfl, bb⟩
  clear HC
  clear cE00 cE01 cVF30 cVF31
  have S11 := bb.size
  try simp only [World.size_alloc] at S11
  replace F2 := F2.below bb
  replace F3 := F3.below bb
  replace F4 := F4.below bb
  replace E0 := E0.below bb
  replace VF3 := VF3.below bb
  replace BB := BB.trans (bb.mono BB.size)
  clear bb
  have cE00 := E0.fst
  have cE01 := E0.snd
  have cVF30 := VF3.fst
  have cVF31 := VF3.snd
  have HC := markInt64S_any _ _ _ 1 _ F4.fst (by omega) (by omega)
  go_wp2_with fail
  refine HC.mono ?_
  rintro e wd12 ⟨rfl, NN, gr⟩
  clear HC
  clear cE00 cE01 cVF30 cVF31
  obtain ⟨MM, ww⟩ := F4.mark1 NN gr
  clear NN gr
  have S12 := ww.size
  try simp only [World.size_alloc] at S12
  replace BB := ww.below BB (by omega) BB.size
  replace F2 := F2.within ww (by omega)
  replace E0 := E0.within ww (by omega)
  replace VF3 := VF3.within ww (by omega)
  replace F4 := MM
  clear MM ww
  have cE00 := E0.fst
  have cE01 := E0.snd
  have cVF30 := VF3.fst
  have cVF31 := VF3.snd
  have HC := markInt64S_any _ _ _ (1 + (LA.length : Int)) _ F4.snd (by omega) (by omega)
  go_wp2_with fail
  refine HC.mono ?_
  rintro e wd13 ⟨rfl, NN, gr⟩
  clear HC
  clear cE00 cE01 cVF30 cVF31
  obtain ⟨MM, ww⟩ := F4.mark2 NN gr
  clear NN gr
  have S13 := ww.size
  try simp only [World.size_alloc] at S13
  replace BB := ww.below BB (by omega) BB.size
  replace F2 := F2.within ww (by omega)
  replace E0 := E0.within ww (by omega)
  replace VF3 := VF3.within ww (by omega)
  replace F4 := MM
  clear MM ww
  have cE00 := E0.fst
  have cE01 := E0.snd
  have cVF30 := VF3.fst
  have cVF31 := VF3.snd
  have HC := heldInt64S_any _ _ _ 1 _ F4.fst (by omega) (by omega)
  go_wp2_with fail
  refine HC.mono ?_
  rintro e wd14 ⟨rfl, bb⟩
  clear HC
  clear cE00 cE01 cVF30 cVF31
  have S14 := bb.size
  try simp only [World.size_alloc] at S14
  replace F2 := F2.below bb
  replace F4 := F4.below bb
  replace E0 := E0.below bb
  replace VF3 := VF3.below bb
  replace BB := BB.trans (bb.mono BB.size)
  clear bb
  have cE00 := E0.fst
  have cE01 := E0.snd
  have cVF30 := VF3.fst
  have cVF31 := VF3.snd
  have HC := heldInt64S_any _ _ _ (1 + (LA.length : Int)) _ F4.snd (by omega) (by omega)
  go_wp2_with fail
  refine HC.mono ?_
  rintro e wd15 ⟨rfl, bb⟩
  clear HC
  clear cE00 cE01 cVF30 cVF31
  have S15 := bb.size
  try simp only [World.size_alloc] at S15
  replace F2 := F2.below bb
  replace F4 := F4.below bb
  replace E0 := E0.below bb
  replace VF3 := VF3.below bb
  replace BB := BB.trans (bb.mono BB.size)
  clear bb
  have cE00 := E0.fst
  have cE01 := E0.snd
  have cVF30 := VF3.fst
  have cVF31 := VF3.snd
  have HC := toPassing_any a0 b0 la0 ca0 lb0 cb0 y0 z0 _ (wa0.below pasV_len BB) (wb0.below pasV_len BB) hla0 hlb0
  go_wp2_with fail
  refine HC.mono ?_
  rintro e wd16 ⟨xF5, yF5, zF5, pF5, qF5, rF5, rfl, F5, bb⟩
  clear HC
  clear cE00 cE01 cVF30 cVF31
  have S16 := bb.size
  try simp only [World.size_alloc] at S16
  replace F2 := F2.below bb
  replace F4 := F4.below bb
  replace E0 := E0.below bb
  replace VF3 := VF3.below bb
  replace BB := BB.trans (bb.mono BB.size)
  clear bb
  try simp only [World.size_alloc] at F5
  have cE00 := E0.fst
  have cE01 := E0.snd
  have cVF30 := VF3.fst
  have cVF31 := VF3.snd
  have HC := HIP.out _ _ _ _ _ F5
  go_wp2_with fail
  refine HC.mono ?_
  rintro e wd17 ⟨uF6, vF6, rfl, F6, bb⟩
  clear HC
  clear cE00 cE01 cVF30 cVF31
  have S17 := bb.size
  try simp only [World.size_alloc] at S17
  replace F2 := F2.below bb
  replace F4 := F4.below bb
  replace F5 := F5.below bb
  replace E0 := E0.below bb
  replace VF3 := VF3.below bb
  replace BB := BB.trans (bb.mono BB.size)
  clear bb
  try simp only [World.size_alloc] at F6
  clear F5 HIP
  have cE00 := E0.fst
  have cE01 := E0.snd
  have cVF30 := VF3.fst
  have cVF31 := VF3.snd
  have HC := eqInt64S_any _ _ _ _ _ _ F6.fst F2.fst
  go_wp2_with fail
  refine HC.mono ?_
  rintro e wd18 ⟨rfl, bb⟩
  clear HC
  clear cE00 cE01 cVF30 cVF31
  have S18 := bb.size
  try simp only [World.size_alloc] at S18
  replace F2 := F2.below bb
  replace F4 := F4.below bb
  replace F6 := F6.below bb
  replace E0 := E0.below bb
  replace VF3 := VF3.below bb
  replace BB := BB.trans (bb.mono BB.size)
  clear bb
  have cE00 := E0.fst
  have cE01 := E0.snd
  have cVF30 := VF3.fst
  have cVF31 := VF3.snd
  have HC := eqInt64S_any _ _ _ _ _ _ F6.snd F2.snd
  go_wp2_with fail
  refine HC.mono ?_
  rintro e wd19 ⟨rfl, bb⟩
  clear HC
  clear cE00 cE01 cVF30 cVF31
  have S19 := bb.size
  try simp only [World.size_alloc] at S19
  replace F2 := F2.below bb
  replace F4 := F4.below bb
  replace F6 := F6.below bb
  replace E0 := E0.below bb
  replace VF3 := VF3.below bb
  replace BB := BB.trans (bb.mono BB.size)
  clear bb
  have cE00 := E0.fst
  have cE01 := E0.snd
  have cVF30 := VF3.fst
  have cVF31 := VF3.snd
  have HC := heldInt64S_any _ _ _ 1 _ F4.fst (by omega) (by omega)
  go_wp2_with fail
  refine HC.mono ?_
  rintro e wd20 ⟨rfl, bb⟩
  clear HC
  clear cE00 cE01 cVF30 cVF31
  have S20 := bb.size
  try simp only [World.size_alloc] at S20
  replace F2 := F2.below bb
  replace F4 := F4.below bb
  replace F6 := F6.below bb
  replace E0 := E0.below bb
  replace VF3 := VF3.below bb
  replace BB := BB.trans (bb.mono BB.size)
  clear bb
  have cE00 := E0.fst
  have cE01 := E0.snd
  have cVF30 := VF3.fst
  have cVF31 := VF3.snd
  have HC := heldInt64S_any _ _ _ (1 + (LA.length : Int)) _ F4.snd (by omega) (by omega)
  go_wp2_with fail
  refine HC.mono ?_
  rintro e wd21 ⟨rfl, bb⟩
  clear HC
  clear cE00 cE01 cVF30 cVF31
  have S21 := bb.size
  try simp only [World.size_alloc] at S21
  replace F2 := F2.below bb
  replace F4 := F4.below bb
  replace F6 := F6.below bb
  replace E0 := E0.below bb
  replace VF3 := VF3.below bb
  replace BB := BB.trans (bb.mono BB.size)
  clear bb
  have cE00 := E0.fst
  have cE01 := E0.snd
  have cVF30 := VF3.fst
  have cVF31 := VF3.snd
  go_wp2
  go_ret
  exact ⟨rfl, BB⟩
end Go.Proofs.Ytjhhldfhfebboaa
