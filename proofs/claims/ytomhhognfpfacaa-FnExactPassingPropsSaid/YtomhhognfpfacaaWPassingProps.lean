/- The walk of the law FnExactPassingProps: it returns true. No conditions. -/
import Derived.Test.YtomhhognfpfacaaPasS
import Derived.Test.YtomhhognfpfacaaPasR
import Derived.Test.YtomhhognfpfacaaPasE
import Derived.Deep.RegionHeld3
namespace Go.Proofs.Ytomhhognfpfacaa
open Go.RowKit
set_option linter.unusedSimpArgs false
set_option linter.unusedVariables false

set_option maxRecDepth 100000 in
set_option maxHeartbeats 8000000 in
theorem walk_PassingProps (a0 b0 : Option Addr) (la0 ca0 lb0 cb0 : Nat) (y0 z0 : List Pt) (w : World) (wa0 : IsPas w a0 la0 ca0 y0) (wb0 : IsPas w b0 lb0 cb0 z0) :
    Calls Try.prog 9 #[.agg #[.slice a0 la0 ca0, .slice b0 lb0 cb0]] w fun e w' => e = .returned (.bool true) ∧ Below w.heap.size w w' := by
  have hm0 := wa0.max
  have hn0 := wb0.max
  have E0 := one_par w (.slice a0 la0 ca0) (.slice b0 lb0 cb0) 62
  have BB : Below w.heap.size w (w.alloc (.cells #[.slice a0 la0 ca0, .slice b0 lb0 cb0] 62)) := (Below.refl w.heap.size w).alloc (Nat.le_refl _) _
  go_enter Try.func9, Try.ntmps9
  have cE00 := E0.fst
  have cE01 := E0.snd
  have HC := szPassing_any a0 b0 la0 ca0 lb0 cb0 1048576 (w.alloc (.cells #[.slice a0 la0 ca0, .slice b0 lb0 cb0] 62)) hm0 hn0 (by omega) (by omega)
  go_wp2_with fail
  refine HC.mono ?_
  rintro e wd1 ⟨r0, rfl, hr0, bb⟩
  clear HC
  clear cE00 cE01
  have S1 := bb.size
  try simp only [World.size_alloc] at S1
  replace E0 := E0.below bb
  replace BB := BB.trans (bb.mono BB.size)
  clear bb
  rcases hr0 with rfl | ⟨hrp0, hrv0⟩
  · go_wp2
    go_ret
    exact ⟨rfl, BB⟩
  have HRV0 := Lib.hid hrv0
  have hla0 : la0 ≤ 1048576 := by omega
  have hlb0 : lb0 ≤ 1048576 := by omega
  have hrq0 : r0 ≤ 1048576 := by omega
  clear hrv0
  have HOP := Lib.hid (rfl : okPas y0 z0 = okPas y0 z0)
  have cE00 := E0.fst
  have cE01 := E0.snd
  have HC := toPassing_any a0 b0 la0 ca0 lb0 cb0 y0 z0 _ (wa0.below pasV_len BB) (wb0.below pasV_len BB) hla0 hlb0
  go_wp2_with fail
  refine HC.mono ?_
  rintro e wd2 ⟨xF1, yF1, zF1, pF1, qF1, rF1, rfl, F1, bb⟩
  clear HC
  clear cE00 cE01
  have S2 := bb.size
  try simp only [World.size_alloc] at S2
  replace E0 := E0.below bb
  replace BB := BB.trans (bb.mono BB.size)
  clear bb
  try simp only [World.size_alloc] at F1
  have cE00 := E0.fst
  have cE01 := E0.snd
  have HC := passingProps_spec _ _ _ _ _ _ _ F1
  go_wp2_with fail
  refine HC.mono ?_
  rintro e wd3 ⟨rfl, bb⟩
  clear HC
  clear cE00 cE01
  have S3 := bb.size
  try simp only [World.size_alloc] at S3
  replace F1 := F1.below bb
  replace E0 := E0.below bb
  replace BB := BB.trans (bb.mono BB.size)
  clear bb
  clear F1 HOP
  have cE00 := E0.fst
  have cE01 := E0.snd
  have HC := toPassing_any a0 b0 la0 ca0 lb0 cb0 y0 z0 _ (wa0.below pasV_len BB) (wb0.below pasV_len BB) hla0 hlb0
  go_wp2_with fail
  refine HC.mono ?_
  rintro e wd4 ⟨xF2, yF2, zF2, pF2, qF2, rF2, rfl, F2, bb⟩
  clear HC
  clear cE00 cE01
  have S4 := bb.size
  try simp only [World.size_alloc] at S4
  replace E0 := E0.below bb
  replace BB := BB.trans (bb.mono BB.size)
  clear bb
  try simp only [World.size_alloc] at F2
  have al := al2 wd4 (.slice xF2 yF2 zF2) (.slice pF2 qF2 rF2)
  have VF2 := Va2.made wd4 (.slice xF2 yF2 zF2) (.slice pF2 qF2 rF2)
  replace F2 := F2.below al
  replace E0 := E0.below al
  replace BB := BB.trans (al.mono BB.size)
  clear al
  have TF2 := VF2.lt
  try simp only [World.size_alloc] at TF2
  have cE00 := E0.fst
  have cE01 := E0.snd
  have cVF20 := VF2.fst
  have cVF21 := VF2.snd
  have HC := passingProps_impl _ _ _ _ _ _ _ F2
  go_wp2_with fail
  refine HC.mono ?_
  rintro e wd5 ⟨rfl, bb⟩
  clear HC
  clear cE00 cE01 cVF20 cVF21
  have S5 := bb.size
  try simp only [World.size_alloc] at S5
  replace F2 := F2.below bb
  replace E0 := E0.below bb
  replace VF2 := VF2.below bb
  replace BB := BB.trans (bb.mono BB.size)
  clear bb
  generalize ppA y0 z0 = kA at *
  generalize ppC y0 z0 = kC at *
  have HC0 := Lib.hid (fun W (hW : Below wd5.heap.size wd5 W) => show W.cell? ⟨wd4.heap.size, 0, none⟩ = some (.slice xF2 yF2 zF2) from ((VF2.below hW).fst))
  have HC1 := Lib.hid (fun W (hW : Below wd5.heap.size wd5 W) => show W.cell? ⟨wd4.heap.size, 1, none⟩ = some (.slice pF2 qF2 rF2) from ((VF2.below hW).snd))
  have HC2 := Lib.hid (fun W (hW : Below wd5.heap.size wd5 W) => show W.cell? ⟨w.heap.size, 0, none⟩ = some (.slice a0 la0 ca0) from ((E0.below hW).fst))
  have HC3 := Lib.hid (fun W (hW : Below wd5.heap.size wd5 W) => show W.cell? ⟨w.heap.size, 1, none⟩ = some (.slice b0 lb0 cb0) from ((E0.below hW).snd))
  have HT0 := Lib.hid (fun W (hW : Below wd5.heap.size wd5 W) => show Calls Try.prog 61 #[.agg #[.slice a0 la0 ca0, .slice b0 lb0 cb0]] W fun e w' => ∃ x y z p q r, e = .returned (.agg #[.slice x y z, .slice p q r]) ∧ PasP w' W.heap.size w'.heap.size (.slice x y z) (.slice p q r) y0 z0 ∧ Below W.heap.size W w' ∧ Below wd5.heap.size wd5 w' ∧ w'.cell? ⟨wd4.heap.size, 0, none⟩ = some (.slice xF2 yF2 zF2) ∧ w'.cell? ⟨wd4.heap.size, 1, none⟩ = some (.slice pF2 qF2 rF2) ∧ w'.cell? ⟨w.heap.size, 0, none⟩ = some (.slice a0 la0 ca0) ∧ w'.cell? ⟨w.heap.size, 1, none⟩ = some (.slice b0 lb0 cb0) from
    (toPassing_any a0 b0 la0 ca0 lb0 cb0 y0 z0 W (wa0.below pasV_len (BB.trans (hW.mono BB.size))) (wb0.below pasV_len (BB.trans (hW.mono BB.size))) hla0 hlb0).mono fun e w' ⟨x, y, z, p, q, r, he, hg, hb⟩ => by
      have hb2 := hW.trans (hb.mono hW.size)
      exact ⟨x, y, z, p, q, r, he, hg, hb, hb2, HC0.out _ hb2, HC1.out _ hb2, HC2.out _ hb2, HC3.out _ hb2⟩)
  have HE := Lib.hid (fun W (hW : Below wd5.heap.size wd5 W) x y z p q r lo hi (h1 : PasP W lo hi (.slice x y z) (.slice p q r) y0 z0) => show Calls Try.prog 62 #[.agg #[.slice xF2 yF2 zF2, .slice pF2 qF2 rF2], .agg #[.slice x y z, .slice p q r]] W fun e w' => e = .returned (.bool true) ∧ Below wd5.heap.size wd5 w' ∧ w'.cell? ⟨wd4.heap.size, 0, none⟩ = some (.slice xF2 yF2 zF2) ∧ w'.cell? ⟨wd4.heap.size, 1, none⟩ = some (.slice pF2 qF2 rF2) ∧ w'.cell? ⟨w.heap.size, 0, none⟩ = some (.slice a0 la0 ca0) ∧ w'.cell? ⟨w.heap.size, 1, none⟩ = some (.slice b0 lb0 cb0) from
    (eqPassing_any _ _ _ _ _ _ _ _ _ _ W (F2.below hW) h1).mono fun e w' ⟨he, hb⟩ => by
      have hb2 := hW.trans (hb.mono hW.size)
      exact ⟨he, hb2, HC0.out _ hb2, HC1.out _ hb2, HC2.out _ hb2, HC3.out _ hb2⟩)
  have cc0 := HC0.out _ (Below.refl _ _)
  have cc1 := HC1.out _ (Below.refl _ _)
  have cc2 := HC2.out _ (Below.refl _ _)
  have cc3 := HC3.out _ (Below.refl _ _)
  have bA := Below.refl wd5.heap.size wd5
  go_wp2
  go_region_held3 (fun W => Below wd5.heap.size wd5 W ∧ W.cell? ⟨wd4.heap.size, 0, none⟩ = some (.slice xF2 yF2 zF2) ∧ W.cell? ⟨wd4.heap.size, 1, none⟩ = some (.slice pF2 qF2 rF2) ∧ W.cell? ⟨w.heap.size, 0, none⟩ = some (.slice a0 la0 ca0) ∧ W.cell? ⟨w.heap.size, 1, none⟩ = some (.slice b0 lb0 cb0)) (first | exact ⟨by assumption, by assumption, by assumption, by assumption, by assumption⟩ | exact ⟨Below.drew (by assumption), by assumption, by assumption, by assumption, by assumption⟩ | exact ⟨Below.refl _ _, by assumption, by assumption, by assumption, by assumption⟩ | exact ⟨Below.drew (Below.refl _ _), by assumption, by assumption, by assumption, by assumption⟩) (first | (go_at_call 61; (with_reducible refine (HT0.out _ ?_).mono ?_); (repeat (first | assumption | exact Below.refl _ _ | refine Below.drew ?_ | refine below_drewN ?_ _)); rintro e va6 ⟨xa, ya, za, pa, qa, ra, rfl, hG1, hbW, hb1, hc0, hc1, hc2, hc3⟩) | (go_at_call 62; (first | have hE := HE.out _ hb1 _ _ _ _ _ _ _ _ hG1 | have hE := HE.out _ (Below.drew hb1) _ _ _ _ _ _ _ _ (PasP.drew hG1)); refine hE.mono ?_; rintro e wd6 ⟨rfl, bb, he0, he1, he2, he3⟩; clear hE))
  clear bA HT0 HE hc0 he0 hc1 he1 hc2 he2 hc3 he3 hG1 hbW hb1 HC0 cc0 HC1 cc1 HC2 cc2 HC3 cc3
  have S6 := bb.size
  try simp only [World.size_alloc] at S6
  replace F2 := F2.below bb
  replace E0 := E0.below bb
  replace VF2 := VF2.below bb
  replace BB := BB.trans (bb.mono BB.size)
  clear bb
  go_wp2
  go_ret
  exact ⟨rfl, BB⟩
end Go.Proofs.Ytomhhognfpfacaa
