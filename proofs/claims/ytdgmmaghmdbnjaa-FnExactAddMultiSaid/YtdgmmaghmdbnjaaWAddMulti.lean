/- The walk of the law FnExactAddMulti: it returns true, and writes nothing that was there. Conditions: none. -/
import Derived.Test.YtdgmmaghmdbnjaaRange
import Derived.Deep.RegionHeld3
import Derived.Test.YtdgmmaghmdbnjaaAddMj
import Derived.Test.YtdgmmaghmdbnjaaMOpen
import Derived.Test.YtdgmmaghmdbnjaaLandI
import Derived.Test.YtdgmmaghmdbnjaaOutM
namespace Go.Proofs.Ytdgmmaghmdbnjaa
open Go.RowKit
set_option linter.unusedSimpArgs false
set_option linter.unusedVariables false

set_option maxRecDepth 10000 in
set_option maxHeartbeats 20000000 in
theorem walk_AddMulti (a0 : Option Addr) (len0 cap0 : Nat) (A0 : Nat → Option Addr) (L0 C0 : Nat → Nat) (Z0 : Nat → List Int) (a1 : Option Addr) (len1 cap1 : Nat) (A1 : Nat → Option Addr) (L1 C1 : Nat → Nat) (Z1 : Nat → List Int) (w : World) (w0 : IsRows w a0 len0 cap0 A0 L0 C0 Z0) (w1 : IsRows w a1 len1 cap1 A1 L1 C1 Z1) :
    Calls Try.prog 7 #[.agg #[.slice a0 len0 cap0], .agg #[.slice a1 len1 cap1]] w fun e w' => e = .returned (.bool true) ∧ Below w.heap.size w w' := by
  have hx0 := addMR_tot (rowsL len0 L0 Z0) (rowsL len1 L1 Z1)
  go_enter Try.func7, Try.ntmps7
  go_wp2_with fail
  refine (szMulti_any a0 len0 cap0 A0 L0 C0 Z0 1048576 _ (w0.below (below_alM (below_alM (Below.refl w.heap.size w) _) _)) (by omega) (by omega)).mono ?_
  rintro e u1 ⟨r0, rfl, hr0, bb⟩
  have BB : Below w.heap.size w u1 := (below_alM (below_alM (Below.refl w.heap.size w) _) _).trans (bb.mono (by simp; omega))
  have S1 : w.heap.size + 1 + 1 ≤ u1.heap.size := by simpa using bb.size
  have c0 : u1.cell? ⟨w.heap.size, 0, none⟩ = some (.slice a0 len0 cap0) := by rw [bb.cell (by first | (simp; done) | (simp; omega))]; simp
  have c1 : u1.cell? ⟨w.heap.size + 1, 0, none⟩ = some (.slice a1 len1 cap1) := by rw [bb.cell (by first | (simp; done) | (simp; omega))]; simp
  clear bb
  rcases hr0 with rfl | ⟨hrp0, hrv0⟩
  · go_wp2
    go_ret
    exact ⟨rfl, BB⟩
  have hbig0 : len0 ≤ 1048576 := by omega
  have htot0 : totL (rowsL len0 L0 Z0) ≤ 1048576 := by omega
  have hrow0 := rows_small w0 (by omega)
  have hsm0 := small_of_tot htot0
  have HRV0 := Lib.hid hrv0
  clear hrv0
  have hrq0 : r0 ≤ 1048576 := by have := HRV0.out; omega
  go_wp2_with fail
  refine (szMulti_any a1 len1 cap1 A1 L1 C1 Z1 r0 _ (w1.below BB) (by omega) (by omega)).mono ?_
  rintro e u2 ⟨r1, rfl, hr1, bb⟩
  replace c0 := (bb.cell (p := ⟨w.heap.size, 0, none⟩) (by show w.heap.size < _; omega)).trans c0
  replace c1 := (bb.cell (p := ⟨w.heap.size + 1, 0, none⟩) (by show w.heap.size + 1 < _; omega)).trans c1
  have S2 : u1.heap.size ≤ u2.heap.size := bb.size
  replace BB := BB.trans (bb.mono BB.size)
  clear bb
  rcases hr1 with rfl | ⟨hrp1, hrv1⟩
  · go_wp2
    go_ret
    exact ⟨rfl, BB⟩
  have hbig1 : len1 ≤ 1048576 := by omega
  have htot1 : totL (rowsL len1 L1 Z1) ≤ 1048576 := by omega
  have hrow1 := rows_small w1 (by omega)
  have hsm1 := small_of_tot htot1
  have HRV1 := Lib.hid hrv1
  clear hrv1
  have hrq1 : r1 ≤ 1048576 := by have := HRV1.out; omega
  have HCc0 := Lib.hid (fun W (hW : Below u2.heap.size u2 W) => show W.cell? ⟨w.heap.size, 0, none⟩ = some (.slice a0 len0 cap0) from (hW.cell (p := ⟨w.heap.size, 0, none⟩) (by first | (show w.heap.size < _; omega) | (simp; omega) | simp)).trans c0)
  have HCc1 := Lib.hid (fun W (hW : Below u2.heap.size u2 W) => show W.cell? ⟨w.heap.size + 1, 0, none⟩ = some (.slice a1 len1 cap1) from (hW.cell (p := ⟨w.heap.size + 1, 0, none⟩) (by first | (show w.heap.size + 1 < _; omega) | (simp; omega) | simp)).trans c1)
  have HT0 := Lib.hid (fun W (hW : Below u2.heap.size u2 W) => show Calls Try.prog 54 #[.agg #[.slice a0 len0 cap0]] W fun e w' => ∃ x y z, e = .returned (.agg #[.slice x y z]) ∧ Grid 32 w' W.heap.size w'.heap.size (.slice x y z) (rowsL len0 L0 Z0) ∧ Below W.heap.size W w' ∧ Below u2.heap.size u2 w' ∧ w'.cell? ⟨w.heap.size, 0, none⟩ = some (.slice a0 len0 cap0) ∧ w'.cell? ⟨w.heap.size + 1, 0, none⟩ = some (.slice a1 len1 cap1) from
    (toMulti_sl a0 len0 cap0 A0 L0 C0 Z0 W (w0.below (BB.trans (hW.mono BB.size))) hbig0 hrow0).mono fun e w' ⟨x, y, z, he, hg, hb⟩ => by
      have hb2 := hW.trans (hb.mono hW.size)
      exact ⟨x, y, z, he, hg, hb, hb2, HCc0.out _ hb2, HCc1.out _ hb2⟩)
  have HT1 := Lib.hid (fun W (hW : Below u2.heap.size u2 W) => show Calls Try.prog 54 #[.agg #[.slice a1 len1 cap1]] W fun e w' => ∃ x y z, e = .returned (.agg #[.slice x y z]) ∧ Grid 32 w' W.heap.size w'.heap.size (.slice x y z) (rowsL len1 L1 Z1) ∧ Below W.heap.size W w' ∧ Below u2.heap.size u2 w' ∧ w'.cell? ⟨w.heap.size, 0, none⟩ = some (.slice a0 len0 cap0) ∧ w'.cell? ⟨w.heap.size + 1, 0, none⟩ = some (.slice a1 len1 cap1) from
    (toMulti_sl a1 len1 cap1 A1 L1 C1 Z1 W (w1.below (BB.trans (hW.mono BB.size))) hbig1 hrow1).mono fun e w' ⟨x, y, z, he, hg, hb⟩ => by
      have hb2 := hW.trans (hb.mono hW.size)
      exact ⟨x, y, z, he, hg, hb, hb2, HCc0.out _ hb2, HCc1.out _ hb2⟩)
  have HE := Lib.hid (fun W (hW : Below u2.heap.size u2 W) x1 y1 z1 lo hi x2 y2 z2 lo' hi' (hg1 : Grid 32 W lo hi (.slice x1 y1 z1) (rowsL len0 L0 Z0)) (hg2 : Grid 32 W lo' hi' (.slice x2 y2 z2) (rowsL len1 L1 Z1)) => show Calls Try.prog 13 #[.agg #[.slice x1 y1 z1], .agg #[.slice x2 y2 z2]] W fun e w' => ∃ x y z, e = .returned (.tuple #[.agg #[.slice x y z], .int .i64 (addMC (rowsL len0 L0 Z0) (rowsL len1 L1 Z1))]) ∧ Grid 32 w' W.heap.size w'.heap.size (.slice x y z) (addMR (rowsL len0 L0 Z0) (rowsL len1 L1 Z1)) ∧ Below W.heap.size W w' ∧ Below u2.heap.size u2 w' ∧ w'.cell? ⟨w.heap.size, 0, none⟩ = some (.slice a0 len0 cap0) ∧ w'.cell? ⟨w.heap.size + 1, 0, none⟩ = some (.slice a1 len1 cap1) from
    (addMulti_spec _ _ _ _ _ _ _ _ _ _ W hg1 hg2).mono fun e w' ⟨x, y, z, he, hg, hb⟩ => by
      have hb2 := hW.trans (hb.mono hW.size)
      exact ⟨x, y, z, he, hg, hb, hb2, HCc0.out _ hb2, HCc1.out _ hb2⟩)
  go_wp2
  go_region_held3 (fun W => Below u2.heap.size u2 W ∧ W.cell? ⟨w.heap.size, 0, none⟩ = some (.slice a0 len0 cap0) ∧ W.cell? ⟨w.heap.size + 1, 0, none⟩ = some (.slice a1 len1 cap1)) (first | exact ⟨by assumption, by assumption, by assumption⟩ | exact ⟨Below.drew (by assumption), by assumption, by assumption⟩ | exact ⟨Below.refl _ _, by assumption, by assumption⟩ | exact ⟨Below.drew (Below.refl _ _), by assumption, by assumption⟩ | exact ⟨below_alM (by assumption) _, HCc0.out _ (below_alM (by assumption) _), HCc1.out _ (below_alM (by assumption) _)⟩ | exact ⟨below_alM (Below.drew (by assumption)) _, HCc0.out _ (below_alM (Below.drew (by assumption)) _), HCc1.out _ (below_alM (Below.drew (by assumption)) _)⟩ | (refine ⟨?_, HCc0.out _ ?_, HCc1.out _ ?_⟩ <;> (repeat (first | assumption | exact Below.refl _ _ | refine Below.drew ?_ | refine below_drewN ?_ _ | refine below_alM ?_ _ | refine Below.setCell ?_ (by first | exact Nat.le_refl _ | exact hb1.size | exact hb2.size) _)); done)) (first | (go_at_call 54; (with_reducible refine (HT0.out _ ?_).mono ?_); (repeat (first | assumption | exact Below.refl _ _ | refine Below.drew ?_ | refine below_drewN ?_ _ | refine below_alM ?_ _)); rintro e va3 ⟨x1, y1, z1, rfl, hG1, hbW, hb1, hc0, hc1⟩; (first | have hv := Var1.below (show Var1 _ u2.heap.size (.slice none 0 0) from Var1.made u2 (.slice none 0 0) 26) hbW | have hv := Var1.below (show Var1 (World.drew (World.alloc u2 (.cells #[.slice none 0 0] 26))) u2.heap.size (.slice none 0 0) from ⟨(Var1.made u2 (.slice none 0 0) 26).1, (Var1.made u2 (.slice none 0 0) 26).2⟩) hbW | skip)) | (go_at_call 54; (with_reducible refine (HT1.out _ ?_).mono ?_); (repeat (first | assumption | exact Below.refl _ _ | refine Below.drew ?_ | refine below_drewN ?_ _ | refine below_alM ?_ _)); rintro e vb3 ⟨x2, y2, z2, rfl, hG2, hbW2, hb2, he0, he1⟩; (try replace hv := Var1.below (show Var1 _ _ _ from hv) hbW2); (first | have hv := Var1.below (show Var1 _ va3.heap.size (.slice none 0 0) from Var1.made va3 (.slice none 0 0) 26) hbW2 | have hv := Var1.below (show Var1 (World.drew (World.alloc va3 (.cells #[.slice none 0 0] 26))) va3.heap.size (.slice none 0 0) from ⟨(Var1.made va3 (.slice none 0 0) 26).1, (Var1.made va3 (.slice none 0 0) 26).2⟩) hbW2 | skip); have hq := Below.trans (show Below va3.heap.size va3 _ from (by (repeat (first | assumption | exact Below.refl _ _ | refine Below.drew ?_ | refine below_drewN ?_ _ | refine below_alM ?_ _)))) (hbW2.mono (by simp)); have hG3 := hG1.below hq; clear hq) | (go_at_call 13; (with_reducible refine (HE.out _ ?_ _ _ _ _ _ _ _ _ _ _ (hG3.below ?_) (hG2.below ?_)).mono ?_); (repeat (first | assumption | exact Below.refl _ _ | refine Below.drew ?_ | refine below_drewN ?_ _ | refine below_alM ?_ _)); (repeat (first | assumption | exact Below.refl _ _ | refine Below.drew ?_ | refine below_drewN ?_ _ | refine below_alM ?_ _)); (repeat (first | assumption | exact Below.refl _ _ | refine Below.drew ?_ | refine below_drewN ?_ _ | refine below_alM ?_ _)); rintro e u3 ⟨xF1, yF1, zF1, rfl, F1, hbZ, bb, hd0, hd1⟩; (try replace hv := Var1.below (show Var1 _ _ _ from hv) hbZ); (first | have hv := Var1.below (show Var1 _ vb3.heap.size (.slice none 0 0) from Var1.made vb3 (.slice none 0 0) 26) hbZ | have hv := Var1.below (show Var1 (World.drew (World.alloc vb3 (.cells #[.slice none 0 0] 26))) vb3.heap.size (.slice none 0 0) from ⟨(Var1.made vb3 (.slice none 0 0) 26).1, (Var1.made vb3 (.slice none 0 0) 26).2⟩) hbZ | skip); (try obtain ⟨hvc, hvf⟩ := id hv)))
  clear HT0
  clear HT1
  clear HE
  clear HCc0
  clear HCc1
  all_goals
    have hz7 := hbW.size
    have hz8 := hbW2.size
    have hz9 := hbZ.size
    (try simp at hz7)
    (try simp at hz8)
    (try simp at hz9)
    obtain ⟨N9, hN9⟩ : ∃ N : Nat, N = u2.heap.size := ⟨_, rfl⟩
    rw [← hN9] at bb
    first | (have hO := out_set (b := vb3.heap.size) F1 hv bb (by omega) (by first | omega | (simp; done) | (simp; omega)) (Nat.le_refl _); generalize (u3.setCell ⟨vb3.heap.size, 0, none⟩ (.slice xF1 yF1 zF1)) = u4 at hO ⊢; generalize vb3.heap.size = bq3 at hO ⊢) | (have hO := out_set (b := va3.heap.size) F1 hv bb (by omega) (by first | omega | (simp; done) | (simp; omega)) (Nat.le_refl _); generalize (u3.setCell ⟨va3.heap.size, 0, none⟩ (.slice xF1 yF1 zF1)) = u4 at hO ⊢; generalize va3.heap.size = bq3 at hO ⊢) | (have hO := out_set (b := u2.heap.size) F1 hv bb (by omega) (by first | omega | (simp; done) | (simp; omega)) (Nat.le_refl _); generalize (u3.setCell ⟨u2.heap.size, 0, none⟩ (.slice xF1 yF1 zF1)) = u4 at hO ⊢; generalize u2.heap.size = bq3 at hO ⊢) | (have hO := out_alloc (T' := 26) F1 bb (by first | omega | (simp; omega)) (by omega) (Nat.le_refl _); generalize (u3.alloc (.cells #[.slice xF1 yF1 zF1] 26)) = u4 at hO ⊢; generalize u3.heap.size = bq3 at hO ⊢)
    clear hz7 hz8 hz9 bb hbZ hG1 hG2 hG3 hbW hbW2 hb1 hb2 hc0 he0 hd0 hc1 he1 hd1 F1
    (try clear hvc hvf)
    (try clear hv)
    rw [hN9] at hO
    clear hN9
    obtain ⟨lo3, hi3, F1, bb, cv3, ha3, hb3, hc3, hd3, he3⟩ := hO
    replace c0 := (bb.cell (p := ⟨w.heap.size, 0, none⟩) (by show w.heap.size < _; omega)).trans c0
    replace c1 := (bb.cell (p := ⟨w.heap.size + 1, 0, none⟩) (by show w.heap.size + 1 < _; omega)).trans c1
    have S4 : u2.heap.size ≤ u4.heap.size := bb.size
    replace BB := BB.trans (bb.mono BB.size)
    clear bb
    go_wp2_with fail
    refine (toMulti_sl a0 len0 cap0 A0 L0 C0 Z0 _ (w0.below BB) hbig0 hrow0).mono ?_
    rintro e u5 ⟨xF2, yF2, zF2, rfl, F2, bb⟩
    replace c0 := (bb.cell (p := ⟨w.heap.size, 0, none⟩) (by show w.heap.size < _; omega)).trans c0
    replace c1 := (bb.cell (p := ⟨w.heap.size + 1, 0, none⟩) (by show w.heap.size + 1 < _; omega)).trans c1
    replace cv3 := (bb.cell (p := ⟨bq3, 0, none⟩) (by show bq3 < _; omega)).trans cv3
    replace F1 := F1.below bb
    have S5 : u4.heap.size ≤ u5.heap.size := bb.size
    replace BB := BB.trans (bb.mono BB.size)
    clear bb
    have al : Below u5.heap.size u5 (u5.alloc (.cells #[.slice xF2 yF2 zF2] 26)) := below_alM (Below.refl _ _) _
    have c0x : (u5.alloc (.cells #[.slice xF2 yF2 zF2] 26)).cell? ⟨w.heap.size, 0, none⟩ = some (.slice a0 len0 cap0) := (al.cell (p := ⟨w.heap.size, 0, none⟩) (by show w.heap.size < _; omega)).trans c0
    have c1x : (u5.alloc (.cells #[.slice xF2 yF2 zF2] 26)).cell? ⟨w.heap.size + 1, 0, none⟩ = some (.slice a1 len1 cap1) := (al.cell (p := ⟨w.heap.size + 1, 0, none⟩) (by show w.heap.size + 1 < _; omega)).trans c1
    have cv3x : (u5.alloc (.cells #[.slice xF2 yF2 zF2] 26)).cell? ⟨bq3, 0, none⟩ = some (.slice xF1 yF1 zF1) := (al.cell (p := ⟨bq3, 0, none⟩) (by show bq3 < _; omega)).trans cv3
    have cnx : (u5.alloc (.cells #[.slice xF2 yF2 zF2] 26)).cell? ⟨u5.heap.size, 0, none⟩ = some (.slice xF2 yF2 zF2) := by simp
    go_wp2_with fail
    refine (toMulti_sl a1 len1 cap1 A1 L1 C1 Z1 _ (w1.below (below_alM BB _)) hbig1 hrow1).mono ?_
    rintro e u6 ⟨xF3, yF3, zF3, rfl, F3, bb⟩
    replace F3 : Grid 32 u6 (u5.heap.size + 1) _ _ _ := F3.widen (by simp) (Nat.le_refl _)
    have c3 : u6.cell? ⟨u5.heap.size, 0, none⟩ = some (.slice xF2 yF2 zF2) := by rw [bb.cell (by simp)]; simp
    replace bb := (below_alM (Below.refl u5.heap.size u5) _).trans (bb.mono (by simp))
    clear al cnx c0x c1x cv3x
    replace c0 := (bb.cell (p := ⟨w.heap.size, 0, none⟩) (by show w.heap.size < _; omega)).trans c0
    replace c1 := (bb.cell (p := ⟨w.heap.size + 1, 0, none⟩) (by show w.heap.size + 1 < _; omega)).trans c1
    replace cv3 := (bb.cell (p := ⟨bq3, 0, none⟩) (by show bq3 < _; omega)).trans cv3
    replace F1 := F1.below bb
    replace F2 := F2.below bb
    have S6 : u5.heap.size ≤ u6.heap.size := bb.size
    replace BB := BB.trans (bb.mono BB.size)
    clear bb
    have T6 : u5.heap.size + 1 ≤ u6.heap.size := by have := cell_block c3; simp at this; omega
    have al : Below u6.heap.size u6 (u6.alloc (.cells #[.slice xF3 yF3 zF3] 26)) := below_alM (Below.refl _ _) _
    have c0x : (u6.alloc (.cells #[.slice xF3 yF3 zF3] 26)).cell? ⟨w.heap.size, 0, none⟩ = some (.slice a0 len0 cap0) := (al.cell (p := ⟨w.heap.size, 0, none⟩) (by show w.heap.size < _; omega)).trans c0
    have c1x : (u6.alloc (.cells #[.slice xF3 yF3 zF3] 26)).cell? ⟨w.heap.size + 1, 0, none⟩ = some (.slice a1 len1 cap1) := (al.cell (p := ⟨w.heap.size + 1, 0, none⟩) (by show w.heap.size + 1 < _; omega)).trans c1
    have cv3x : (u6.alloc (.cells #[.slice xF3 yF3 zF3] 26)).cell? ⟨bq3, 0, none⟩ = some (.slice xF1 yF1 zF1) := (al.cell (p := ⟨bq3, 0, none⟩) (by show bq3 < _; omega)).trans cv3
    have c3x : (u6.alloc (.cells #[.slice xF3 yF3 zF3] 26)).cell? ⟨u5.heap.size, 0, none⟩ = some (.slice xF2 yF2 zF2) := (al.cell (p := ⟨u5.heap.size, 0, none⟩) (by show u5.heap.size < _; omega)).trans c3
    have cnx : (u6.alloc (.cells #[.slice xF3 yF3 zF3] 26)).cell? ⟨u6.heap.size, 0, none⟩ = some (.slice xF3 yF3 zF3) := by simp
    go_wp2_with fail
    refine (addMulti_impl _ _ _ _ _ _ _ _ _ _ _ (F2.below (below_alM (Below.refl _ _) _)) (F3.below (below_alM (Below.refl _ _) _)) hsm0 hsm1).mono ?_
    rintro e u7 ⟨xF4, yF4, zF4, rfl, F4, bb⟩
    replace F4 : Grid 32 u7 (u6.heap.size + 1) _ _ _ := F4.widen (by simp) (Nat.le_refl _)
    have c4 : u7.cell? ⟨u6.heap.size, 0, none⟩ = some (.slice xF3 yF3 zF3) := by rw [bb.cell (by simp)]; simp
    replace bb := (below_alM (Below.refl u6.heap.size u6) _).trans (bb.mono (by simp))
    clear al cnx c0x c1x cv3x c3x
    replace c0 := (bb.cell (p := ⟨w.heap.size, 0, none⟩) (by show w.heap.size < _; omega)).trans c0
    replace c1 := (bb.cell (p := ⟨w.heap.size + 1, 0, none⟩) (by show w.heap.size + 1 < _; omega)).trans c1
    replace cv3 := (bb.cell (p := ⟨bq3, 0, none⟩) (by show bq3 < _; omega)).trans cv3
    replace c3 := (bb.cell (p := ⟨u5.heap.size, 0, none⟩) (by show u5.heap.size < _; omega)).trans c3
    replace F1 := F1.below bb
    replace F2 := F2.below bb
    replace F3 := F3.below bb
    have S7 : u6.heap.size ≤ u7.heap.size := bb.size
    replace BB := BB.trans (bb.mono BB.size)
    clear bb
    have T7 : u6.heap.size + 1 ≤ u7.heap.size := by have := cell_block c4; simp at this; omega
    have al : Below u7.heap.size u7 (u7.alloc (.cells #[.slice xF4 yF4 zF4] 26)) := below_alM (Below.refl _ _) _
    have c0x : (u7.alloc (.cells #[.slice xF4 yF4 zF4] 26)).cell? ⟨w.heap.size, 0, none⟩ = some (.slice a0 len0 cap0) := (al.cell (p := ⟨w.heap.size, 0, none⟩) (by show w.heap.size < _; omega)).trans c0
    have c1x : (u7.alloc (.cells #[.slice xF4 yF4 zF4] 26)).cell? ⟨w.heap.size + 1, 0, none⟩ = some (.slice a1 len1 cap1) := (al.cell (p := ⟨w.heap.size + 1, 0, none⟩) (by show w.heap.size + 1 < _; omega)).trans c1
    have cv3x : (u7.alloc (.cells #[.slice xF4 yF4 zF4] 26)).cell? ⟨bq3, 0, none⟩ = some (.slice xF1 yF1 zF1) := (al.cell (p := ⟨bq3, 0, none⟩) (by show bq3 < _; omega)).trans cv3
    have c3x : (u7.alloc (.cells #[.slice xF4 yF4 zF4] 26)).cell? ⟨u5.heap.size, 0, none⟩ = some (.slice xF2 yF2 zF2) := (al.cell (p := ⟨u5.heap.size, 0, none⟩) (by show u5.heap.size < _; omega)).trans c3
    have c4x : (u7.alloc (.cells #[.slice xF4 yF4 zF4] 26)).cell? ⟨u6.heap.size, 0, none⟩ = some (.slice xF3 yF3 zF3) := (al.cell (p := ⟨u6.heap.size, 0, none⟩) (by show u6.heap.size < _; omega)).trans c4
    have cnx : (u7.alloc (.cells #[.slice xF4 yF4 zF4] 26)).cell? ⟨u7.heap.size, 0, none⟩ = some (.slice xF4 yF4 zF4) := by simp
    go_wp2_with fail
    refine (eqMulti_any _ _ _ _ _ _ _ _ _ (F4.below (below_alM (Below.refl _ _) _)) (F1.below (below_alM (Below.refl _ _) _))).mono ?_
    rintro e u8 ⟨rfl, bb⟩
    have c5 : u8.cell? ⟨u7.heap.size, 0, none⟩ = some (.slice xF4 yF4 zF4) := by rw [bb.cell (by simp)]; simp
    replace bb := (below_alM (Below.refl u7.heap.size u7) _).trans (bb.mono (by simp))
    clear al cnx c0x c1x cv3x c3x c4x
    replace c0 := (bb.cell (p := ⟨w.heap.size, 0, none⟩) (by show w.heap.size < _; omega)).trans c0
    replace c1 := (bb.cell (p := ⟨w.heap.size + 1, 0, none⟩) (by show w.heap.size + 1 < _; omega)).trans c1
    replace cv3 := (bb.cell (p := ⟨bq3, 0, none⟩) (by show bq3 < _; omega)).trans cv3
    replace c3 := (bb.cell (p := ⟨u5.heap.size, 0, none⟩) (by show u5.heap.size < _; omega)).trans c3
    replace c4 := (bb.cell (p := ⟨u6.heap.size, 0, none⟩) (by show u6.heap.size < _; omega)).trans c4
    replace F1 := F1.below bb
    replace F2 := F2.below bb
    replace F3 := F3.below bb
    replace F4 := F4.below bb
    have S8 : u7.heap.size ≤ u8.heap.size := bb.size
    replace BB := BB.trans (bb.mono BB.size)
    clear bb
    have T8 : u7.heap.size + 1 ≤ u8.heap.size := by have := cell_block c5; simp at this; omega
    have HCc0 := Lib.hid (fun W (hW : Below u8.heap.size u8 W) => show W.cell? ⟨w.heap.size, 0, none⟩ = some (.slice a0 len0 cap0) from (hW.cell (p := ⟨w.heap.size, 0, none⟩) (by first | (show w.heap.size < _; omega) | (simp; omega) | simp)).trans c0)
    have HCc3 := Lib.hid (fun W (hW : Below u8.heap.size u8 W) => show W.cell? ⟨u5.heap.size, 0, none⟩ = some (.slice xF2 yF2 zF2) from (hW.cell (p := ⟨u5.heap.size, 0, none⟩) (by first | (show u5.heap.size < _; omega) | (simp; omega) | simp)).trans c3)
    have HT := Lib.hid (fun W (hW : Below u8.heap.size u8 W) => show Calls Try.prog 54 #[.agg #[.slice a0 len0 cap0]] W fun e w' => ∃ x y z, e = .returned (.agg #[.slice x y z]) ∧ Grid 32 w' W.heap.size w'.heap.size (.slice x y z) (rowsL len0 L0 Z0) ∧ Below W.heap.size W w' ∧ Below u8.heap.size u8 w' ∧ w'.cell? ⟨w.heap.size, 0, none⟩ = some (.slice a0 len0 cap0) ∧ w'.cell? ⟨u5.heap.size, 0, none⟩ = some (.slice xF2 yF2 zF2) from
      (toMulti_sl a0 len0 cap0 A0 L0 C0 Z0 W (w0.below (BB.trans (hW.mono BB.size))) hbig0 hrow0).mono fun e w' ⟨x, y, z, he, hg, hb⟩ => by
        have hb2 := hW.trans (hb.mono hW.size)
        exact ⟨x, y, z, he, hg, hb, hb2, HCc0.out _ hb2, HCc3.out _ hb2⟩)
    have HE := Lib.hid (fun W (hW : Below u8.heap.size u8 W) x y z lo hi (hg : Grid 32 W lo hi (.slice x y z) (rowsL len0 L0 Z0)) => show Calls Try.prog 55 #[.agg #[.slice xF2 yF2 zF2], .agg #[.slice x y z]] W fun e w' => e = .returned (.bool true) ∧ Below u8.heap.size u8 w' ∧ w'.cell? ⟨w.heap.size, 0, none⟩ = some (.slice a0 len0 cap0) ∧ w'.cell? ⟨u5.heap.size, 0, none⟩ = some (.slice xF2 yF2 zF2) from
      (eqMulti_any _ _ _ _ _ _ _ _ W (F2.below hW) hg).mono fun e w' ⟨he, hb⟩ => by
        have hb2 := hW.trans (hb.mono hW.size)
        exact ⟨he, hb2, HCc0.out _ hb2, HCc3.out _ hb2⟩)
    go_wp2
    go_region_held3 (fun W => Below u8.heap.size u8 W ∧ W.cell? ⟨w.heap.size, 0, none⟩ = some (.slice a0 len0 cap0) ∧ W.cell? ⟨u5.heap.size, 0, none⟩ = some (.slice xF2 yF2 zF2)) (first | exact ⟨by assumption, by assumption, by assumption⟩ | exact ⟨Below.drew (by assumption), by assumption, by assumption⟩ | exact ⟨Below.refl _ _, by assumption, by assumption⟩ | exact ⟨Below.drew (Below.refl _ _), by assumption, by assumption⟩ | exact ⟨below_alM (by assumption) _, HCc0.out _ (below_alM (by assumption) _), HCc3.out _ (below_alM (by assumption) _)⟩ | exact ⟨below_alM (Below.drew (by assumption)) _, HCc0.out _ (below_alM (Below.drew (by assumption)) _), HCc3.out _ (below_alM (Below.drew (by assumption)) _)⟩) (first | (go_at_call 54; (with_reducible refine (HT.out _ ?_).mono ?_); (first | assumption | exact Below.drew (by assumption) | exact Below.refl _ _ | exact Below.drew (Below.refl _ _)); rintro e v1 ⟨x1, y1, z1, rfl, hG1, hbW, hb1, hc0, hc1⟩) | (go_at_call 55; (first | have hE := HE.out _ hb1 _ _ _ _ _ hG1 | have hE := HE.out _ (Below.drew hb1) _ _ _ _ _ (Grid.drew hG1)); refine hE.mono ?_; rintro e u9 ⟨rfl, bb, hd0, hd1⟩; clear hE))
    clear HT
    clear HE
    clear HCc0
    clear HCc3
    replace c0 := (bb.cell (p := ⟨w.heap.size, 0, none⟩) (by show w.heap.size < _; omega)).trans c0
    replace c1 := (bb.cell (p := ⟨w.heap.size + 1, 0, none⟩) (by show w.heap.size + 1 < _; omega)).trans c1
    replace cv3 := (bb.cell (p := ⟨bq3, 0, none⟩) (by show bq3 < _; omega)).trans cv3
    replace c3 := (bb.cell (p := ⟨u5.heap.size, 0, none⟩) (by show u5.heap.size < _; omega)).trans c3
    replace c4 := (bb.cell (p := ⟨u6.heap.size, 0, none⟩) (by show u6.heap.size < _; omega)).trans c4
    replace c5 := (bb.cell (p := ⟨u7.heap.size, 0, none⟩) (by show u7.heap.size < _; omega)).trans c5
    replace F1 := F1.below bb
    replace F2 := F2.below bb
    replace F3 := F3.below bb
    replace F4 := F4.below bb
    have S9 : u8.heap.size ≤ u9.heap.size := bb.size
    replace BB := BB.trans (bb.mono BB.size)
    clear bb
    have HCc1 := Lib.hid (fun W (hW : Below u9.heap.size u9 W) => show W.cell? ⟨w.heap.size + 1, 0, none⟩ = some (.slice a1 len1 cap1) from (hW.cell (p := ⟨w.heap.size + 1, 0, none⟩) (by first | (show w.heap.size + 1 < _; omega) | (simp; omega) | simp)).trans c1)
    have HCc4 := Lib.hid (fun W (hW : Below u9.heap.size u9 W) => show W.cell? ⟨u6.heap.size, 0, none⟩ = some (.slice xF3 yF3 zF3) from (hW.cell (p := ⟨u6.heap.size, 0, none⟩) (by first | (show u6.heap.size < _; omega) | (simp; omega) | simp)).trans c4)
    have HT := Lib.hid (fun W (hW : Below u9.heap.size u9 W) => show Calls Try.prog 54 #[.agg #[.slice a1 len1 cap1]] W fun e w' => ∃ x y z, e = .returned (.agg #[.slice x y z]) ∧ Grid 32 w' W.heap.size w'.heap.size (.slice x y z) (rowsL len1 L1 Z1) ∧ Below W.heap.size W w' ∧ Below u9.heap.size u9 w' ∧ w'.cell? ⟨w.heap.size + 1, 0, none⟩ = some (.slice a1 len1 cap1) ∧ w'.cell? ⟨u6.heap.size, 0, none⟩ = some (.slice xF3 yF3 zF3) from
      (toMulti_sl a1 len1 cap1 A1 L1 C1 Z1 W (w1.below (BB.trans (hW.mono BB.size))) hbig1 hrow1).mono fun e w' ⟨x, y, z, he, hg, hb⟩ => by
        have hb2 := hW.trans (hb.mono hW.size)
        exact ⟨x, y, z, he, hg, hb, hb2, HCc1.out _ hb2, HCc4.out _ hb2⟩)
    have HE := Lib.hid (fun W (hW : Below u9.heap.size u9 W) x y z lo hi (hg : Grid 32 W lo hi (.slice x y z) (rowsL len1 L1 Z1)) => show Calls Try.prog 55 #[.agg #[.slice xF3 yF3 zF3], .agg #[.slice x y z]] W fun e w' => e = .returned (.bool true) ∧ Below u9.heap.size u9 w' ∧ w'.cell? ⟨w.heap.size + 1, 0, none⟩ = some (.slice a1 len1 cap1) ∧ w'.cell? ⟨u6.heap.size, 0, none⟩ = some (.slice xF3 yF3 zF3) from
      (eqMulti_any _ _ _ _ _ _ _ _ W (F3.below hW) hg).mono fun e w' ⟨he, hb⟩ => by
        have hb2 := hW.trans (hb.mono hW.size)
        exact ⟨he, hb2, HCc1.out _ hb2, HCc4.out _ hb2⟩)
    go_wp2
    go_region_held3 (fun W => Below u9.heap.size u9 W ∧ W.cell? ⟨w.heap.size + 1, 0, none⟩ = some (.slice a1 len1 cap1) ∧ W.cell? ⟨u6.heap.size, 0, none⟩ = some (.slice xF3 yF3 zF3)) (first | exact ⟨by assumption, by assumption, by assumption⟩ | exact ⟨Below.drew (by assumption), by assumption, by assumption⟩ | exact ⟨Below.refl _ _, by assumption, by assumption⟩ | exact ⟨Below.drew (Below.refl _ _), by assumption, by assumption⟩ | exact ⟨below_alM (by assumption) _, HCc1.out _ (below_alM (by assumption) _), HCc4.out _ (below_alM (by assumption) _)⟩ | exact ⟨below_alM (Below.drew (by assumption)) _, HCc1.out _ (below_alM (Below.drew (by assumption)) _), HCc4.out _ (below_alM (Below.drew (by assumption)) _)⟩) (first | (go_at_call 54; (with_reducible refine (HT.out _ ?_).mono ?_); (first | assumption | exact Below.drew (by assumption) | exact Below.refl _ _ | exact Below.drew (Below.refl _ _)); rintro e v1 ⟨x1, y1, z1, rfl, hG1, hbW, hb1, hc0, hc1⟩) | (go_at_call 55; (first | have hE := HE.out _ hb1 _ _ _ _ _ hG1 | have hE := HE.out _ (Below.drew hb1) _ _ _ _ _ (Grid.drew hG1)); refine hE.mono ?_; rintro e u10 ⟨rfl, bb, hd0, hd1⟩; clear hE))
    clear HT
    clear HE
    clear HCc1
    clear HCc4
    replace c0 := (bb.cell (p := ⟨w.heap.size, 0, none⟩) (by show w.heap.size < _; omega)).trans c0
    replace c1 := (bb.cell (p := ⟨w.heap.size + 1, 0, none⟩) (by show w.heap.size + 1 < _; omega)).trans c1
    replace cv3 := (bb.cell (p := ⟨bq3, 0, none⟩) (by show bq3 < _; omega)).trans cv3
    replace c3 := (bb.cell (p := ⟨u5.heap.size, 0, none⟩) (by show u5.heap.size < _; omega)).trans c3
    replace c4 := (bb.cell (p := ⟨u6.heap.size, 0, none⟩) (by show u6.heap.size < _; omega)).trans c4
    replace c5 := (bb.cell (p := ⟨u7.heap.size, 0, none⟩) (by show u7.heap.size < _; omega)).trans c5
    replace F1 := F1.below bb
    replace F2 := F2.below bb
    replace F3 := F3.below bb
    replace F4 := F4.below bb
    have S10 : u9.heap.size ≤ u10.heap.size := bb.size
    replace BB := BB.trans (bb.mono BB.size)
    clear bb
    go_wp2_with fail
    refine (markMulti_any _ _ (by decide) _ _ _ _ _ F2 (by omega) (by omega)).mono ?_
    rintro e u11 ⟨rfl, NN, ww⟩
    have S11 : u10.heap.size ≤ u11.heap.size := ww.size
    replace c0 := (ww.cell2 (p := ⟨w.heap.size, 0, none⟩) (by show w.heap.size < _ ∨ _ ≤ w.heap.size; omega) (by show w.heap.size < _; omega)).trans c0
    replace c1 := (ww.cell2 (p := ⟨w.heap.size + 1, 0, none⟩) (by show w.heap.size + 1 < _ ∨ _ ≤ w.heap.size + 1; omega) (by show w.heap.size + 1 < _; omega)).trans c1
    replace cv3 := (ww.cell2 (p := ⟨bq3, 0, none⟩) (by show bq3 < _ ∨ _ ≤ bq3; omega) (by show bq3 < _; omega)).trans cv3
    replace c3 := (ww.cell2 (p := ⟨u5.heap.size, 0, none⟩) (by show u5.heap.size < _ ∨ _ ≤ u5.heap.size; omega) (by show u5.heap.size < _; omega)).trans c3
    replace c4 := (ww.cell2 (p := ⟨u6.heap.size, 0, none⟩) (by show u6.heap.size < _ ∨ _ ≤ u6.heap.size; omega) (by show u6.heap.size < _; omega)).trans c4
    replace c5 := (ww.cell2 (p := ⟨u7.heap.size, 0, none⟩) (by show u7.heap.size < _ ∨ _ ≤ u7.heap.size; omega) (by show u7.heap.size < _; omega)).trans c5
    replace BB := ww.below BB (by omega) (by omega)
    replace F1 := F1.within ww (by omega)
    replace F3 := F3.within ww (by omega)
    replace F4 := F4.within ww (by omega)
    replace F2 := NN
    clear NN ww
    go_wp2_with fail
    refine (markMulti_any _ _ (by decide) _ _ _ _ _ F3 (by omega) (by omega)).mono ?_
    rintro e u12 ⟨rfl, NN, ww⟩
    have S12 : u11.heap.size ≤ u12.heap.size := ww.size
    replace c0 := (ww.cell2 (p := ⟨w.heap.size, 0, none⟩) (by show w.heap.size < _ ∨ _ ≤ w.heap.size; omega) (by show w.heap.size < _; omega)).trans c0
    replace c1 := (ww.cell2 (p := ⟨w.heap.size + 1, 0, none⟩) (by show w.heap.size + 1 < _ ∨ _ ≤ w.heap.size + 1; omega) (by show w.heap.size + 1 < _; omega)).trans c1
    replace cv3 := (ww.cell2 (p := ⟨bq3, 0, none⟩) (by show bq3 < _ ∨ _ ≤ bq3; omega) (by show bq3 < _; omega)).trans cv3
    replace c3 := (ww.cell2 (p := ⟨u5.heap.size, 0, none⟩) (by show u5.heap.size < _ ∨ _ ≤ u5.heap.size; omega) (by show u5.heap.size < _; omega)).trans c3
    replace c4 := (ww.cell2 (p := ⟨u6.heap.size, 0, none⟩) (by show u6.heap.size < _ ∨ _ ≤ u6.heap.size; omega) (by show u6.heap.size < _; omega)).trans c4
    replace c5 := (ww.cell2 (p := ⟨u7.heap.size, 0, none⟩) (by show u7.heap.size < _ ∨ _ ≤ u7.heap.size; omega) (by show u7.heap.size < _; omega)).trans c5
    replace BB := ww.below BB (by omega) (by omega)
    replace F1 := F1.within ww (by omega)
    replace F2 := F2.within ww (by omega)
    replace F4 := F4.within ww (by omega)
    replace F3 := NN
    clear NN ww
    go_wp2_with fail
    refine (eqMulti_any _ _ _ _ _ _ _ _ _ F4 F1).mono ?_
    rintro e u13 ⟨rfl, bb⟩
    replace c0 := (bb.cell (p := ⟨w.heap.size, 0, none⟩) (by show w.heap.size < _; omega)).trans c0
    replace c1 := (bb.cell (p := ⟨w.heap.size + 1, 0, none⟩) (by show w.heap.size + 1 < _; omega)).trans c1
    replace cv3 := (bb.cell (p := ⟨bq3, 0, none⟩) (by show bq3 < _; omega)).trans cv3
    replace c3 := (bb.cell (p := ⟨u5.heap.size, 0, none⟩) (by show u5.heap.size < _; omega)).trans c3
    replace c4 := (bb.cell (p := ⟨u6.heap.size, 0, none⟩) (by show u6.heap.size < _; omega)).trans c4
    replace c5 := (bb.cell (p := ⟨u7.heap.size, 0, none⟩) (by show u7.heap.size < _; omega)).trans c5
    replace F1 := F1.below bb
    replace F2 := F2.below bb
    replace F3 := F3.below bb
    replace F4 := F4.below bb
    have S13 : u12.heap.size ≤ u13.heap.size := bb.size
    replace BB := BB.trans (bb.mono BB.size)
    clear bb
    go_wp2_with fail
    refine (markMulti_any _ _ (by decide) _ _ _ _ _ F4 (by omega) (by omega)).mono ?_
    rintro e u14 ⟨rfl, NN, ww⟩
    have S14 : u13.heap.size ≤ u14.heap.size := ww.size
    replace c0 := (ww.cell2 (p := ⟨w.heap.size, 0, none⟩) (by show w.heap.size < _ ∨ _ ≤ w.heap.size; omega) (by show w.heap.size < _; omega)).trans c0
    replace c1 := (ww.cell2 (p := ⟨w.heap.size + 1, 0, none⟩) (by show w.heap.size + 1 < _ ∨ _ ≤ w.heap.size + 1; omega) (by show w.heap.size + 1 < _; omega)).trans c1
    replace cv3 := (ww.cell2 (p := ⟨bq3, 0, none⟩) (by show bq3 < _ ∨ _ ≤ bq3; omega) (by show bq3 < _; omega)).trans cv3
    replace c3 := (ww.cell2 (p := ⟨u5.heap.size, 0, none⟩) (by show u5.heap.size < _ ∨ _ ≤ u5.heap.size; omega) (by show u5.heap.size < _; omega)).trans c3
    replace c4 := (ww.cell2 (p := ⟨u6.heap.size, 0, none⟩) (by show u6.heap.size < _ ∨ _ ≤ u6.heap.size; omega) (by show u6.heap.size < _; omega)).trans c4
    replace c5 := (ww.cell2 (p := ⟨u7.heap.size, 0, none⟩) (by show u7.heap.size < _ ∨ _ ≤ u7.heap.size; omega) (by show u7.heap.size < _; omega)).trans c5
    replace BB := ww.below BB (by omega) (by omega)
    replace F1 := F1.within ww (by omega)
    replace F2 := F2.within ww (by omega)
    replace F3 := F3.within ww (by omega)
    replace F4 := NN
    clear NN ww
    go_wp2_with fail
    refine (heldMulti_any _ _ _ _ _ _ _ F4 (by omega) (by omega)).mono ?_
    rintro e u15 ⟨rfl, bb⟩
    replace c0 := (bb.cell (p := ⟨w.heap.size, 0, none⟩) (by show w.heap.size < _; omega)).trans c0
    replace c1 := (bb.cell (p := ⟨w.heap.size + 1, 0, none⟩) (by show w.heap.size + 1 < _; omega)).trans c1
    replace cv3 := (bb.cell (p := ⟨bq3, 0, none⟩) (by show bq3 < _; omega)).trans cv3
    replace c3 := (bb.cell (p := ⟨u5.heap.size, 0, none⟩) (by show u5.heap.size < _; omega)).trans c3
    replace c4 := (bb.cell (p := ⟨u6.heap.size, 0, none⟩) (by show u6.heap.size < _; omega)).trans c4
    replace c5 := (bb.cell (p := ⟨u7.heap.size, 0, none⟩) (by show u7.heap.size < _; omega)).trans c5
    replace F1 := F1.below bb
    replace F2 := F2.below bb
    replace F3 := F3.below bb
    replace F4 := F4.below bb
    have S15 : u14.heap.size ≤ u15.heap.size := bb.size
    replace BB := BB.trans (bb.mono BB.size)
    clear bb
    have HCc0 := Lib.hid (fun W (hW : Below u15.heap.size u15 W) => show W.cell? ⟨w.heap.size, 0, none⟩ = some (.slice a0 len0 cap0) from (hW.cell (p := ⟨w.heap.size, 0, none⟩) (by first | (show w.heap.size < _; omega) | (simp; omega) | simp)).trans c0)
    have HCc1 := Lib.hid (fun W (hW : Below u15.heap.size u15 W) => show W.cell? ⟨w.heap.size + 1, 0, none⟩ = some (.slice a1 len1 cap1) from (hW.cell (p := ⟨w.heap.size + 1, 0, none⟩) (by first | (show w.heap.size + 1 < _; omega) | (simp; omega) | simp)).trans c1)
    have HT0 := Lib.hid (fun W (hW : Below u15.heap.size u15 W) => show Calls Try.prog 54 #[.agg #[.slice a0 len0 cap0]] W fun e w' => ∃ x y z, e = .returned (.agg #[.slice x y z]) ∧ Grid 32 w' W.heap.size w'.heap.size (.slice x y z) (rowsL len0 L0 Z0) ∧ Below W.heap.size W w' ∧ Below u15.heap.size u15 w' ∧ w'.cell? ⟨w.heap.size, 0, none⟩ = some (.slice a0 len0 cap0) ∧ w'.cell? ⟨w.heap.size + 1, 0, none⟩ = some (.slice a1 len1 cap1) from
      (toMulti_sl a0 len0 cap0 A0 L0 C0 Z0 W (w0.below (BB.trans (hW.mono BB.size))) hbig0 hrow0).mono fun e w' ⟨x, y, z, he, hg, hb⟩ => by
        have hb2 := hW.trans (hb.mono hW.size)
        exact ⟨x, y, z, he, hg, hb, hb2, HCc0.out _ hb2, HCc1.out _ hb2⟩)
    have HT1 := Lib.hid (fun W (hW : Below u15.heap.size u15 W) => show Calls Try.prog 54 #[.agg #[.slice a1 len1 cap1]] W fun e w' => ∃ x y z, e = .returned (.agg #[.slice x y z]) ∧ Grid 32 w' W.heap.size w'.heap.size (.slice x y z) (rowsL len1 L1 Z1) ∧ Below W.heap.size W w' ∧ Below u15.heap.size u15 w' ∧ w'.cell? ⟨w.heap.size, 0, none⟩ = some (.slice a0 len0 cap0) ∧ w'.cell? ⟨w.heap.size + 1, 0, none⟩ = some (.slice a1 len1 cap1) from
      (toMulti_sl a1 len1 cap1 A1 L1 C1 Z1 W (w1.below (BB.trans (hW.mono BB.size))) hbig1 hrow1).mono fun e w' ⟨x, y, z, he, hg, hb⟩ => by
        have hb2 := hW.trans (hb.mono hW.size)
        exact ⟨x, y, z, he, hg, hb, hb2, HCc0.out _ hb2, HCc1.out _ hb2⟩)
    have HE := Lib.hid (fun W (hW : Below u15.heap.size u15 W) x1 y1 z1 lo hi x2 y2 z2 lo' hi' (hg1 : Grid 32 W lo hi (.slice x1 y1 z1) (rowsL len0 L0 Z0)) (hg2 : Grid 32 W lo' hi' (.slice x2 y2 z2) (rowsL len1 L1 Z1)) => show Calls Try.prog 12 #[.agg #[.slice x1 y1 z1], .agg #[.slice x2 y2 z2]] W fun e w' => ∃ x y z, e = .returned (.tuple #[.agg #[.slice x y z], .int .i64 (addMC (rowsL len0 L0 Z0) (rowsL len1 L1 Z1))]) ∧ Grid 32 w' W.heap.size w'.heap.size (.slice x y z) (addMR (rowsL len0 L0 Z0) (rowsL len1 L1 Z1)) ∧ Below W.heap.size W w' ∧ Below u15.heap.size u15 w' ∧ w'.cell? ⟨w.heap.size, 0, none⟩ = some (.slice a0 len0 cap0) ∧ w'.cell? ⟨w.heap.size + 1, 0, none⟩ = some (.slice a1 len1 cap1) from
      (addMulti_impl _ _ _ _ _ _ _ _ _ _ W hg1 hg2 hsm0 hsm1).mono fun e w' ⟨x, y, z, he, hg, hb⟩ => by
        have hb2 := hW.trans (hb.mono hW.size)
        exact ⟨x, y, z, he, hg, hb, hb2, HCc0.out _ hb2, HCc1.out _ hb2⟩)
    go_wp2
    go_region_held3 (fun W => Below u15.heap.size u15 W ∧ W.cell? ⟨w.heap.size, 0, none⟩ = some (.slice a0 len0 cap0) ∧ W.cell? ⟨w.heap.size + 1, 0, none⟩ = some (.slice a1 len1 cap1)) (first | exact ⟨by assumption, by assumption, by assumption⟩ | exact ⟨Below.drew (by assumption), by assumption, by assumption⟩ | exact ⟨Below.refl _ _, by assumption, by assumption⟩ | exact ⟨Below.drew (Below.refl _ _), by assumption, by assumption⟩ | exact ⟨below_alM (by assumption) _, HCc0.out _ (below_alM (by assumption) _), HCc1.out _ (below_alM (by assumption) _)⟩ | exact ⟨below_alM (Below.drew (by assumption)) _, HCc0.out _ (below_alM (Below.drew (by assumption)) _), HCc1.out _ (below_alM (Below.drew (by assumption)) _)⟩ | (refine ⟨?_, HCc0.out _ ?_, HCc1.out _ ?_⟩ <;> (repeat (first | assumption | exact Below.refl _ _ | refine Below.drew ?_ | refine below_drewN ?_ _ | refine below_alM ?_ _ | refine Below.setCell ?_ (by first | exact Nat.le_refl _ | exact hb1.size | exact hb2.size) _)); done)) (first | (go_at_call 54; (with_reducible refine (HT0.out _ ?_).mono ?_); (repeat (first | assumption | exact Below.refl _ _ | refine Below.drew ?_ | refine below_drewN ?_ _ | refine below_alM ?_ _)); rintro e va16 ⟨x1, y1, z1, rfl, hG1, hbW, hb1, hc0, hc1⟩; (first | have hv := Var1.below (show Var1 _ u15.heap.size (.slice none 0 0) from Var1.made u15 (.slice none 0 0) 26) hbW | have hv := Var1.below (show Var1 (World.drew (World.alloc u15 (.cells #[.slice none 0 0] 26))) u15.heap.size (.slice none 0 0) from ⟨(Var1.made u15 (.slice none 0 0) 26).1, (Var1.made u15 (.slice none 0 0) 26).2⟩) hbW | skip)) | (go_at_call 54; (with_reducible refine (HT1.out _ ?_).mono ?_); (repeat (first | assumption | exact Below.refl _ _ | refine Below.drew ?_ | refine below_drewN ?_ _ | refine below_alM ?_ _)); rintro e vb16 ⟨x2, y2, z2, rfl, hG2, hbW2, hb2, he0, he1⟩; (try replace hv := Var1.below (show Var1 _ _ _ from hv) hbW2); (first | have hv := Var1.below (show Var1 _ va16.heap.size (.slice none 0 0) from Var1.made va16 (.slice none 0 0) 26) hbW2 | have hv := Var1.below (show Var1 (World.drew (World.alloc va16 (.cells #[.slice none 0 0] 26))) va16.heap.size (.slice none 0 0) from ⟨(Var1.made va16 (.slice none 0 0) 26).1, (Var1.made va16 (.slice none 0 0) 26).2⟩) hbW2 | skip); have hq := Below.trans (show Below va16.heap.size va16 _ from (by (repeat (first | assumption | exact Below.refl _ _ | refine Below.drew ?_ | refine below_drewN ?_ _ | refine below_alM ?_ _)))) (hbW2.mono (by simp)); have hG3 := hG1.below hq; clear hq) | (go_at_call 12; (with_reducible refine (HE.out _ ?_ _ _ _ _ _ _ _ _ _ _ (hG3.below ?_) (hG2.below ?_)).mono ?_); (repeat (first | assumption | exact Below.refl _ _ | refine Below.drew ?_ | refine below_drewN ?_ _ | refine below_alM ?_ _)); (repeat (first | assumption | exact Below.refl _ _ | refine Below.drew ?_ | refine below_drewN ?_ _ | refine below_alM ?_ _)); (repeat (first | assumption | exact Below.refl _ _ | refine Below.drew ?_ | refine below_drewN ?_ _ | refine below_alM ?_ _)); rintro e u16 ⟨xF5, yF5, zF5, rfl, F5, hbZ, bb, hd0, hd1⟩; (try replace hv := Var1.below (show Var1 _ _ _ from hv) hbZ); (first | have hv := Var1.below (show Var1 _ vb16.heap.size (.slice none 0 0) from Var1.made vb16 (.slice none 0 0) 26) hbZ | have hv := Var1.below (show Var1 (World.drew (World.alloc vb16 (.cells #[.slice none 0 0] 26))) vb16.heap.size (.slice none 0 0) from ⟨(Var1.made vb16 (.slice none 0 0) 26).1, (Var1.made vb16 (.slice none 0 0) 26).2⟩) hbZ | skip); (try obtain ⟨hvc, hvf⟩ := id hv)))
    clear HT0
    clear HT1
    clear HE
    clear HCc0
    clear HCc1
    all_goals
      have hz7 := hbW.size
      have hz8 := hbW2.size
      have hz9 := hbZ.size
      (try simp at hz7)
      (try simp at hz8)
      (try simp at hz9)
      obtain ⟨N9, hN9⟩ : ∃ N : Nat, N = u15.heap.size := ⟨_, rfl⟩
      rw [← hN9] at bb
      first | (have hO := out_set (b := vb16.heap.size) F5 hv bb (by omega) (by first | omega | (simp; done) | (simp; omega)) (Nat.le_refl _); generalize (u16.setCell ⟨vb16.heap.size, 0, none⟩ (.slice xF5 yF5 zF5)) = u17 at hO ⊢; generalize vb16.heap.size = bq16 at hO ⊢) | (have hO := out_set (b := va16.heap.size) F5 hv bb (by omega) (by first | omega | (simp; done) | (simp; omega)) (Nat.le_refl _); generalize (u16.setCell ⟨va16.heap.size, 0, none⟩ (.slice xF5 yF5 zF5)) = u17 at hO ⊢; generalize va16.heap.size = bq16 at hO ⊢) | (have hO := out_set (b := u15.heap.size) F5 hv bb (by omega) (by first | omega | (simp; done) | (simp; omega)) (Nat.le_refl _); generalize (u16.setCell ⟨u15.heap.size, 0, none⟩ (.slice xF5 yF5 zF5)) = u17 at hO ⊢; generalize u15.heap.size = bq16 at hO ⊢) | (have hO := out_alloc (T' := 26) F5 bb (by first | omega | (simp; omega)) (by omega) (Nat.le_refl _); generalize (u16.alloc (.cells #[.slice xF5 yF5 zF5] 26)) = u17 at hO ⊢; generalize u16.heap.size = bq16 at hO ⊢)
      clear hz7 hz8 hz9 bb hbZ hG1 hG2 hG3 hbW hbW2 hb1 hb2 hc0 he0 hd0 hc1 he1 hd1 F5
      (try clear hvc hvf)
      (try clear hv)
      rw [hN9] at hO
      clear hN9
      obtain ⟨lo16, hi16, F5, bb, cv16, ha16, hb16, hc16, hd16, he16⟩ := hO
      replace c0 := (bb.cell (p := ⟨w.heap.size, 0, none⟩) (by show w.heap.size < _; omega)).trans c0
      replace c1 := (bb.cell (p := ⟨w.heap.size + 1, 0, none⟩) (by show w.heap.size + 1 < _; omega)).trans c1
      replace cv3 := (bb.cell (p := ⟨bq3, 0, none⟩) (by show bq3 < _; omega)).trans cv3
      replace c3 := (bb.cell (p := ⟨u5.heap.size, 0, none⟩) (by show u5.heap.size < _; omega)).trans c3
      replace c4 := (bb.cell (p := ⟨u6.heap.size, 0, none⟩) (by show u6.heap.size < _; omega)).trans c4
      replace c5 := (bb.cell (p := ⟨u7.heap.size, 0, none⟩) (by show u7.heap.size < _; omega)).trans c5
      replace F1 := F1.below bb
      replace F2 := F2.below bb
      replace F3 := F3.below bb
      replace F4 := F4.below bb
      have S17 : u15.heap.size ≤ u17.heap.size := bb.size
      replace BB := BB.trans (bb.mono BB.size)
      clear bb
      go_wp2_with fail
      refine (eqMulti_any _ _ _ _ _ _ _ _ _ F5 F1).mono ?_
      rintro e u18 ⟨rfl, bb⟩
      replace c0 := (bb.cell (p := ⟨w.heap.size, 0, none⟩) (by show w.heap.size < _; omega)).trans c0
      replace c1 := (bb.cell (p := ⟨w.heap.size + 1, 0, none⟩) (by show w.heap.size + 1 < _; omega)).trans c1
      replace cv3 := (bb.cell (p := ⟨bq3, 0, none⟩) (by show bq3 < _; omega)).trans cv3
      replace c3 := (bb.cell (p := ⟨u5.heap.size, 0, none⟩) (by show u5.heap.size < _; omega)).trans c3
      replace c4 := (bb.cell (p := ⟨u6.heap.size, 0, none⟩) (by show u6.heap.size < _; omega)).trans c4
      replace c5 := (bb.cell (p := ⟨u7.heap.size, 0, none⟩) (by show u7.heap.size < _; omega)).trans c5
      replace cv16 := (bb.cell (p := ⟨bq16, 0, none⟩) (by show bq16 < _; omega)).trans cv16
      replace F1 := F1.below bb
      replace F2 := F2.below bb
      replace F3 := F3.below bb
      replace F4 := F4.below bb
      replace F5 := F5.below bb
      have S18 : u17.heap.size ≤ u18.heap.size := bb.size
      replace BB := BB.trans (bb.mono BB.size)
      clear bb
      go_wp2_with fail
      refine (heldMulti_any _ _ _ _ _ _ _ F4 (by omega) (by omega)).mono ?_
      rintro e u19 ⟨rfl, bb⟩
      replace c0 := (bb.cell (p := ⟨w.heap.size, 0, none⟩) (by show w.heap.size < _; omega)).trans c0
      replace c1 := (bb.cell (p := ⟨w.heap.size + 1, 0, none⟩) (by show w.heap.size + 1 < _; omega)).trans c1
      replace cv3 := (bb.cell (p := ⟨bq3, 0, none⟩) (by show bq3 < _; omega)).trans cv3
      replace c3 := (bb.cell (p := ⟨u5.heap.size, 0, none⟩) (by show u5.heap.size < _; omega)).trans c3
      replace c4 := (bb.cell (p := ⟨u6.heap.size, 0, none⟩) (by show u6.heap.size < _; omega)).trans c4
      replace c5 := (bb.cell (p := ⟨u7.heap.size, 0, none⟩) (by show u7.heap.size < _; omega)).trans c5
      replace cv16 := (bb.cell (p := ⟨bq16, 0, none⟩) (by show bq16 < _; omega)).trans cv16
      replace F1 := F1.below bb
      replace F2 := F2.below bb
      replace F3 := F3.below bb
      replace F4 := F4.below bb
      replace F5 := F5.below bb
      have S19 : u18.heap.size ≤ u19.heap.size := bb.size
      replace BB := BB.trans (bb.mono BB.size)
      clear bb
      go_wp2
      go_ret
      exact ⟨rfl, BB⟩
end Go.Proofs.Ytdgmmaghmdbnjaa
