/- The walk of the law FnExactRotateMulti: it returns true, and writes nothing that was there. Conditions: none. -/
import Derived.Test.YtmnkfflmljeokaaRange
import Derived.Deep.RegionHeld3
import Derived.Test.YtmnkfflmljeokaaRotMi
namespace Go.Proofs.Ytmnkfflmljeokaa
open Go.RowKit
set_option linter.unusedSimpArgs false
set_option linter.unusedVariables false

set_option maxRecDepth 10000 in
set_option maxHeartbeats 1000000 in
theorem walk_RotateMulti (a0 : Option Addr) (len0 cap0 : Nat) (A0 : Nat → Option Addr) (L0 C0 : Nat → Nat) (Z0 : Nat → List Int) (n1 : Int) (w : World) (w0 : IsRows w a0 len0 cap0 A0 L0 C0 Z0) (lb1 : -9223372036854775808 ≤ n1) (ub1 : n1 ≤ 9223372036854775807) :
    Calls Try.prog 12 #[.agg #[.slice a0 len0 cap0], .int .i64 n1] w fun e w' => e = .returned (.bool true) ∧ Below w.heap.size w w' := by
  have hx0 := rotMR_tot (rowsL len0 L0 Z0) n1
  go_enter Try.func12, Try.ntmps12
  go_wp2_with fail
  refine (szMulti_any a0 len0 cap0 A0 L0 C0 Z0 1048576 _ (w0.below (below_alM (Below.refl w.heap.size w) _)) (by omega) (by omega)).mono ?_
  rintro e u1 ⟨r0, rfl, hr0, bb⟩
  have BB : Below w.heap.size w u1 := (below_alM (Below.refl w.heap.size w) _).trans (bb.mono (by simp))
  have S1 : w.heap.size + 1 ≤ u1.heap.size := by simpa using bb.size
  have c0 : u1.cell? ⟨w.heap.size, 0, none⟩ = some (.slice a0 len0 cap0) := by rw [bb.cell (by first | (simp; done) | (simp; omega))]; simp
  clear bb
  rcases hr0 with rfl | ⟨hrp0, hrv0⟩
  · go_wp2
    go_ret
    exact ⟨rfl, BB⟩
  have hbig0 : len0 ≤ 1048576 := by omega
  have htot0 : totL (rowsL len0 L0 Z0) ≤ 1048576 := by omega
  have hrow0 := rows_small w0 (by omega)
  have hsm0 := small_of_tot htot0
  have HRV0 := Lib.hid hrv0
  clear hrv0
  have hrq0 : r0 ≤ 1048576 := by have := HRV0.out; omega
  go_wp2_with fail
  refine (toMulti_sl a0 len0 cap0 A0 L0 C0 Z0 _ (w0.below BB) hbig0 hrow0).mono ?_
  rintro e u2 ⟨xF1, yF1, zF1, rfl, F1, bb⟩
  replace c0 := (bb.cell (p := ⟨w.heap.size, 0, none⟩) (by show w.heap.size < _; omega)).trans c0
  have S2 : u1.heap.size ≤ u2.heap.size := bb.size
  replace BB := BB.trans (bb.mono BB.size)
  clear bb
  go_wp2_with fail
  refine (rotateMulti_spec _ _ _ _ _ n1 _ F1 lb1 ub1).mono ?_
  rintro e u3 ⟨xF2, yF2, zF2, rfl, F2, bb⟩
  replace c0 := (bb.cell (p := ⟨w.heap.size, 0, none⟩) (by show w.heap.size < _; omega)).trans c0
  replace F1 := F1.below bb
  have S3 : u2.heap.size ≤ u3.heap.size := bb.size
  replace BB := BB.trans (bb.mono BB.size)
  clear bb
  clear F1
  have al : Below u3.heap.size u3 (u3.alloc (.cells #[.slice xF2 yF2 zF2] 26)) := below_alM (Below.refl _ _) _
  have c0x : (u3.alloc (.cells #[.slice xF2 yF2 zF2] 26)).cell? ⟨w.heap.size, 0, none⟩ = some (.slice a0 len0 cap0) := (al.cell (p := ⟨w.heap.size, 0, none⟩) (by show w.heap.size < _; omega)).trans c0
  have cnx : (u3.alloc (.cells #[.slice xF2 yF2 zF2] 26)).cell? ⟨u3.heap.size, 0, none⟩ = some (.slice xF2 yF2 zF2) := by simp
  go_wp2_with fail
  refine (toMulti_sl a0 len0 cap0 A0 L0 C0 Z0 _ (w0.below (below_alM BB _)) hbig0 hrow0).mono ?_
  rintro e u4 ⟨xF3, yF3, zF3, rfl, F3, bb⟩
  replace F3 : Grid 32 u4 (u3.heap.size + 1) _ _ _ := F3.widen (by simp) (Nat.le_refl _)
  have c1 : u4.cell? ⟨u3.heap.size, 0, none⟩ = some (.slice xF2 yF2 zF2) := by rw [bb.cell (by simp)]; simp
  replace bb := (below_alM (Below.refl u3.heap.size u3) _).trans (bb.mono (by simp))
  clear al cnx c0x
  replace c0 := (bb.cell (p := ⟨w.heap.size, 0, none⟩) (by show w.heap.size < _; omega)).trans c0
  replace F2 := F2.below bb
  have S4 : u3.heap.size ≤ u4.heap.size := bb.size
  replace BB := BB.trans (bb.mono BB.size)
  clear bb
  have T4 : u3.heap.size + 1 ≤ u4.heap.size := by have := cell_block c1; simp at this; omega
  have al : Below u4.heap.size u4 (u4.alloc (.cells #[.slice xF3 yF3 zF3] 26)) := below_alM (Below.refl _ _) _
  have c0x : (u4.alloc (.cells #[.slice xF3 yF3 zF3] 26)).cell? ⟨w.heap.size, 0, none⟩ = some (.slice a0 len0 cap0) := (al.cell (p := ⟨w.heap.size, 0, none⟩) (by show w.heap.size < _; omega)).trans c0
  have c1x : (u4.alloc (.cells #[.slice xF3 yF3 zF3] 26)).cell? ⟨u3.heap.size, 0, none⟩ = some (.slice xF2 yF2 zF2) := (al.cell (p := ⟨u3.heap.size, 0, none⟩) (by show u3.heap.size < _; omega)).trans c1
  have cnx : (u4.alloc (.cells #[.slice xF3 yF3 zF3] 26)).cell? ⟨u4.heap.size, 0, none⟩ = some (.slice xF3 yF3 zF3) := by simp
  go_wp2_with fail
  refine (rotateMulti_impl _ _ _ _ _ n1 _ (F3.below (below_alM (Below.refl _ _) _)) hsm0 lb1 ub1).mono ?_
  rintro e u5 ⟨xF4, yF4, zF4, rfl, F4, bb⟩
  replace F4 : Grid 32 u5 (u4.heap.size + 1) _ _ _ := F4.widen (by simp) (Nat.le_refl _)
  have c2 : u5.cell? ⟨u4.heap.size, 0, none⟩ = some (.slice xF3 yF3 zF3) := by rw [bb.cell (by simp)]; simp
  replace bb := (below_alM (Below.refl u4.heap.size u4) _).trans (bb.mono (by simp))
  clear al cnx c0x c1x
  replace c0 := (bb.cell (p := ⟨w.heap.size, 0, none⟩) (by show w.heap.size < _; omega)).trans c0
  replace c1 := (bb.cell (p := ⟨u3.heap.size, 0, none⟩) (by show u3.heap.size < _; omega)).trans c1
  replace F2 := F2.below bb
  replace F3 := F3.below bb
  have S5 : u4.heap.size ≤ u5.heap.size := bb.size
  replace BB := BB.trans (bb.mono BB.size)
  clear bb
  have T5 : u4.heap.size + 1 ≤ u5.heap.size := by have := cell_block c2; simp at this; omega
  have al : Below u5.heap.size u5 (u5.alloc (.cells #[.slice xF4 yF4 zF4] 26)) := below_alM (Below.refl _ _) _
  have c0x : (u5.alloc (.cells #[.slice xF4 yF4 zF4] 26)).cell? ⟨w.heap.size, 0, none⟩ = some (.slice a0 len0 cap0) := (al.cell (p := ⟨w.heap.size, 0, none⟩) (by show w.heap.size < _; omega)).trans c0
  have c1x : (u5.alloc (.cells #[.slice xF4 yF4 zF4] 26)).cell? ⟨u3.heap.size, 0, none⟩ = some (.slice xF2 yF2 zF2) := (al.cell (p := ⟨u3.heap.size, 0, none⟩) (by show u3.heap.size < _; omega)).trans c1
  have c2x : (u5.alloc (.cells #[.slice xF4 yF4 zF4] 26)).cell? ⟨u4.heap.size, 0, none⟩ = some (.slice xF3 yF3 zF3) := (al.cell (p := ⟨u4.heap.size, 0, none⟩) (by show u4.heap.size < _; omega)).trans c2
  have cnx : (u5.alloc (.cells #[.slice xF4 yF4 zF4] 26)).cell? ⟨u5.heap.size, 0, none⟩ = some (.slice xF4 yF4 zF4) := by simp
  go_wp2_with fail
  refine (eqMulti_any _ _ _ _ _ _ _ _ _ (F4.below (below_alM (Below.refl _ _) _)) (F2.below (below_alM (Below.refl _ _) _))).mono ?_
  rintro e u6 ⟨rfl, bb⟩
  have c3 : u6.cell? ⟨u5.heap.size, 0, none⟩ = some (.slice xF4 yF4 zF4) := by rw [bb.cell (by simp)]; simp
  replace bb := (below_alM (Below.refl u5.heap.size u5) _).trans (bb.mono (by simp))
  clear al cnx c0x c1x c2x
  replace c0 := (bb.cell (p := ⟨w.heap.size, 0, none⟩) (by show w.heap.size < _; omega)).trans c0
  replace c1 := (bb.cell (p := ⟨u3.heap.size, 0, none⟩) (by show u3.heap.size < _; omega)).trans c1
  replace c2 := (bb.cell (p := ⟨u4.heap.size, 0, none⟩) (by show u4.heap.size < _; omega)).trans c2
  replace F2 := F2.below bb
  replace F3 := F3.below bb
  replace F4 := F4.below bb
  have S6 : u5.heap.size ≤ u6.heap.size := bb.size
  replace BB := BB.trans (bb.mono BB.size)
  clear bb
  have T6 : u5.heap.size + 1 ≤ u6.heap.size := by have := cell_block c3; simp at this; omega
  have HCc0 := Lib.hid (fun W (hW : Below u6.heap.size u6 W) => show W.cell? ⟨w.heap.size, 0, none⟩ = some (.slice a0 len0 cap0) from (hW.cell (p := ⟨w.heap.size, 0, none⟩) (by first | (show w.heap.size < _; omega) | (simp; omega) | simp)).trans c0)
  have HCc2 := Lib.hid (fun W (hW : Below u6.heap.size u6 W) => show W.cell? ⟨u4.heap.size, 0, none⟩ = some (.slice xF3 yF3 zF3) from (hW.cell (p := ⟨u4.heap.size, 0, none⟩) (by first | (show u4.heap.size < _; omega) | (simp; omega) | simp)).trans c2)
  have HT := Lib.hid (fun W (hW : Below u6.heap.size u6 W) => show Calls Try.prog 36 #[.agg #[.slice a0 len0 cap0]] W fun e w' => ∃ x y z, e = .returned (.agg #[.slice x y z]) ∧ Grid 32 w' W.heap.size w'.heap.size (.slice x y z) (rowsL len0 L0 Z0) ∧ Below W.heap.size W w' ∧ Below u6.heap.size u6 w' ∧ w'.cell? ⟨w.heap.size, 0, none⟩ = some (.slice a0 len0 cap0) ∧ w'.cell? ⟨u4.heap.size, 0, none⟩ = some (.slice xF3 yF3 zF3) from
    (toMulti_sl a0 len0 cap0 A0 L0 C0 Z0 W (w0.below (BB.trans (hW.mono BB.size))) hbig0 hrow0).mono fun e w' ⟨x, y, z, he, hg, hb⟩ => by
      have hb2 := hW.trans (hb.mono hW.size)
      exact ⟨x, y, z, he, hg, hb, hb2, HCc0.out _ hb2, HCc2.out _ hb2⟩)
  have HE := Lib.hid (fun W (hW : Below u6.heap.size u6 W) x y z lo hi (hg : Grid 32 W lo hi (.slice x y z) (rowsL len0 L0 Z0)) => show Calls Try.prog 37 #[.agg #[.slice xF3 yF3 zF3], .agg #[.slice x y z]] W fun e w' => e = .returned (.bool true) ∧ Below u6.heap.size u6 w' ∧ w'.cell? ⟨w.heap.size, 0, none⟩ = some (.slice a0 len0 cap0) ∧ w'.cell? ⟨u4.heap.size, 0, none⟩ = some (.slice xF3 yF3 zF3) from
    (eqMulti_any _ _ _ _ _ _ _ _ W (F3.below hW) hg).mono fun e w' ⟨he, hb⟩ => by
      have hb2 := hW.trans (hb.mono hW.size)
      exact ⟨he, hb2, HCc0.out _ hb2, HCc2.out _ hb2⟩)
  go_wp2
  go_region_held3 (fun W => Below u6.heap.size u6 W ∧ W.cell? ⟨w.heap.size, 0, none⟩ = some (.slice a0 len0 cap0) ∧ W.cell? ⟨u4.heap.size, 0, none⟩ = some (.slice xF3 yF3 zF3)) (first | exact ⟨by assumption, by assumption, by assumption⟩ | exact ⟨Below.drew (by assumption), by assumption, by assumption⟩ | exact ⟨Below.refl _ _, by assumption, by assumption⟩ | exact ⟨Below.drew (Below.refl _ _), by assumption, by assumption⟩) (first | (go_at_call 36; (with_reducible refine (HT.out _ ?_).mono ?_); (first | assumption | exact Below.drew (by assumption) | exact Below.refl _ _ | exact Below.drew (Below.refl _ _)); rintro e v1 ⟨x1, y1, z1, rfl, hG1, hbW, hb1, hc0, hc1⟩) | (go_at_call 37; (first | have hE := HE.out _ hb1 _ _ _ _ _ hG1 | have hE := HE.out _ (Below.drew hb1) _ _ _ _ _ (Grid.drew hG1)); refine hE.mono ?_; rintro e u7 ⟨rfl, bb, hd0, hd1⟩; clear hE))
  clear HT
  clear HE
  clear HCc0
  clear HCc2
  replace c0 := (bb.cell (p := ⟨w.heap.size, 0, none⟩) (by show w.heap.size < _; omega)).trans c0
  replace c1 := (bb.cell (p := ⟨u3.heap.size, 0, none⟩) (by show u3.heap.size < _; omega)).trans c1
  replace c2 := (bb.cell (p := ⟨u4.heap.size, 0, none⟩) (by show u4.heap.size < _; omega)).trans c2
  replace c3 := (bb.cell (p := ⟨u5.heap.size, 0, none⟩) (by show u5.heap.size < _; omega)).trans c3
  replace F2 := F2.below bb
  replace F3 := F3.below bb
  replace F4 := F4.below bb
  have S7 : u6.heap.size ≤ u7.heap.size := bb.size
  replace BB := BB.trans (bb.mono BB.size)
  clear bb
  go_wp2_with fail
  refine (markMulti_any _ _ (by decide) _ _ _ _ _ F3 (by omega) (by omega)).mono ?_
  rintro e u8 ⟨rfl, NN, ww⟩
  have S8 : u7.heap.size ≤ u8.heap.size := ww.size
  replace c0 := (ww.cell2 (p := ⟨w.heap.size, 0, none⟩) (by show w.heap.size < _ ∨ _ ≤ w.heap.size; omega) (by show w.heap.size < _; omega)).trans c0
  replace c1 := (ww.cell2 (p := ⟨u3.heap.size, 0, none⟩) (by show u3.heap.size < _ ∨ _ ≤ u3.heap.size; omega) (by show u3.heap.size < _; omega)).trans c1
  replace c2 := (ww.cell2 (p := ⟨u4.heap.size, 0, none⟩) (by show u4.heap.size < _ ∨ _ ≤ u4.heap.size; omega) (by show u4.heap.size < _; omega)).trans c2
  replace c3 := (ww.cell2 (p := ⟨u5.heap.size, 0, none⟩) (by show u5.heap.size < _ ∨ _ ≤ u5.heap.size; omega) (by show u5.heap.size < _; omega)).trans c3
  replace BB := ww.below BB (by omega) (by omega)
  replace F2 := F2.within ww (by omega)
  replace F4 := F4.within ww (by omega)
  replace F3 := NN
  clear NN ww
  go_wp2_with fail
  refine (eqMulti_any _ _ _ _ _ _ _ _ _ F4 F2).mono ?_
  rintro e u9 ⟨rfl, bb⟩
  replace c0 := (bb.cell (p := ⟨w.heap.size, 0, none⟩) (by show w.heap.size < _; omega)).trans c0
  replace c1 := (bb.cell (p := ⟨u3.heap.size, 0, none⟩) (by show u3.heap.size < _; omega)).trans c1
  replace c2 := (bb.cell (p := ⟨u4.heap.size, 0, none⟩) (by show u4.heap.size < _; omega)).trans c2
  replace c3 := (bb.cell (p := ⟨u5.heap.size, 0, none⟩) (by show u5.heap.size < _; omega)).trans c3
  replace F2 := F2.below bb
  replace F3 := F3.below bb
  replace F4 := F4.below bb
  have S9 : u8.heap.size ≤ u9.heap.size := bb.size
  replace BB := BB.trans (bb.mono BB.size)
  clear bb
  go_wp2_with fail
  refine (markMulti_any _ _ (by decide) _ _ _ _ _ F4 (by omega) (by omega)).mono ?_
  rintro e u10 ⟨rfl, NN, ww⟩
  have S10 : u9.heap.size ≤ u10.heap.size := ww.size
  replace c0 := (ww.cell2 (p := ⟨w.heap.size, 0, none⟩) (by show w.heap.size < _ ∨ _ ≤ w.heap.size; omega) (by show w.heap.size < _; omega)).trans c0
  replace c1 := (ww.cell2 (p := ⟨u3.heap.size, 0, none⟩) (by show u3.heap.size < _ ∨ _ ≤ u3.heap.size; omega) (by show u3.heap.size < _; omega)).trans c1
  replace c2 := (ww.cell2 (p := ⟨u4.heap.size, 0, none⟩) (by show u4.heap.size < _ ∨ _ ≤ u4.heap.size; omega) (by show u4.heap.size < _; omega)).trans c2
  replace c3 := (ww.cell2 (p := ⟨u5.heap.size, 0, none⟩) (by show u5.heap.size < _ ∨ _ ≤ u5.heap.size; omega) (by show u5.heap.size < _; omega)).trans c3
  replace BB := ww.below BB (by omega) (by omega)
  replace F2 := F2.within ww (by omega)
  replace F3 := F3.within ww (by omega)
  replace F4 := NN
  clear NN ww
  go_wp2_with fail
  refine (heldMulti_any _ _ _ _ _ _ _ F4 (by omega) (by omega)).mono ?_
  rintro e u11 ⟨rfl, bb⟩
  replace c0 := (bb.cell (p := ⟨w.heap.size, 0, none⟩) (by show w.heap.size < _; omega)).trans c0
  replace c1 := (bb.cell (p := ⟨u3.heap.size, 0, none⟩) (by show u3.heap.size < _; omega)).trans c1
  replace c2 := (bb.cell (p := ⟨u4.heap.size, 0, none⟩) (by show u4.heap.size < _; omega)).trans c2
  replace c3 := (bb.cell (p := ⟨u5.heap.size, 0, none⟩) (by show u5.heap.size < _; omega)).trans c3
  replace F2 := F2.below bb
  replace F3 := F3.below bb
  replace F4 := F4.below bb
  have S11 : u10.heap.size ≤ u11.heap.size := bb.size
  replace BB := BB.trans (bb.mono BB.size)
  clear bb
  go_wp2_with fail
  refine (toMulti_sl a0 len0 cap0 A0 L0 C0 Z0 _ (w0.below BB) hbig0 hrow0).mono ?_
  rintro e u12 ⟨xF5, yF5, zF5, rfl, F5, bb⟩
  replace c0 := (bb.cell (p := ⟨w.heap.size, 0, none⟩) (by show w.heap.size < _; omega)).trans c0
  replace c1 := (bb.cell (p := ⟨u3.heap.size, 0, none⟩) (by show u3.heap.size < _; omega)).trans c1
  replace c2 := (bb.cell (p := ⟨u4.heap.size, 0, none⟩) (by show u4.heap.size < _; omega)).trans c2
  replace c3 := (bb.cell (p := ⟨u5.heap.size, 0, none⟩) (by show u5.heap.size < _; omega)).trans c3
  replace F2 := F2.below bb
  replace F3 := F3.below bb
  replace F4 := F4.below bb
  have S12 : u11.heap.size ≤ u12.heap.size := bb.size
  replace BB := BB.trans (bb.mono BB.size)
  clear bb
  go_wp2_with fail
  refine (rotateMulti_impl _ _ _ _ _ n1 _ F5 hsm0 lb1 ub1).mono ?_
  rintro e u13 ⟨xF6, yF6, zF6, rfl, F6, bb⟩
  replace c0 := (bb.cell (p := ⟨w.heap.size, 0, none⟩) (by show w.heap.size < _; omega)).trans c0
  replace c1 := (bb.cell (p := ⟨u3.heap.size, 0, none⟩) (by show u3.heap.size < _; omega)).trans c1
  replace c2 := (bb.cell (p := ⟨u4.heap.size, 0, none⟩) (by show u4.heap.size < _; omega)).trans c2
  replace c3 := (bb.cell (p := ⟨u5.heap.size, 0, none⟩) (by show u5.heap.size < _; omega)).trans c3
  replace F2 := F2.below bb
  replace F3 := F3.below bb
  replace F4 := F4.below bb
  replace F5 := F5.below bb
  have S13 : u12.heap.size ≤ u13.heap.size := bb.size
  replace BB := BB.trans (bb.mono BB.size)
  clear bb
  clear F5
  have al : Below u13.heap.size u13 (u13.alloc (.cells #[.slice xF6 yF6 zF6] 26)) := below_alM (Below.refl _ _) _
  have c0x : (u13.alloc (.cells #[.slice xF6 yF6 zF6] 26)).cell? ⟨w.heap.size, 0, none⟩ = some (.slice a0 len0 cap0) := (al.cell (p := ⟨w.heap.size, 0, none⟩) (by show w.heap.size < _; omega)).trans c0
  have c1x : (u13.alloc (.cells #[.slice xF6 yF6 zF6] 26)).cell? ⟨u3.heap.size, 0, none⟩ = some (.slice xF2 yF2 zF2) := (al.cell (p := ⟨u3.heap.size, 0, none⟩) (by show u3.heap.size < _; omega)).trans c1
  have c2x : (u13.alloc (.cells #[.slice xF6 yF6 zF6] 26)).cell? ⟨u4.heap.size, 0, none⟩ = some (.slice xF3 yF3 zF3) := (al.cell (p := ⟨u4.heap.size, 0, none⟩) (by show u4.heap.size < _; omega)).trans c2
  have c3x : (u13.alloc (.cells #[.slice xF6 yF6 zF6] 26)).cell? ⟨u5.heap.size, 0, none⟩ = some (.slice xF4 yF4 zF4) := (al.cell (p := ⟨u5.heap.size, 0, none⟩) (by show u5.heap.size < _; omega)).trans c3
  have cnx : (u13.alloc (.cells #[.slice xF6 yF6 zF6] 26)).cell? ⟨u13.heap.size, 0, none⟩ = some (.slice xF6 yF6 zF6) := by simp
  go_wp2_with fail
  refine (eqMulti_any _ _ _ _ _ _ _ _ _ (F6.below (below_alM (Below.refl _ _) _)) (F2.below (below_alM (Below.refl _ _) _))).mono ?_
  rintro e u14 ⟨rfl, bb⟩
  have c4 : u14.cell? ⟨u13.heap.size, 0, none⟩ = some (.slice xF6 yF6 zF6) := by rw [bb.cell (by simp)]; simp
  replace bb := (below_alM (Below.refl u13.heap.size u13) _).trans (bb.mono (by simp))
  clear al cnx c0x c1x c2x c3x
  replace c0 := (bb.cell (p := ⟨w.heap.size, 0, none⟩) (by show w.heap.size < _; omega)).trans c0
  replace c1 := (bb.cell (p := ⟨u3.heap.size, 0, none⟩) (by show u3.heap.size < _; omega)).trans c1
  replace c2 := (bb.cell (p := ⟨u4.heap.size, 0, none⟩) (by show u4.heap.size < _; omega)).trans c2
  replace c3 := (bb.cell (p := ⟨u5.heap.size, 0, none⟩) (by show u5.heap.size < _; omega)).trans c3
  replace F2 := F2.below bb
  replace F3 := F3.below bb
  replace F4 := F4.below bb
  replace F6 := F6.below bb
  have S14 : u13.heap.size ≤ u14.heap.size := bb.size
  replace BB := BB.trans (bb.mono BB.size)
  clear bb
  have T14 : u13.heap.size + 1 ≤ u14.heap.size := by have := cell_block c4; simp at this; omega
  go_wp2_with fail
  refine (heldMulti_any _ _ _ _ _ _ _ F4 (by omega) (by omega)).mono ?_
  rintro e u15 ⟨rfl, bb⟩
  replace c0 := (bb.cell (p := ⟨w.heap.size, 0, none⟩) (by show w.heap.size < _; omega)).trans c0
  replace c1 := (bb.cell (p := ⟨u3.heap.size, 0, none⟩) (by show u3.heap.size < _; omega)).trans c1
  replace c2 := (bb.cell (p := ⟨u4.heap.size, 0, none⟩) (by show u4.heap.size < _; omega)).trans c2
  replace c3 := (bb.cell (p := ⟨u5.heap.size, 0, none⟩) (by show u5.heap.size < _; omega)).trans c3
  replace c4 := (bb.cell (p := ⟨u13.heap.size, 0, none⟩) (by show u13.heap.size < _; omega)).trans c4
  replace F2 := F2.below bb
  replace F3 := F3.below bb
  replace F4 := F4.below bb
  replace F6 := F6.below bb
  have S15 : u14.heap.size ≤ u15.heap.size := bb.size
  replace BB := BB.trans (bb.mono BB.size)
  clear bb
  go_wp2
  go_ret
  exact ⟨rfl, BB⟩
end Go.Proofs.Ytmnkfflmljeokaa
