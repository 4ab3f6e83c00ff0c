/- The walk of the law FnExactMultiText: it returns true, and writes nothing that was there. Conditions: none. -/
import Derived.Test.YtcgbnoecjfagjaaRange
import Derived.Deep.RegionHeld3
import Derived.Test.YtcgbnoecjfagjaaTextM
namespace Go.Proofs.Ytcgbnoecjfagjaa
open Go.RowKit
set_option linter.unusedSimpArgs false
set_option linter.unusedVariables false

set_option maxRecDepth 10000 in
set_option maxHeartbeats 1000000 in
theorem walk_MultiText (a0 : Option Addr) (len0 cap0 : Nat) (A0 : Nat → Option Addr) (L0 C0 : Nat → Nat) (Z0 : Nat → List Int) (w : World) (w0 : IsRows w a0 len0 cap0 A0 L0 C0 Z0) :
    Calls Try.prog 6 #[.agg #[.slice a0 len0 cap0]] w fun e w' => e = .returned (.bool true) ∧ Below w.heap.size w w' := by
  go_enter Try.func6, Try.ntmps6
  go_wp2_with fail
  refine (szMulti_any a0 len0 cap0 A0 L0 C0 Z0 1048576 _ (w0.below (below_alM (Below.refl w.heap.size w) _)) (by omega) (by omega)).mono ?_
  rintro e u1 ⟨r0, rfl, hr0, bb⟩
  have BB : Below w.heap.size w u1 := (below_alM (Below.refl w.heap.size w) _).trans (bb.mono (by simp))
  have S1 : w.heap.size + 1 ≤ u1.heap.size := by simpa using bb.size
  have c0 : u1.cell? ⟨w.heap.size, 0, none⟩ = some (.slice a0 len0 cap0) := by rw [bb.cell (by first | (simp; done) | (simp; omega))]; simp
  clear bb
  rcases hr0 with rfl | ⟨hrp0, hrv0⟩
  · go_wp2
    go_ret
    exact ⟨rfl, BB⟩
  have hbig0 : len0 ≤ 1048576 := by omega
  have htot0 : totL (rowsL len0 L0 Z0) ≤ 1048576 := by omega
  have hrow0 := rows_small w0 (by omega)
  have hsm0 := small_of_tot htot0
  have HRV0 := Lib.hid hrv0
  clear hrv0
  have hrq0 : r0 ≤ 1048576 := by have := HRV0.out; omega
  go_wp2_with fail
  refine (toMulti_sl a0 len0 cap0 A0 L0 C0 Z0 _ (w0.below BB) hbig0 hrow0).mono ?_
  rintro e u2 ⟨xF1, yF1, zF1, rfl, F1, bb⟩
  replace c0 := (bb.cell (p := ⟨w.heap.size, 0, none⟩) (by show w.heap.size < _; omega)).trans c0
  have S2 : u1.heap.size ≤ u2.heap.size := bb.size
  replace BB := BB.trans (bb.mono BB.size)
  clear bb
  go_wp2_with fail
  refine (multiText_spec _ _ _ _ _ _ F1).mono ?_
  rintro e u3 ⟨rfl, bb⟩
  replace c0 := (bb.cell (p := ⟨w.heap.size, 0, none⟩) (by show w.heap.size < _; omega)).trans c0
  replace F1 := F1.below bb
  have S3 : u2.heap.size ≤ u3.heap.size := bb.size
  replace BB := BB.trans (bb.mono BB.size)
  clear bb
  clear F1
  go_wp2_with fail
  refine (toMulti_sl a0 len0 cap0 A0 L0 C0 Z0 _ (w0.below BB) hbig0 hrow0).mono ?_
  rintro e u4 ⟨xF2, yF2, zF2, rfl, F2, bb⟩
  replace c0 := (bb.cell (p := ⟨w.heap.size, 0, none⟩) (by show w.heap.size < _; omega)).trans c0
  have S4 : u3.heap.size ≤ u4.heap.size := bb.size
  replace BB := BB.trans (bb.mono BB.size)
  clear bb
  have al : Below u4.heap.size u4 (u4.alloc (.cells #[.slice xF2 yF2 zF2] 26)) := below_alM (Below.refl _ _) _
  have c0x : (u4.alloc (.cells #[.slice xF2 yF2 zF2] 26)).cell? ⟨w.heap.size, 0, none⟩ = some (.slice a0 len0 cap0) := (al.cell (p := ⟨w.heap.size, 0, none⟩) (by show w.heap.size < _; omega)).trans c0
  have cnx : (u4.alloc (.cells #[.slice xF2 yF2 zF2] 26)).cell? ⟨u4.heap.size, 0, none⟩ = some (.slice xF2 yF2 zF2) := by simp
  go_wp2_with fail
  refine (multiText_impl _ _ _ _ _ _ (F2.below (below_alM (Below.refl _ _) _)) hsm0).mono ?_
  rintro e u5 ⟨rfl, bb⟩
  have c1 : u5.cell? ⟨u4.heap.size, 0, none⟩ = some (.slice xF2 yF2 zF2) := by rw [bb.cell (by simp)]; simp
  replace bb := (below_alM (Below.refl u4.heap.size u4) _).trans (bb.mono (by simp))
  clear al cnx c0x
  replace c0 := (bb.cell (p := ⟨w.heap.size, 0, none⟩) (by show w.heap.size < _; omega)).trans c0
  replace F2 := F2.below bb
  have S5 : u4.heap.size ≤ u5.heap.size := bb.size
  replace BB := BB.trans (bb.mono BB.size)
  clear bb
  have T5 : u4.heap.size + 1 ≤ u5.heap.size := by have := cell_block c1; simp at this; omega
  have HCc0 := Lib.hid (fun W (hW : Below u5.heap.size u5 W) => show W.cell? ⟨w.heap.size, 0, none⟩ = some (.slice a0 len0 cap0) from (hW.cell (p := ⟨w.heap.size, 0, none⟩) (by first | (show w.heap.size < _; omega) | (simp; omega) | simp)).trans c0)
  have HCc1 := Lib.hid (fun W (hW : Below u5.heap.size u5 W) => show W.cell? ⟨u4.heap.size, 0, none⟩ = some (.slice xF2 yF2 zF2) from (hW.cell (p := ⟨u4.heap.size, 0, none⟩) (by first | (show u4.heap.size < _; omega) | (simp; omega) | simp)).trans c1)
  have HT := Lib.hid (fun W (hW : Below u5.heap.size u5 W) => show Calls Try.prog 28 #[.agg #[.slice a0 len0 cap0]] W fun e w' => ∃ x y z, e = .returned (.agg #[.slice x y z]) ∧ Grid 32 w' W.heap.size w'.heap.size (.slice x y z) (rowsL len0 L0 Z0) ∧ Below W.heap.size W w' ∧ Below u5.heap.size u5 w' ∧ w'.cell? ⟨w.heap.size, 0, none⟩ = some (.slice a0 len0 cap0) ∧ w'.cell? ⟨u4.heap.size, 0, none⟩ = some (.slice xF2 yF2 zF2) from
    (toMulti_sl a0 len0 cap0 A0 L0 C0 Z0 W (w0.below (BB.trans (hW.mono BB.size))) hbig0 hrow0).mono fun e w' ⟨x, y, z, he, hg, hb⟩ => by
      have hb2 := hW.trans (hb.mono hW.size)
      exact ⟨x, y, z, he, hg, hb, hb2, HCc0.out _ hb2, HCc1.out _ hb2⟩)
  have HE := Lib.hid (fun W (hW : Below u5.heap.size u5 W) x y z lo hi (hg : Grid 32 W lo hi (.slice x y z) (rowsL len0 L0 Z0)) => show Calls Try.prog 29 #[.agg #[.slice xF2 yF2 zF2], .agg #[.slice x y z]] W fun e w' => e = .returned (.bool true) ∧ Below u5.heap.size u5 w' ∧ w'.cell? ⟨w.heap.size, 0, none⟩ = some (.slice a0 len0 cap0) ∧ w'.cell? ⟨u4.heap.size, 0, none⟩ = some (.slice xF2 yF2 zF2) from
    (eqMulti_any _ _ _ _ _ _ _ _ W (F2.below hW) hg).mono fun e w' ⟨he, hb⟩ => by
      have hb2 := hW.trans (hb.mono hW.size)
      exact ⟨he, hb2, HCc0.out _ hb2, HCc1.out _ hb2⟩)
  go_wp2
  go_region_held3 (fun W => Below u5.heap.size u5 W ∧ W.cell? ⟨w.heap.size, 0, none⟩ = some (.slice a0 len0 cap0) ∧ W.cell? ⟨u4.heap.size, 0, none⟩ = some (.slice xF2 yF2 zF2)) (first | exact ⟨by assumption, by assumption, by assumption⟩ | exact ⟨Below.drew (by assumption), by assumption, by assumption⟩ | exact ⟨Below.refl _ _, by assumption, by assumption⟩ | exact ⟨Below.drew (Below.refl _ _), by assumption, by assumption⟩) (first | (go_at_call 28; (with_reducible refine (HT.out _ ?_).mono ?_); (first | assumption | exact Below.drew (by assumption) | exact Below.refl _ _ | exact Below.drew (Below.refl _ _)); rintro e v1 ⟨x1, y1, z1, rfl, hG1, hbW, hb1, hc0, hc1⟩) | (go_at_call 29; (first | have hE := HE.out _ hb1 _ _ _ _ _ hG1 | have hE := HE.out _ (Below.drew hb1) _ _ _ _ _ (Grid.drew hG1)); refine hE.mono ?_; rintro e u6 ⟨rfl, bb, hd0, hd1⟩; clear hE))
  clear HT
  clear HE
  clear HCc0
  clear HCc1
  replace c0 := (bb.cell (p := ⟨w.heap.size, 0, none⟩) (by show w.heap.size < _; omega)).trans c0
  replace c1 := (bb.cell (p := ⟨u4.heap.size, 0, none⟩) (by show u4.heap.size < _; omega)).trans c1
  replace F2 := F2.below bb
  have S6 : u5.heap.size ≤ u6.heap.size := bb.size
  replace BB := BB.trans (bb.mono BB.size)
  clear bb
  go_wp2
  go_ret
  exact ⟨rfl, BB⟩
end Go.Proofs.Ytcgbnoecjfagjaa
