/- The walk of the law FnExactMultiOf: it returns true, and writes nothing that was there. Conditions: none. -/
import Derived.Test.YtmnkfflmljeokaaRange
import Derived.Deep.RegionHeld3
import Derived.Test.YtmnkfflmljeokaaMultiOf
namespace Go.Proofs.Ytmnkfflmljeokaa
open Go.RowKit
set_option linter.unusedSimpArgs false
set_option linter.unusedVariables false

set_option maxRecDepth 10000 in
set_option maxHeartbeats 1000000 in
theorem walk_MultiOf (a0 : Option Addr) (len0 cap0 : Nat) (z0 : List Int) (w : World) (w0 : IsRow .i64 w a0 len0 cap0 z0) :
    Calls Try.prog 7 #[.slice a0 len0 cap0] w fun e w' => e = .returned (.bool true) ∧ Below w.heap.size w w' := by
  by_cases hbig0 : len0 ≤ 1048576
  · skip
    have hl0 := w0.parts.1
    have hle0 : (z0.take len0).length ≤ 1048576 := by simp; omega
    clear hl0
    have hx0 := ofR_tot (z0.take len0)
    have BB := Below.refl w.heap.size w
    go_enter Try.func7, Try.ntmps7
    go_wp2_with fail
    refine (toInt64S_any a0 len0 cap0 z0 _ (w0.below BB) hbig0).mono ?_
    rintro e u1 ⟨rfl, F1, bb⟩
    have S1 : w.heap.size ≤ u1.heap.size := bb.size
    replace BB := BB.trans (bb.mono BB.size)
    clear bb
    replace F1 := Row.mk F1
    go_wp2_with fail
    refine (multiOf_spec _ _ _ _ F1.1 hle0).mono ?_
    rintro e u2 ⟨xF2, yF2, zF2, rfl, F2, bb⟩
    replace F1 := F1.below bb
    have S2 : u1.heap.size ≤ u2.heap.size := bb.size
    replace BB := BB.trans (bb.mono BB.size)
    clear bb
    clear F1
    have al : Below u2.heap.size u2 (u2.alloc (.cells #[.slice xF2 yF2 zF2] 26)) := below_alM (Below.refl _ _) _
    have cnx : (u2.alloc (.cells #[.slice xF2 yF2 zF2] 26)).cell? ⟨u2.heap.size, 0, none⟩ = some (.slice xF2 yF2 zF2) := by simp
    go_wp2_with fail
    refine (toInt64S_any a0 len0 cap0 z0 _ (w0.below (below_alM BB _)) hbig0).mono ?_
    rintro e u3 ⟨rfl, F3, bb⟩
    replace F3 : Ints u3 (u2.heap.size + 1) (.slice (some ⟨u2.heap.size + 1, 0, none⟩) len0 len0) (z0.take len0) := by simpa using F3
    have c0 : u3.cell? ⟨u2.heap.size, 0, none⟩ = some (.slice xF2 yF2 zF2) := by rw [bb.cell (by simp)]; simp
    replace bb := (below_alM (Below.refl u2.heap.size u2) _).trans (bb.mono (by simp))
    clear al cnx 
    replace F2 := F2.below bb
    have S3 : u2.heap.size ≤ u3.heap.size := bb.size
    replace BB := BB.trans (bb.mono BB.size)
    clear bb
    have T3 : u2.heap.size + 1 ≤ u3.heap.size := by have := cell_block c0; simp at this; omega
    replace F3 := Row.mk F3
    go_wp2_with fail
    refine (multiOf_impl _ _ _ _ F3.1 hle0).mono ?_
    rintro e u4 ⟨xF4, yF4, zF4, rfl, F4, bb⟩
    replace c0 := (bb.cell (p := ⟨u2.heap.size, 0, none⟩) (by show u2.heap.size < _; omega)).trans c0
    replace F2 := F2.below bb
    replace F3 := F3.below bb
    have S4 : u3.heap.size ≤ u4.heap.size := bb.size
    replace BB := BB.trans (bb.mono BB.size)
    clear bb
    have al : Below u4.heap.size u4 (u4.alloc (.cells #[.slice xF4 yF4 zF4] 26)) := below_alM (Below.refl _ _) _
    have c0x : (u4.alloc (.cells #[.slice xF4 yF4 zF4] 26)).cell? ⟨u2.heap.size, 0, none⟩ = some (.slice xF2 yF2 zF2) := (al.cell (p := ⟨u2.heap.size, 0, none⟩) (by show u2.heap.size < _; omega)).trans c0
    have cnx : (u4.alloc (.cells #[.slice xF4 yF4 zF4] 26)).cell? ⟨u4.heap.size, 0, none⟩ = some (.slice xF4 yF4 zF4) := by simp
    go_wp2_with fail
    refine (eqMulti_any _ _ _ _ _ _ _ _ _ (F4.below (below_alM (Below.refl _ _) _)) (F2.below (below_alM (Below.refl _ _) _))).mono ?_
    rintro e u5 ⟨rfl, bb⟩
    have c1 : u5.cell? ⟨u4.heap.size, 0, none⟩ = some (.slice xF4 yF4 zF4) := by rw [bb.cell (by simp)]; simp
    replace bb := (below_alM (Below.refl u4.heap.size u4) _).trans (bb.mono (by simp))
    clear al cnx c0x
    replace c0 := (bb.cell (p := ⟨u2.heap.size, 0, none⟩) (by show u2.heap.size < _; omega)).trans c0
    replace F2 := F2.below bb
    replace F3 := F3.below bb
    replace F4 := F4.below bb
    have S5 : u4.heap.size ≤ u5.heap.size := bb.size
    replace BB := BB.trans (bb.mono BB.size)
    clear bb
    have T5 : u4.heap.size + 1 ≤ u5.heap.size := by have := cell_block c1; simp at this; omega
    go_wp2_with fail
    refine (toInt64S_any a0 len0 cap0 z0 _ (w0.below BB) hbig0).mono ?_
    rintro e u6 ⟨rfl, F5, bb⟩
    replace c0 := (bb.cell (p := ⟨u2.heap.size, 0, none⟩) (by show u2.heap.size < _; omega)).trans c0
    replace c1 := (bb.cell (p := ⟨u4.heap.size, 0, none⟩) (by show u4.heap.size < _; omega)).trans c1
    replace F2 := F2.below bb
    replace F3 := F3.below bb
    replace F4 := F4.below bb
    have S6 : u5.heap.size ≤ u6.heap.size := bb.size
    replace BB := BB.trans (bb.mono BB.size)
    clear bb
    replace F5 := Row.mk F5
    go_wp2_with fail
    refine (eqInt64S_any _ _ _ _ _ _ F3.1 F5.1).mono ?_
    rintro e u7 ⟨rfl, bb⟩
    replace c0 := (bb.cell (p := ⟨u2.heap.size, 0, none⟩) (by show u2.heap.size < _; omega)).trans c0
    replace c1 := (bb.cell (p := ⟨u4.heap.size, 0, none⟩) (by show u4.heap.size < _; omega)).trans c1
    replace F2 := F2.below bb
    replace F3 := F3.below bb
    replace F4 := F4.below bb
    replace F5 := F5.below bb
    have S7 : u6.heap.size ≤ u7.heap.size := bb.size
    replace BB := BB.trans (bb.mono BB.size)
    clear bb
    clear F5
    go_wp2_with fail
    refine (markInt64S_any _ _ _ _ _ F3.1 (by omega) (by omega)).mono ?_
    rintro e u8 ⟨rfl, NN, gr⟩
    have ww := Row.marked F3 gr
    replace NN := Row.again F3 gr NN
    clear gr
    have S8 : u7.heap.size ≤ u8.heap.size := ww.size
    replace c0 := (ww.cell2 (p := ⟨u2.heap.size, 0, none⟩) (by show u2.heap.size < _ ∨ _ ≤ u2.heap.size; omega) (by show u2.heap.size < _; omega)).trans c0
    replace c1 := (ww.cell2 (p := ⟨u4.heap.size, 0, none⟩) (by show u4.heap.size < _ ∨ _ ≤ u4.heap.size; omega) (by show u4.heap.size < _; omega)).trans c1
    replace BB := ww.below BB (by omega) (by omega)
    replace F2 := F2.within ww (by omega)
    replace F4 := F4.within ww (by omega)
    replace F3 := NN
    clear NN ww
    go_wp2_with fail
    refine (eqMulti_any _ _ _ _ _ _ _ _ _ F4 F2).mono ?_
    rintro e u9 ⟨rfl, bb⟩
    replace c0 := (bb.cell (p := ⟨u2.heap.size, 0, none⟩) (by show u2.heap.size < _; omega)).trans c0
    replace c1 := (bb.cell (p := ⟨u4.heap.size, 0, none⟩) (by show u4.heap.size < _; omega)).trans c1
    replace F2 := F2.below bb
    replace F3 := F3.below bb
    replace F4 := F4.below bb
    have S9 : u8.heap.size ≤ u9.heap.size := bb.size
    replace BB := BB.trans (bb.mono BB.size)
    clear bb
    go_wp2_with fail
    refine (markMulti_any _ _ (by decide) _ _ _ _ _ F4 (by omega) (by omega)).mono ?_
    rintro e u10 ⟨rfl, NN, ww⟩
    have S10 : u9.heap.size ≤ u10.heap.size := ww.size
    replace c0 := (ww.cell2 (p := ⟨u2.heap.size, 0, none⟩) (by show u2.heap.size < _ ∨ _ ≤ u2.heap.size; omega) (by show u2.heap.size < _; omega)).trans c0
    replace c1 := (ww.cell2 (p := ⟨u4.heap.size, 0, none⟩) (by show u4.heap.size < _ ∨ _ ≤ u4.heap.size; omega) (by show u4.heap.size < _; omega)).trans c1
    replace BB := ww.below BB (by omega) (by omega)
    replace F2 := F2.within ww (by omega)
    replace F3 := F3.within ww (by omega)
    replace F4 := NN
    clear NN ww
    go_wp2_with fail
    refine (heldMulti_any _ _ _ _ _ _ _ F4 (by omega) (by omega)).mono ?_
    rintro e u11 ⟨rfl, bb⟩
    replace c0 := (bb.cell (p := ⟨u2.heap.size, 0, none⟩) (by show u2.heap.size < _; omega)).trans c0
    replace c1 := (bb.cell (p := ⟨u4.heap.size, 0, none⟩) (by show u4.heap.size < _; omega)).trans c1
    replace F2 := F2.below bb
    replace F3 := F3.below bb
    replace F4 := F4.below bb
    have S11 : u10.heap.size ≤ u11.heap.size := bb.size
    replace BB := BB.trans (bb.mono BB.size)
    clear bb
    go_wp2_with fail
    refine (toInt64S_any a0 len0 cap0 z0 _ (w0.below BB) hbig0).mono ?_
    rintro e u12 ⟨rfl, F6, bb⟩
    replace c0 := (bb.cell (p := ⟨u2.heap.size, 0, none⟩) (by show u2.heap.size < _; omega)).trans c0
    replace c1 := (bb.cell (p := ⟨u4.heap.size, 0, none⟩) (by show u4.heap.size < _; omega)).trans c1
    replace F2 := F2.below bb
    replace F3 := F3.below bb
    replace F4 := F4.below bb
    have S12 : u11.heap.size ≤ u12.heap.size := bb.size
    replace BB := BB.trans (bb.mono BB.size)
    clear bb
    replace F6 := Row.mk F6
    go_wp2_with fail
    refine (multiOf_impl _ _ _ _ F6.1 hle0).mono ?_
    rintro e u13 ⟨xF7, yF7, zF7, rfl, F7, bb⟩
    replace c0 := (bb.cell (p := ⟨u2.heap.size, 0, none⟩) (by show u2.heap.size < _; omega)).trans c0
    replace c1 := (bb.cell (p := ⟨u4.heap.size, 0, none⟩) (by show u4.heap.size < _; omega)).trans c1
    replace F2 := F2.below bb
    replace F3 := F3.below bb
    replace F4 := F4.below bb
    replace F6 := F6.below bb
    have S13 : u12.heap.size ≤ u13.heap.size := bb.size
    replace BB := BB.trans (bb.mono BB.size)
    clear bb
    clear F6
    have al : Below u13.heap.size u13 (u13.alloc (.cells #[.slice xF7 yF7 zF7] 26)) := below_alM (Below.refl _ _) _
    have c0x : (u13.alloc (.cells #[.slice xF7 yF7 zF7] 26)).cell? ⟨u2.heap.size, 0, none⟩ = some (.slice xF2 yF2 zF2) := (al.cell (p := ⟨u2.heap.size, 0, none⟩) (by show u2.heap.size < _; omega)).trans c0
    have c1x : (u13.alloc (.cells #[.slice xF7 yF7 zF7] 26)).cell? ⟨u4.heap.size, 0, none⟩ = some (.slice xF4 yF4 zF4) := (al.cell (p := ⟨u4.heap.size, 0, none⟩) (by show u4.heap.size < _; omega)).trans c1
    have cnx : (u13.alloc (.cells #[.slice xF7 yF7 zF7] 26)).cell? ⟨u13.heap.size, 0, none⟩ = some (.slice xF7 yF7 zF7) := by simp
    go_wp2_with fail
    refine (eqMulti_any _ _ _ _ _ _ _ _ _ (F7.below (below_alM (Below.refl _ _) _)) (F2.below (below_alM (Below.refl _ _) _))).mono ?_
    rintro e u14 ⟨rfl, bb⟩
    have c2 : u14.cell? ⟨u13.heap.size, 0, none⟩ = some (.slice xF7 yF7 zF7) := by rw [bb.cell (by simp)]; simp
    replace bb := (below_alM (Below.refl u13.heap.size u13) _).trans (bb.mono (by simp))
    clear al cnx c0x c1x
    replace c0 := (bb.cell (p := ⟨u2.heap.size, 0, none⟩) (by show u2.heap.size < _; omega)).trans c0
    replace c1 := (bb.cell (p := ⟨u4.heap.size, 0, none⟩) (by show u4.heap.size < _; omega)).trans c1
    replace F2 := F2.below bb
    replace F3 := F3.below bb
    replace F4 := F4.below bb
    replace F7 := F7.below bb
    have S14 : u13.heap.size ≤ u14.heap.size := bb.size
    replace BB := BB.trans (bb.mono BB.size)
    clear bb
    have T14 : u13.heap.size + 1 ≤ u14.heap.size := by have := cell_block c2; simp at this; omega
    go_wp2_with fail
    refine (heldMulti_any _ _ _ _ _ _ _ F4 (by omega) (by omega)).mono ?_
    rintro e u15 ⟨rfl, bb⟩
    replace c0 := (bb.cell (p := ⟨u2.heap.size, 0, none⟩) (by show u2.heap.size < _; omega)).trans c0
    replace c1 := (bb.cell (p := ⟨u4.heap.size, 0, none⟩) (by show u4.heap.size < _; omega)).trans c1
    replace c2 := (bb.cell (p := ⟨u13.heap.size, 0, none⟩) (by show u13.heap.size < _; omega)).trans c2
    replace F2 := F2.below bb
    replace F3 := F3.below bb
    replace F4 := F4.below bb
    replace F7 := F7.below bb
    have S15 : u14.heap.size ≤ u15.heap.size := bb.size
    replace BB := BB.trans (bb.mono BB.size)
    clear bb
    go_wp2
    go_ret
    exact ⟨rfl, BB⟩
  · have hb0 : (1048576 : Int) < (len0 : Int) := by omega
    have hm0 := w0.parts.2.1
    unfold maxLen at hm0
    go_enter Try.func7, Try.ntmps7
    go_wp2
    go_ret
    exact ⟨rfl, Below.refl _ _⟩
end Go.Proofs.Ytmnkfflmljeokaa
