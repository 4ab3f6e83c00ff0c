/- The walk of the law FnExactPrimeParts: it returns true, and writes nothing that was there. Conditions: none. -/
import Derived.Test.YtdghbbnddgngoaaInts
import Derived.Test.YtdghbbnddgngoaaPrJ
namespace Go.Proofs.Ytdghbbnddgngoaa
open Go.RowKit
set_option linter.unusedSimpArgs false
set_option linter.unusedVariables false

theorem Grid.keptU {E : TypeId} {w w' : World} {B C N : Nat} {v x : Value} {pss : List (List Int)} (h : Grid E w B C v pss) (gr : w.grownBy w' x.ownBlock) (hx : Under N x) (hN : N ≤ B) : Grid E w' B C v pss :=
  h.keep fun k hlt h1 h2 => gr.block k hlt fun e => by have := hx k e.symm; omega
theorem Grid.keptL {E : TypeId} {w w' : World} {B C D : Nat} {v x : Value} {xs : List Int} {pss : List (List Int)} (h : Grid E w B C v pss) (gr : w.grownBy w' x.ownBlock) (hx : Ints w D x xs) (hD : C ≤ D) : Grid E w' B C v pss :=
  h.keep fun k hlt h1 h2 => gr.block k hlt fun e => by have := hx.own_ge e.symm; omega
theorem totL_rows (M : Nat) : ∀ pss : List (List Int), (∀ r ∈ pss, r.length ≤ M) → totL pss ≤ pss.length * M
  | [], _ => by simp [totL]
  | r :: pss, h => by
    have h1 := totL_rows M pss fun x hx => h x (by simp [hx])
    have h2 := h r (by simp)
    have e : totL (r :: pss) = r.length + totL pss := by simp [totL]
    rw [e, List.length_cons, Nat.add_mul]
    omega
theorem ppL_rows : ∀ (f : Nat) (p : List Int), (p = [] ∨ prC p = 0) → p.length ≤ 12 → ∀ r ∈ ppL f p, r.length ≤ 12
  | 0, _, _, _, r, h => by simp [ppL] at h
  | f + 1, p, hp, hl, r, h => by
    by_cases hne : p = []
    · subst hne; rw [ppL_nil] at h; simp at h
    · have hz := hp.resolve_left hne
      have h1 := partL_len hz
      have h2 := restL_len hz
      rw [ppL_more hne] at h
      rcases List.mem_cons.1 h with rfl | h
      · omega
      · exact ppL_rows f _ (restL_ok hz) (by omega) r h
theorem ppA_tot (p : List Int) : totL (ppA p) ≤ 144 := by
  unfold ppA
  split
  · rename_i hz
    have hl := (okPat_len (prC_zero hz).1).2
    have h1 := totL_rows 12 (ppL p.length p) (ppL_rows _ _ (.inr hz) hl)
    have h2 := ppL_len p.length p
    have := Nat.mul_le_mul_right 12 (show (ppL p.length p).length ≤ 12 by omega)
    omega
  · simp [totL]

set_option maxHeartbeats 1000000 in
theorem walk_PrimeParts (a0 : Option Addr) (len0 cap0 : Nat) (z0 : List Int) (w : World) (w0 : IsRow .i64 w a0 len0 cap0 z0) :
    Calls Try.prog 5 #[.slice a0 len0 cap0] w fun e w' => e = .returned (.bool true) ∧ Below w.heap.size w w' := by
  by_cases hbig0 : len0 ≤ 1048576
  · skip
    have hl0 := w0.parts.1
    have ht0 : (z0.take len0).length = len0 := by simp; omega
    have hle0 : (z0.take len0).length ≤ 1048576 := by omega
    clear hl0 ht0
    have hx0 := ppA_tot (z0.take len0)
    have BB := Below.refl w.heap.size w
    go_enter Try.func5, Try.ntmps5
    go_wp2_with fail
    refine (toInt64S_any a0 len0 cap0 z0 _ (w0.below BB) hbig0).mono ?_
    rintro e u1 ⟨rfl, I1, bb⟩
    have S1 : w.heap.size ≤ u1.heap.size := bb.size
    replace BB := BB.trans (bb.mono BB.size)
    clear bb
    have UI1 := I1.under
    go_wp2_with fail
    refine (primeParts_spec _ _ _ _ I1).mono ?_
    rintro e u2 ⟨v2, rfl, G2, bb⟩
    replace I1 := I1.below bb
    have S2 : u1.heap.size ≤ u2.heap.size := bb.size
    replace BB := BB.trans (bb.mono BB.size)
    clear bb
    clear UI1 I1
    go_wp2_with fail
    refine (toInt64S_any a0 len0 cap0 z0 _ (w0.below BB) hbig0).mono ?_
    rintro e u3 ⟨rfl, I3, bb⟩
    replace G2 := G2.below bb
    have S3 : u2.heap.size ≤ u3.heap.size := bb.size
    replace BB := BB.trans (bb.mono BB.size)
    clear bb
    have UI3 := I3.under
    go_wp2_with fail
    refine (primeParts_impl _ _ _ _ I3).mono ?_
    rintro e u4 ⟨v4, rfl, G4, bb⟩
    replace G2 := G2.below bb
    replace I3 := I3.below bb
    have S4 : u3.heap.size ≤ u4.heap.size := bb.size
    replace BB := BB.trans (bb.mono BB.size)
    clear bb
    go_wp2_with fail
    refine (eqInt64SS_any _ _ _ _ _ _ _ _ _ G4 G2).mono ?_
    rintro e u5 ⟨rfl, bb⟩
    replace G2 := G2.below bb
    replace I3 := I3.below bb
    replace G4 := G4.below bb
    have S5 : u4.heap.size ≤ u5.heap.size := bb.size
    replace BB := BB.trans (bb.mono BB.size)
    clear bb
    go_wp2_with fail
    refine (toInt64S_any a0 len0 cap0 z0 _ (w0.below BB) hbig0).mono ?_
    rintro e u6 ⟨rfl, I5, bb⟩
    replace G2 := G2.below bb
    replace I3 := I3.below bb
    replace G4 := G4.below bb
    have S6 : u5.heap.size ≤ u6.heap.size := bb.size
    replace BB := BB.trans (bb.mono BB.size)
    clear bb
    have UI5 := I5.under
    go_wp2_with fail
    refine (eqInt64S_any _ _ _ _ _ _ I3 I5).mono ?_
    rintro e u7 ⟨rfl, bb⟩
    replace G2 := G2.below bb
    replace I3 := I3.below bb
    replace G4 := G4.below bb
    replace I5 := I5.below bb
    have S7 : u6.heap.size ≤ u7.heap.size := bb.size
    replace BB := BB.trans (bb.mono BB.size)
    clear bb
    clear UI5 I5
    go_wp2_with fail
    refine (markInt64S_any _ _ _ _ _ I3 (by omega) (by omega)).mono ?_
    rintro e u8 ⟨rfl, NN, gr⟩
    have S8 : u7.heap.size ≤ u8.heap.size := gr.size
    replace BB := marked_below BB I3 (by omega) gr
    replace G2 := G2.keptL gr I3 (by omega)
    replace G4 := G4.keptU gr UI3 (by omega)
    clear NN gr
    clear UI3 I3
    go_wp2_with fail
    refine (eqInt64SS_any _ _ _ _ _ _ _ _ _ G4 G2).mono ?_
    rintro e u9 ⟨rfl, bb⟩
    replace G2 := G2.below bb
    replace G4 := G4.below bb
    have S9 : u8.heap.size ≤ u9.heap.size := bb.size
    replace BB := BB.trans (bb.mono BB.size)
    clear bb
    go_wp2_with fail
    refine (markInt64SS_any _ _ (by decide) _ _ _ _ _ G4 (by omega) (by omega)).mono ?_
    rintro e u10 ⟨rfl, NN, gw⟩
    have S10 : u9.heap.size ≤ u10.heap.size := gw.size
    replace BB := gw.below BB (by omega) BB.size
    replace G2 := G2.within gw (by omega)
    replace G4 := NN
    clear NN gw
    go_wp2_with fail
    refine (heldInt64SS_any _ _ _ _ _ _ _ G4 (by omega) (by omega)).mono ?_
    rintro e u11 ⟨rfl, bb⟩
    replace G2 := G2.below bb
    replace G4 := G4.below bb
    have S11 : u10.heap.size ≤ u11.heap.size := bb.size
    replace BB := BB.trans (bb.mono BB.size)
    clear bb
    go_wp2_with fail
    refine (toInt64S_any a0 len0 cap0 z0 _ (w0.below BB) hbig0).mono ?_
    rintro e u12 ⟨rfl, I6, bb⟩
    replace G2 := G2.below bb
    replace G4 := G4.below bb
    have S12 : u11.heap.size ≤ u12.heap.size := bb.size
    replace BB := BB.trans (bb.mono BB.size)
    clear bb
    have UI6 := I6.under
    go_wp2_with fail
    refine (primeParts_impl _ _ _ _ I6).mono ?_
    rintro e u13 ⟨v7, rfl, G7, bb⟩
    replace G2 := G2.below bb
    replace G4 := G4.below bb
    replace I6 := I6.below bb
    have S13 : u12.heap.size ≤ u13.heap.size := bb.size
    replace BB := BB.trans (bb.mono BB.size)
    clear bb
    clear UI6 I6
    go_wp2_with fail
    refine (eqInt64SS_any _ _ _ _ _ _ _ _ _ G7 G2).mono ?_
    rintro e u14 ⟨rfl, bb⟩
    replace G2 := G2.below bb
    replace G4 := G4.below bb
    replace G7 := G7.below bb
    have S14 : u13.heap.size ≤ u14.heap.size := bb.size
    replace BB := BB.trans (bb.mono BB.size)
    clear bb
    clear G7
    go_wp2_with fail
    refine (heldInt64SS_any _ _ _ _ _ _ _ G4 (by omega) (by omega)).mono ?_
    rintro e u15 ⟨rfl, bb⟩
    replace G2 := G2.below bb
    replace G4 := G4.below bb
    have S15 : u14.heap.size ≤ u15.heap.size := bb.size
    replace BB := BB.trans (bb.mono BB.size)
    clear bb
    go_wp2
    go_ret
    exact ⟨rfl, BB⟩
  · have hb0 : (1048576 : Int) < (len0 : Int) := by omega
    have hm0 := w0.parts.2.1
    unfold maxLen at hm0
    go_enter Try.func5, Try.ntmps5
    go_wp2
    go_ret
    exact ⟨rfl, Below.refl _ _⟩
end Go.Proofs.Ytdghbbnddgngoaa
