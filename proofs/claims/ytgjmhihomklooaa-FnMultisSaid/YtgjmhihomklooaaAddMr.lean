/- Multiplex: AddMulti, the program's, where both patterns have one period. Conditions: beats of at most 10^7 throws. -/
import Derived.Test.YtgjmhihomklooaaAddMs
import Derived.Test.YtgjmhihomklooaaConcat
import Derived.Test.YtgjmhihomklooaaRotMi
namespace Go.Proofs.Ytgjmhihomklooaa
open Go.RowKit
set_option linter.unusedSimpArgs false
set_option linter.unusedVariables false

theorem addR_step (p q : List (List Int)) (n k : Nat) (hn : n = p.length) (hk : k < n) : ((addG p q).take k ++ List.replicate (n - k) []).set k (sortL (p.getD k [] ++ q.getD k [])) = (addG p q).take (k + 1) ++ List.replicate (n - (k + 1)) [] := by
  have h := rows_step (addG p q) n k (by rw [addG_len, hn]) hk
  rwa [addG_at p q k (by omega)] at h

set_option maxRecDepth 10000 in
set_option maxHeartbeats 2000000 in
theorem addMulti_row (g cap g' cap' n : Nat) (E E' : TypeId) (B C B' C' : Nat) (p q : List (List Int)) (w : World) (h : Grid E w B C (.slice (some ⟨g, 0, none⟩) n cap) p) (h' : Grid E' w B' C' (.slice (some ⟨g', 0, none⟩) n cap') q) (hn : n = p.length) (hn' : n = q.length) (hg : g < w.heap.size) (hg' : g' < w.heap.size) (hsm : Small p) (hsm' : Small q) (hok : okM p = true) (hok' : okM q = true) :
    Calls Try.prog 12 #[.agg #[.slice (some ⟨g, 0, none⟩) n cap], .agg #[.slice (some ⟨g', 0, none⟩) n cap']] w fun e w' => ∃ x y z, e = .returned (.tuple #[.agg #[.slice x y z], .int .i64 (addK p q)]) ∧ Grid 32 w' w.heap.size w'.heap.size (.slice x y z) (addR p q) ∧ Below w.heap.size w w' := by
  have HO := fun W (hW : Below w.heap.size w W) => validMulti_impl (.slice (some ⟨g, 0, none⟩) n cap) E B C p W (h.below hW) hsm
  have HO' := fun W (hW : Below w.heap.size w W) => validMulti_impl (.slice (some ⟨g', 0, none⟩) n cap') E' B' C' q W (h'.below hW) hsm'
  rw [hok] at HO
  rw [hok'] at HO'
  have hs := okM_shape hok
  have hs' := okM_shape hok'
  have hn1 : 1 ≤ n := by rw [hn]; exact (shapeL_num hs).1
  have hn2 : n ≤ 12 := by rw [hn]; exact (shapeL_num hs).2
  have hnn : ((n : Int) != (n : Int)) = false := by simp
  have HROW := Lib.hid (fun W (hW : Below w.heap.size w W) => (h.rowsI hn hs).below hg hW)
  have HROW' := Lib.hid (fun W (hW : Below w.heap.size w W) => (h'.rowsI hn' hs').below hg' hW)
  have hE : 32 ≠ 2 := by decide
  obtain ⟨i0, hi, hz0, hz1, hz2⟩ := info_parts Try.infoR
  have HSTEP := Lib.hid (fun k (hk : k < n) => addR_step p q n k hn hk)
  have HLL := Lib.hid (fun k (hk : k ≤ n) => show ((addG p q).take k ++ List.replicate (n - k) []).length = n from by rw [List.length_append, List.length_take, addG_len, List.length_replicate]; omega)
  have HFIN : Hid ((addG p q).take n ++ List.replicate (n - n) [] = addG p q) := by
    unfold Hid
    rw [Nat.sub_self, List.replicate_zero, List.append_nil, List.take_of_length_le (by rw [addG_len, hn]; exact Nat.le_refl _)]
  have HTHR := Lib.hid (fun k (hk : k < n) => show thrB (p.getD k [] ++ q.getD k []) = true from List.all_eq_true.2 fun x hx => inB_true (add_mem hs hs' (by omega) k (by omega) x hx))
  have HFULL := Lib.hid (fun k (hk : k < n) (h4 : 4 < (nz (p.getD k [] ++ q.getD k [])).length) => show addK p q = 5 ∧ addR p q = [] from by
    have e := add_full k (by omega) h4
    simp [addK, addR, e])
  have HGOOD := Lib.hid (fun (h4 : ∀ k, k < n → ¬ 4 < (nz (p.getD k [] ++ q.getD k [])).length) => show addK p q = 0 ∧ addR p q = addG p q from by
    have e := add_ok hok hok' (by omega) fun k hk => by have := h4 k (by omega); omega
    simp [addK, addR, e])
  have hp0 := fun R => (three_start w (.slice (some ⟨g, 0, none⟩) n cap) (.slice (some ⟨g', 0, none⟩) n cap') 26 R).1
  have hp1 := fun R => (three_start w (.slice (some ⟨g, 0, none⟩) n cap) (.slice (some ⟨g', 0, none⟩) n cap') 26 R).2
  clear h h' hok hok' hs hs' hn hn' hsm hsm'
  go_enter Try.func12, Try.ntmps12
  go_wp2_with fail
  refine (HO _ (below_alM (below_alM (below_alM (Below.refl _ _) _) _) _)).mono ?_
  rintro e w1 ⟨rfl, b1⟩
  obtain ⟨c1, d1, v1, s1, b1⟩ := three_cells w w1 _ _ _ b1
  clear HO hp0 hp1
  go_wp2_with fail
  refine (HO' _ b1).mono ?_
  rintro e w2 ⟨rfl, b2⟩
  have s2 := b2.size
  have c2 := (b2.cell (p := ⟨w.heap.size, 0, none⟩) (by show w.heap.size < _; omega)).trans c1
  have d2 := (b2.cell (p := ⟨w.heap.size + 1, 0, none⟩) (by show w.heap.size + 1 < _; omega)).trans d1
  have V2 := Lib.hid (v1.below b2)
  replace b2 := b1.trans (b2.mono b1.size)
  have HR := Lib.hid (HROW.out w2 b2)
  have HR' := Lib.hid (HROW'.out w2 b2)
  clear HO' HROW HROW' v1 b1 c1 d1
  go_wp2_with (at_make; refine wpList_make_full _ rfl _ _ 24 rfl w2.heap.size 32 i0 (.slice none 0 0) 1 Try.underlying24 hi hz0 hz1 _ _ _ _ n rfl rfl rfl rfl (by rw [hz2]; omega) (by unfold maxLen; omega) (Nat.le_refl _) ?_)
  intro w3 hown hg3
  have hb1 : Below w2.heap.size w2 w3 := (Below.refl _ _).grown hg3 (Nat.le_refl _) (by simp)
  have hO : Own 32 hdV w3 w2.heap.size (.slice (some ⟨w2.heap.size, 0, none⟩) n n) (List.replicate n none) := by
    unfold Own
    simpa [toList_madeCells_one, hdV] using hown
  have hlt1 : w2.heap.size < w3.heap.size := by
    rcases hO.shape with ⟨h, _⟩ | ⟨g, c, h, _, h', _⟩
    · simp at h
    · simp at h; omega
  have h1 : Grid 32 w3 w2.heap.size w3.heap.size (.slice (some ⟨w2.heap.size, 0, none⟩) n n) ((addG p q).take 0 ++ List.replicate (n - 0) []) := grid_made hE hO hlt1
  clear hown hg3 hi hz0 hz1 hz2 hO
  go_wp2
  go_loopw [33] (fun i wr => ∃ k : Nat, k ≤ n ∧ i = .int .i64 k ∧ Hid (∀ j, j < k → ¬ 4 < (nz (p.getD j [] ++ q.getD j [])).length) ∧ w2.heap.size < wr.heap.size ∧ Grid 32 wr w2.heap.size wr.heap.size (.slice (some ⟨w2.heap.size, 0, none⟩) n n) ((addG p q).take k ++ List.replicate (n - k) []) ∧ Below w2.heap.size w2 wr) (fun i _ => n - (intOf i).toNat)
  case atStart => exact ⟨0, Nat.zero_le _, rfl, fun j hj => absurd hj (Nat.not_lt_zero _), hlt1, h1, hb1⟩
  case round =>
    clear h1 hb1 hlt1
    obtain ⟨k, hk, rfl, hall, hsz, hG, hb⟩ := hrel
    by_cases hlt : k < n
    · have cr : wr.cell? ⟨w.heap.size, 0, none⟩ = some (.slice (some ⟨g, 0, none⟩) n cap) := (hb.cell (p := ⟨w.heap.size, 0, none⟩) (by show w.heap.size < _; omega)).trans c2
      have dr : wr.cell? ⟨w.heap.size + 1, 0, none⟩ = some (.slice (some ⟨g', 0, none⟩) n cap') := (hb.cell (p := ⟨w.heap.size + 1, 0, none⟩) (by show w.heap.size + 1 < _; omega)).trans d2
      obtain ⟨ga, ca, ma, hma, hca, hia, ha1, ha4⟩ := HR.out k hlt
      obtain ⟨gb, cb, mb, hmb, hcb, hib, hb1, hb4⟩ := HR'.out k hlt
      have hst := HSTEP.out k hlt
      have hll := HLL.out k hk
      have hth := HTHR.out k hlt
      have hfu := HFULL.out k hlt
      have hcr : wr.cell? ⟨g, k, none⟩ = some (.slice (some ⟨ga, 0, none⟩) ma ca) := (hb.cell (p := ⟨g, k, none⟩) (by show g < _; omega)).trans hca
      have hdr : wr.cell? ⟨g', k, none⟩ = some (.slice (some ⟨gb, 0, none⟩) mb cb) := (hb.cell (p := ⟨g', k, none⟩) (by show g' < _; omega)).trans hcb
      have hnx : ¬ 4 < (nz (p.getD k [] ++ q.getD k [])).length → ∀ j, j < k + 1 → ¬ 4 < (nz (p.getD j [] ++ q.getD j [])).length := fun h j hj => by
        by_cases e : j = k
        · subst e; exact h
        · exact hall.out j (by omega)
      have HNX := Lib.hid hnx
      clear hnx
      generalize p.getD k [] = ra at *
      generalize q.getD k [] = rb at *
      have hia' := hia.below hb
      have hib' := hib.below hb
      obtain ⟨u0, hu, _, _⟩ := hG.row k (by rw [hll]; exact hlt)
      have hfr := hG.free k
      have HCC := Lib.hid (fun W (hW : Below wr.heap.size wr W ∧ wr.heap.size < W.heap.size ∧ W.cell? ⟨wr.heap.size, 0, none⟩ = some (.slice (some ⟨ga, 0, none⟩) ma ca) ∧ W.cell? ⟨wr.heap.size, 1, none⟩ = some (.slice (some ⟨gb, 0, none⟩) mb cb)) => show Calls Try.prog 64 #[.slice (some ⟨wr.heap.size, 0, none⟩) 2 2] W fun e w' => ∃ u, e = .returned u ∧ Ints w' wr.heap.size u (ra ++ rb) ∧ Below wr.heap.size wr w' from
        (concat_two wr.heap.size ga ma ca gb mb cb ra rb W hW.2.1 hW.2.2.1 hW.2.2.2 ((hia'.below hW.1).sees (by omega)) ((hib'.below hW.1).sees (by omega)) hma hmb ha1 (by omega) hb1 (by omega)).mono fun e w' ⟨u, h1, h2, h3⟩ => ⟨u, h1, h2.mono hW.1.size, hW.1.trans (h3.mono hW.1.size)⟩)
      have HSB := Lib.hid (fun W u (hW : Below wr.heap.size wr W) (hI : Ints W wr.heap.size u (ra ++ rb)) => show Calls Try.prog 63 #[u] W fun e w' => ∃ u, e = .returned (.tuple #[u, .int .i64 (sortC (ra ++ rb))]) ∧ Ints w' wr.heap.size u (sortR (ra ++ rb)) ∧ Below wr.heap.size wr w' ∧ w'.cell? ⟨w2.heap.size, k, none⟩ = some u0 ∧ w'.frozen? ⟨w2.heap.size, k, none⟩ = false from
        (sortBeat_impl u _ (ra ++ rb) W hI (by simp; omega)).mono fun e w' ⟨u, h1, h2, h3⟩ => by
          have b2 := hW.trans (h3.mono hW.size)
          exact ⟨u, h1, h2.mono hW.size, b2, (b2.cell (p := ⟨w2.heap.size, k, none⟩) hsz).trans hu, (hG.below b2).free k⟩)
      have HPUT := Lib.hid (fun W gu cu (bw : Below wr.heap.size wr W) (i1 : Ints W wr.heap.size (.slice (some ⟨gu, 0, none⟩) (sortL (ra ++ rb)).length cu) (sortL (ra ++ rb))) (hgu : gu < W.heap.size) => show Grid 32 (W.setCell ⟨w2.heap.size, k, none⟩ (.slice (some ⟨gu, 0, none⟩) (sortL (ra ++ rb)).length cu)) w2.heap.size (W.setCell ⟨w2.heap.size, k, none⟩ (.slice (some ⟨gu, 0, none⟩) (sortL (ra ++ rb)).length cu)).heap.size (.slice (some ⟨w2.heap.size, 0, none⟩) n n) ((addG p q).take (k + 1) ++ List.replicate (n - (k + 1)) []) from by
        have h2 := (hG.below bw).put (C' := W.heap.size) hE bw.size k (by rw [hll]; exact hlt) (d := some (gu, (sortL (ra ++ rb)).length, cu)) (p := sortL (ra ++ rb)) i1 (by omega) (fun g hg => by simp [hdV, Value.ownBlock] at hg; omega)
        rw [hst] at h2
        exact h2.widen (Nat.le_refl _) (by simp))
      have HBB := Lib.hid (fun W v (bw : Below wr.heap.size wr W) => show Below w2.heap.size w2 (W.setCell ⟨w2.heap.size, k, none⟩ v) from (hb.trans (bw.mono hb.size)).setCell (p := ⟨w2.heap.size, k, none⟩) (Nat.le_refl _) v)
      have HBN := Lib.hid (fun W (bw : Below wr.heap.size wr W) => show Below w2.heap.size w2 W from hb.trans (bw.mono hb.size))
      have HTB := Lib.hid hth
      have HFU := Lib.hid hfu
      have VR := Lib.hid (V2.out.below hb)
      clear HR HR' HSTEP HLL HFIN HTHR HFULL HGOOD hG hca hcb hia hib hia' hib' hst hma hmb V2 hall hth hfu
      go_wp2
      go_region_law (first | (go_simp; go_at_call 64; (with_reducible refine (HCC.out _ ?_).mono ?_); (exact ⟨by (repeat (first | exact Below.refl _ _ | refine Below.drew ?_ | refine below_drewN ?_ _ | refine below_alM ?_ _)), by simp, by simp, by simp⟩); rintro e w3 ⟨u3, rfl, i3, b3⟩) | (go_simp; go_at_call 63; (first | have hE := HSB.out _ _ b3 i3 | have hE := HSB.out _ _ (Below.drew b3) (i3.drew)); refine hE.mono ?_; rintro e w4 ⟨u4, rfl, i4, b4, hcw, hfw⟩; clear hE))
      all_goals
        by_cases h4 : 4 < (nz (ra ++ rb)).length
        · obtain ⟨e1, e2⟩ := sort_full HTB.out h4
          obtain ⟨a5, r5⟩ := HFU.out h4
          have A5 := Lib.hid a5
          have R5 := Lib.hid r5
          obtain ⟨c9, f9⟩ := VR.out.below b4
          have hbw := b2.trans ((HBN.out _ b4).mono b2.size)
          have hres : ∀ y : Value, (w4.setCell ⟨w.heap.size + 2, 0, none⟩ y).cell? ⟨w.heap.size + 2, 0, none⟩ = some y := fun y => World.cell?_setCell_same _ _ _ (u := .slice none 0 0) c9
          rw [e1]
          clear HCC HSB HPUT HBB HBN HTB HFU HNX e1 e2 a5 r5 i3 b3 i4 b4 hcw hfw h4
          go_wp2
          refine bodyPost_ret (v := .tuple #[.agg #[.slice none 0 0], .int .i64 5]) (by simp [results, Try.results12, go_sem, hres]) rfl ?_
          exact ⟨none, 0, 0, by rw [A5.out], by rw [R5.out]; exact Grid.nil _ _ _ _, hbw.setCell (p := ⟨w.heap.size + 2, 0, none⟩) (by show w.heap.size ≤ w.heap.size + 2; omega) _⟩
        · have e1 : sortC (ra ++ rb) = 0 ∧ sortR (ra ++ rb) = sortL (ra ++ rb) := by simp [sortC, sortR, HTB.out, h4]
          rw [e1.2] at i4
          rw [e1.1]
          obtain ⟨gu, cu, rfl, hgb, hgu, _, _⟩ := i4.shape2 (by have := sortL_len (ra ++ rb); split at this <;> omega)
          have HPP := Lib.hid (HPUT.out _ gu cu b4 i4 hgu)
          have HB5 := Lib.hid (HBB.out _ (.slice (some ⟨gu, 0, none⟩) (sortL (ra ++ rb)).length cu) b4)
          have HNN := Lib.hid (HNX.out h4)
          have hsz5 := b4.size
          clear HCC HSB HPUT HBB HBN HTB HFU HNX e1 i3 b3 i4 b4 h4
          go_wp2
          go_roundw
          case rel => exact ⟨k + 1, by omega, by go_num, HNN, by simp; omega, HPP.out, HB5.out⟩
          case measure => simp [intOf]; omega
    · obtain rfl : k = n := by omega
      rw [HFIN.out] at hG
      obtain ⟨a0, r0⟩ := HGOOD.out hall.out
      have A0 := Lib.hid a0
      have R0 := Lib.hid r0
      obtain ⟨c9, f9⟩ := V2.out.below hb
      have hbw := b2.trans (hb.mono b2.size)
      have hres : ∀ y : Value, (wr.setCell ⟨w.heap.size + 2, 0, none⟩ y).cell? ⟨w.heap.size + 2, 0, none⟩ = some y := fun y => World.cell?_setCell_same _ _ _ (u := .slice none 0 0) c9
      clear V2 HR HR' HSTEP HLL HTHR HFULL HGOOD HFIN a0 r0
      go_wp2
      refine bodyPost_ret (v := .tuple #[.agg #[.slice (some ⟨w2.heap.size, 0, none⟩) k k], .int .i64 0]) (by simp [results, Try.results12, go_sem, hres]) rfl ?_
      exact ⟨_, _, _, by rw [A0.out], by rw [R0.out]; exact (grid_out hG (by omega) _).widen (by omega) (by simp), hbw.setCell (p := ⟨w.heap.size + 2, 0, none⟩) (by show w.heap.size ≤ w.heap.size + 2; omega) _⟩
end Go.Proofs.Ytgjmhihomklooaa
