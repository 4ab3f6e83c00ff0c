/- Multiplex: RotateMulti, the program's. Conditions: beats of at most 10^7 throws. -/
import Derived.Test.YtmnkfflmljeokaaRotM
namespace Go.Proofs.Ytmnkfflmljeokaa
open Go.RowKit
set_option linter.unusedSimpArgs false
set_option linter.unusedVariables false

set_option maxRecDepth 10000 in
set_option maxHeartbeats 1000000 in
theorem rotMulti_row (g cap n : Nat) (E : TypeId) (B C : Nat) (pss : List (List Int)) (b : Int) (w : World) (h : Grid E w B C (.slice (some ⟨g, 0, none⟩) n cap) pss) (hn : n = pss.length) (hg : g < w.heap.size) (hsm : Small pss) (hok : okM pss = true) (hb1 : -9223372036854775808 ≤ b) (hb2 : b ≤ 9223372036854775807) :
    Calls Try.prog 52 #[.agg #[.slice (some ⟨g, 0, none⟩) n cap], .int .i64 b] w fun e w' => ∃ x y z, e = .returned (.tuple #[.agg #[.slice x y z], .int .i64 0]) ∧ Grid 32 w' w.heap.size w'.heap.size (.slice x y z) (rotG pss b) ∧ Below w.heap.size w w' := by
  have HO := fun W (hW : Below w.heap.size w W) => validMulti_impl _ E B C pss W (h.below hW) hsm
  rw [hok] at HO
  have hs := okM_shape hok
  have hn1 : 1 ≤ n := by rw [hn]; exact (shapeL_num hs).1
  have hn2 : n ≤ 12 := by rw [hn]; exact (shapeL_num hs).2
  have HROW := Lib.hid (fun W (hW : Below w.heap.size w W) => (h.rowsI hn hs).below hg hW)
  have hE : 32 ≠ 2 := by decide
  obtain ⟨i0, hi, hz0, hz1, hz2⟩ := info_parts Try.infoR
  have HSTEP := Lib.hid (fun k (hk : k < n) => rows_step (rotG pss b) n k (by rw [rotG_len, hn]) hk)
  have HAT := Lib.hid (fun k (hk : k < n) => rotG_at pss b k (by omega))
  rw [← hn] at HAT
  have HLL := Lib.hid (fun k (hk : k ≤ n) => show ((rotG pss b).take k ++ List.replicate (n - k) []).length = n from by rw [List.length_append, List.length_take, rotG_len, List.length_replicate]; omega)
  have HFIN : Hid ((rotG pss b).take n ++ List.replicate (n - n) [] = rotG pss b) := by
    unfold Hid
    rw [Nat.sub_self, List.replicate_zero, List.append_nil, List.take_of_length_le (by rw [rotG_len, hn]; exact Nat.le_refl _)]
  have HMO := Lib.hid (fun W => modulo_wide b n W (by omega) (by omega) hb1 hb2)
  have e0 := Int.emod_nonneg b (show (n : Int) ≠ 0 by omega)
  have e1 := Int.emod_lt_of_pos b (show 0 < (n : Int) by omega)
  generalize b % (n : Int) = s at *
  clear h hok hs hn hsm
  go_enter Try.func52, Try.ntmps52
  go_wp2_with fail
  refine (HO _ (below_alM (below_alM (Below.refl _ _) _) _)).mono ?_
  rintro e w1 ⟨rfl, b1⟩
  have c1 : w1.cell? ⟨w.heap.size, 0, none⟩ = some (.slice (some ⟨g, 0, none⟩) n cap) := by rw [b1.cell (by simp; omega)]; simp
  have v1 : Var1 w1 (w.heap.size + 1) (.slice none 0 0) := by
    have := (Var1.made (w.alloc (.cells #[.slice (some ⟨g, 0, none⟩) n cap] 26)) (.slice none 0 0) 26).below b1
    simpa using this
  have s1 : w.heap.size + 2 ≤ w1.heap.size := by have := b1.size; simpa using this
  replace b1 := (below_alM (below_alM (Below.refl w.heap.size w) _) _).trans (b1.mono (by simp; omega))
  have HR := Lib.hid (HROW.out w1 b1)
  have V1 := Lib.hid v1
  clear HO HROW v1
  go_wp2_with fail
  refine (HMO.out _).mono ?_
  rintro e w1 ⟨rfl, rfl⟩
  clear HMO
  go_wp2_with (at_make; refine wpList_make_full _ rfl _ _ 24 rfl w1.heap.size 32 i0 (.slice none 0 0) 1 Try.underlying24 hi hz0 hz1 _ _ _ _ n rfl rfl rfl rfl (by rw [hz2]; omega) (by unfold maxLen; omega) (Nat.le_refl _) ?_)
  intro w2 hown hg2
  have hb1 : Below w1.heap.size w1 w2 := (Below.refl _ _).grown hg2 (Nat.le_refl _) (by simp)
  have hO : Own 32 hdV w2 w1.heap.size (.slice (some ⟨w1.heap.size, 0, none⟩) n n) (List.replicate n none) := by
    unfold Own
    simpa [toList_madeCells_one, hdV] using hown
  have hlt1 : w1.heap.size < w2.heap.size := by
    rcases hO.shape with ⟨h, _⟩ | ⟨g, c, h, _, h', _⟩
    · simp at h
    · simp at h; omega
  have h1 : Grid 32 w2 w1.heap.size w2.heap.size (.slice (some ⟨w1.heap.size, 0, none⟩) n n) ((rotG pss b).take 0 ++ List.replicate (n - 0) []) := grid_made hE hO hlt1
  clear hown hg2 hi hz0 hz1 hz2 hO
  go_wp2
  go_loopw [23] (fun i wr => ∃ k : Nat, k ≤ n ∧ i = .int .i64 k ∧ w1.heap.size < wr.heap.size ∧ Grid 32 wr w1.heap.size wr.heap.size (.slice (some ⟨w1.heap.size, 0, none⟩) n n) ((rotG pss b).take k ++ List.replicate (n - k) []) ∧ Below w1.heap.size w1 wr) (fun i _ => n - (intOf i).toNat)
  case atStart => exact ⟨0, Nat.zero_le _, rfl, hlt1, h1, hb1⟩
  case round =>
    clear h1 hb1 hlt1
    obtain ⟨k, hk, rfl, hsz, hG, hb⟩ := hrel
    by_cases hlt : k < n
    · have cr : wr.cell? ⟨w.heap.size, 0, none⟩ = some (.slice (some ⟨g, 0, none⟩) n cap) := (hb.cell (p := ⟨w.heap.size, 0, none⟩) (by show w.heap.size < _; omega)).trans c1
      obtain ⟨j, hj, hjn⟩ := idx_nat k s n (by omega)
      have hjn' : j < n := by omega
      obtain ⟨gb, cb, mb, hmb, hcb, hib, hm1, hm4⟩ := HR.out j hjn'
      have hat := HAT.out k hlt
      rw [hj, Int.toNat_natCast] at hat
      have hst := HSTEP.out k hlt
      have hll := HLL.out k hk
      rw [hat] at hst
      have hcr : wr.cell? ⟨g, j, none⟩ = some (.slice (some ⟨gb, 0, none⟩) mb cb) := (hb.cell (p := ⟨g, j, none⟩) (by show g < _; omega)).trans hcb
      have hj2 : (s + (k : Int)) % (n : Int) = (j : Int) := by rw [Int.add_comm]; exact hj
      have hwr : IntKind.i64.wrap (s + (k : Int)) = s + (k : Int) := IntWalk.i64_in _ (by omega)
      have HM2 := Lib.hid (fun W => show Calls Try.prog 88 #[.int .i64 (s + (k : Int)), .int .i64 n] W fun e w' => e = .returned (.int .i64 (j : Int)) ∧ w' = W from by
        have := modulo_wide (s + (k : Int)) n W (by omega) (by omega) (by omega) (by omega)
        rw [hj2] at this
        exact this)
      generalize pss.getD j [] = row at *
      obtain ⟨u0, hu, _, _⟩ := hG.row k (by rw [hll]; exact hlt)
      have hfr := hG.free k
      have HCL := Lib.hid (fun W (hW : Below wr.heap.size wr W) => show Calls Try.prog 89 #[.slice (some ⟨gb, 0, none⟩) mb cb] W fun e w' => ∃ gu cu, e = .returned (.slice (some ⟨gu, 0, none⟩) mb cu) ∧ Ints w' wr.heap.size (.slice (some ⟨gu, 0, none⟩) mb cu) row ∧ gu < w'.heap.size ∧ Below wr.heap.size wr w' ∧ w'.cell? ⟨w1.heap.size, k, none⟩ = some u0 ∧ w'.frozen? ⟨w1.heap.size, k, none⟩ = false from
        (clone_any _ B row W (hib.below (hb.trans (hW.mono hb.size))) (by omega) (by omega)).mono fun e w' ⟨ua, un, uc, h1, h2, h3⟩ => by
          obtain ⟨gu, cu, h4, _, h5, _, _⟩ := h2.shape2 (by omega)
          rw [h4] at h1 h2
          have b2 := hW.trans (h3.mono hW.size)
          rw [hmb]
          exact ⟨gu, cu, h1, h2.mono hW.size, h5, b2, (b2.cell (p := ⟨w1.heap.size, k, none⟩) hsz).trans hu, (hG.below b2).free k⟩)
      have HPUT := Lib.hid (fun W gu cu (bw : Below wr.heap.size wr W) (i1 : Ints W wr.heap.size (.slice (some ⟨gu, 0, none⟩) mb cu) row) (hgu : gu < W.heap.size) => show Grid 32 (W.setCell ⟨w1.heap.size, k, none⟩ (.slice (some ⟨gu, 0, none⟩) mb cu)) w1.heap.size (W.setCell ⟨w1.heap.size, k, none⟩ (.slice (some ⟨gu, 0, none⟩) mb cu)).heap.size (.slice (some ⟨w1.heap.size, 0, none⟩) n n) ((rotG pss b).take (k + 1) ++ List.replicate (n - (k + 1)) []) from by
        have h2 := (hG.below bw).put (C' := W.heap.size) hE bw.size k (by rw [hll]; exact hlt) (d := some (gu, mb, cu)) (p := row) i1 (by omega) (fun g hg => by simp [hdV, Value.ownBlock] at hg; omega)
        rw [hst] at h2
        exact h2.widen (Nat.le_refl _) (by simp))
      have HBB := Lib.hid (fun W v (bw : Below wr.heap.size wr W) => show Below w1.heap.size w1 (W.setCell ⟨w1.heap.size, k, none⟩ v) from (hb.trans (bw.mono hb.size)).setCell (p := ⟨w1.heap.size, k, none⟩) (Nat.le_refl _) v)
      clear HR HSTEP HAT HLL HFIN hG hcb hib hat hst hmb V1
      go_wp2
      go_region_law (first | (go_simp; go_at_call 88; (first | rw [hwr] | skip); (with_reducible refine (HM2.out _).mono ?_); rintro e wr ⟨rfl, rfl⟩) | (go_simp; go_at_call 89; (with_reducible refine (HCL.out _ ?_).mono ?_); (repeat (first | exact Below.refl _ _ | refine Below.drew ?_ | refine below_drewN ?_ _ | refine below_alM ?_ _)); rintro e w3 ⟨gu, cu, rfl, i1, hgu, bw, hcw, hfw⟩))
      all_goals (clear HM2 HCL)
      all_goals (have HPP := Lib.hid (HPUT.out _ _ _ bw i1 hgu); have HB5 := Lib.hid (HBB.out _ (.slice (some ⟨gu, 0, none⟩) mb cu) bw); clear HPUT HBB i1 bw hcw hfw hgu)
      all_goals go_wp2
      all_goals first
        | exact ⟨⟨k + 1, by omega, by go_num, by have := HB5.out.size; have := HPP.out.shape; simp at this ⊢; omega, HPP.out, HB5.out⟩, by simp [intOf]; omega⟩
        | (go_roundw
           case rel => exact ⟨k + 1, by omega, by go_num, by have := HPP.out.shape; simp at this ⊢; omega, HPP.out, HB5.out⟩
           case measure => simp [intOf]; omega)
    · obtain rfl : k = n := by omega
      rw [HFIN.out] at hG
      obtain ⟨c2, f2⟩ := V1.out.below hb
      have hbw := b1.trans (hb.mono b1.size)
      have hres : ∀ y : Value, (wr.setCell ⟨w.heap.size + 1, 0, none⟩ y).cell? ⟨w.heap.size + 1, 0, none⟩ = some y := fun y => World.cell?_setCell_same _ _ _ (u := .slice none 0 0) c2
      clear V1 HR HSTEP HAT HLL HFIN
      go_wp2
      refine bodyPost_ret (v := .tuple #[.agg #[.slice (some ⟨w1.heap.size, 0, none⟩) k k], .int .i64 0]) (by simp [results, Try.results52, go_sem, hres]) rfl ?_
      exact ⟨_, _, _, rfl, (grid_out hG (by omega) _).widen (by omega) (by simp), hbw.setCell (p := ⟨w.heap.size + 1, 0, none⟩) (by show w.heap.size ≤ w.heap.size + 1; omega) _⟩

set_option maxRecDepth 10000 in
theorem rotateMulti_impl (v : Value) (E : TypeId) (B C : Nat) (pss : List (List Int)) (b : Int) (w : World) (h : Grid E w B C v pss) (hsm : Small pss) (hb1 : -9223372036854775808 ≤ b) (hb2 : b ≤ 9223372036854775807) :
    Calls Try.prog 52 #[.agg #[v], .int .i64 b] w fun e w' => ∃ x y z, e = .returned (.tuple #[.agg #[.slice x y z], .int .i64 (rotMC pss)]) ∧ Grid 32 w' w.heap.size w'.heap.size (.slice x y z) (rotMR pss b) ∧ Below w.heap.size w w' := by
  cases hok : okM pss with
  | false =>
    have HO := fun W (hW : Below w.heap.size w W) => validMulti_impl v E B C pss W (h.below hW) hsm
    obtain ⟨e1, e2⟩ := rotM_bad b hok
    rw [e1, e2]
    rw [hok] at HO
    clear h hok e1 e2
    go_enter Try.func52, Try.ntmps52
    go_wp2_with fail
    refine (HO _ (below_alM (below_alM (Below.refl _ _) _) _)).mono ?_
    rintro e w1 ⟨rfl, b1⟩
    have v1 : Var1 w1 (w.heap.size + 1) (.slice none 0 0) := by
      have := (Var1.made (w.alloc (.cells #[v] 26)) (.slice none 0 0) 26).below b1
      simpa using this
    obtain ⟨c1, f1⟩ := v1
    replace b1 := (below_alM (below_alM (Below.refl w.heap.size w) _) _).trans (b1.mono (by simp; omega))
    have hres : ∀ y : Value, (w1.setCell ⟨w.heap.size + 1, 0, none⟩ y).cell? ⟨w.heap.size + 1, 0, none⟩ = some y := fun y => World.cell?_setCell_same _ _ _ (u := .slice none 0 0) c1
    go_wp2
    refine bodyPost_ret (v := .tuple #[.agg #[.slice none 0 0], .int .i64 1]) (by simp [results, Try.results52, go_sem, hres]) rfl ?_
    exact ⟨none, 0, 0, rfl, Grid.nil _ _ _ _, b1.setCell (p := ⟨w.heap.size + 1, 0, none⟩) (by show w.heap.size ≤ w.heap.size + 1; omega) _⟩
  | true =>
    obtain ⟨e1, e2⟩ := rotM_good b hok
    rw [e1, e2]
    have h1 := (shapeL_num (okM_shape hok)).1
    obtain ⟨g, cap, rfl, _, hg, _, hm⟩ := h.shape.resolve_left fun e => by rw [e.2] at h1; simp at h1
    exact rotMulti_row g cap pss.length E B C pss b w h rfl hg hsm hok hb1 hb2
end Go.Proofs.Ytmnkfflmljeokaa
