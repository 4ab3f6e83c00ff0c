/- Multiplex: RotateMulti, the model's and the program's. Conditions: beats of at most 10^7 throws for the program's. -/
import Derived.Test.YtmnkfflmljeokaaClone
import Derived.Test.YtmnkfflmljeokaaMultiOf
namespace Go.Proofs.Ytmnkfflmljeokaa
open Go.RowKit
set_option linter.unusedSimpArgs false
set_option linter.unusedVariables false

/-- the beats, from the by-th on, round and round -/
def rotG (pss : List (List Int)) (by_ : Int) : List (List Int) := (List.range pss.length).map fun i : Nat => pss.getD (((i : Int) + by_ % (pss.length : Int)) % (pss.length : Int)).toNat []
def rotMR (pss : List (List Int)) (by_ : Int) : List (List Int) := if okM pss then rotG pss by_ else []
def rotMC (pss : List (List Int)) : Int := if okM pss then 0 else 1
theorem rotG_len (pss : List (List Int)) (b : Int) : (rotG pss b).length = pss.length := by simp [rotG]
theorem rotG_at (pss : List (List Int)) (b : Int) (k : Nat) (hk : k < pss.length) : (rotG pss b).getD k [] = pss.getD (((k : Int) + b % (pss.length : Int)) % (pss.length : Int)).toNat [] := by
  simp [rotG, hk]
theorem rotG_take (pss : List (List Int)) (b : Int) (k : Nat) (hk : k < pss.length) : (rotG pss b).take (k + 1) = (rotG pss b).take k ++ [pss.getD (((k : Int) + b % (pss.length : Int)) % (pss.length : Int)).toNat []] := by
  rw [List.take_succ_eq_append_getElem (by rw [rotG_len]; exact hk)]
  congr 2
  simp [rotG, hk]
theorem rotM_bad {pss : List (List Int)} (b : Int) (h : okM pss = false) : rotMR pss b = [] ∧ rotMC pss = 1 := by simp [rotMR, rotMC, h]
theorem rotM_good {pss : List (List Int)} (b : Int) (h : okM pss = true) : rotMR pss b = rotG pss b ∧ rotMC pss = 0 := by simp [rotMR, rotMC, h]
theorem rowsAt_tot {pss : List (List Int)} : ∀ (q : List (List Int)), (∀ i, i < q.length → (q.getD i []).length ≤ 4) → totL q ≤ 4 * q.length
  | [], _ => by simp [totL]
  | a :: r, h => by
    have h0 := h 0 (by simp)
    have h1 := rowsAt_tot (pss := pss) r fun i hi => by have := h (i + 1) (by simp; omega); simpa using this
    simp [totL] at h0 h1 ⊢
    omega
theorem rotMR_tot (pss : List (List Int)) (b : Int) : totL (rotMR pss b) ≤ 48 := by
  cases h : okM pss with
  | false => rw [(rotM_bad b h).1]; simp [totL]
  | true =>
    rw [(rotM_good b h).1]
    have hs := okM_shape h
    have hn := shapeL_num hs
    have := rowsAt_tot (pss := pss) (rotG pss b) fun i hi => by
      rw [rotG_len] at hi
      rw [rotG_at pss b i hi]
      have e0 := Int.emod_nonneg ((i : Int) + b % (pss.length : Int)) (show (pss.length : Int) ≠ 0 by omega)
      have e1 := Int.emod_lt_of_pos ((i : Int) + b % (pss.length : Int)) (show 0 < (pss.length : Int) by omega)
      exact (rowOk_num (shapeL_at hs _ (by omega))).2
    rw [rotG_len] at this
    omega

/-- every row: its cell, and what it holds; no row is empty -/
def RowsI (w : World) (g n B : Nat) (pss : List (List Int)) : Prop :=
  ∀ j, j < n → ∃ gb cb m, m = (pss.getD j []).length ∧ w.cell? ⟨g, j, none⟩ = some (.slice (some ⟨gb, 0, none⟩) m cb) ∧ Ints w B (.slice (some ⟨gb, 0, none⟩) m cb) (pss.getD j []) ∧ 1 ≤ m ∧ m ≤ 4
theorem Grid.rowsI {E : TypeId} {w : World} {B C g n cap : Nat} {pss : List (List Int)} (h : Grid E w B C (.slice (some ⟨g, 0, none⟩) n cap) pss) (hn : n = pss.length) (hs : shapeL pss = true) : RowsI w g n B pss := fun j hj => by
  obtain ⟨u, hc, hi, _⟩ := h.row j (by omega)
  have h1 := rows_pos hs j (by omega)
  obtain ⟨gb, cb, rfl, _, _, _, _⟩ := hi.shape2 h1
  exact ⟨gb, cb, _, rfl, hc, hi, h1, (rowOk_num (shapeL_at hs j (by omega))).2⟩
theorem RowsI.below {w w' : World} {g n B : Nat} {pss : List (List Int)} (h : RowsI w g n B pss) (hg : g < w.heap.size) (hb : Below w.heap.size w w') : RowsI w' g n B pss := fun j hj => by
  obtain ⟨gb, cb, m, h1, h2, h3, h4⟩ := h j hj
  exact ⟨gb, cb, m, h1, (hb.cell (p := ⟨g, j, none⟩) hg).trans h2, h3.below hb, h4⟩
theorem idx_nat (k : Nat) (s n : Int) (hn : 0 < n) : ∃ j : Nat, ((k : Int) + s) % n = (j : Int) ∧ (j : Int) < n := by
  have e0 := Int.emod_nonneg ((k : Int) + s) (show n ≠ 0 by omega)
  have e1 := Int.emod_lt_of_pos ((k : Int) + s) hn
  exact ⟨(((k : Int) + s) % n).toNat, by omega, by omega⟩
theorem tmod_both (a n : Int) (hn : 0 < n) : -n ≤ a.tmod n ∧ a.tmod n < n := by
  have h := emod_tmod a n hn
  have e0 := Int.emod_nonneg a (show n ≠ 0 by omega)
  have e1 := Int.emod_lt_of_pos a hn
  by_cases h0 : a.tmod n < 0
  · rw [if_pos h0] at h; omega
  · rw [if_neg h0] at h; omega

set_option maxRecDepth 10000 in
set_option maxHeartbeats 1000000 in
theorem rotMulti_specR (g cap n : Nat) (E : TypeId) (B C : Nat) (pss : List (List Int)) (b : Int) (w : World) (h : Grid E w B C (.slice (some ⟨g, 0, none⟩) n cap) pss) (hn : n = pss.length) (hg : g < w.heap.size) (hok : okM pss = true) :
    Calls Try.prog 51 #[.agg #[.slice (some ⟨g, 0, none⟩) n cap], .int .i64 b] w fun e w' => ∃ x y z, e = .returned (.tuple #[.agg #[.slice x y z], .int .i64 0]) ∧ Grid 32 w' w.heap.size w'.heap.size (.slice x y z) (rotG pss b) ∧ Below w.heap.size w w' := by
  have HO := fun W (hW : Below w.heap.size w W) (hp : W.cell? ⟨w.heap.size, 0, none⟩ = some (.slice (some ⟨g, 0, none⟩) n cap)) => l04Ok_any _ _ E B C pss W hp (h.below hW)
  rw [hok] at HO
  have hs := okM_shape hok
  have hn1 : 1 ≤ n := by rw [hn]; exact (shapeL_num hs).1
  have hn2 : n ≤ 12 := by rw [hn]; exact (shapeL_num hs).2
  have HROW := Lib.hid (fun W (hW : Below w.heap.size w W) => (h.rowsI hn hs).below hg hW)
  have HFIN : Hid ((rotG pss b).take n = rotG pss b) := List.take_of_length_le (by rw [rotG_len, hn]; exact Nat.le_refl _)
  have HLT := Lib.hid (fun k (hk : k ≤ n) => show ((rotG pss b).take k).length = k from by rw [List.length_take, rotG_len]; omega)
  have hl := tmod_both b n (by omega)
  have hsm := tmod_add_emod b n (by omega)
  have e0 := Int.emod_nonneg b (show (n : Int) ≠ 0 by omega)
  have e1 := Int.emod_lt_of_pos b (show 0 < (n : Int) by omega)
  have HTK := Lib.hid (fun k (hk : k < n) => rotG_take pss b k (by omega))
  rw [← hn] at HTK
  generalize b % (n : Int) = s at *
  clear h hok hs hn
  go_enter Try.func51, Try.ntmps51
  go_wp2_with fail
  refine (HO _ (below_alM (below_alM (Below.refl _ _) _) _) ?_).mono ?_
  · simp
  rintro e w1 ⟨rfl, b1⟩
  have c1 : w1.cell? ⟨w.heap.size, 0, none⟩ = some (.slice (some ⟨g, 0, none⟩) n cap) := by rw [b1.cell (by simp; omega)]; simp
  have v1 : Var1 w1 (w.heap.size + 1) (.slice none 0 0) := by
    have := (Var1.made (w.alloc (.cells #[.slice (some ⟨g, 0, none⟩) n cap] 26)) (.slice none 0 0) 26).below b1
    simpa using this
  have s1 : w.heap.size + 2 ≤ w1.heap.size := by have := b1.size; simpa using this
  replace b1 := (below_alM (below_alM (Below.refl w.heap.size w) _) _).trans (b1.mono (by simp; omega))
  have HR := Lib.hid (HROW.out w1 b1)
  have V1 := Lib.hid v1
  clear HO HROW v1
  go_wp2
  go_loopw [8] (fun i wr => ∃ (k : Nat) (a : Option Addr) (m c : Nat), k ≤ n ∧ i = .int .i64 k ∧ Var1 wr w1.heap.size (.slice a m c) ∧ Grid 32 wr (w1.heap.size + 1) wr.heap.size (.slice a m c) ((rotG pss b).take k) ∧ w1.heap.size + 1 ≤ wr.heap.size ∧ Below w1.heap.size w1 wr) (fun i _ => n - (intOf i).toNat)
  case atStart => exact ⟨0, none, 0, 0, Nat.zero_le _, rfl, Var1.made _ _ _, Grid.nil _ _ _ _, by simp, below_alM (Below.refl _ _) _⟩
  case round =>
    obtain ⟨k, a, m, c, hk, rfl, hv, hG, hz, hb⟩ := hrel
    by_cases hlt : k < n
    · have cr : wr.cell? ⟨w.heap.size, 0, none⟩ = some (.slice (some ⟨g, 0, none⟩) n cap) := (hb.cell (p := ⟨w.heap.size, 0, none⟩) (by show w.heap.size < _; omega)).trans c1
      obtain ⟨j, hj, hjn⟩ := idx_nat k s n (by omega)
      have hjn' : j < n := by omega
      obtain ⟨gb, cb, mb, hmb, hcb, hib, hm1, hm4⟩ := HR.out j hjn'
      have hT := HTK.out k hlt
      rw [hj, Int.toNat_natCast] at hT
      have hll := HLT.out k hk
      have hcr : wr.cell? ⟨g, j, none⟩ = some (.slice (some ⟨gb, 0, none⟩) mb cb) := (hb.cell (p := ⟨g, j, none⟩) (by show g < _; omega)).trans hcb
      generalize pss.getD j [] = row at *
      obtain ⟨c0, f0⟩ := id hv
      have HT := Lib.hid hT
      have HOWN := Lib.hid (fun W (hW : Below wr.heap.size wr W) => show Calls Try.prog 60 #[.slice (some ⟨gb, 0, none⟩) mb cb] W fun e w' => ∃ gu cu, e = .returned (.slice (some ⟨gu, 0, none⟩) mb cu) ∧ Ints w' wr.heap.size (.slice (some ⟨gu, 0, none⟩) mb cu) row ∧ Below wr.heap.size wr w' ∧ w'.cell? ⟨w1.heap.size, 0, none⟩ = some (.slice a m c) ∧ (∀ o, (w'.alloc o).cell? ⟨w1.heap.size, 0, none⟩ = some (.slice a m c)) from
        (l00Own_any _ row W ((hib.below (hb.trans (hW.mono hb.size))).sees (by omega)) (by omega)).mono fun e w' ⟨u, h1, h2, h3⟩ => by
          obtain ⟨gu, cu, rfl, _, _, _, _⟩ := h2.shape2 (by omega)
          have b2 := hW.trans (h3.mono hW.size)
          have hc2 := (b2.cell (p := ⟨w1.heap.size, 0, none⟩) (by show w1.heap.size < _; omega)).trans c0
          rw [hmb]
          exact ⟨gu, cu, h1, h2.mono hW.size, b2, hc2, fun o => ((below_alM (Below.refl _ _) o).cell (p := ⟨w1.heap.size, 0, none⟩) (by show w1.heap.size < _; have := b2.size; omega)).trans hc2⟩)
      have HG := Lib.hid hG
      have HV := Lib.hid hv
      have HMB := Lib.hid hmb
      clear HR HTK HFIN HLT hG hv hcb hib hT hmb V1
      go_wp2
      go_region_law (first | (refine step_append_row _ rfl _ _ rfl (w1.heap.size + 1) wr.heap.size _ ((rotG pss b).take k) rfl (HG.out.below (by repeat (first | exact Below.refl _ _ | exact bw | refine Below.drew ?_ | refine below_drewN ?_ _ | refine below_alM ?_ _))) _ (.slice (some ⟨gu, 0, none⟩) mb cu) row rfl (by first | exact (Var1.made _ _ _).1 | (simp; done)) (Ints.alloc i1 _) (by rw [hll]; omega) hz (by simp; have := bw.size; omega) ?_; intro g4 c4 w4 G4 W4; have W5 := (Within.of_below (w := wr) (by repeat (first | exact Below.refl _ _ | exact bw | refine Below.drew ?_ | refine below_drewN ?_ _ | refine below_alM ?_ _)) _ _).trans W4; obtain ⟨c4', f4'⟩ := HV.out.within W5 (by omega)) | (go_simp; go_at_call 60; refine (HOWN.out _ (by repeat (first | exact Below.refl _ _ | refine Below.drew ?_ | refine below_drewN ?_ _ | refine below_alM ?_ _))).mono ?_; rintro e w2 ⟨gu, cu, rfl, i1, bw, hcw, hcA⟩))
      all_goals (have hs4 := W5.size; have b4 := W5.below hb (by omega) hb.size; rw [← HT.out] at G4; rw [hll] at G4; clear HG HV HMB HOWN i1 bw hcw hcA W4 W5)
      all_goals go_wp2
      all_goals refine ⟨⟨k + 1, some ⟨g4, 0, none⟩, k + 1, c4, by omega, by go_num, Var1.set ⟨c4', f4'⟩ _, ?_, by simp; omega, b4.setCell (p := ⟨w1.heap.size, 0, none⟩) (Nat.le_refl _) _⟩, by simp [intOf]; omega⟩
      all_goals (have e : (w4.setCell ⟨w1.heap.size, 0, none⟩ (.slice (some ⟨g4, 0, none⟩) (k + 1) c4)).heap.size = w4.heap.size := by simp)
      all_goals rw [e]
      all_goals exact G4.keep fun q hq h1 h2 => heap_far _ ⟨w1.heap.size, 0, none⟩ _ q (by show w1.heap.size < q; omega)
    · obtain rfl : k = n := by omega
      rw [HFIN.out] at hG
      obtain ⟨c0, f0⟩ := id hv
      obtain ⟨c2, f2⟩ := V1.out.below hb
      have hbw := b1.trans (hb.mono b1.size)
      have hres : ∀ y : Value, (wr.setCell ⟨w.heap.size + 1, 0, none⟩ y).cell? ⟨w.heap.size + 1, 0, none⟩ = some y := fun y => World.cell?_setCell_same _ _ _ (u := .slice none 0 0) c2
      clear V1 HR HTK HFIN HLT
      go_wp2
      refine bodyPost_ret (v := .tuple #[.agg #[.slice a m c], .int .i64 0]) (by simp [results, Try.results51, go_sem, hres]) rfl ?_
      refine ⟨a, m, c, rfl, ?_, hbw.setCell (p := ⟨w.heap.size + 1, 0, none⟩) (by show w.heap.size ≤ w.heap.size + 1; omega) _⟩
      exact (hG.keep fun q hq h1 h2 => heap_far _ ⟨w.heap.size + 1, 0, none⟩ _ q (by show w.heap.size + 1 < q; omega)).widen (by omega) (by simp)

set_option maxRecDepth 10000 in
theorem rotateMulti_spec (v : Value) (E : TypeId) (B C : Nat) (pss : List (List Int)) (b : Int) (w : World) (h : Grid E w B C v pss) (hb1 : -9223372036854775808 ≤ b) (hb2 : b ≤ 9223372036854775807) :
    Calls Try.prog 51 #[.agg #[v], .int .i64 b] w fun e w' => ∃ x y z, e = .returned (.tuple #[.agg #[.slice x y z], .int .i64 (rotMC pss)]) ∧ Grid 32 w' w.heap.size w'.heap.size (.slice x y z) (rotMR pss b) ∧ Below w.heap.size w w' := by
  cases hok : okM pss with
  | false =>
    have HO := fun W (hW : Below w.heap.size w W) (hp : W.cell? ⟨w.heap.size, 0, none⟩ = some v) => l04Ok_any _ v E B C pss W hp (h.below hW)
    obtain ⟨e1, e2⟩ := rotM_bad b hok
    rw [e1, e2]
    rw [hok] at HO
    clear h hok e1 e2
    go_enter Try.func51, Try.ntmps51
    go_wp2_with fail
    refine (HO _ (below_alM (below_alM (Below.refl _ _) _) _) ?_).mono ?_
    · simp
    rintro e w1 ⟨rfl, b1⟩
    have v1 : Var1 w1 (w.heap.size + 1) (.slice none 0 0) := by
      have := (Var1.made (w.alloc (.cells #[v] 26)) (.slice none 0 0) 26).below b1
      simpa using this
    obtain ⟨c1, f1⟩ := v1
    replace b1 := (below_alM (below_alM (Below.refl w.heap.size w) _) _).trans (b1.mono (by simp; omega))
    have hres : ∀ y : Value, (w1.setCell ⟨w.heap.size + 1, 0, none⟩ y).cell? ⟨w.heap.size + 1, 0, none⟩ = some y := fun y => World.cell?_setCell_same _ _ _ (u := .slice none 0 0) c1
    go_wp2
    refine bodyPost_ret (v := .tuple #[.agg #[.slice none 0 0], .int .i64 1]) (by simp [results, Try.results51, go_sem, hres]) rfl ?_
    exact ⟨none, 0, 0, rfl, Grid.nil _ _ _ _, b1.setCell (p := ⟨w.heap.size + 1, 0, none⟩) (by show w.heap.size ≤ w.heap.size + 1; omega) _⟩
  | true =>
    obtain ⟨e1, e2⟩ := rotM_good b hok
    rw [e1, e2]
    have h1 := (shapeL_num (okM_shape hok)).1
    obtain ⟨g, cap, rfl, _, hg, _, hm⟩ := h.shape.resolve_left fun e => by rw [e.2] at h1; simp at h1
    exact rotMulti_specR g cap pss.length E B C pss b w h rfl hg hok
end Go.Proofs.Ytmnkfflmljeokaa
