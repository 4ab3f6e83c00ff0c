/- Multiplex: SingleOf, the model's and the program's. Conditions: beats of at most 10^7 throws for the program's. -/
import Derived.Test.YtmnkfflmljeokaaLandI
namespace Go.Proofs.Ytmnkfflmljeokaa
open Go.RowKit
set_option linter.unusedSimpArgs false
set_option linter.unusedVariables false

def onesB (pss : List (List Int)) : Bool := pss.all (fun b => decide (b.length ≤ 1))
def heads (pss : List (List Int)) : List Int := pss.map (fun b => b.getD 0 0)
def singC (pss : List (List Int)) : Int := if okM pss then (if onesB pss then 0 else 10) else 1
def singR (pss : List (List Int)) : List Int := if okM pss then (if onesB pss then heads pss else []) else []
theorem heads_len (pss : List (List Int)) : (heads pss).length = pss.length := by simp [heads]
theorem heads_at (pss : List (List Int)) (k : Nat) (hk : k < pss.length) : (heads pss).getD k 0 = (pss.getD k []).getD 0 0 := by simp [heads, hk]
theorem heads_take (pss : List (List Int)) (k : Nat) (hk : k < pss.length) : (heads pss).take (k + 1) = (heads pss).take k ++ [(pss.getD k []).getD 0 0] := by
  rw [List.take_succ_eq_append_getElem (by rw [heads_len]; exact hk)]
  congr 2
  simp [heads, hk]
theorem heads_set (pss : List (List Int)) (k : Nat) (hk : k < pss.length) : ((heads pss).take k ++ List.replicate (pss.length - k) 0).set k ((pss.getD k []).getD 0 0) = (heads pss).take (k + 1) ++ List.replicate (pss.length - (k + 1)) 0 := by
  have h := take_set_next (heads pss) pss.length k hk (by rw [heads_len]; exact Nat.le_refl _)
  rwa [heads_at pss k hk] at h
theorem ones_bad {pss : List (List Int)} (k : Nat) (hk : k < pss.length) (h : 1 < (pss.getD k []).length) : onesB pss = false := by
  unfold onesB
  rw [List.all_eq_false]
  refine ⟨pss.getD k [], ?_, by simp; simpa using h⟩
  rw [show pss.getD k [] = pss[k] by simp [hk]]
  exact List.getElem_mem hk
theorem ones_good {pss : List (List Int)} (h : ∀ i, i < pss.length → (pss.getD i []).length ≤ 1) : onesB pss = true := by
  unfold onesB
  rw [List.all_eq_true]
  intro b hb
  obtain ⟨i, hi, rfl⟩ := List.getElem_of_mem hb
  have := h i hi
  rw [show pss.getD i [] = pss[i] by simp [hi]] at this
  simpa using this
theorem sing_bad {pss : List (List Int)} (h : okM pss = true) (h1 : onesB pss = false) : singC pss = 10 ∧ singR pss = [] := by simp [singC, singR, h, h1]
theorem sing_good {pss : List (List Int)} (h : okM pss = true) (h1 : onesB pss = true) : singC pss = 0 ∧ singR pss = heads pss := by simp [singC, singR, h, h1]
theorem singR_len (pss : List (List Int)) : (singR pss).length ≤ 12 := by
  unfold singR
  by_cases h : okM pss = true
  · rw [if_pos h]
    split
    · rw [heads_len]; exact (shapeL_num (okM_shape h)).2
    · simp
  · rw [if_neg h]; simp
/-- rows, with at least one throw each -/
theorem rows_pos {pss : List (List Int)} (hs : shapeL pss = true) (i : Nat) (hi : i < pss.length) : 1 ≤ (pss.getD i []).length := (rowOk_num (shapeL_at hs i hi)).1

set_option maxRecDepth 10000 in
set_option maxHeartbeats 1000000 in
theorem singleOf_specR (g cap n : Nat) (E : TypeId) (B C : Nat) (pss : List (List Int)) (w : World) (h : Grid E w B C (.slice (some ⟨g, 0, none⟩) n cap) pss) (hn : n = pss.length) (hg : g < w.heap.size) (hok : okM pss = true) :
    Calls Try.prog 46 #[.agg #[.slice (some ⟨g, 0, none⟩) n cap]] w fun e w' => ∃ u, e = .returned (.tuple #[u, .int .i64 (singC pss)]) ∧ Ints w' w.heap.size u (singR pss) ∧ Below w.heap.size w w' := by
  have HO := fun W (hW : Below w.heap.size w W) (hp : W.cell? ⟨w.heap.size, 0, none⟩ = some (.slice (some ⟨g, 0, none⟩) n cap)) => l04Ok_any _ _ E B C pss W hp (h.below hW)
  rw [hok] at HO
  have hs := okM_shape hok
  have hn2 : n ≤ 12 := by rw [hn]; exact (shapeL_num hs).2
  have HROW := Lib.hid (fun W (hW : Below w.heap.size w W) => (h.rowsAt hn hs).below hg hW)
  have HPOS := Lib.hid (fun i (hi : i < n) => rows_pos hs i (by omega))
  have HBAD := Lib.hid (fun k (hk : k < n) (hh : 1 < (pss.getD k []).length) => sing_bad hok (ones_bad k (by omega) hh))
  have HGOOD := Lib.hid (fun (hh : ∀ i, i < n → (pss.getD i []).length ≤ 1) => sing_good hok (ones_good fun i hi => hh i (by omega)))
  have HTK := Lib.hid (fun k (hk : k < n) => heads_take pss k (by omega))
  have HFIN : Hid ((heads pss).take n = heads pss) := List.take_of_length_le (by rw [heads_len, hn]; exact Nat.le_refl _)
  clear h hok hs hn
  go_enter Try.func46, Try.ntmps46
  go_wp2_with fail
  refine (HO _ (below_alM (Below.refl _ _) _) ?_).mono ?_
  · simp
  rintro e w1 ⟨rfl, b1⟩
  have c1 : w1.cell? ⟨w.heap.size, 0, none⟩ = some (.slice (some ⟨g, 0, none⟩) n cap) := by rw [b1.cell (by simp)]; simp
  have s1 : w.heap.size + 1 ≤ w1.heap.size := by have := b1.size; simpa using this
  replace b1 := (below_alM (Below.refl w.heap.size w) _).trans (b1.mono (by simp))
  have HR := Lib.hid (HROW.out w1 b1)
  clear HO HROW
  go_wp2
  go_loopw [4, 5] (fun v i wr => ∃ k : Nat, k ≤ n ∧ i = .int .i64 k ∧ Ints wr w1.heap.size v ((heads pss).take k) ∧ Hid (∀ j, j < k → (pss.getD j []).length ≤ 1) ∧ Below w1.heap.size w1 wr) (fun _ i _ => n - (intOf i).toNat)
  case atStart => exact ⟨0, Nat.zero_le _, rfl, ownInts_empty w1 (Nat.le_refl _), fun j hj => absurd hj (Nat.not_lt_zero _), (Below.refl _ _).alloc (Nat.le_refl _) _⟩
  case round =>
    obtain ⟨k, hk, rfl, hi, hall, hb⟩ := hrel
    have cr : wr.cell? ⟨w.heap.size, 0, none⟩ = some (.slice (some ⟨g, 0, none⟩) n cap) := (hb.cell (p := ⟨w.heap.size, 0, none⟩) (by show w.heap.size < _; omega)).trans c1
    have hbs := hb.size
    by_cases hlt : k < n
    · obtain ⟨gb, cb, m, hm, hm4, hc, hgb, hx⟩ := HR.out k hlt
      have hcr : wr.cell? ⟨g, k, none⟩ = some (.slice (some ⟨gb, 0, none⟩) m cb) := (hb.cell (p := ⟨g, k, none⟩) (by show g < _; omega)).trans hc
      have hp := HPOS.out k hlt
      have HB := Lib.hid (HBAD.out k hlt)
      have hst := HTK.out k hlt
      have hlk : ((heads pss).take k).length ≤ 1000000000 := by simp; omega
      have HNX := Lib.hid (fun (hh : (pss.getD k []).length ≤ 1) => show ∀ j, j < k + 1 → (pss.getD j []).length ≤ 1 from fun j hj => by
        by_cases e : j = k
        · subst e; exact hh
        · exact hall.out j (by omega))
      generalize pss.getD k [] = b at *
      have hx0 := (hx 0 (by omega)).1
      have hxr : wr.cell? ⟨gb, 0, none⟩ = some (.int .i64 (b.getD 0 0)) := (hb.cell (p := ⟨gb, 0, none⟩) hgb).trans hx0
      generalize b.getD 0 0 = x at *
      have HM := Lib.hid hm
      have HST := Lib.hid hst
      have hm0 : 0 < m := by omega
      clear hx hx0 hc hm hall hst
      by_cases hmany : 1 < m
      · have HF := Lib.hid (HB.out (by rw [← HM.out]; exact hmany))
        have hmany' : (1 : Int) < (m : Int) := by omega
        clear hi
        go_wp2
        go_ret2
        exact ⟨_, by rw [HF.out.1]; rfl, by rw [HF.out.2]; exact Ints.nil _ _, b1.trans (hb.mono (by omega))⟩
      · have HN := Lib.hid (HNX.out (by rw [← HM.out]; omega))
        have hmany' : ¬ (1 : Int) < (m : Int) := by omega
        obtain rfl : m = 1 := by omega
        go_wp2_with (at_builtin; refine append_int _ rfl _ _ rfl _ _ _ rfl hi _ rfl (by omega) hbs ?_; intro v' w2 hi1 hg1; refine Hid.out ?_)
        have hb1 := hi.below_grown hb hbs hg1
        clear hg1 hi hb
        refine Lib.hid ?_
        go_wp2
        go_roundw
        case rel => exact ⟨k + 1, by omega, by go_num, by rw [HST.out]; exact hi1, HN.out, hb1⟩
        case measure => simp [intOf]; omega
    · obtain rfl : k = n := by omega
      rw [HFIN.out] at hi
      have HG := Lib.hid (HGOOD.out hall.out)
      go_wp2
      go_ret2
      exact ⟨_, by rw [HG.out.1]; rfl, by rw [HG.out.2]; exact hi.mono (by omega), b1.trans (hb.mono (by omega))⟩

set_option maxRecDepth 10000 in
theorem singleOf_spec (v : Value) (E : TypeId) (B C : Nat) (pss : List (List Int)) (w : World) (h : Grid E w B C v pss) :
    Calls Try.prog 46 #[.agg #[v]] w fun e w' => ∃ u, e = .returned (.tuple #[u, .int .i64 (singC pss)]) ∧ Ints w' w.heap.size u (singR pss) ∧ Below w.heap.size w w' := by
  cases hok : okM pss with
  | false =>
    have HO := fun W (hW : Below w.heap.size w W) (hp : W.cell? ⟨w.heap.size, 0, none⟩ = some v) => l04Ok_any _ v E B C pss W hp (h.below hW)
    simp only [singR, singC, hok, Bool.false_eq_true, if_false]
    rw [hok] at HO
    clear h hok
    go_enter Try.func46, Try.ntmps46
    go_wp2_with fail
    refine (HO _ (below_alM (Below.refl _ _) _) ?_).mono ?_
    · simp
    rintro e w1 ⟨rfl, b1⟩
    replace b1 := (below_alM (Below.refl w.heap.size w) _).trans (b1.mono (by simp))
    go_wp2
    go_ret2
    exact ⟨_, rfl, Ints.nil _ _, b1⟩
  | true =>
    have h1 := (shapeL_num (okM_shape hok)).1
    obtain ⟨g, cap, rfl, _, hg, _, hm⟩ := h.shape.resolve_left fun e => by rw [e.2] at h1; simp at h1
    exact singleOf_specR g cap pss.length E B C pss w h rfl hg hok
set_option maxRecDepth 10000 in
set_option maxHeartbeats 1000000 in
theorem singleOf_row (g cap n : Nat) (E : TypeId) (B C : Nat) (pss : List (List Int)) (w : World) (h : Grid E w B C (.slice (some ⟨g, 0, none⟩) n cap) pss) (hn : n = pss.length) (hg : g < w.heap.size) (hsm : Small pss) (hok : okM pss = true) :
    Calls Try.prog 47 #[.agg #[.slice (some ⟨g, 0, none⟩) n cap]] w fun e w' => ∃ u, e = .returned (.tuple #[u, .int .i64 (singC pss)]) ∧ Ints w' w.heap.size u (singR pss) ∧ Below w.heap.size w w' := by
  have HO := fun W (hW : Below w.heap.size w W) => validMulti_impl _ E B C pss W (h.below hW) hsm
  rw [hok] at HO
  have hs := okM_shape hok
  have hn2 : n ≤ 12 := by rw [hn]; exact (shapeL_num hs).2
  have HROW := Lib.hid (fun W (hW : Below w.heap.size w W) => (h.rowsAt hn hs).below hg hW)
  have HPOS := Lib.hid (fun i (hi : i < n) => rows_pos hs i (by omega))
  have HBAD := Lib.hid (fun k (hk : k < n) (hh : 1 < (pss.getD k []).length) => sing_bad hok (ones_bad k (by omega) hh))
  have HGOOD := Lib.hid (fun (hh : ∀ i, i < n → (pss.getD i []).length ≤ 1) => sing_good hok (ones_good fun i hi => hh i (by omega)))
  have HTK := Lib.hid (fun k (hk : k < n) => by have := heads_set pss k (by omega); rw [← hn] at this; exact this)
  have HFIN : Hid ((heads pss).take n ++ List.replicate (n - n) 0 = heads pss) := by
    unfold Hid
    rw [Nat.sub_self, List.replicate_zero, List.append_nil, List.take_of_length_le (by rw [heads_len, hn]; exact Nat.le_refl _)]
  have HLEN := Lib.hid (fun k (hk : k ≤ n) => show ((heads pss).take k ++ List.replicate (n - k) 0).length = n from by
    rw [List.length_append, List.length_take, heads_len, List.length_replicate]; omega)
  clear h hok hs hn hsm
  obtain ⟨i0, hi, hz0, hz1, hz2⟩ := info_parts Try.info64
  go_enter Try.func47, Try.ntmps47
  go_wp2_with fail
  refine (HO _ (below_alM (Below.refl _ _) _)).mono ?_
  rintro e w2 ⟨rfl, b2⟩
  have c2 : w2.cell? ⟨w.heap.size, 0, none⟩ = some (.slice (some ⟨g, 0, none⟩) n cap) := by rw [b2.cell (by simp)]; simp
  have s2 : w.heap.size + 1 ≤ w2.heap.size := by have := b2.size; simpa using this
  replace b2 := (below_alM (Below.refl w.heap.size w) _).trans (b2.mono (by simp))
  have HR := Lib.hid (HROW.out w2 b2)
  clear HO HROW
  go_wp2_with (at_make; refine wpList_make_full _ rfl _ _ 32 rfl w2.heap.size 2 i0 (.int .i64 0) 1 Try.underlying32 hi hz0 hz1 _ _ _ _ n rfl rfl rfl rfl (by rw [hz2]; omega) (by unfold maxLen; omega) (Nat.le_refl _) ?_)
  intro w3 hown hg3
  have h1 : Ints w3 w2.heap.size (.slice (some ⟨w2.heap.size, 0, none⟩) n n) ((heads pss).take 0 ++ List.replicate (n - 0) 0) := by
    unfold Ints
    simpa [toList_madeCells_one] using hown
  have hb1 : Below w2.heap.size w2 w3 := (Below.refl _ _).grown hg3 (Nat.le_refl _) (by simp)
  clear hown hg3 hi hz0 hz1 hz2
  have c3 : w3.cell? ⟨w.heap.size, 0, none⟩ = some (.slice (some ⟨g, 0, none⟩) n cap) := (hb1.cell (p := ⟨w.heap.size, 0, none⟩) (by show w.heap.size < _; omega)).trans c2
  go_wp2
  go_loopw [17] (fun i wr => ∃ k : Nat, k ≤ n ∧ i = .int .i64 k ∧ Ints wr w2.heap.size (.slice (some ⟨w2.heap.size, 0, none⟩) n n) ((heads pss).take k ++ List.replicate (n - k) 0) ∧ Hid (∀ j, j < k → (pss.getD j []).length ≤ 1) ∧ Below w2.heap.size w2 wr) (fun i _ => n - (intOf i).toNat)
  case atStart => exact ⟨0, Nat.zero_le _, rfl, h1, fun j hj => absurd hj (Nat.not_lt_zero _), hb1⟩
  case round =>
    obtain ⟨k, hk, rfl, hi, hall, hb⟩ := hrel
    clear h1 hb1 c3
    by_cases hlt : k < n
    · obtain ⟨gb, cb, m, hm, hm4, hc, hgb, hx⟩ := HR.out k hlt
      have hcr : wr.cell? ⟨g, k, none⟩ = some (.slice (some ⟨gb, 0, none⟩) m cb) := (hb.cell (p := ⟨g, k, none⟩) (by show g < _; omega)).trans hc
      have hp := HPOS.out k hlt
      have HB := Lib.hid (HBAD.out k hlt)
      have hold := hi.cell k (by rw [HLEN.out k hk]; exact hlt)
      have hfree := hi.free k
      have hnew := hi.set k ((pss.getD k []).getD 0 0)
      rw [HTK.out k hlt] at hnew
      have hbn := hb.setCell (p := ⟨w2.heap.size, k, none⟩) (Nat.le_refl _) (.int .i64 ((pss.getD k []).getD 0 0))
      have HNX := Lib.hid (fun (hh : (pss.getD k []).length ≤ 1) => show ∀ j, j < k + 1 → (pss.getD j []).length ≤ 1 from fun j hj => by
        by_cases e : j = k
        · subst e; exact hh
        · exact hall.out j (by omega))
      generalize pss.getD k [] = b at *
      have hx0 := (hx 0 (by omega)).1
      have hxr : wr.cell? ⟨gb, 0, none⟩ = some (.int .i64 (b.getD 0 0)) := (hb.cell (p := ⟨gb, 0, none⟩) hgb).trans hx0
      generalize b.getD 0 0 = x at *
      have HM := Lib.hid hm
      have hm0 : 0 < m := by omega
      clear hx hx0 hc hm hall hi
      by_cases hmany : 1 < m
      · have HF := Lib.hid (HB.out (by rw [← HM.out]; exact hmany))
        have hmany' : (1 : Int) < (m : Int) := by omega
        clear hnew hbn
        go_wp2
        go_ret2
        exact ⟨_, by rw [HF.out.1]; rfl, by rw [HF.out.2]; exact Ints.nil _ _, b2.trans (hb.mono (by omega))⟩
      · have HN := Lib.hid (HNX.out (by rw [← HM.out]; omega))
        have hmany' : ¬ (1 : Int) < (m : Int) := by omega
        obtain rfl : m = 1 := by omega
        go_wp2
        go_roundw
        case rel => exact ⟨k + 1, by omega, by go_num, hnew, HN.out, hbn⟩
        case measure => simp [intOf]; omega
    · obtain rfl : k = n := by omega
      rw [HFIN.out] at hi
      have HG := Lib.hid (HGOOD.out hall.out)
      go_wp2
      go_ret2
      exact ⟨_, by rw [HG.out.1]; rfl, by rw [HG.out.2]; exact hi.mono (by omega), b2.trans (hb.mono (by omega))⟩

set_option maxRecDepth 10000 in
theorem singleOf_impl (v : Value) (E : TypeId) (B C : Nat) (pss : List (List Int)) (w : World) (h : Grid E w B C v pss) (hsm : Small pss) :
    Calls Try.prog 47 #[.agg #[v]] w fun e w' => ∃ u, e = .returned (.tuple #[u, .int .i64 (singC pss)]) ∧ Ints w' w.heap.size u (singR pss) ∧ Below w.heap.size w w' := by
  cases hok : okM pss with
  | false =>
    have HO := fun W (hW : Below w.heap.size w W) => validMulti_impl v E B C pss W (h.below hW) hsm
    simp only [singR, singC, hok, Bool.false_eq_true, if_false]
    rw [hok] at HO
    clear h hok hsm
    go_enter Try.func47, Try.ntmps47
    go_wp2_with fail
    refine (HO _ (below_alM (Below.refl _ _) _)).mono ?_
    rintro e w1 ⟨rfl, b1⟩
    replace b1 := (below_alM (Below.refl w.heap.size w) _).trans (b1.mono (by simp))
    go_wp2
    go_ret2
    exact ⟨_, rfl, Ints.nil _ _, b1⟩
  | true =>
    have h1 := (shapeL_num (okM_shape hok)).1
    obtain ⟨g, cap, rfl, _, hg, _, hm⟩ := h.shape.resolve_left fun e => by rw [e.2] at h1; simp at h1
    exact singleOf_row g cap pss.length E B C pss w h rfl hg hsm hok
end Go.Proofs.Ytmnkfflmljeokaa
