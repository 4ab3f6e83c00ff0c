/- Multiplex, the model's: l04Landings, l04Thrown, l04Ok, ValidMulti. No conditions but that the beats are in their order. -/
import Derived.Test.YtgjmhihomklooaaShape
import Derived.Test.YtgjmhihomklooaaValidM
namespace Go.Proofs.Ytgjmhihomklooaa
open Go.RowKit
set_option linter.unusedSimpArgs false
set_option linter.unusedVariables false

/-- at each of n beats: how many of the props ps land there -/
def landsN (n : Nat) (ps : List (Int × Int)) : List Int := (List.range n).map fun (j : Nat) => ((ps.map Prod.snd).count (j : Int) : Int)
theorem landsN_len (n : Nat) (ps : List (Int × Int)) : (landsN n ps).length = n := by simp [landsN]
theorem landsN_nil (n : Nat) : landsN n [] = List.replicate n 0 := by
  apply List.ext_getElem
  · simp [landsN]
  · intro i h1 h2
    simp [landsN]
theorem landsN_at (n : Nat) (ps : List (Int × Int)) (j : Nat) (hj : j < n) : (landsN n ps).getD j 0 = ((ps.map Prod.snd).count (j : Int) : Int) := by simp [landsN, hj]
theorem landsN_snoc (n : Nat) (ps : List (Int × Int)) (t l : Int) (h0 : 0 ≤ l) (h1 : l < n) : landsN n (ps ++ [(t, l)]) = (landsN n ps).set l.toNat ((landsN n ps).getD l.toNat 0 + 1) := by
  rw [landsN_at n ps _ (by omega)]
  apply List.ext_getElem
  · simp [landsN]
  · intro j h2 h3
    rw [List.getElem_set]
    by_cases e : l.toNat = j
    · rw [if_pos e]
      have e' : l = (j : Int) := by omega
      subst e'
      simp [landsN, List.count_append]
    · rw [if_neg e]
      have e' : ¬ l = (j : Int) := by omega
      simp [landsN, List.count_append, List.count_cons, e']
/-- how many props land at each beat -/
def landsL (pss : List (List Int)) : List Int := landsN pss.length (propsTo pss pss.length)
theorem landsL_at (pss : List (List Int)) (j : Nat) (hj : j < pss.length) : (landsL pss).getD j 0 = ((landL pss).count (j : Int) : Int) := landsN_at _ _ j hj
theorem landsL_len (pss : List (List Int)) : (landsL pss).length = pss.length := landsN_len _ _

set_option maxRecDepth 10000 in
set_option maxHeartbeats 1000000 in
theorem l04Landings_row (p : Addr) (g cap n : Nat) (pss : List (List Int)) (w : World) (hp : w.cell? p = some (.slice (some ⟨g, 0, none⟩) n cap)) (hn : n = pss.length) (hn2 : n ≤ 12) (hg : g < w.heap.size)
    (hrow : ∀ i, i < n → ∃ gb cb m, m = (pss.getD i []).length ∧ m ≤ 4 ∧ w.cell? ⟨g, i, none⟩ = some (.slice (some ⟨gb, 0, none⟩) m cb) ∧ gb < w.heap.size ∧ ∀ k, k < m → w.cell? ⟨gb, k, none⟩ = some (.int .i64 ((pss.getD i []).getD k 0)) ∧ 0 ≤ (pss.getD i []).getD k 0 ∧ (pss.getD i []).getD k 0 ≤ 15) :
    Calls Try.prog 69 #[.pointer (some p)] w fun e w' => ∃ u, e = .returned u ∧ Ints w' w.heap.size u (landsN n (propsTo pss n)) ∧ Below w.heap.size w w' := by
  have hpl := cell_block hp
  have HLEN := Lib.hid (fun k (hk : k ≤ n) => propsTo_len (pss := pss) (m := 4) (fun i hi => by
    obtain ⟨gb, cb, m, h1, h2, _⟩ := hrow i (by omega)
    omega) k (by omega))
  have HST : Hid (∀ k, propsTo pss (k + 1) = propsTo pss k ++ propsR n k (pss.getD k [])) := fun k => by rw [hn]; rfl
  have HROW := Lib.hid hrow
  clear hrow hn
  obtain ⟨i0, hi, hz0, hz1, hz2⟩ := info_parts Try.info64
  go_enter Try.func69, Try.ntmps69
  go_wp2_with (at_make; refine wpList_make_full _ rfl _ _ 32 rfl w.heap.size 2 i0 (.int .i64 0) 1 Try.underlying32 hi hz0 hz1 _ _ _ _ n rfl rfl rfl rfl (by rw [hz2]; omega) (by unfold maxLen; omega) (Nat.le_refl _) ?_)
  intro w1 hown hg1
  have h1 : Ints w1 w.heap.size (.slice (some ⟨w.heap.size, 0, none⟩) n n) (landsN n (propsTo pss 0)) := by
    unfold Ints
    rw [show propsTo pss 0 = [] from rfl, landsN_nil]
    simpa [toList_madeCells_one] using hown
  have hb1 : Below w.heap.size w w1 := (Below.refl _ _).grown hg1 (Nat.le_refl _) (by simp)
  clear hown hg1 hi hz0 hz1 hz2
  go_wp2
  go_loopw [5] (fun i wr => ∃ k : Nat, k ≤ n ∧ i = .int .i64 k ∧ Ints wr w.heap.size (.slice (some ⟨w.heap.size, 0, none⟩) n n) (landsN n (propsTo pss k)) ∧ Below w.heap.size w wr) (fun i _ => n - (intOf i).toNat)
  case atStart => exact ⟨0, Nat.zero_le _, rfl, h1, hb1⟩
  case round =>
    clear h1 hb1
    obtain ⟨i, hi, rfl, ht, hb⟩ := hrel
    have hpr : wr.cell? p = some (.slice (some ⟨g, 0, none⟩) n cap) := (hb.cell hpl).trans hp
    by_cases hlt : i < n
    · obtain ⟨gb, cb, m, hm, hm4, hc, hgb, hx⟩ := HROW.out i hlt
      have hs := HST.out i
      have hl := HLEN.out i hi
      generalize propsTo pss i = ps at *
      have HS := Lib.hid hs
      clear hs
      generalize pss.getD i [] = b at *
      have HX := Lib.hid hx
      have HM := Lib.hid hm
      have h0 : ps ++ propsR n i (b.take 0) = ps := by rw [List.take_zero, propsR_nil, List.append_nil]
      have HZ := Lib.hid h0
      clear hx hm h0
      go_wp2
      go_loopw [6] (fun c wr => ∃ k : Nat, k ≤ m ∧ c = .int .i64 k ∧ Ints wr w.heap.size (.slice (some ⟨w.heap.size, 0, none⟩) n n) (landsN n (ps ++ propsR n i (b.take k))) ∧ Below w.heap.size w wr) (fun c _ => m - (intOf c).toNat)
      case atStart => exact ⟨0, Nat.zero_le _, rfl, by rw [HZ.out]; exact ht, hb⟩
      case round =>
        clear hb ht hpr
        obtain ⟨k, hk, rfl, htk, hbk⟩ := hrel
        have hpr : wr.cell? p = some (.slice (some ⟨g, 0, none⟩) n cap) := (hbk.cell hpl).trans hp
        have hcr : wr.cell? ⟨g, i, none⟩ = some (.slice (some ⟨gb, 0, none⟩) m cb) := (hbk.cell (p := ⟨g, i, none⟩) hg).trans hc
        by_cases hkm : k < m
        · obtain ⟨hx1, hx2, hx3⟩ := HX.out k hkm
          have hcx : wr.cell? ⟨gb, k, none⟩ = some (.int .i64 (b.getD k 0)) := (hbk.cell (p := ⟨gb, k, none⟩) hgb).trans hx1
          have hst := propsR_take n i (b := b) k (by rw [← HM.out]; exact hkm)
          obtain ⟨q', hq'⟩ : ∃ q', propsR n i (b.take (k + 1)) = q' := ⟨_, rfl⟩
          rw [hq'] at hst
          have HQ := Lib.hid hq'
          clear hq'
          have hlk := propsR_len n i (b.take k)
          have hlk2 : (b.take k).length ≤ 4 := by simp; omega
          generalize propsR n i (b.take k) = q at *
          generalize b.getD k 0 = x at *
          by_cases hx0 : x = 0
          · rw [if_pos hx0, List.append_nil] at hst
            subst hx0
            have HST2 := Lib.hid hst
            clear hst hx1
            go_wp2
            go_roundw
            case rel => exact ⟨k + 1, by omega, by go_num, by rw [HQ.out, HST2.out]; exact htk, hbk⟩
            case measure => simp [intOf]; omega
          · rw [if_neg hx0] at hst
            have hpos : 0 < x := by omega
            have HST2 := Lib.hid hst
            have e0 := Int.emod_nonneg ((i : Int) + x) (show (n : Int) ≠ 0 by omega)
            have e1 := Int.emod_lt_of_pos ((i : Int) + x) (show 0 < (n : Int) by omega)
            have hsn := landsN_snoc n (ps ++ q) (i : Int) (((i : Int) + x) % (n : Int)) e0 e1
            have hps : (ps ++ q).length ≤ 100000 := by rw [List.length_append]; omega
            obtain ⟨y, hy⟩ : ∃ y : Nat, y = (((i : Int) + x) % (n : Int)).toNat := ⟨_, rfl⟩
            have hyi : ((i : Int) + x) % (n : Int) = (y : Int) := by omega
            have hcnt : 0 ≤ (landsN n (ps ++ q)).getD y 0 ∧ (landsN n (ps ++ q)).getD y 0 ≤ 100000 := by
              rw [landsN_at _ _ y (by omega)]
              have : ((ps ++ q).map Prod.snd).count (y : Int) ≤ ((ps ++ q).map Prod.snd).length := List.count_le_length
              rw [List.length_map] at this
              have h5 : (ps ++ q).length = ps.length + q.length := List.length_append
              omega
            have hold := htk.cell y (by rw [landsN_len]; omega)
            have hfree := htk.free y
            have hnew := htk.set y ((landsN n (ps ++ q)).getD y 0 + 1)
            rw [hyi, show ((y : Int)).toNat = y by omega] at hsn
            rw [← hsn] at hnew
            have hbn := hbk.setCell (p := ⟨w.heap.size, y, none⟩) (Nat.le_refl _) (.int .i64 ((landsN n (ps ++ q)).getD y 0 + 1))
            have hfin : landsN n (ps ++ q') = landsN n (ps ++ q ++ [((i : Int), (y : Int))]) := by rw [HST2.out, hyi, List.append_assoc]
            have HFIN := Lib.hid hfin
            have hyn : y < n := by omega
            generalize (landsN n (ps ++ q)).getD y 0 = cv at *
            clear hst hx1 hps hsn hfin e0 e1 hy htk hlk hlk2 HST2
            go_wp2
            go_roundw
            case rel => exact ⟨k + 1, by omega, by go_num, by rw [HQ.out, HFIN.out]; exact hnew, hbn⟩
            case measure => simp [intOf]; omega
        · obtain rfl : k = m := by omega
          have ht2 : Ints wr w.heap.size (.slice (some ⟨w.heap.size, 0, none⟩) n n) (landsN n (propsTo pss (i + 1))) := by
            rw [HS.out]
            rw [HM.out, List.take_length] at htk
            exact htk
          clear htk
          go_wp2
          go_roundw
          case rel => exact ⟨i + 1, by omega, by go_num, ht2, hbk⟩
          case measure => simp [intOf]; omega
    · obtain rfl : i = n := by omega
      go_wp2
      go_ret
      exact ⟨_, rfl, ht, hb⟩
theorem l04Landings_any (p : Addr) (v : Value) (E : TypeId) (B C : Nat) (pss : List (List Int)) (w : World) (hp : w.cell? p = some v) (h : Grid E w B C v pss) (hs : shapeL pss = true) :
    Calls Try.prog 69 #[.pointer (some p)] w fun e w' => ∃ u, e = .returned u ∧ Ints w' w.heap.size u (landsL pss) ∧ Below w.heap.size w w' := by
  obtain ⟨h1, h2⟩ := shapeL_num hs
  obtain ⟨g, cap, rfl, _, hg, _, hm⟩ := h.shape.resolve_left fun e => by rw [e.2] at h1; simp at h1
  exact l04Landings_row p g cap pss.length pss w hp rfl h2 hg fun i hi => shape_rows h hs i hi

set_option maxRecDepth 10000 in
theorem l04Thrown_any (v : Value) (B : Nat) (b : List Int) (w : World) (h : Ints w B v b) (hr : rowOk b = true) :
    Calls Try.prog 121 #[v] w fun e w' => e = .returned (.int .i64 ((nz b).length : Int)) ∧ w' = w := by
  rw [rowOk_nz hr]
  obtain ⟨h1, h2⟩ := rowOk_num hr
  obtain ⟨gb, cb, rfl, _, hgb, _⟩ := h.shape.resolve_left fun e => by rw [e.2] at h1; simp at h1
  have hc := h.cell 0 (by omega)
  obtain ⟨m, hm⟩ : ∃ m, m = b.length := ⟨_, rfl⟩
  rw [← hm] at h1 h2 ⊢
  obtain ⟨x, hx⟩ : ∃ x, x = b.getD 0 0 := ⟨_, rfl⟩
  rw [← hx] at hc ⊢
  clear h hm hx hr
  by_cases h3 : m = 1
  · subst h3
    by_cases h0 : x = 0
    · rw [if_pos ⟨rfl, h0⟩]
      subst h0
      go_enter Try.func121, Try.ntmps121
      go_wp2
      go_ret
      exact ⟨rfl, rfl⟩
    · rw [if_neg fun e => h0 e.2]
      have h0' : (x == 0) = false := by simpa using h0
      go_enter Try.func121, Try.ntmps121
      go_wp2
      go_ret
      exact ⟨rfl, rfl⟩
  · rw [if_neg fun e => h3 e.1]
    have h3' : ((m : Int) == 1) = false := by simp; omega
    go_enter Try.func121, Try.ntmps121
    go_wp2
    go_ret
    exact ⟨rfl, rfl⟩

set_option maxRecDepth 10000 in
theorem l04Ok_bad (p : Addr) (v : Value) (E : TypeId) (B C : Nat) (pss : List (List Int)) (w : World) (hp : w.cell? p = some v) (h : Grid E w B C v pss) (hsh : shapeL pss = false) :
    Calls Try.prog 65 #[.pointer (some p)] w fun e w' => e = .returned (.bool (okM pss)) ∧ Below w.heap.size w w' := by
  have hok : okM pss = false := by unfold okM; rw [hsh, Bool.false_and]
  rw [hok]
  have HL := l04Shape_any p v E B C pss w hp h
  rw [hsh] at HL
  clear h hsh hok hp
  go_enter Try.func65, Try.ntmps65
  go_wp2_with fail
  refine HL.mono ?_
  rintro e w1 ⟨rfl, b1⟩
  go_wp2
  go_ret
  exact ⟨rfl, b1⟩

set_option maxRecDepth 10000 in
set_option maxHeartbeats 1000000 in
theorem l04Ok_row (p : Addr) (g cap n : Nat) (E : TypeId) (B C : Nat) (pss : List (List Int)) (w : World) (hp : w.cell? p = some (.slice (some ⟨g, 0, none⟩) n cap)) (h : Grid E w B C (.slice (some ⟨g, 0, none⟩) n cap) pss) (hn : n = pss.length) (hg : g < w.heap.size) (hsh : shapeL pss = true) :
    Calls Try.prog 65 #[.pointer (some p)] w fun e w' => e = .returned (.bool (okM pss)) ∧ Below w.heap.size w w' := by
  have hpl := cell_block hp
  have HL := l04Shape_any p _ E B C pss w hp h
  have HD := fun W (hW : Below w.heap.size w W) => l04Landings_any p _ E B C pss W ((hW.cell hpl).trans hp) (h.below hW) hsh
  rw [hsh] at HL
  have hn2 : n ≤ 12 := by rw [hn]; exact (shapeL_num hsh).2
  have hn1 : 1 ≤ n := by rw [hn]; exact (shapeL_num hsh).1
  have HROW := Lib.hid (fun i (hi : i < n) => show ∃ u, w.cell? ⟨g, i, none⟩ = some u ∧ (∀ W, Below w.heap.size w W → Calls Try.prog 121 #[u] W fun e w' => e = .returned (.int .i64 ((thrownL pss).count (i : Int) : Int)) ∧ w' = W) from by
    obtain ⟨u, h1, h2, _⟩ := h.row i (by omega)
    refine ⟨u, h1, fun W hW => ?_⟩
    have h3 := l04Thrown_any u B _ W (h2.below hW) (shapeL_at hsh i (by omega))
    rw [← thrownL_count i (by omega)] at h3
    exact h3)
  have HAT := Lib.hid (fun j (hj : j < n) => landsL_at pss j (by omega))
  have hll : (landsL pss).length = n := by rw [landsL_len, hn]
  have HBAD := Lib.hid (fun i (hi : i < n) (hne : ¬ ((landL pss).count (i : Int) : Int) = ((thrownL pss).count (i : Int) : Int)) => show okM pss = false from by
    unfold okM
    rw [Bool.and_eq_false_iff]
    right
    rw [List.all_eq_false]
    exact ⟨i, by simp; omega, by simp; omega⟩)
  have HGOOD := Lib.hid (fun (hh : ∀ i, i < n → ((landL pss).count (i : Int) : Int) = ((thrownL pss).count (i : Int) : Int)) => show okM pss = true from by
    unfold okM
    rw [hsh, Bool.true_and, List.all_eq_true]
    intro i hi
    have := hh i (by simp at hi; omega)
    simp; omega)
  generalize okM pss = r at *
  generalize landsL pss = xs at *
  generalize landL pss = l1 at *
  generalize thrownL pss = l2 at *
  clear h hn hsh
  go_enter Try.func65, Try.ntmps65
  go_wp2_with fail
  refine HL.mono ?_
  rintro e w1 ⟨rfl, b1⟩
  clear HL
  go_wp2_with fail
  refine (HD w1 b1).mono ?_
  rintro e w2 ⟨u, rfl, i2, b2⟩
  replace b2 := b1.trans (b2.mono b1.size)
  clear HD b1
  obtain ⟨g2, cap2, hv, hg2w, hg2, _, _⟩ := i2.shape2 (by omega)
  rw [hll] at hv
  subst hv
  have HC2 := Lib.hid (fun j (hj : j < n) => show w2.cell? ⟨g2, j, none⟩ = some (.int .i64 (l1.count (j : Int) : Int)) from by rw [i2.cell j (by omega), HAT.out j hj])
  clear i2 HAT hll
  go_wp2
  go_loopw [4] (fun i wr => ∃ k : Nat, k ≤ n ∧ i = .int .i64 k ∧ Hid (∀ j, j < k → (l1.count (j : Int) : Int) = (l2.count (j : Int) : Int)) ∧ Below w2.heap.size w2 wr) (fun i _ => n - (intOf i).toNat)
  case atStart => exact ⟨0, Nat.zero_le _, rfl, fun j hj => absurd hj (Nat.not_lt_zero _), Below.refl _ _⟩
  case round =>
    obtain ⟨i, hi, rfl, hall, hb⟩ := hrel
    have hbw : Below w.heap.size w wr := b2.trans (hb.mono b2.size)
    by_cases hlt : i < n
    · have hpr : wr.cell? p = some (.slice (some ⟨g, 0, none⟩) n cap) := (hbw.cell hpl).trans hp
      obtain ⟨u, hu, hcall⟩ := HROW.out i hlt
      have hur : wr.cell? ⟨g, i, none⟩ = some u := (hbw.cell (p := ⟨g, i, none⟩) hg).trans hu
      have hlr : wr.cell? ⟨g2, i, none⟩ = some (.int .i64 (l1.count (i : Int) : Int)) := (hb.cell (p := ⟨g2, i, none⟩) hg2).trans (HC2.out i hlt)
      have HCALL := Lib.hid (fun k => hcall (wr.drewN k) (below_drewN hbw k))
      have HBD := Lib.hid (HBAD.out i hlt)
      have HNX := Lib.hid (fun (he : (l1.count (i : Int) : Int) = (l2.count (i : Int) : Int)) => show ∀ j, j < i + 1 → (l1.count (j : Int) : Int) = (l2.count (j : Int) : Int) from fun j hj => by
        by_cases e : j = i
        · subst e; exact he
        · exact hall.out j (by omega))
      generalize (l1.count (i : Int) : Int) = x at *
      generalize (l2.count (i : Int) : Int) = y at *
      clear hall hcall hu
      by_cases he : x = y
      · have HN := Lib.hid (HNX.out he)
        subst he
        have he' : (x != x) = false := by simp
        go_wp2
        go_quiet ((go_at_call 121; exact Calls.quiet_of_same (HCALL.out _)))
        go_wp2
        go_roundw
        case rel => exact ⟨i + 1, by omega, by go_num, HN, below_drewN hb _⟩
        case measure => simp [intOf]; omega
      · have HN := Lib.hid (HBD.out he)
        have he' : (x != y) = true := by simpa using he
        go_wp2
        go_quiet ((go_at_call 121; exact Calls.quiet_of_same (HCALL.out _)))
        go_wp2
        go_ret
        exact ⟨by rw [HN.out]; rfl, below_drewN hbw _⟩
    · obtain rfl : i = n := by omega
      have HN := Lib.hid (HGOOD.out hall.out)
      go_wp2
      go_ret
      exact ⟨by rw [HN.out]; rfl, hbw⟩

theorem l04Ok_any (p : Addr) (v : Value) (E : TypeId) (B C : Nat) (pss : List (List Int)) (w : World) (hp : w.cell? p = some v) (h : Grid E w B C v pss) :
    Calls Try.prog 65 #[.pointer (some p)] w fun e w' => e = .returned (.bool (okM pss)) ∧ Below w.heap.size w w' := by
  cases hsh : shapeL pss with
  | false => exact l04Ok_bad p v E B C pss w hp h hsh
  | true =>
    have h1 := (shapeL_num hsh).1
    obtain ⟨g, cap, rfl, _, hg, _, hm⟩ := h.shape.resolve_left fun e => by rw [e.2] at h1; simp at h1
    exact l04Ok_row p g cap pss.length E B C pss w hp h rfl hg hsh

theorem validMulti_spec (v : Value) (E : TypeId) (B C : Nat) (pss : List (List Int)) (w : World) (h : Grid E w B C v pss) :
    Calls Try.prog 22 #[.agg #[v]] w fun e w' => e = .returned (.bool (okM pss)) ∧ Below w.heap.size w w' := by
  have HL := fun W (hW : Below w.heap.size w W) (hp : W.cell? ⟨w.heap.size, 0, none⟩ = some v) => l04Ok_any _ v E B C pss W hp (h.below hW)
  generalize okM pss = r at *
  clear h
  go_enter Try.func22, Try.ntmps22
  go_wp2_with fail
  refine (HL _ (below_alM (Below.refl _ _) _) ?_).mono ?_
  · simp
  rintro e w1 ⟨rfl, b1⟩
  replace b1 := (below_alM (Below.refl w.heap.size w) _).trans (b1.mono (by simp))
  go_wp2
  go_ret
  exact ⟨rfl, b1⟩
end Go.Proofs.Ytgjmhihomklooaa
