/- TogetherOf, the model's and the program's: two patterns juggled at once, each alone. No conditions. -/
import Derived.Test.YtomhhognfpfacaaTogA
namespace Go.Proofs.Ytomhhognfpfacaa
open Go.RowKit
set_option linter.unusedSimpArgs false
set_option linter.unusedVariables false

theorem tog_bad {a b : List Int} (h : togOk a b = false) : togA a b = [] ∧ togB a b = [] := by simp [togA, togB, h]
theorem tog_good {a b : List Int} (h : togOk a b = true) : togA a b = selfP a ∧ togB a b = selfP b := by simp [togA, togB, h]
/-- the two cells of the result's variable -/
theorem two_set {w : World} {b : Nat} {T : TypeId} {x y : Value} (h : Blk w b [x, y] T) (u v : Value) : ((w.setCell ⟨b, 0, none⟩ u).setCell ⟨b, 1, none⟩ v).cell? ⟨b, 0, none⟩ = some u ∧ ((w.setCell ⟨b, 0, none⟩ u).setCell ⟨b, 1, none⟩ v).cell? ⟨b, 1, none⟩ = some v := by
  have h2 := (h.set 0 u).set 1 v
  exact ⟨by simpa using h2.cell 0, by simpa using h2.cell 1⟩

set_option maxRecDepth 10000 in
set_option maxHeartbeats 2000000 in
theorem togetherOf_spec (v : Value) (B : Nat) (a : List Int) (u : Value) (C : Nat) (b : List Int) (w : World) (h : Ints w B v a) (h' : Ints w C u b) (_l : a.length ≤ 1048576) (_l' : b.length ≤ 1048576) :
    Calls Try.prog 47 #[v, u] w fun e w' => ∃ x y z x' y' z', e = .returned (.tuple #[.agg #[.slice x y z, .slice x' y' z'], .int .i64 (togC a b)]) ∧ PasP w' w.heap.size w'.heap.size (.slice x y z) (.slice x' y' z') (togA a b) (togB a b) ∧ Below w.heap.size w w' := by
  have HA := fun W (hW : Below w.heap.size w W) => l02Ok_any v B a W (h.below hW)
  have HB := fun W (hW : Below w.heap.size w W) => l02Ok_any u C b W (h'.below hW)
  have b0 := (Below.refl w.heap.size w).alloc (Nat.le_refl _) (.cells #[.slice none 0 0, .slice none 0 0] 44)
  cases ha : okPat a with
  | false =>
    have ho : togOk a b = false := by simp [togOk, ha]
    have hc : togC a b = 1 := by simp [togC, ha]
    rw [hc, (tog_bad ho).1, (tog_bad ho).2]
    rw [ha] at HA
    clear ha ho hc h h'
    go_enter Try.func47, Try.ntmps47
    go_wp2_with fail
    refine (HA _ b0).mono ?_
    rintro e w1 ⟨rfl, bb⟩
    obtain ⟨q1, B1⟩ := one_blk w w1 _ _ bb
    have q2 := two_set q1 (.slice none 0 0) (.slice none 0 0)
    obtain ⟨x0, x1⟩ := q2
    have c0 := q1.cell 0
    have c1 := q1.cell 1
    have f0 := q1.free 0
    have f1 := q1.free 1
    simp at c0 c1
    have BF := Lib.hid ((B1.setCell (p := ⟨w.heap.size, 0, none⟩) (Nat.le_refl _) (.slice none 0 0)).setCell (p := ⟨w.heap.size, 1, none⟩) (Nat.le_refl _) (.slice none 0 0))
    clear q1 B1 bb
    go_wp2
    refine bodyPost_ret (v := .tuple #[.agg #[.slice none 0 0, .slice none 0 0], .int .i64 1]) (by simp [results, Try.results47, go_sem, x0, x1]) rfl ?_
    exact ⟨none, 0, 0, none, 0, 0, rfl, PasP.nil _ _ _, BF.out⟩
  | true =>
    rw [ha] at HA
    cases hb : okPat b with
    | false =>
      have ho : togOk a b = false := by simp [togOk, hb]
      have hc : togC a b = 1 := by simp [togC, hb]
      rw [hc, (tog_bad ho).1, (tog_bad ho).2]
      rw [hb] at HB
      clear ha hb ho hc h h'
      go_enter Try.func47, Try.ntmps47
      go_wp2_with fail
      refine (HA _ b0).mono ?_
      rintro e w1 ⟨rfl, bb⟩
      go_wp2_with fail
      refine (HB _ (b0.trans (bb.mono b0.size))).mono ?_
      rintro e w2 ⟨rfl, bb2⟩
      replace bb := bb.trans (bb2.mono bb.size)
      clear bb2
      obtain ⟨q1, B1⟩ := one_blk w w2 _ _ bb
      have q2 := two_set q1 (.slice none 0 0) (.slice none 0 0)
      obtain ⟨x0, x1⟩ := q2
      have c0 := q1.cell 0
      have c1 := q1.cell 1
      have f0 := q1.free 0
      have f1 := q1.free 1
      simp at c0 c1
      have BF := Lib.hid ((B1.setCell (p := ⟨w.heap.size, 0, none⟩) (Nat.le_refl _) (.slice none 0 0)).setCell (p := ⟨w.heap.size, 1, none⟩) (Nat.le_refl _) (.slice none 0 0))
      clear q1 B1 bb
      go_wp2
      refine bodyPost_ret (v := .tuple #[.agg #[.slice none 0 0, .slice none 0 0], .int .i64 1]) (by simp [results, Try.results47, go_sem, x0, x1]) rfl ?_
      exact ⟨none, 0, 0, none, 0, 0, rfl, PasP.nil _ _ _, BF.out⟩
    | true =>
      rw [hb] at HB
      have la := okPat_len ha
      have lb := okPat_len hb
      obtain ⟨ga, ca, rfl, hga, hca⟩ := row_cells h la.1
      obtain ⟨gb, cb, rfl, hgb, hcb⟩ := row_cells h' lb.1
      obtain ⟨n, hn⟩ : ∃ n, n = a.length := ⟨_, rfl⟩
      obtain ⟨m, hm⟩ : ∃ m, m = b.length := ⟨_, rfl⟩
      by_cases hl : a.length = b.length
      · by_cases h8 : a.length ≤ 8
        · have ho : togOk a b = true := by simp [togOk, ha, hb, hl]; omega
          have hc : togC a b = 0 := by simp [togC, ha, hb, hl]; omega
          rw [hc, (tog_good ho).1, (tog_good ho).2]
          have HSA := Lib.hid (fun W (hW : Below w.heap.size w W) => l06Self_row ga a.length ca a W rfl (by omega) (by have := hW.size; omega) (fun i hi => (hW.cell (p := ⟨ga, i, none⟩) hga).trans (hca i hi)))
          have HSB := Lib.hid (fun W (hW : Below w.heap.size w W) => l06Self_row gb b.length cb b W rfl (by omega) (by have := hW.size; omega) (fun i hi => (hW.cell (p := ⟨gb, i, none⟩) hgb).trans (hcb i hi)))
          have hl1 : a.length = n := hn.symm
          have hl2 : b.length = n := by omega
          rw [hl1] at HA HSA h8 la ⊢
          rw [hl2] at HB HSB lb ⊢
          have h8' : ¬ (8 : Int) < (n : Int) := by omega
          clear ha hb ho hc h h' hca hcb hl hn hm hl1 hl2 h8
          go_enter Try.func47, Try.ntmps47
          go_wp2_with fail
          refine (HA _ b0).mono ?_
          rintro e w1 ⟨rfl, bb⟩
          go_wp2_with fail
          refine (HB _ (b0.trans (bb.mono b0.size))).mono ?_
          rintro e w2 ⟨rfl, bb2⟩
          replace bb := bb.trans (bb2.mono bb.size)
          clear bb2
          obtain ⟨q1, B1⟩ := one_blk w w2 _ _ bb
          clear bb
          go_wp2_with (first | (go_at_call 103; refine (HSA.out _ B1).mono ?_; rintro e w3 ⟨ua, rfl, i3, b3⟩; refine Hid.out ?_))
          have q3 := q1.below b3 q1.lt
          have B3 := B1.trans (b3.mono B1.size)
          obtain ⟨aa, ca2, rfl⟩ := i3.sl
          refine Lib.hid ?_
          go_wp2_with (first | (go_at_call 103; refine (HSB.out _ B3).mono ?_; rintro e w4 ⟨ub, rfl, i4, b4⟩; refine Hid.out ?_))
          have q4 := q3.below b4 q3.lt
          have B4 := B3.trans (b4.mono B3.size)
          have i5 := i3.below b4
          obtain ⟨ab, cb2, rfl⟩ := i4.sl
          have hu3 := i3.under
          have hu4 := i4.under
          have hz2 := B1.size
          have hq1 := q1.lt
          have hz3 := b3.size
          have hz4 := b4.size
          have q5 := two_set q4 (.slice aa (selfP a).length ca2) (.slice ab (selfP b).length cb2)
          obtain ⟨x0, x1⟩ := q5
          have c0 := q4.cell 0
          have c1 := q4.cell 1
          have f0 := q4.free 0
          have f1 := q4.free 1
          simp only [List.getElem?_cons_zero, List.getElem?_cons_succ] at c0 c1
          have KEEP : Hid (∀ k, w.heap.size < k → ((w4.setCell ⟨w.heap.size, 0, none⟩ (.slice aa (selfP a).length ca2)).setCell ⟨w.heap.size, 1, none⟩ (.slice ab (selfP b).length cb2)).heap[k]? = w4.heap[k]?) := fun k hk => by
            rw [Below.heap_setCell _ _ _ _ (by simp; omega), Below.heap_setCell _ _ _ _ (by simp; omega)]
          have BF := Lib.hid ((B4.setCell (p := ⟨w.heap.size, 0, none⟩) (Nat.le_refl _) (.slice aa (selfP a).length ca2)).setCell (p := ⟨w.heap.size, 1, none⟩) (Nat.le_refl _) (.slice ab (selfP b).length cb2))
          have RES : Hid (PasP ((w4.setCell ⟨w.heap.size, 0, none⟩ (.slice aa (selfP a).length ca2)).setCell ⟨w.heap.size, 1, none⟩ (.slice ab (selfP b).length cb2)) w.heap.size w4.heap.size (.slice aa (selfP a).length ca2) (.slice ab (selfP b).length cb2) (selfP a) (selfP b)) :=
            ⟨(i5.block fun g hg _ => KEEP.out g (by have := i5.own_ge hg; omega)).mono (by omega), (i4.block fun g hg _ => KEEP.out g (by have := i4.own_ge hg; omega)).mono (by omega), fun g hg => by have := hu3 g hg; omega, fun g hg => hu4 g hg, fun g hg e => by have h1 := hu3 g hg; have h2 := i4.own_ge e; omega⟩
          clear i3 i4 i5 hu3 hu4 q1 q3 q4 B1 B3 B4 b3 b4 KEEP HSA HSB HA HB
          refine Lib.hid ?_
          go_wp2
          refine bodyPost_ret (v := .tuple #[.agg #[.slice aa (selfP a).length ca2, .slice ab (selfP b).length cb2], .int .i64 0]) (by simp [results, Try.results47, go_sem, x0, x1]) rfl ?_
          exact ⟨_, _, _, _, _, _, rfl, by simpa using RES.out, BF.out⟩
        · have ho : togOk a b = false := by simp [togOk, h8]
          have hc : togC a b = 5 := by simp [togC, ha, hb, hl]; omega
          rw [hc, (tog_bad ho).1, (tog_bad ho).2]
          have hl1 : a.length = n := hn.symm
          have hl2 : b.length = n := by omega
          rw [hl1] at HA h8 la ⊢
          rw [hl2] at HB lb ⊢
          have h8' : (8 : Int) < (n : Int) := by omega
          clear ha hb ho hc h h' hca hcb hl hn hm hl1 hl2 h8
          go_enter Try.func47, Try.ntmps47
          go_wp2_with fail
          refine (HA _ b0).mono ?_
          rintro e w1 ⟨rfl, bb⟩
          go_wp2_with fail
          refine (HB _ (b0.trans (bb.mono b0.size))).mono ?_
          rintro e w2 ⟨rfl, bb2⟩
          replace bb := bb.trans (bb2.mono bb.size)
          clear bb2
          obtain ⟨q1, B1⟩ := one_blk w w2 _ _ bb
          have q2 := two_set q1 (.slice none 0 0) (.slice none 0 0)
          obtain ⟨x0, x1⟩ := q2
          have c0 := q1.cell 0
          have c1 := q1.cell 1
          have f0 := q1.free 0
          have f1 := q1.free 1
          simp at c0 c1
          have BF := Lib.hid ((B1.setCell (p := ⟨w.heap.size, 0, none⟩) (Nat.le_refl _) (.slice none 0 0)).setCell (p := ⟨w.heap.size, 1, none⟩) (Nat.le_refl _) (.slice none 0 0))
          clear q1 B1 bb
          go_wp2
          refine bodyPost_ret (v := .tuple #[.agg #[.slice none 0 0, .slice none 0 0], .int .i64 5]) (by simp [results, Try.results47, go_sem, x0, x1]) rfl ?_
          exact ⟨none, 0, 0, none, 0, 0, rfl, PasP.nil _ _ _, BF.out⟩
      · have ho : togOk a b = false := by simp [togOk, hl]
        have hc : togC a b = 6 := by simp [togC, ha, hb, hl]
        rw [hc, (tog_bad ho).1, (tog_bad ho).2]
        have hne : n ≠ m := by omega
        have hne' : ((n : Int) == (m : Int)) = false := by simp; omega
        have hne2 : ((n : Int) != (m : Int)) = true := by simp [bne, hne']
        rw [← hn] at HA la ⊢
        rw [← hm] at HB lb ⊢
        clear ha hb ho hc h h' hca hcb hl hn hm
        go_enter Try.func47, Try.ntmps47
        go_wp2_with fail
        refine (HA _ b0).mono ?_
        rintro e w1 ⟨rfl, bb⟩
        go_wp2_with fail
        refine (HB _ (b0.trans (bb.mono b0.size))).mono ?_
        rintro e w2 ⟨rfl, bb2⟩
        replace bb := bb.trans (bb2.mono bb.size)
        clear bb2
        obtain ⟨q1, B1⟩ := one_blk w w2 _ _ bb
        have q2 := two_set q1 (.slice none 0 0) (.slice none 0 0)
        obtain ⟨x0, x1⟩ := q2
        have c0 := q1.cell 0
        have c1 := q1.cell 1
        have f0 := q1.free 0
        have f1 := q1.free 1
        simp at c0 c1
        have BF := Lib.hid ((B1.setCell (p := ⟨w.heap.size, 0, none⟩) (Nat.le_refl _) (.slice none 0 0)).setCell (p := ⟨w.heap.size, 1, none⟩) (Nat.le_refl _) (.slice none 0 0))
        clear q1 B1 bb
        go_wp2
        refine bodyPost_ret (v := .tuple #[.agg #[.slice none 0 0, .slice none 0 0], .int .i64 6]) (by simp [results, Try.results47, go_sem, x0, x1]) rfl ?_
        exact ⟨none, 0, 0, none, 0, 0, rfl, PasP.nil _ _ _, BF.out⟩

set_option maxRecDepth 10000 in
set_option maxHeartbeats 2000000 in
theorem togetherOf_impl (v : Value) (B : Nat) (a : List Int) (u : Value) (C : Nat) (b : List Int) (w : World) (h : Ints w B v a) (h' : Ints w C u b) (_l : a.length ≤ 1048576) (_l' : b.length ≤ 1048576) :
    Calls Try.prog 46 #[v, u] w fun e w' => ∃ x y z x' y' z', e = .returned (.tuple #[.agg #[.slice x y z, .slice x' y' z'], .int .i64 (togC a b)]) ∧ PasP w' w.heap.size w'.heap.size (.slice x y z) (.slice x' y' z') (togA a b) (togB a b) ∧ Below w.heap.size w w' := by
  have HA := fun W (hW : Below w.heap.size w W) => validPattern_impl v B a W (h.below hW)
  have HB := fun W (hW : Below w.heap.size w W) => validPattern_impl u C b W (h'.below hW)
  have b0 := (Below.refl w.heap.size w).alloc (Nat.le_refl _) (.cells #[.slice none 0 0, .slice none 0 0] 44)
  cases ha : okPat a with
  | false =>
    have ho : togOk a b = false := by simp [togOk, ha]
    have hc : togC a b = 1 := by simp [togC, ha]
    rw [hc, (tog_bad ho).1, (tog_bad ho).2]
    rw [ha] at HA
    clear ha ho hc h h'
    go_enter Try.func46, Try.ntmps46
    go_wp2_with fail
    refine (HA _ b0).mono ?_
    rintro e w1 ⟨rfl, bb⟩
    obtain ⟨q1, B1⟩ := one_blk w w1 _ _ bb
    have q2 := two_set q1 (.slice none 0 0) (.slice none 0 0)
    obtain ⟨x0, x1⟩ := q2
    have c0 := q1.cell 0
    have c1 := q1.cell 1
    have f0 := q1.free 0
    have f1 := q1.free 1
    simp at c0 c1
    have BF := Lib.hid ((B1.setCell (p := ⟨w.heap.size, 0, none⟩) (Nat.le_refl _) (.slice none 0 0)).setCell (p := ⟨w.heap.size, 1, none⟩) (Nat.le_refl _) (.slice none 0 0))
    clear q1 B1 bb
    go_wp2
    refine bodyPost_ret (v := .tuple #[.agg #[.slice none 0 0, .slice none 0 0], .int .i64 1]) (by simp [results, Try.results46, go_sem, x0, x1]) rfl ?_
    exact ⟨none, 0, 0, none, 0, 0, rfl, PasP.nil _ _ _, BF.out⟩
  | true =>
    rw [ha] at HA
    cases hb : okPat b with
    | false =>
      have ho : togOk a b = false := by simp [togOk, hb]
      have hc : togC a b = 1 := by simp [togC, hb]
      rw [hc, (tog_bad ho).1, (tog_bad ho).2]
      rw [hb] at HB
      clear ha hb ho hc h h'
      go_enter Try.func46, Try.ntmps46
      go_wp2_with fail
      refine (HA _ b0).mono ?_
      rintro e w1 ⟨rfl, bb⟩
      go_wp2_with fail
      refine (HB _ (b0.trans (bb.mono b0.size))).mono ?_
      rintro e w2 ⟨rfl, bb2⟩
      replace bb := bb.trans (bb2.mono bb.size)
      clear bb2
      obtain ⟨q1, B1⟩ := one_blk w w2 _ _ bb
      have q2 := two_set q1 (.slice none 0 0) (.slice none 0 0)
      obtain ⟨x0, x1⟩ := q2
      have c0 := q1.cell 0
      have c1 := q1.cell 1
      have f0 := q1.free 0
      have f1 := q1.free 1
      simp at c0 c1
      have BF := Lib.hid ((B1.setCell (p := ⟨w.heap.size, 0, none⟩) (Nat.le_refl _) (.slice none 0 0)).setCell (p := ⟨w.heap.size, 1, none⟩) (Nat.le_refl _) (.slice none 0 0))
      clear q1 B1 bb
      go_wp2
      refine bodyPost_ret (v := .tuple #[.agg #[.slice none 0 0, .slice none 0 0], .int .i64 1]) (by simp [results, Try.results46, go_sem, x0, x1]) rfl ?_
      exact ⟨none, 0, 0, none, 0, 0, rfl, PasP.nil _ _ _, BF.out⟩
    | true =>
      rw [hb] at HB
      have la := okPat_len ha
      have lb := okPat_len hb
      obtain ⟨ga, ca, rfl, hga, hca⟩ := row_cells h la.1
      obtain ⟨gb, cb, rfl, hgb, hcb⟩ := row_cells h' lb.1
      obtain ⟨n, hn⟩ : ∃ n, n = a.length := ⟨_, rfl⟩
      obtain ⟨m, hm⟩ : ∃ m, m = b.length := ⟨_, rfl⟩
      by_cases hl : a.length = b.length
      · by_cases h8 : a.length ≤ 8
        · have ho : togOk a b = true := by simp [togOk, ha, hb, hl]; omega
          have hc : togC a b = 0 := by simp [togC, ha, hb, hl]; omega
          rw [hc, (tog_good ho).1, (tog_good ho).2]
          have HSA := Lib.hid (fun W (hW : Below w.heap.size w W) => throwsAlone_row ga a.length ca a W rfl (by omega) (by have := hW.size; omega) (fun i hi => (hW.cell (p := ⟨ga, i, none⟩) hga).trans (hca i hi)))
          have HSB := Lib.hid (fun W (hW : Below w.heap.size w W) => throwsAlone_row gb b.length cb b W rfl (by omega) (by have := hW.size; omega) (fun i hi => (hW.cell (p := ⟨gb, i, none⟩) hgb).trans (hcb i hi)))
          have hl1 : a.length = n := hn.symm
          have hl2 : b.length = n := by omega
          rw [hl1] at HA HSA h8 la ⊢
          rw [hl2] at HB HSB lb ⊢
          have h8' : ¬ (8 : Int) < (n : Int) := by omega
          clear ha hb ho hc h h' hca hcb hl hn hm hl1 hl2 h8
          go_enter Try.func46, Try.ntmps46
          go_wp2_with fail
          refine (HA _ b0).mono ?_
          rintro e w1 ⟨rfl, bb⟩
          go_wp2_with fail
          refine (HB _ (b0.trans (bb.mono b0.size))).mono ?_
          rintro e w2 ⟨rfl, bb2⟩
          replace bb := bb.trans (bb2.mono bb.size)
          clear bb2
          obtain ⟨q1, B1⟩ := one_blk w w2 _ _ bb
          clear bb
          go_wp2_with (first | (go_at_call 102; refine (HSA.out _ B1).mono ?_; rintro e w3 ⟨ua, rfl, i3, b3⟩; refine Hid.out ?_))
          have q3 := q1.below b3 q1.lt
          have B3 := B1.trans (b3.mono B1.size)
          obtain ⟨aa, ca2, rfl⟩ := i3.sl
          refine Lib.hid ?_
          go_wp2_with (first | (go_at_call 102; refine (HSB.out _ B3).mono ?_; rintro e w4 ⟨ub, rfl, i4, b4⟩; refine Hid.out ?_))
          have q4 := q3.below b4 q3.lt
          have B4 := B3.trans (b4.mono B3.size)
          have i5 := i3.below b4
          obtain ⟨ab, cb2, rfl⟩ := i4.sl
          have hu3 := i3.under
          have hu4 := i4.under
          have hz2 := B1.size
          have hq1 := q1.lt
          have hz3 := b3.size
          have hz4 := b4.size
          have q5 := two_set q4 (.slice aa (selfP a).length ca2) (.slice ab (selfP b).length cb2)
          obtain ⟨x0, x1⟩ := q5
          have c0 := q4.cell 0
          have c1 := q4.cell 1
          have f0 := q4.free 0
          have f1 := q4.free 1
          simp only [List.getElem?_cons_zero, List.getElem?_cons_succ] at c0 c1
          have KEEP : Hid (∀ k, w.heap.size < k → ((w4.setCell ⟨w.heap.size, 0, none⟩ (.slice aa (selfP a).length ca2)).setCell ⟨w.heap.size, 1, none⟩ (.slice ab (selfP b).length cb2)).heap[k]? = w4.heap[k]?) := fun k hk => by
            rw [Below.heap_setCell _ _ _ _ (by simp; omega), Below.heap_setCell _ _ _ _ (by simp; omega)]
          have BF := Lib.hid ((B4.setCell (p := ⟨w.heap.size, 0, none⟩) (Nat.le_refl _) (.slice aa (selfP a).length ca2)).setCell (p := ⟨w.heap.size, 1, none⟩) (Nat.le_refl _) (.slice ab (selfP b).length cb2))
          have RES : Hid (PasP ((w4.setCell ⟨w.heap.size, 0, none⟩ (.slice aa (selfP a).length ca2)).setCell ⟨w.heap.size, 1, none⟩ (.slice ab (selfP b).length cb2)) w.heap.size w4.heap.size (.slice aa (selfP a).length ca2) (.slice ab (selfP b).length cb2) (selfP a) (selfP b)) :=
            ⟨(i5.block fun g hg _ => KEEP.out g (by have := i5.own_ge hg; omega)).mono (by omega), (i4.block fun g hg _ => KEEP.out g (by have := i4.own_ge hg; omega)).mono (by omega), fun g hg => by have := hu3 g hg; omega, fun g hg => hu4 g hg, fun g hg e => by have h1 := hu3 g hg; have h2 := i4.own_ge e; omega⟩
          clear i3 i4 i5 hu3 hu4 q1 q3 q4 B1 B3 B4 b3 b4 KEEP HSA HSB HA HB
          refine Lib.hid ?_
          go_wp2
          refine bodyPost_ret (v := .tuple #[.agg #[.slice aa (selfP a).length ca2, .slice ab (selfP b).length cb2], .int .i64 0]) (by simp [results, Try.results46, go_sem, x0, x1]) rfl ?_
          exact ⟨_, _, _, _, _, _, rfl, by simpa using RES.out, BF.out⟩
        · have ho : togOk a b = false := by simp [togOk, h8]
          have hc : togC a b = 5 := by simp [togC, ha, hb, hl]; omega
          rw [hc, (tog_bad ho).1, (tog_bad ho).2]
          have hl1 : a.length = n := hn.symm
          have hl2 : b.length = n := by omega
          rw [hl1] at HA h8 la ⊢
          rw [hl2] at HB lb ⊢
          have h8' : (8 : Int) < (n : Int) := by omega
          clear ha hb ho hc h h' hca hcb hl hn hm hl1 hl2 h8
          go_enter Try.func46, Try.ntmps46
          go_wp2_with fail
          refine (HA _ b0).mono ?_
          rintro e w1 ⟨rfl, bb⟩
          go_wp2_with fail
          refine (HB _ (b0.trans (bb.mono b0.size))).mono ?_
          rintro e w2 ⟨rfl, bb2⟩
          replace bb := bb.trans (bb2.mono bb.size)
          clear bb2
          obtain ⟨q1, B1⟩ := one_blk w w2 _ _ bb
          have q2 := two_set q1 (.slice none 0 0) (.slice none 0 0)
          obtain ⟨x0, x1⟩ := q2
          have c0 := q1.cell 0
          have c1 := q1.cell 1
          have f0 := q1.free 0
          have f1 := q1.free 1
          simp at c0 c1
          have BF := Lib.hid ((B1.setCell (p := ⟨w.heap.size, 0, none⟩) (Nat.le_refl _) (.slice none 0 0)).setCell (p := ⟨w.heap.size, 1, none⟩) (Nat.le_refl _) (.slice none 0 0))
          clear q1 B1 bb
          go_wp2
          refine bodyPost_ret (v := .tuple #[.agg #[.slice none 0 0, .slice none 0 0], .int .i64 5]) (by simp [results, Try.results46, go_sem, x0, x1]) rfl ?_
          exact ⟨none, 0, 0, none, 0, 0, rfl, PasP.nil _ _ _, BF.out⟩
      · have ho : togOk a b = false := by simp [togOk, hl]
        have hc : togC a b = 6 := by simp [togC, ha, hb, hl]
        rw [hc, (tog_bad ho).1, (tog_bad ho).2]
        have hne : n ≠ m := by omega
        have hne' : ((n : Int) == (m : Int)) = false := by simp; omega
        have hne2 : ((n : Int) != (m : Int)) = true := by simp [bne, hne']
        rw [← hn] at HA la ⊢
        rw [← hm] at HB lb ⊢
        clear ha hb ho hc h h' hca hcb hl hn hm
        go_enter Try.func46, Try.ntmps46
        go_wp2_with fail
        refine (HA _ b0).mono ?_
        rintro e w1 ⟨rfl, bb⟩
        go_wp2_with fail
        refine (HB _ (b0.trans (bb.mono b0.size))).mono ?_
        rintro e w2 ⟨rfl, bb2⟩
        replace bb := bb.trans (bb2.mono bb.size)
        clear bb2
        obtain ⟨q1, B1⟩ := one_blk w w2 _ _ bb
        have q2 := two_set q1 (.slice none 0 0) (.slice none 0 0)
        obtain ⟨x0, x1⟩ := q2
        have c0 := q1.cell 0
        have c1 := q1.cell 1
        have f0 := q1.free 0
        have f1 := q1.free 1
        simp at c0 c1
        have BF := Lib.hid ((B1.setCell (p := ⟨w.heap.size, 0, none⟩) (Nat.le_refl _) (.slice none 0 0)).setCell (p := ⟨w.heap.size, 1, none⟩) (Nat.le_refl _) (.slice none 0 0))
        clear q1 B1 bb
        go_wp2
        refine bodyPost_ret (v := .tuple #[.agg #[.slice none 0 0, .slice none 0 0], .int .i64 6]) (by simp [results, Try.results46, go_sem, x0, x1]) rfl ?_
        exact ⟨none, 0, 0, none, 0, 0, rfl, PasP.nil _ _ _, BF.out⟩
end Go.Proofs.Ytomhhognfpfacaa
