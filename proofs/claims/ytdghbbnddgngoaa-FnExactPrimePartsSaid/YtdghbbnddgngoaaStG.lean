/- StateOf, the program's. No conditions. -/
import Derived.Test.YtdghbbnddgngoaaStH
namespace Go.Proofs.Ytdghbbnddgngoaa
open Go.RowKit
set_option linter.unusedSimpArgs false
set_option linter.unusedVariables false

theorem momentOf_any (v : Value) (B : Nat) (p : List Int) (beat height : Int) (w : World) (h : Ints w B v p) (hz : ofC p beat height = 0) :
    Calls Try.prog 97 #[v, .int .i64 beat, .int .i64 height] w fun e w' => e = .returned (.tuple #[.agg #[v, .int .i64 beat, .int .i64 height], .int .i64 0]) ∧ Below w.heap.size w w' := by
  obtain ⟨hok, ⟨hb1, hb2⟩, ⟨hh1, hh2⟩, hlow⟩ := ofC_zero hz
  have HH := fun W (hW : Below w.heap.size w W) => highestOf_impl v B p W (h.below hW)
  rw [okC_true hok] at HH
  have HI := fun W => isHeight_any height W
  rw [inB_true ⟨hh1, hh2⟩] at HI
  obtain ⟨xa, xc, rfl⟩ := ints_slO h
  generalize highA p = hi at *
  generalize p.length = n at *
  clear h hz hok
  go_enter Try.func97, Try.ntmps97
  have B0 : Below w.heap.size w (w.alloc (.cells #[.slice none 0 0, .int .i64 0, .int .i64 0] 107)) := (Below.refl _ _).alloc (Nat.le_refl _) _
  go_wp2_with fail
  refine (HH _ B0).mono ?_
  rintro e w1 ⟨rfl, b1⟩
  have M1 : Blk w1 w.heap.size [.slice none 0 0, .int .i64 0, .int .i64 0] 107 := (Blk.made w #[.slice none 0 0, .int .i64 0, .int .i64 0] 107).below b1 (by simp)
  have b2 := B0.trans (b1.mono B0.size)
  have c0 := M1.cell 0
  have c1 := M1.cell 1
  have c2 := M1.cell 2
  have f0 := M1.free 0
  have f1 := M1.free 1
  have f2 := M1.free 2
  simp only [List.getElem?_cons_zero, List.getElem?_cons_succ] at c0 c1 c2
  have M2 := ((M1.set 0 (.slice xa n xc)).set 1 (.int .i64 beat)).set 2 (.int .i64 height)
  have r0 := M2.cell 0
  have r1 := M2.cell 1
  have r2 := M2.cell 2
  simp only [List.set, List.getElem?_cons_zero, List.getElem?_cons_succ] at r0 r1 r2
  have B3 := Lib.hid (((b2.setCell (p := ⟨w.heap.size, 0, none⟩) (Nat.le_refl _) (.slice xa n xc)).setCell (p := ⟨w.heap.size, 1, none⟩) (Nat.le_refl _) (.int .i64 beat)).setCell (p := ⟨w.heap.size, 2, none⟩) (Nat.le_refl _) (.int .i64 height))
  clear HH M1 M2
  go_wp2
  refine bodyPost_ret (v := .tuple #[.agg #[.slice xa n xc, .int .i64 beat, .int .i64 height], .int .i64 0]) (by simp [results, Try.results97, go_sem, r0, r1, r2]) rfl ?_
  exact ⟨rfl, B3.out⟩

theorem momentOf_bad (v : Value) (B : Nat) (p : List Int) (beat height : Int) (w : World) (h : Ints w B v p) (hz : ofC p beat height ≠ 0) :
    Calls Try.prog 97 #[v, .int .i64 beat, .int .i64 height] w fun e w' => e = .returned (.tuple #[.agg #[.slice none 0 0, .int .i64 0, .int .i64 0], .int .i64 (ofC p beat height)]) ∧ Below w.heap.size w w' := by
  have HH := fun W (hW : Below w.heap.size w W) => highestOf_impl v B p W (h.below hW)
  have HI := fun W => isHeight_any height W
  have B0 : Below w.heap.size w (w.alloc (.cells #[.slice none 0 0, .int .i64 0, .int .i64 0] 107)) := (Below.refl _ _).alloc (Nat.le_refl _) _
  have HM := Lib.hid (fun w1 (b1 : Below (w.alloc (.cells #[.slice none 0 0, .int .i64 0, .int .i64 0] 107)).heap.size (w.alloc (.cells #[.slice none 0 0, .int .i64 0, .int .i64 0] 107)) w1) => show Blk w1 w.heap.size [.slice none 0 0, .int .i64 0, .int .i64 0] 107 from (Blk.made w #[.slice none 0 0, .int .i64 0, .int .i64 0] 107).below b1 (by simp))
  obtain ⟨xa, xc, rfl⟩ := ints_slO h
  clear h
  cases hok : okPat p with
  | false =>
    rw [ofC_bad hok]
    rw [okC_false hok] at HH
    clear hz hok HI
    generalize highA p = hi at *
    generalize p.length = n at *
    go_enter Try.func97, Try.ntmps97
    go_wp2_with fail
    refine (HH _ B0).mono ?_
    rintro e w1 ⟨rfl, b1⟩
    have M1 := HM.out w1 b1
    have b2 := B0.trans (b1.mono B0.size)
    have c0 := M1.cell 0
    have c1 := M1.cell 1
    have c2 := M1.cell 2
    have f0 := M1.free 0
    have f1 := M1.free 1
    have f2 := M1.free 2
    simp only [List.getElem?_cons_zero, List.getElem?_cons_succ] at c0 c1 c2
    have M2 := ((M1.set 0 (.slice none 0 0)).set 1 (.int .i64 0)).set 2 (.int .i64 0)
    have r0 := M2.cell 0
    have r1 := M2.cell 1
    have r2 := M2.cell 2
    simp only [List.set, List.getElem?_cons_zero, List.getElem?_cons_succ] at r0 r1 r2
    have B3 := Lib.hid (((b2.setCell (p := ⟨w.heap.size, 0, none⟩) (Nat.le_refl _) (.slice none 0 0)).setCell (p := ⟨w.heap.size, 1, none⟩) (Nat.le_refl _) (.int .i64 0)).setCell (p := ⟨w.heap.size, 2, none⟩) (Nat.le_refl _) (.int .i64 0))
    clear M1 M2 HM HH
    go_wp2
    refine bodyPost_ret (v := .tuple #[.agg #[.slice none 0 0, .int .i64 0, .int .i64 0], .int .i64 1]) (by simp [results, Try.results97, go_sem, r0, r1, r2]) rfl ?_
    exact ⟨rfl, B3.out⟩
  | true =>
    rw [okC_true hok] at HH
    by_cases h2 : (-1000 ≤ beat ∧ beat ≤ 1000) ∧ (1 ≤ height ∧ height ≤ 10)
    · have h3 : ¬ highA p ≤ height := fun h3 => hz (ofC_ok hok (by rw [inB_true h2.1, inB_true h2.2]; rfl) h3)
      rw [ofC_low hok (by rw [inB_true h2.1, inB_true h2.2]; rfl) h3]
      obtain ⟨⟨hb1, hb2⟩, hh1, hh2⟩ := h2
      rw [inB_true ⟨hh1, hh2⟩] at HI
      clear hz hok
      generalize highA p = hi at *
      generalize p.length = n at *
      go_enter Try.func97, Try.ntmps97
      go_wp2_with fail
      refine (HH _ B0).mono ?_
      rintro e w1 ⟨rfl, b1⟩
      have M1 := HM.out w1 b1
      have b2 := B0.trans (b1.mono B0.size)
      have c0 := M1.cell 0
      have c1 := M1.cell 1
      have c2 := M1.cell 2
      have f0 := M1.free 0
      have f1 := M1.free 1
      have f2 := M1.free 2
      simp only [List.getElem?_cons_zero, List.getElem?_cons_succ] at c0 c1 c2
      have M2 := ((M1.set 0 (.slice none 0 0)).set 1 (.int .i64 0)).set 2 (.int .i64 0)
      have r0 := M2.cell 0
      have r1 := M2.cell 1
      have r2 := M2.cell 2
      simp only [List.set, List.getElem?_cons_zero, List.getElem?_cons_succ] at r0 r1 r2
      have B3 := Lib.hid (((b2.setCell (p := ⟨w.heap.size, 0, none⟩) (Nat.le_refl _) (.slice none 0 0)).setCell (p := ⟨w.heap.size, 1, none⟩) (Nat.le_refl _) (.int .i64 0)).setCell (p := ⟨w.heap.size, 2, none⟩) (Nat.le_refl _) (.int .i64 0))
      clear M1 M2 HM HH
      go_wp2
      refine bodyPost_ret (v := .tuple #[.agg #[.slice none 0 0, .int .i64 0, .int .i64 0], .int .i64 6]) (by simp [results, Try.results97, go_sem, r0, r1, r2]) rfl ?_
      exact ⟨rfl, B3.out⟩
    · have hf : (inB beat (-1000) 1000 && inB height 1 10) = false := by
        cases hc : (inB beat (-1000) 1000 && inB height 1 10) with
        | false => rfl
        | true => rw [Bool.and_eq_true] at hc; exact absurd ⟨inB_iff.1 hc.1, inB_iff.1 hc.2⟩ h2
      rw [ofC_far hok hf]
      clear hz hok hf
      generalize highA p = hi at *
      generalize p.length = n at *
      by_cases hb1 : -1000 ≤ beat
      · by_cases hb2 : beat ≤ 1000
        · by_cases hh1 : 1 ≤ height
          · have hh2 : ¬ height ≤ 10 := fun hh2 => h2 ⟨⟨hb1, hb2⟩, hh1, hh2⟩
            clear h2
            rw [inB_false (by omega)] at HI
            go_enter Try.func97, Try.ntmps97
            go_wp2_with fail
            refine (HH _ B0).mono ?_
            rintro e w1 ⟨rfl, b1⟩
            have M1 := HM.out w1 b1
            have b2 := B0.trans (b1.mono B0.size)
            have c0 := M1.cell 0
            have c1 := M1.cell 1
            have c2 := M1.cell 2
            have f0 := M1.free 0
            have f1 := M1.free 1
            have f2 := M1.free 2
            simp only [List.getElem?_cons_zero, List.getElem?_cons_succ] at c0 c1 c2
            have M2 := ((M1.set 0 (.slice none 0 0)).set 1 (.int .i64 0)).set 2 (.int .i64 0)
            have r0 := M2.cell 0
            have r1 := M2.cell 1
            have r2 := M2.cell 2
            simp only [List.set, List.getElem?_cons_zero, List.getElem?_cons_succ] at r0 r1 r2
            have B3 := Lib.hid (((b2.setCell (p := ⟨w.heap.size, 0, none⟩) (Nat.le_refl _) (.slice none 0 0)).setCell (p := ⟨w.heap.size, 1, none⟩) (Nat.le_refl _) (.int .i64 0)).setCell (p := ⟨w.heap.size, 2, none⟩) (Nat.le_refl _) (.int .i64 0))
            clear M1 M2 HM HH
            go_wp2_with (go_at_call 123; (with_reducible refine (HI _).mono ?_); rintro e w2 ⟨rfl, rfl⟩)
            all_goals trace_state
            refine bodyPost_ret (v := .tuple #[.agg #[.slice none 0 0, .int .i64 0, .int .i64 0], .int .i64 2]) (by simp [results, Try.results97, go_sem, r0, r1, r2]) rfl ?_
            exact ⟨rfl, B3.out⟩
          · clear h2
            rw [inB_false (by omega)] at HI
            go_enter Try.func97, Try.ntmps97
            go_wp2_with fail
            refine (HH _ B0).mono ?_
            rintro e w1 ⟨rfl, b1⟩
            have M1 := HM.out w1 b1
            have b2 := B0.trans (b1.mono B0.size)
            have c0 := M1.cell 0
            have c1 := M1.cell 1
            have c2 := M1.cell 2
            have f0 := M1.free 0
            have f1 := M1.free 1
            have f2 := M1.free 2
            simp only [List.getElem?_cons_zero, List.getElem?_cons_succ] at c0 c1 c2
            have M2 := ((M1.set 0 (.slice none 0 0)).set 1 (.int .i64 0)).set 2 (.int .i64 0)
            have r0 := M2.cell 0
            have r1 := M2.cell 1
            have r2 := M2.cell 2
            simp only [List.set, List.getElem?_cons_zero, List.getElem?_cons_succ] at r0 r1 r2
            have B3 := Lib.hid (((b2.setCell (p := ⟨w.heap.size, 0, none⟩) (Nat.le_refl _) (.slice none 0 0)).setCell (p := ⟨w.heap.size, 1, none⟩) (Nat.le_refl _) (.int .i64 0)).setCell (p := ⟨w.heap.size, 2, none⟩) (Nat.le_refl _) (.int .i64 0))
            clear M1 M2 HM HH
            go_wp2
            refine bodyPost_ret (v := .tuple #[.agg #[.slice none 0 0, .int .i64 0, .int .i64 0], .int .i64 2]) (by simp [results, Try.results97, go_sem, r0, r1, r2]) rfl ?_
            exact ⟨rfl, B3.out⟩
        · clear h2
          go_enter Try.func97, Try.ntmps97
          go_wp2_with fail
          refine (HH _ B0).mono ?_
          rintro e w1 ⟨rfl, b1⟩
          have M1 := HM.out w1 b1
          have b2 := B0.trans (b1.mono B0.size)
          have c0 := M1.cell 0
          have c1 := M1.cell 1
          have c2 := M1.cell 2
          have f0 := M1.free 0
          have f1 := M1.free 1
          have f2 := M1.free 2
          simp only [List.getElem?_cons_zero, List.getElem?_cons_succ] at c0 c1 c2
          have M2 := ((M1.set 0 (.slice none 0 0)).set 1 (.int .i64 0)).set 2 (.int .i64 0)
          have r0 := M2.cell 0
          have r1 := M2.cell 1
          have r2 := M2.cell 2
          simp only [List.set, List.getElem?_cons_zero, List.getElem?_cons_succ] at r0 r1 r2
          have B3 := Lib.hid (((b2.setCell (p := ⟨w.heap.size, 0, none⟩) (Nat.le_refl _) (.slice none 0 0)).setCell (p := ⟨w.heap.size, 1, none⟩) (Nat.le_refl _) (.int .i64 0)).setCell (p := ⟨w.heap.size, 2, none⟩) (Nat.le_refl _) (.int .i64 0))
          clear M1 M2 HM HH
          go_wp2
          refine bodyPost_ret (v := .tuple #[.agg #[.slice none 0 0, .int .i64 0, .int .i64 0], .int .i64 2]) (by simp [results, Try.results97, go_sem, r0, r1, r2]) rfl ?_
          exact ⟨rfl, B3.out⟩
      · clear h2
        go_enter Try.func97, Try.ntmps97
        go_wp2_with fail
        refine (HH _ B0).mono ?_
        rintro e w1 ⟨rfl, b1⟩
        have M1 := HM.out w1 b1
        have b2 := B0.trans (b1.mono B0.size)
        have c0 := M1.cell 0
        have c1 := M1.cell 1
        have c2 := M1.cell 2
        have f0 := M1.free 0
        have f1 := M1.free 1
        have f2 := M1.free 2
        simp only [List.getElem?_cons_zero, List.getElem?_cons_succ] at c0 c1 c2
        have M2 := ((M1.set 0 (.slice none 0 0)).set 1 (.int .i64 0)).set 2 (.int .i64 0)
        have r0 := M2.cell 0
        have r1 := M2.cell 1
        have r2 := M2.cell 2
        simp only [List.set, List.getElem?_cons_zero, List.getElem?_cons_succ] at r0 r1 r2
        have B3 := Lib.hid (((b2.setCell (p := ⟨w.heap.size, 0, none⟩) (Nat.le_refl _) (.slice none 0 0)).setCell (p := ⟨w.heap.size, 1, none⟩) (Nat.le_refl _) (.int .i64 0)).setCell (p := ⟨w.heap.size, 2, none⟩) (Nat.le_refl _) (.int .i64 0))
        clear M1 M2 HM HH
        go_wp2
        refine bodyPost_ret (v := .tuple #[.agg #[.slice none 0 0, .int .i64 0, .int .i64 0], .int .i64 2]) (by simp [results, Try.results97, go_sem, r0, r1, r2]) rfl ?_
        exact ⟨rfl, B3.out⟩

end Go.Proofs.Ytdghbbnddgngoaa
