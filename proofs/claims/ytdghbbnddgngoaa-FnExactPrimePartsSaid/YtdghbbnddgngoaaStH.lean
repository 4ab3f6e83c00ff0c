/- States of patterns, the program's: the state at a moment. No conditions. -/
import Derived.Test.YtdghbbnddgngoaaStF
namespace Go.Proofs.Ytdghbbnddgngoaa
open Go.RowKit
set_option linter.unusedSimpArgs false
set_option linter.unusedVariables false

set_option maxRecDepth 10000 in
set_option maxHeartbeats 4000000 in
theorem state_any (v : Value) (B : Nat) (p : List Int) (beat : Int) (h : Nat) (w : World) (hI : Ints w B v p) (hok : okPat p = true) (hb1 : -1000 ≤ beat) (hb2 : beat ≤ 1020) (h1 : 1 ≤ h) (hh : h ≤ 10) :
    Calls Try.prog 98 #[.agg #[v, .int .i64 beat, .int .i64 h]] w fun e w' => e = .returned (.agg #[.int .i64 h, .int .i64 (ofM p beat h : Nat)]) ∧ Below w.heap.size w w' := by
  obtain ⟨l1, l2⟩ := okPat_len hok
  have HFrom := Lib.hid (fun (k : Nat) W (hW : Below w.heap.size w W) (hk : k < h) => landsFromM_any v B p (beat + k) W (hI.below hW) hok (by omega) (by omega))
  obtain ⟨xa, xc, rfl⟩ := ints_slO hI
  clear hI hok
  go_enter Try.func98, Try.ntmps98
  obtain ⟨W0, hW0⟩ : ∃ W0, W0 = ((w.alloc (.cells #[.slice xa p.length xc, .int .i64 beat, .int .i64 h] 107)).alloc (.cells #[.int .i64 0, .int .i64 0] 60)).alloc (.cells #[.int .i64 h, .int .i64 0] 60) := ⟨_, rfl⟩
  have M0 : Blk W0 w.heap.size [.slice xa p.length xc, .int .i64 beat, .int .i64 h] 107 := by rw [hW0]; exact ((Blk.made w #[.slice xa p.length xc, .int .i64 beat, .int .i64 h] 107).alloc _).alloc _
  have R0 : Blk W0 (w.heap.size + 1) [.int .i64 0, .int .i64 0] 60 := by
    have := (Blk.made (w.alloc (.cells #[.slice xa p.length xc, .int .i64 beat, .int .i64 h] 107)) #[.int .i64 0, .int .i64 0] 60).alloc (.cells #[.int .i64 h, .int .i64 0] 60)
    rw [World.size_alloc] at this
    rw [hW0]; exact this
  have S0 : Blk W0 (w.heap.size + 2) [.int .i64 h, .int .i64 0] 60 := by
    have := Blk.made ((w.alloc (.cells #[.slice xa p.length xc, .int .i64 beat, .int .i64 h] 107)).alloc (.cells #[.int .i64 0, .int .i64 0] 60)) #[.int .i64 h, .int .i64 0] 60
    rw [World.size_alloc, World.size_alloc] at this
    rw [hW0]; exact this
  have B0 : Below w.heap.size w W0 := by rw [hW0]; exact (((Below.refl _ _).alloc (Nat.le_refl _) _).alloc (by simp) _).alloc (by simp; omega) _
  have HOne := Lib.hid (fun k hk => ofM_one (p := p) (beat := beat) (k := k) hk)
  have HZero := Lib.hid (fun k hk => ofM_zero (p := p) (beat := beat) (k := k) hk)
  have HLt := Lib.hid (fun k => ofM_lt p beat k)
  go_wp2
  rw [← hW0]
  clear hW0
  go_loopw [10] (fun i wr => ∃ k : Nat, k ≤ h ∧ i = .int .i64 k ∧ Blk wr w.heap.size [.slice xa p.length xc, .int .i64 beat, .int .i64 h] 107 ∧ Blk wr (w.heap.size + 1) [.int .i64 0, .int .i64 0] 60 ∧ Blk wr (w.heap.size + 2) [.int .i64 h, .int .i64 (ofM p beat k : Nat)] 60 ∧ Below w.heap.size w wr) (fun i _ => h - (intOf i).toNat)
  case atStart => exact ⟨0, Nat.zero_le _, rfl, M0, R0, S0, B0⟩
  case round =>
    obtain ⟨k, hk, rfl, M, Q, S, hb⟩ := hrel
    clear M0 R0 S0 B0
    have hmk := HLt.out k
    have hpk : (2 : Nat) ^ k ≤ 2 ^ 10 := Nat.pow_le_pow_right (by decide) (by omega)
    have c0 := M.cell 0
    have c1 := M.cell 1
    have c2 := M.cell 2
    have d0 := Q.cell 0
    have d1 := Q.cell 1
    have e0 := S.cell 0
    have e1 := S.cell 1
    simp only [List.getElem?_cons_zero, List.getElem?_cons_succ] at c0 c1 c2 d0 d1 e0 e1
    by_cases hlt : k < h
    · have HF := Lib.hid (fun W (hW : Below wr.heap.size wr W) => show Calls Try.prog 124 #[.slice xa p.length xc, .int .i64 (beat + k)] W fun e w' => e = .returned (.int .i64 (fromL p (beat + k))) ∧ w' = W from
        (HFrom.out k W (hb.trans (hW.mono hb.size)) hlt).mono fun e w' ⟨h1, h2⟩ => ⟨h1, h2.symm⟩)
      have hwr : IntKind.i64.wrap (beat + (k : Int)) = beat + k := IntWalk.i64_in _ (by omega)
      have HM := Lib.hid M
      have HQ := Lib.hid Q
      have HS := Lib.hid S
      by_cases hlow : fromL p (beat + k) < beat
      · obtain ⟨T, hT, hT2, p1, p2⟩ := nextPow k (by omega)
        have hor : bits .or .i64 ((ofM p beat k : Nat) : Int) T = (ofM p beat (k + 1) : Nat) := by
          rw [hT2, or_i64 _ _ (by omega) (by omega), HOne.out k hlow]
        have HOR := Lib.hid hor
        have g1 := S.free 1
        clear hor hT2 HFrom HOne HZero HLt M Q S hpk d0 d1
        generalize ofM p beat k = mk at *
        generalize fromL p (beat + k) = fr at *
        go_wp2
        go_region_law (first | (go_simp; go_at_call 124; (first | rw [hwr] | skip); (with_reducible refine (HF.out _ ?_).mono ?_); (repeat (first | exact Below.refl _ _ | refine Below.drew ?_ | refine below_drewN ?_ _)); rintro e w2 ⟨rfl, rfl⟩))
        all_goals go_wp2
        all_goals go_region
        all_goals go_wp2
        all_goals exact ⟨⟨k + 1, by omega, by go_num, HM.out.other (p := ⟨w.heap.size + 2, 1, none⟩) (by show w.heap.size ≠ w.heap.size + 2; omega) _, HQ.out.other (p := ⟨w.heap.size + 2, 1, none⟩) (by show w.heap.size + 1 ≠ w.heap.size + 2; omega) _, by rw [HOR.out]; exact HS.out.set 1 _, by (repeat (first | exact hb | refine Below.drew ?_ | refine Below.setCell ?_ (by show w.heap.size ≤ w.heap.size + 2; omega) _))⟩, by simp [intOf]; omega⟩
      · have HN := Lib.hid (HZero.out k (by omega))
        clear HFrom HOne HZero HLt M Q S hpk d0 d1
        generalize fromL p (beat + k) = fr at *
        go_wp2
        go_region_law (first | (go_simp; go_at_call 124; (first | rw [hwr] | skip); (with_reducible refine (HF.out _ ?_).mono ?_); (repeat (first | exact Below.refl _ _ | refine Below.drew ?_ | refine below_drewN ?_ _)); rintro e w2 ⟨rfl, rfl⟩))
        all_goals go_wp2
        all_goals exact ⟨⟨k + 1, by omega, by go_num, HM.out, HQ.out, by rw [HN.out]; exact HS.out, by first | exact hb | exact hb.drew⟩, by simp [intOf]; omega⟩
    · obtain rfl : k = h := by omega
      have f0 := Q.free 0
      have f1 := Q.free 1
      obtain ⟨r0, r1⟩ := stc_set (.int .i64 k) (.int .i64 (ofM p beat k : Nat)) d0 d1
      clear HFrom HOne HZero HLt Q M S
      go_wp2
      refine bodyPost_ret (v := .agg #[.int .i64 k, .int .i64 (ofM p beat k : Nat)]) (by simp [results, Try.results98, go_sem, r0, r1]) rfl ?_
      exact ⟨rfl, two_below hb (by omega) _ _⟩

end Go.Proofs.Ytdghbbnddgngoaa
