/- ReadState, the program's. No conditions but sizes. -/
import Derived.Test.YtjndiaefcmjbmaaDoorStRd
namespace Go.Proofs.YtjndiaefcmjbmaaDoor
open Go.RowKit
set_option linter.unusedSimpArgs false
set_option linter.unusedVariables false

set_option maxRecDepth 10000 in
set_option maxHeartbeats 400000 in
theorem readState_impl (s : ByteArray) (w : World) (hs : s.size ≤ 1048576) :
    Calls Tryd.prog 15 #[.string s] w fun e w' => e = .returned (.tuple #[.agg #[.int .i64 (rdA s), .int .i64 (rdB s)], .bool (rdOk s)]) ∧ Below w.heap.size w w' := by
  have HH := isHeight_any (s.size : Int)
  cases hsz : inB (s.size : Int) 1 10 with
  | false =>
    have hz := rdOk_size hsz
    rw [rdA_f hz, rdB_f hz, hz]
    rw [hsz] at HH
    clear hz
    go_enter Tryd.func15, Tryd.ntmps15
    go_wp2_with fail
    refine (HH _).mono ?_
    rintro e w1 ⟨rfl, rfl⟩
    go_wp2
    refine bodyPost_ret (v := .tuple #[.agg #[.int .i64 0, .int .i64 0], .bool false]) (by simp [results, Tryd.results15, go_sem]) rfl ?_
    exact ⟨rfl, ((Below.refl _ _).alloc (Nat.le_refl _) _).alloc (by simp) _⟩
  | true =>
    obtain ⟨k1, k2⟩ := inB_iff.1 hsz
    rw [hsz] at HH
    have HT := Lib.hid (fun ha => rdOk_true (s := s) hsz ha)
    have HB := Lib.hid (fun i hi hb => rdOk_bad (s := s) i hi hb)
    clear hsz
    go_enter Tryd.func15, Tryd.ntmps15
    go_wp2_with fail
    refine (HH _).mono ?_
    rintro e w1 ⟨rfl, rfl⟩
    have P0 : Blk (((w.alloc (.cells #[.int .i64 0, .int .i64 0] 25)).alloc (.cells #[.int .i64 s.size, .int .i64 0] 25)).iter s 0) (w.heap.size + 1) [.int .i64 s.size, .int .i64 0] 25 := by
      have := (Blk.made (w.alloc (.cells #[.int .i64 0, .int .i64 0] 25)) #[.int .i64 s.size, .int .i64 0] 25).alloc (.stringIter s 0)
      rw [World.size_alloc] at this
      exact this
    have Q0 : Blk (((w.alloc (.cells #[.int .i64 0, .int .i64 0] 25)).alloc (.cells #[.int .i64 s.size, .int .i64 0] 25)).iter s 0) w.heap.size [.int .i64 0, .int .i64 0] 25 := ((Blk.made w #[.int .i64 0, .int .i64 0] 25).alloc _).alloc _
    have B0 : Below w.heap.size w (((w.alloc (.cells #[.int .i64 0, .int .i64 0] 25)).alloc (.cells #[.int .i64 s.size, .int .i64 0] 25)).iter s 0) := (((Below.refl _ _).alloc (Nat.le_refl _) _).alloc (by simp) _).alloc (by simp; omega) _
    have I0 : (((w.alloc (.cells #[.int .i64 0, .int .i64 0] 25)).alloc (.cells #[.int .i64 s.size, .int .i64 0] 25)).iter s 0).heap[w.heap.size + 2]? = some (.stringIter s 0) := by
      have := World.iter_heap ((w.alloc (.cells #[.int .i64 0, .int .i64 0] 25)).alloc (.cells #[.int .i64 s.size, .int .i64 0] 25)) s 0
      simpa using this
    have HT2 : Hid (rdOk s = true → rdA s = s.size ∧ rdB s = (rdM s s.size : Nat)) := fun h => ⟨rdA_t h, rdB_t h⟩
    have HF2 : Hid (rdOk s = false → rdA s = 0 ∧ rdB s = 0) := fun h => ⟨rdA_f h, rdB_f h⟩
    go_wp2
    go_loopw [17] (fun _ wr => ∃ k : Nat, k ≤ s.size ∧ wr.heap[w.heap.size + 2]? = some (.stringIter s k) ∧ Hid (∀ j, j < k → stCh s j) ∧ Blk wr (w.heap.size + 1) [.int .i64 s.size, .int .i64 (rdM s k : Nat)] 25 ∧ Blk wr w.heap.size [.int .i64 0, .int .i64 0] 25 ∧ Below w.heap.size w wr) (fun _ wr => s.size - wr.iterPos (w.heap.size + 2))
    case atStart => exact ⟨0, Nat.zero_le _, I0, fun j hj => absurd hj (Nat.not_lt_zero _), P0, Q0, B0⟩
    case round =>
      obtain ⟨k, hk, hI, hall, P, Q, hb⟩ := hrel
      clear P0 Q0 B0 I0
      by_cases hlt : k < s.size
      · have hmu : wr.iterPos (w.heap.size + 2) = k := by simp [World.iterPos, hI]
        have HMU := Lib.hid hmu
        have hmk := maskU_lt (fun i => decide (byteAt s i = 49)) k
        have hpk : (2 : Nat) ^ k ≤ 2 ^ 10 := Nat.pow_le_pow_right (by decide) (by omega)
        have hmk2 : rdM s k < 1024 := by show maskU _ k < 1024; omega
        clear hmu
        by_cases hgood : stCh s k
        · have h128 : byteAt s k < 128 := by rcases hgood with h | h <;> omega
          have hnext : ∀ ty, (Instr.next (.pointer (some ⟨w.heap.size + 2, 0, none⟩)) true ty).run Tryd.prog wr = .ok (.tuple #[.bool true, .int .i64 k, .int .i32 (byteAt s k)]) (wr.iterAt (w.heap.size + 2) s (k + 1)) := fun ty => by
            rw [← byteAt_is s k hlt]
            exact Lib.run_next_ascii_at wr (w.heap.size + 2) s k ty hI hlt (by have := byteAt_is s k hlt; omega)
          have hI1 := Lib.iterAt_heap wr (w.heap.size + 2) s k (k + 1) hI
          have hb1 : Below w.heap.size w (wr.iterAt (w.heap.size + 2) s (k + 1)) := Lib.below_iterAt hb (by omega) s (k + 1)
          have P1 := P.block (Lib.iterAt_other wr (w.heap.size + 2) (w.heap.size + 1) s (k + 1) (by omega))
          have Q1 := Q.block (Lib.iterAt_other wr (w.heap.size + 2) w.heap.size s (k + 1) (by omega))
          have HALL : Hid (∀ j, j < k + 1 → stCh s j) := fun j hj => by
            by_cases e : j = k
            · subst e; exact hgood
            · exact hall.out j (by omega)
          generalize wr.iterAt (w.heap.size + 2) s (k + 1) = W1 at hnext hI1 hb1 P1 Q1
          have c0 := P1.cell 0
          have c1 := P1.cell 1
          have g1 := P1.free 1
          simp only [List.getElem?_cons_zero, List.getElem?_cons_succ] at c0 c1
          have HI1 := Lib.hid hI1
          by_cases h49 : byteAt s k = 49
          · obtain ⟨T, hT, hT2, p1, p2⟩ := nextPow k (by omega)
            have hor : bits .or .i64 ((rdM s k : Nat) : Int) T = (rdM s (k + 1) : Nat) := by
              rw [hT2, or_i64 _ _ (by omega) (by omega), rdM_one h49]
            have HOR := Lib.hid hor
            have HP := Lib.hid (fun v => P1.set 1 v)
            have HQ := Lib.hid (fun v => Q1.other (p := ⟨w.heap.size + 1, 1, none⟩) (by show w.heap.size ≠ w.heap.size + 1; omega) v)
            have HB' := Lib.hid (fun v => hb1.setCell (p := ⟨w.heap.size + 1, 1, none⟩) (by show w.heap.size ≤ w.heap.size + 1; omega) v)
            have HI2 := Lib.hid (fun v => show (W1.setCell ⟨w.heap.size + 1, 1, none⟩ v).heap[w.heap.size + 2]? = some (.stringIter s (k + 1)) from (Below.heap_setCell _ _ _ _ (by show w.heap.size + 2 ≠ w.heap.size + 1; omega)).trans hI1)
            rw [h49] at hnext
            clear hor hT2 h49 hall P Q hb hmk hpk HT HB HT2 HF2 hgood h128 hI hI1 P1 Q1
            generalize rdM s k = mk at *
            go_wp2
            go_region
            all_goals go_wp2
            all_goals go_roundw
            case rel => exact ⟨k + 1, by omega, HI2.out _, HALL, by rw [HOR.out]; exact HP.out _, HQ.out _, (HB'.out _).drew⟩
            case measure =>
              have := HI2.out (.int .i64 (bits .or .i64 (mk : Int) T))
              rw [HMU.out]
              simp [World.iterPos, World.drew] at this ⊢
              rw [this]
              simp
              omega
          · have h48 : byteAt s k = 48 := by rcases hgood with h | h; exact h; exact absurd h h49
            have HM := Lib.hid (rdM_zero h49)
            have HP := Lib.hid P1
            have HQ := Lib.hid Q1
            rw [h48] at hnext
            clear h48 h49 hall hmk hpk HT HB HT2 HF2 P Q P1 Q1 hgood h128 hI hI1 hb
            go_wp2
            go_roundw
            case rel => exact ⟨k + 1, by omega, HI1.out, HALL, by rw [HM.out]; exact HP.out, HQ.out, hb1⟩
            case measure =>
              have := HI1.out
              rw [HMU.out]
              simp [World.iterPos, this]
              omega
        · have hbad := HB.out k hlt hgood
          obtain ⟨ea, eb⟩ := HF2.out hbad
          have HR := Lib.hid hbad
          have HA := Lib.hid ea
          have HB2 := Lib.hid eb
          have hbd := byteAt_bound s k
          have hne : ((Utf8.decode s k).1 : Int) ≠ 49 ∧ ((Utf8.decode s k).1 : Int) ≠ 48 := by
            by_cases h128 : byteAt s k < 128
            · have e1 := decode_ascii s k hlt (by have := byteAt_is s k hlt; omega)
              rw [e1]
              simp only
              rw [byteAt_is s k hlt]
              exact ⟨fun h => hgood (.inr h), fun h => hgood (.inl h)⟩
            · have hdec := decode_high s k (by omega)
              omega
          have hnext : ∀ ty, (Instr.next (.pointer (some ⟨w.heap.size + 2, 0, none⟩)) true ty).run Tryd.prog wr = .ok (.tuple #[.bool true, .int .i64 k, .int .i32 (Utf8.decode s k).1]) (wr.iterAt (w.heap.size + 2) s (k + (Utf8.decode s k).2)) := fun ty =>
            Lib.run_next_any_at wr (w.heap.size + 2) s k ty hI hlt
          have hb1 : Below w.heap.size w (wr.iterAt (w.heap.size + 2) s (k + (Utf8.decode s k).2)) := Lib.below_iterAt hb (by omega) s _
          have Q1 := Q.block (Lib.iterAt_other wr (w.heap.size + 2) w.heap.size s (k + (Utf8.decode s k).2) (by omega))
          generalize wr.iterAt (w.heap.size + 2) s (k + (Utf8.decode s k).2) = W1 at hnext hb1 Q1
          generalize ((Utf8.decode s k).1 : Int) = c at hnext hne
          obtain ⟨n1, n2⟩ := hne
          have d0 := Q1.cell 0
          have d1 := Q1.cell 1
          have f0 := Q1.free 0
          have f1 := Q1.free 1
          simp only [List.getElem?_cons_zero, List.getElem?_cons_succ] at d0 d1
          have n3 : (c == 49) = false := by simpa using n1
          have n4 : (c == 48) = false := by simpa using n2
          obtain ⟨r0, r1⟩ := stc_set (.int .i64 0) (.int .i64 0) d0 d1
          clear hbad ea eb hall hmk hpk HT HB HT2 HF2 P Q Q1 hgood hI hbd hb
          go_wp2
          refine bodyPost_ret (v := .tuple #[.agg #[.int .i64 0, .int .i64 0], .bool false]) (by simp [results, Tryd.results15, go_sem, r0, r1]) rfl ?_
          exact ⟨by rw [HR.out, HA.out, HB2.out], two_below hb1 (Nat.le_refl _) _ _⟩
      · have hnext : ∀ ty, (Instr.next (.pointer (some ⟨w.heap.size + 2, 0, none⟩)) true ty).run Tryd.prog wr = _ := fun ty => Lib.run_next_end_at wr (w.heap.size + 2) s k ty hI hlt
        obtain rfl : k = s.size := by omega
        have c0 := P.cell 0
        have c1 := P.cell 1
        have d0 := Q.cell 0
        have d1 := Q.cell 1
        have f0 := Q.free 0
        have f1 := Q.free 1
        simp only [List.getElem?_cons_zero, List.getElem?_cons_succ] at c0 c1 d0 d1
        have hok := HT.out hall.out
        obtain ⟨ea, eb⟩ := HT2.out hok
        have HR := Lib.hid hok
        have HA := Lib.hid ea
        have HB2 := Lib.hid eb
        obtain ⟨r0, r1⟩ := stc_set (.int .i64 s.size) (.int .i64 (rdM s s.size : Nat)) d0 d1
        clear hok ea eb hall HT HB HT2 HF2 P Q hI
        go_wp2
        refine bodyPost_ret (v := .tuple #[.agg #[.int .i64 s.size, .int .i64 (rdM s s.size : Nat)], .bool true]) (by simp [results, Tryd.results15, go_sem, r0, r1]) rfl ?_
        exact ⟨by rw [HR.out, HA.out, HB2.out], two_below hb (Nat.le_refl _) _ _⟩
end Go.Proofs.YtjndiaefcmjbmaaDoor
