/- ThrowsFrom, the model's and the program's. Conditions: the library's table as its text lays it. -/
import Derived.Test.YtdghbbnddgngoaaDoorStZ
namespace Go.Proofs.YtdghbbnddgngoaaDoor
open Go.RowKit
set_option linter.unusedSimpArgs false
set_option linter.unusedVariables false

theorem CtzTab.lt {w : World} (h : CtzTab w) : 1 < w.heap.size := cell_block (a := ⟨1, 0, none⟩) (h 0 (by decide))
theorem CtzTab.below {w w' : World} (h : CtzTab w) (b : Below w.heap.size w w') : CtzTab w' := fun j hj => (b.cell (p := ⟨1, j, none⟩) h.lt).trans (h j hj)
theorem bitsUp_len (f P : Nat) : (bitsUp f P).length ≤ f := by
  induction f generalizing P with
  | zero => exact Nat.le_refl _
  | succ f ih =>
    unfold bitsUp
    split
    · exact Nat.zero_le _
    · have := ih (P &&& (P - 1)); simp; omega

theorem throwsSt_bnd (n : Nat) (hn : 1 ≤ n) (h m : Nat) (hh : h ≤ 10) (hm : m < 2 ^ h) (w : World) :
    SeqBnd Fence.wide n Tryd.prog 52 #[.agg #[.int .i64 h, .int .i64 m]] #[] encT CtzTab (fun xs => xs = bitsUp 12 (possM h m)) 100 w := by
  intro l J W hW hJ hT hY h0
  refine (throwsSt_in n hn l h m hh hm J (fun pre W1 W2 hj hb => hJ pre W1 W2 none hj ⟨hb.os, hb.tape, hb.output, hb.size, fun k hk _ => hb.block k hk⟩ (fun r e => by cases e)) ?_ (fun _ _ h b => h.below b) W (hT _ _ h0) h0).mono ?_
  · intro pre x W1 hj ht hp
    have hl := hp.length_le
    have := bitsUp_len 12 (possM h m)
    simp at hl
    exact (hY pre x W1 hj (by omega)).mono fun e W' ⟨h1, h2⟩ => ⟨h1, h2, hT _ _ h2⟩
  · rintro e W' ⟨h1, h2⟩
    exact ⟨h1, _, rfl, h2⟩

/-- what ThrowsFrom answers -/
def thrwA (h m : Int) : List Int := if okSt h m then throwsL h.toNat m.toNat else []
theorem throwsL_len (h m : Nat) : (throwsL h m).length ≤ h + 1 := by
  unfold throwsL
  rw [List.length_map]
  have := List.length_filter_le (fun t : Nat => canI h m (t : Int)) (List.range (h + 1))
  simpa using this
theorem thrwA_len (h m : Int) : (thrwA h m).length ≤ 12 := by
  unfold thrwA
  split
  · rename_i k
    obtain ⟨a, b, rfl, rfl, h1, h2, h3⟩ := okSt_nat k
    have := throwsL_len a b
    simp; omega
  · simp

/-- the throws below k that are possible, in order -/
def thrTo (h m k : Nat) : List Int := ((List.range k).filter (fun t : Nat => canI h m (t : Int))).map (fun t : Nat => (t : Int))
theorem thrTo_hit {h m k : Nat} (hc : canI h m (k : Int) = true) : thrTo h m (k + 1) = thrTo h m k ++ [(k : Int)] := by
  simp [thrTo, List.range_succ, List.filter_append, hc]
theorem thrTo_miss {h m k : Nat} (hc : canI h m (k : Int) = false) : thrTo h m (k + 1) = thrTo h m k := by
  simp [thrTo, List.range_succ, List.filter_append, hc]
theorem thrTo_len (h m k : Nat) : (thrTo h m k).length ≤ k := by
  unfold thrTo
  rw [List.length_map]
  have := List.length_filter_le (fun t : Nat => canI h m (t : Int)) (List.range k)
  simpa using this

set_option maxRecDepth 10000 in
set_option maxHeartbeats 1000000 in
theorem l08Throws_any (h m : Nat) (w : World) (hh : h ≤ 10) (hm : m < 2 ^ h) :
    Calls Tryd.prog 82 #[.agg #[.int .i64 h, .int .i64 m]] w fun e w' => ∃ u, e = .returned u ∧ Ints w' w.heap.size u (throwsL h m) ∧ Below w.heap.size w w' := by
  have HCan := Lib.hid (fun (t : Nat) (W : World) (ht : t ≤ h) => l08Can_any h m (t : Int) W hh hm (by omega) (by omega))
  have HEND := Lib.hid (show thrTo h m (h + 1) = throwsL h m from rfl)
  clear hm
  go_enter Tryd.func82, Tryd.ntmps82
  have P0 : Blk ((w.alloc (.cells #[.int .i64 h, .int .i64 m] 35)).alloc (.cells #[] 2)) w.heap.size [.int .i64 h, .int .i64 m] 35 := (Blk.made w #[.int .i64 h, .int .i64 m] 35).alloc _
  have I0 : Ints ((w.alloc (.cells #[.int .i64 h, .int .i64 m] 35)).alloc (.cells #[] 2)) (w.heap.size + 1) (.slice (some ⟨w.heap.size + 1, 0, none⟩) 0 0) [] := by
    have := World.ownsRow_lit (e := 2) (size := 1) (w.alloc (.cells #[.int .i64 h, .int .i64 m] 35)) #[] 0 (Nat.le_refl _) (by simp [maxLen]) rfl
    simpa [Ints] using this
  have B0 : Below w.heap.size w ((w.alloc (.cells #[.int .i64 h, .int .i64 m] 35)).alloc (.cells #[] 2)) := ((Below.refl _ w).alloc (Nat.le_refl _) _).alloc (by simp) _
  go_wp2
  go_loopw [3, 4] (fun v i wr => ∃ k : Nat, k ≤ h + 1 ∧ i = .int .i64 k ∧ Ints wr (w.heap.size + 1) v (thrTo h m k) ∧ Blk wr w.heap.size [.int .i64 h, .int .i64 m] 35 ∧ Below w.heap.size w wr) (fun _ i _ => h + 1 - (intOf i).toNat)
  case atStart => exact ⟨0, Nat.zero_le _, rfl, I0, P0, B0⟩
  case round =>
    clear I0 P0 B0
    obtain ⟨k, hk, rfl, hi, P, hb⟩ := hrel
    have c0 := P.cell 0
    have c1 := P.cell 1
    simp only [List.getElem?_cons_zero, List.getElem?_cons_succ] at c0 c1
    by_cases hlt : k ≤ h
    · have HF := HCan.out k wr hlt
      have hhit := Lib.hid (thrTo_hit (h := h) (m := m) (k := k))
      have hmiss := Lib.hid (thrTo_miss (h := h) (m := m) (k := k))
      have hlen : (thrTo h m k).length ≤ 1000000000 := by have := thrTo_len h m k; omega
      clear HCan HEND
      generalize canI h m (k : Int) = r at *
      go_wp2_with fail
      refine HF.mono ?_
      rintro e w1 ⟨rfl, b1⟩
      have hi1 := hi.below b1
      have P1 := P.below b1 P.lt
      have hb1 := hb.trans (b1.mono hb.size)
      have hBs1 : w.heap.size + 1 ≤ w1.heap.size := P1.lt
      clear HF hi hb P c0 c1 b1
      cases r with
      | true =>
        have HE := Lib.hid (hhit.out rfl)
        clear hhit hmiss
        go_wp2_with (at_builtin; refine append_int _ rfl _ _ rfl _ _ _ rfl hi1 (k : Int) rfl hlen hBs1 ?_; intro v' w2 hi2 hg2; refine Hid.out ?_)
        have b2 := hi1.below_grown (Below.refl _ w1) hBs1 hg2
        have P2 := P1.below b2 (Nat.lt_succ_self _)
        have hb2 := hb1.trans (b2.mono (by omega))
        rw [← HE.out] at hi2
        clear hg2 hi1 hb1 b2 P1
        refine Lib.hid ?_
        go_wp2
        go_roundw
        case rel => exact ⟨k + 1, by omega, by go_num, hi2, P2, hb2⟩
        case measure => simp [intOf]; omega
      | false =>
        have HE := Lib.hid (hmiss.out rfl)
        clear hhit hmiss
        go_wp2
        go_roundw
        case rel => exact ⟨k + 1, by omega, by go_num, by rw [HE.out]; exact hi1, P1, hb1⟩
        case measure => simp [intOf]; omega
    · obtain rfl : k = h + 1 := by omega
      rw [HEND.out] at hi
      clear HCan HEND
      go_wp2
      go_ret
      exact ⟨_, rfl, hi.mono (by omega), hb⟩

end Go.Proofs.YtdghbbnddgngoaaDoor
