/- IsName, the model's and the program's: both say whether a text is a name. No conditions. -/
import Derived.Test.YtgcpacdjdpkmfaaSpec02
import Derived.Lib.OthersKept
import Derived.Lib.Strings
import Derived.Lib.DecodeN
namespace Go.Proofs.Ytgcpacdjdpkmfaa
open Go.RowKit
set_option linter.unusedSimpArgs false
set_option linter.unusedVariables false

theorem l01Small_any (c : Int) (w : World) (h0 : 0 ≤ c) (h1 : c ≤ 255) :
    Calls Try.prog 46 #[.int .u8 c] w fun e w' => e = .returned (.bool (inB c 97 122)) ∧ w' = w := by
  by_cases h1 : 97 ≤ c
  · by_cases h2 : c ≤ 122
    · rw [inB_true ⟨h1, h2⟩]
      go_enter Try.func46, Try.ntmps46
      go_wp2
      go_ret
      exact ⟨rfl, rfl⟩
    · rw [inB_false (by omega)]
      go_enter Try.func46, Try.ntmps46
      go_wp2
      go_ret
      exact ⟨rfl, rfl⟩
  · rw [inB_false (by omega)]
    go_enter Try.func46, Try.ntmps46
    go_wp2
    go_ret
    exact ⟨rfl, rfl⟩

theorem l01Digit_any (c : Int) (w : World) (h0 : 0 ≤ c) (h1 : c ≤ 255) :
    Calls Try.prog 47 #[.int .u8 c] w fun e w' => e = .returned (.bool (inB c 48 57)) ∧ w' = w := by
  by_cases h1 : 48 ≤ c
  · by_cases h2 : c ≤ 57
    · rw [inB_true ⟨h1, h2⟩]
      go_enter Try.func47, Try.ntmps47
      go_wp2
      go_ret
      exact ⟨rfl, rfl⟩
    · rw [inB_false (by omega)]
      go_enter Try.func47, Try.ntmps47
      go_wp2
      go_ret
      exact ⟨rfl, rfl⟩
  · rw [inB_false (by omega)]
    go_enter Try.func47, Try.ntmps47
    go_wp2
    go_ret
    exact ⟨rfl, rfl⟩

theorem isSmallLetter_any (c : Int) (w : World) :
    Calls Try.prog 48 #[.int .i32 c] w fun e w' => e = .returned (.bool (inB c 97 122)) ∧ w' = w := by
  by_cases h1 : 97 ≤ c
  · by_cases h2 : c ≤ 122
    · rw [inB_true ⟨h1, h2⟩]
      go_enter Try.func48, Try.ntmps48
      go_wp2
      go_ret
      exact ⟨rfl, rfl⟩
    · rw [inB_false (by omega)]
      go_enter Try.func48, Try.ntmps48
      go_wp2
      go_ret
      exact ⟨rfl, rfl⟩
  · rw [inB_false (by omega)]
    go_enter Try.func48, Try.ntmps48
    go_wp2
    go_ret
    exact ⟨rfl, rfl⟩

theorem isDigit_any (c : Int) (w : World) :
    Calls Try.prog 49 #[.int .i32 c] w fun e w' => e = .returned (.bool (inB c 48 57)) ∧ w' = w := by
  by_cases h1 : 48 ≤ c
  · by_cases h2 : c ≤ 57
    · rw [inB_true ⟨h1, h2⟩]
      go_enter Try.func49, Try.ntmps49
      go_wp2
      go_ret
      exact ⟨rfl, rfl⟩
    · rw [inB_false (by omega)]
      go_enter Try.func49, Try.ntmps49
      go_wp2
      go_ret
      exact ⟨rfl, rfl⟩
  · rw [inB_false (by omega)]
    go_enter Try.func49, Try.ntmps49
    go_wp2
    go_ret
    exact ⟨rfl, rfl⟩

/-- the byte at an index -/
def byteAt (s : ByteArray) (i : Nat) : Int := ((s.get! i).toNat : Int)
theorem byteAt_is (s : ByteArray) (i : Nat) (h : i < s.size) : ((s[i]'h).toNat : Int) = byteAt s i := by
  unfold byteAt
  have : s.get! i = s[i]'h := by
    simp only [ByteArray.get!, ByteArray.size] at *
    rw [getElem!_pos s.data i h]
    rfl
  rw [this]
theorem byteAt_bound (s : ByteArray) (i : Nat) : 0 ≤ byteAt s i ∧ byteAt s i ≤ 255 := by
  unfold byteAt
  have := (s.get! i).toNat_lt
  omega

/-- a byte of a name -/
def nmc (c : Int) : Bool := inB c 97 122 || inB c 48 57 || decide (c = 45)
/-- a name -/
def isNm (s : ByteArray) : Bool := inB s.size 1 12 && inB (byteAt s 0) 97 122 && (List.range s.size).all (fun i => nmc (byteAt s i))

theorem nmc_a {c : Int} (h : inB c 97 122 = true) : nmc c = true := by simp [nmc, h]
theorem nmc_b {c : Int} (h : inB c 48 57 = true) : nmc c = true := by simp [nmc, h]
theorem nmc_c {c : Int} (h : (c != 45) = false) : nmc c = true := by simp [nmc] at h ⊢; simp [h]
theorem nmc_no {c : Int} (h1 : ¬ inB c 97 122 = true) (h2 : ¬ inB c 48 57 = true) (h3 : (c != 45) = true) : nmc c = false := by
  simp at h3
  simp [nmc, h1, h2, h3]
theorem isNm_bad {s : ByteArray} (k : Nat) (hk : k < s.size) (h : nmc (byteAt s k) = false) : isNm s = false := by
  have : (List.range s.size).all (fun i => nmc (byteAt s i)) = false := by
    rw [List.all_eq_false]
    exact ⟨k, List.mem_range.2 hk, by rw [h]; simp⟩
  simp [isNm, this]
theorem isNm_len {s : ByteArray} (h : ¬ (1 ≤ s.size ∧ s.size ≤ 12)) : isNm s = false := by
  rw [isNm, inB_false (by omega)]; simp
theorem isNm_head {s : ByteArray} (h : inB (byteAt s 0) 97 122 = false) : isNm s = false := by
  rw [isNm, h]; simp
theorem isNm_good {s : ByteArray} (h1 : 1 ≤ s.size) (h2 : s.size ≤ 12) (h : inB (byteAt s 0) 97 122 = true) (ha : ∀ k, k < s.size → nmc (byteAt s k) = true) : isNm s = true := by
  rw [isNm, inB_true (by omega), h]
  simp only [Bool.and_self, Bool.true_and, List.all_eq_true]
  intro k hk
  exact ha k (List.mem_range.1 hk)

theorem isName_spec (s : ByteArray) (w : World) (hs : s.size ≤ 1048576) :
    Calls Try.prog 15 #[.string s] w fun e w' => e = .returned (.bool (isNm s)) ∧ Below w.heap.size w w' := by
  by_cases h0 : s.size = 0
  · rw [isNm_len (by omega)]
    obtain rfl : s = ByteArray.empty := ByteArray.size_eq_zero_iff.1 h0
    go_enter Try.func15, Try.ntmps15
    go_wp2
    go_ret
    exact ⟨rfl, Below.refl _ _⟩
  · have hne : s.toList.isEmpty = false := by
      rw [Lib.toList_data]
      cases h : s.data.toList with
      | nil => exact absurd (by rw [Lib.size_eq, h]; rfl) h0
      | cons a t => rfl
    by_cases h12 : 12 < s.size
    · rw [isNm_len (by omega)]
      go_enter Try.func15, Try.ntmps15
      go_wp2
      go_ret
      exact ⟨rfl, Below.refl _ _⟩
    · have hb0 := byteAt_bound s 0
      have hx0 := byteAt_is s 0 (by omega)
      have HX0 := Lib.hid hx0
      cases hh : inB (byteAt s 0) 97 122 with
      | false =>
        rw [isNm_head hh]
        have HC := fun w' => l01Small_any (byteAt s 0) w' hb0.1 hb0.2
        rw [hh, ← HX0.out] at HC
        clear hx0 hh
        have hp0 : 0 < s.size := by omega
        go_enter Try.func15, Try.ntmps15
        go_wp2_with (go_at_call 46; refine (HC _).mono ?_; rintro e w' ⟨rfl, rfl⟩)
        go_ret
        exact ⟨rfl, Below.refl _ _⟩
      | true =>
        have HC := fun w' => l01Small_any (byteAt s 0) w' hb0.1 hb0.2
        rw [hh, ← HX0.out] at HC
        have HH := Lib.hid hh
        clear hx0 hh
        have hp0 : 0 < s.size := by omega
        go_enter Try.func15, Try.ntmps15
        go_wp2_with (go_at_call 46; refine (HC _).mono ?_; rintro e w' ⟨rfl, rfl⟩)
        go_loop [3] (fun i => ∃ k : Nat, k ≤ s.size ∧ i = .int .i64 k ∧ Hid (∀ j, j < k → nmc (byteAt s j) = true)) (fun i => s.size - (intOf i).toNat)
        case atStart => exact ⟨0, Nat.zero_le _, rfl, fun j hj => by omega⟩
        case round =>
          obtain ⟨k, hk, rfl, hall⟩ := hrel
          clear HC
          by_cases hlt : k < s.size
          · have hbk := byteAt_bound s k
            have HX := Lib.hid (byteAt_is s k hlt)
            have HS := fun w' => l01Small_any (byteAt s k) w' hbk.1 hbk.2
            have HD := fun w' => l01Digit_any (byteAt s k) w' hbk.1 hbk.2
            rw [← HX.out] at HS HD
            go_wp2_with (first | (go_at_call 46; refine (HS _).mono ?_; rintro e w' ⟨rfl, rfl⟩) | (go_at_call 47; refine (HD _).mono ?_; rintro e w' ⟨rfl, rfl⟩))
            all_goals first
              | (have hn : nmc (byteAt s k) = false := by rw [← HX.out]; exact nmc_no (by assumption) (by assumption) (by assumption)
                 go_ret
                 exact ⟨ret_bool (isNm_bad k hlt hn).symm, Below.refl _ _⟩)
              | (have hn : nmc (byteAt s k) = true := by rw [← HX.out]; first | exact nmc_a (by assumption) | exact nmc_b (by assumption) | exact nmc_c (by assumption)
                 go_round
                 case rel =>
                   refine ⟨k + 1, by omega, by go_num, ?_⟩
                   intro j hj
                   by_cases e : j = k
                   · subst e; exact hn
                   · exact hall.out j (by omega)
                 case measure => simp [intOf]; omega)
          · obtain rfl : k = s.size := by omega
            go_wp2
            go_ret
            exact ⟨ret_bool (isNm_good (by omega) (by omega) HH.out hall.out).symm, Below.refl _ _⟩

theorem decode_high (s : ByteArray) (i : Nat) (h : 128 ≤ byteAt s i) : 128 ≤ (Utf8.decode s i).1 ∧ (Utf8.decode s i).1 ≤ 1114111 := by
  have hb : 128 ≤ (s.get! i).toNat := by unfold byteAt at h; omega
  have hlt := (s.get! i).toNat_lt
  rw [Lib.decode_at]
  generalize (s.get! i).toNat = b0 at *
  have h1 := (s.get! (i + 1)).toNat_lt
  generalize (s.get! (i + 1)).toNat = b1 at *
  have h2 := (s.get! (i + 2)).toNat_lt
  generalize (s.get! (i + 2)).toNat = b2 at *
  have h3 := (s.get! (i + 3)).toNat_lt
  generalize (s.get! (i + 3)).toNat = b3 at *
  unfold Lib.decodeN
  rw [if_neg (by omega)]
  split
  · split <;> (simp only; omega)
  · split
    · split <;> (simp only; omega)
    · split
      · split <;> (simp only; omega)
      · simp only; omega

theorem isName_impl (s : ByteArray) (w : World) (hs : s.size ≤ 1048576) :
    Calls Try.prog 16 #[.string s] w fun e w' => e = .returned (.bool (isNm s)) ∧ Below w.heap.size w w' := by
  by_cases h0 : s.size < 1
  · rw [isNm_len (by omega)]
    go_enter Try.func16, Try.ntmps16
    go_wp2
    go_ret
    exact ⟨rfl, Below.refl _ _⟩
  · by_cases h12 : 12 < s.size
    · rw [isNm_len (by omega)]
      have h01 : ¬ (s.size : Int) < 1 := by omega
      go_enter Try.func16, Try.ntmps16
      go_wp2
      go_ret
      exact ⟨rfl, Below.refl _ _⟩
    · have hk0 : (w.iter s 0).heap[w.heap.size]? = some (.stringIter s 0) := World.iter_heap w s 0
      have hb0 : Below w.heap.size w (w.iter s 0) := (Below.refl _ w).alloc (Nat.le_refl _) _
      have hn1 : ¬ (s.size : Int) < 1 := by omega
      have hn2 : ¬ (12 : Int) < s.size := by omega
      go_enter Try.func16, Try.ntmps16
      go_wp2
      go_loopw [3, 4, 15] (fun _ _ _ wr => ∃ pos : Nat, pos ≤ s.size ∧ wr.heap[w.heap.size]? = some (.stringIter s pos) ∧ Hid (∀ j, j < pos → nmc (byteAt s j) = true) ∧ Hid (0 < pos → inB (byteAt s 0) 97 122 = true) ∧ Below w.heap.size w wr)
        (fun _ _ _ wr => s.size - wr.iterPos w.heap.size)
      case atStart => exact ⟨0, Nat.zero_le _, hk0, fun j hj => by omega, fun h => by omega, hb0⟩
      case round =>
        obtain ⟨pos, hps, hk, hall, hhead, hnx⟩ := hrel
        clear hk0 hb0
        by_cases hp : pos < s.size
        · have hmu : wr.iterPos w.heap.size = pos := by simp [World.iterPos, hk]
          have HMU := Lib.hid hmu
          clear hmu
          have hbd := byteAt_bound s pos
          by_cases h128 : byteAt s pos < 128
          · have hnext : ∀ ty, (Instr.next (.pointer (some ⟨w.heap.size, 0, none⟩)) true ty).run Try.prog wr = .ok (.tuple #[.bool true, .int .i64 pos, .int .i32 (byteAt s pos)]) (wr.iterAt w.heap.size s (pos + 1)) := fun ty => by
              rw [← byteAt_is s pos hp]
              exact Lib.run_next_ascii_at wr w.heap.size s pos ty hk hp (by have := byteAt_is s pos hp; omega)
            have hk1 := Lib.iterAt_heap wr w.heap.size s pos (pos + 1) hk
            have hnx1 : Below w.heap.size w (wr.iterAt w.heap.size s (pos + 1)) := Lib.below_iterAt hnx (Nat.le_refl _) s (pos + 1)
            generalize wr.iterAt w.heap.size s (pos + 1) = W1 at hnext hk1 hnx1
            have HS := fun w' => isSmallLetter_any (byteAt s pos) w'
            have HD := fun w' => isDigit_any (byteAt s pos) w'
            have HK1 := Lib.hid hk1
            clear hk hk1 hbd h128
            obtain ⟨c, hc⟩ : ∃ c, c = byteAt s pos := ⟨_, rfl⟩
            rw [← hc] at hnext HS HD
            have HCC := Lib.hid hc
            clear hc
            go_wp2_with (first | (go_at_call 48; refine (HS _).mono ?_; rintro e w' ⟨rfl, rfl⟩) | (go_at_call 49; refine (HD _).mono ?_; rintro e w' ⟨rfl, rfl⟩))
            all_goals first
              | (have h1 : inB c 97 122 = false := by assumption
                 have h2 : pos = 0 := by assumption
                 go_ret
                 have hc := HCC.out
                 subst h2
                 exact ⟨ret_bool (isNm_head (by rw [← hc]; exact h1)).symm, hnx1⟩)
              | (have h1 : inB c 97 122 = false := by assumption
                 have h2 : ¬ inB c 48 57 = true := by assumption
                 have h0 : ¬ pos = 0 := by assumption
                 have h3 : ((pos : Int) == 0) = true ∨ (c != 45) = true := by assumption
                 go_ret
                 have hn : nmc (byteAt s pos) = false := by rw [← HCC.out]; exact nmc_no (by simp [h1]) h2 (by rcases h3 with h3 | h3; (simp at h3; omega); exact h3)
                 exact ⟨ret_bool (isNm_bad pos hp hn).symm, hnx1⟩)
              | (have hn : nmc (byteAt s pos) = true := by
                   rw [← HCC.out]
                   first
                     | exact nmc_a (by assumption)
                     | exact nmc_b (by assumption)
                     | (have h3 : ((pos : Int) == 0) = false ∧ (c != 45) = false := by assumption
                        exact nmc_c h3.2)
                 have hhd : 0 < pos + 1 → inB (byteAt s 0) 97 122 = true := by
                   intro _
                   by_cases h0 : pos = 0
                   · first
                       | exact absurd h0 (by assumption)
                       | (subst h0; rw [← HCC.out]; assumption)
                   · exact hhead.out (by omega)
                 have hk1 := HK1.out
                 have hmu1 := HMU.out
                 go_roundw
                 case rel =>
                   refine ⟨pos + 1, by omega, hk1, ?_, hhd, hnx1⟩
                   intro j hj
                   by_cases e : j = pos
                   · subst e; exact hn
                   · exact hall.out j (by omega)
                 case measure =>
                   rw [hmu1]
                   simp [World.iterPos, hk1]
                   omega)
          · have hdec := decode_high s pos (by omega)
            have hnext : ∀ ty, (Instr.next (.pointer (some ⟨w.heap.size, 0, none⟩)) true ty).run Try.prog wr = .ok (.tuple #[.bool true, .int .i64 pos, .int .i32 (Utf8.decode s pos).1]) (wr.iterAt w.heap.size s (pos + (Utf8.decode s pos).2)) := fun ty =>
              Lib.run_next_any_at wr w.heap.size s pos ty hk hp
            have hnx1 : Below w.heap.size w (wr.iterAt w.heap.size s (pos + (Utf8.decode s pos).2)) := Lib.below_iterAt hnx (Nat.le_refl _) s _
            generalize wr.iterAt w.heap.size s (pos + (Utf8.decode s pos).2) = W1 at hnext hnx1
            obtain ⟨c, hc⟩ : ∃ c : Int, c = ((Utf8.decode s pos).1 : Int) := ⟨_, rfl⟩
            rw [← hc] at hnext
            have hc1 : 128 ≤ c := by omega
            have hbad : isNm s = false := isNm_bad pos hp (nmc_no (by rw [inB_false (by omega)]; simp) (by rw [inB_false (by omega)]; simp) (by simp; omega))
            have HS := fun w' => isSmallLetter_any c w'
            have HD := fun w' => isDigit_any c w'
            rw [inB_false (by omega)] at HS
            rw [inB_false (by omega)] at HD
            have h45 : (c != 45) = true := by simp; omega
            have HB := Lib.hid hbad
            clear hk hbd h128 hdec hc hbad
            go_wp2_with (first | (go_at_call 48; refine (HS _).mono ?_; rintro e w' ⟨rfl, rfl⟩) | (go_at_call 49; refine (HD _).mono ?_; rintro e w' ⟨rfl, rfl⟩))
            all_goals go_ret
            all_goals exact ⟨ret_bool HB.out.symm, hnx1⟩
        · have hnext : ∀ ty, (Instr.next (.pointer (some ⟨w.heap.size, 0, none⟩)) true ty).run Try.prog wr = _ := fun ty => Lib.run_next_end_at wr w.heap.size s pos ty hk hp
          clear hk
          go_wp2
          go_ret
          exact ⟨ret_bool (isNm_good (by omega) (by omega) (hhead.out (by omega)) (fun k hk => hall.out k (by omega))).symm, hnx⟩
end Go.Proofs.Ytgcpacdjdpkmfaa
