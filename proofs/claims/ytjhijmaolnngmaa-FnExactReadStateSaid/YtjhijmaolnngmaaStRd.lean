/- ReadState, the model's and the program's. No conditions but sizes. -/
import Derived.Test.YtjhijmaolnngmaaStJ
import Derived.Test.YtjhijmaolnngmaaStO
import Derived.Test.YtjhijmaolnngmaaOwnK
import Derived.Test.YtjhijmaolnngmaaRead
namespace Go.Proofs.Ytjhijmaolnngmaa
open Go.RowKit
set_option linter.unusedSimpArgs false
set_option linter.unusedVariables false

/-- a character of a state's text -/
def stCh (s : ByteArray) (i : Nat) : Prop := byteAt s i = 48 ∨ byteAt s i = 49
instance (s : ByteArray) (i : Nat) : Decidable (stCh s i) := by unfold stCh; infer_instance
/-- is a text one of a state? -/
def rdOk (s : ByteArray) : Bool := inB (s.size : Int) 1 10 && decide (∀ i, i < s.size → stCh s i)
/-- the mask of a text's first k characters -/
def rdM (s : ByteArray) (k : Nat) : Nat := maskU (fun i => decide (byteAt s i = 49)) k
theorem rdM_one {s : ByteArray} {k : Nat} (h : byteAt s k = 49) : rdM s (k + 1) = rdM s k ||| 2 ^ k := by
  show maskU _ k ||| (if decide (byteAt s k = 49) = true then 2 ^ k else 0) = _
  rw [decide_eq_true h, if_pos rfl]; rfl
theorem rdM_zero {s : ByteArray} {k : Nat} (h : ¬ byteAt s k = 49) : rdM s (k + 1) = rdM s k := by
  show maskU _ k ||| (if decide (byteAt s k = 49) = true then 2 ^ k else 0) = _
  rw [decide_eq_false h, if_neg (by simp), Nat.or_zero]; rfl
theorem rdOk_true {s : ByteArray} (h : inB (s.size : Int) 1 10 = true) (ha : ∀ i, i < s.size → stCh s i) : rdOk s = true := by
  rw [rdOk, h, decide_eq_true ha]; rfl
theorem rdOk_bad {s : ByteArray} (i : Nat) (hi : i < s.size) (hb : ¬ stCh s i) : rdOk s = false := by
  rw [rdOk, decide_eq_false fun h => hb (h i hi), Bool.and_false]
theorem rdOk_size {s : ByteArray} (h : inB (s.size : Int) 1 10 = false) : rdOk s = false := by rw [rdOk, h]; rfl
def rdA (s : ByteArray) : Int := if rdOk s then s.size else 0
def rdB (s : ByteArray) : Int := if rdOk s then (rdM s s.size : Nat) else 0
theorem rdA_t {s : ByteArray} (h : rdOk s = true) : rdA s = s.size := if_pos h
theorem rdB_t {s : ByteArray} (h : rdOk s = true) : rdB s = (rdM s s.size : Nat) := if_pos h
theorem rdA_f {s : ByteArray} (h : rdOk s = false) : rdA s = 0 := if_neg (by simp [h])
theorem rdB_f {s : ByteArray} (h : rdOk s = false) : rdB s = 0 := if_neg (by simp [h])

set_option maxRecDepth 10000 in
set_option maxHeartbeats 400000 in
theorem readState_spec (s : ByteArray) (w : World) (hs : s.size ≤ 1048576) :
    Calls Try.prog 41 #[.string s] w fun e w' => e = .returned (.tuple #[.agg #[.int .i64 (rdA s), .int .i64 (rdB s)], .bool (rdOk s)]) ∧ Below w.heap.size w w' := by
  have HH := l08Height_any (s.size : Int)
  cases hsz : inB (s.size : Int) 1 10 with
  | false =>
    have hz := rdOk_size hsz
    rw [rdA_f hz, rdB_f hz, hz]
    rw [hsz] at HH
    clear hz
    go_enter Try.func41, Try.ntmps41
    go_wp2_with fail
    refine (HH _).mono ?_
    rintro e w1 ⟨rfl, rfl⟩
    go_wp2
    refine bodyPost_ret (v := .tuple #[.agg #[.int .i64 0, .int .i64 0], .bool false]) (by simp [results, Try.results41, go_sem]) rfl ?_
    exact ⟨rfl, ((Below.refl _ _).alloc (Nat.le_refl _) _).alloc (by simp) _⟩
  | true =>
    obtain ⟨k1, k2⟩ := inB_iff.1 hsz
    rw [hsz] at HH
    have HT := Lib.hid (fun ha => rdOk_true (s := s) hsz ha)
    have HB := Lib.hid (fun i hi hb => rdOk_bad (s := s) i hi hb)
    clear hsz
    go_enter Try.func41, Try.ntmps41
    go_wp2_with fail
    refine (HH _).mono ?_
    rintro e w1 ⟨rfl, rfl⟩
    have P0 : Blk ((w.alloc (.cells #[.int .i64 0, .int .i64 0] 25)).alloc (.cells #[.int .i64 s.size, .int .i64 0] 25)) (w.heap.size + 1) [.int .i64 s.size, .int .i64 0] 25 := by
      have := Blk.made (w.alloc (.cells #[.int .i64 0, .int .i64 0] 25)) #[.int .i64 s.size, .int .i64 0] 25
      simpa using this
    have Q0 : Blk ((w.alloc (.cells #[.int .i64 0, .int .i64 0] 25)).alloc (.cells #[.int .i64 s.size, .int .i64 0] 25)) w.heap.size [.int .i64 0, .int .i64 0] 25 := (Blk.made w #[.int .i64 0, .int .i64 0] 25).alloc _
    have B0 : Below w.heap.size w ((w.alloc (.cells #[.int .i64 0, .int .i64 0] 25)).alloc (.cells #[.int .i64 s.size, .int .i64 0] 25)) := ((Below.refl _ _).alloc (Nat.le_refl _) _).alloc (by simp) _
    have HT2 : Hid (rdOk s = true → rdA s = s.size ∧ rdB s = (rdM s s.size : Nat)) := fun h => ⟨rdA_t h, rdB_t h⟩
    have HF2 : Hid (rdOk s = false → rdA s = 0 ∧ rdB s = 0) := fun h => ⟨rdA_f h, rdB_f h⟩
    go_wp2
    go_loopw [5] (fun i wr => ∃ k : Nat, k ≤ s.size ∧ i = .int .i64 k ∧ Hid (∀ j, j < k → stCh s j) ∧ Blk wr (w.heap.size + 1) [.int .i64 s.size, .int .i64 (rdM s k : Nat)] 25 ∧ Blk wr w.heap.size [.int .i64 0, .int .i64 0] 25 ∧ Below w.heap.size w wr) (fun i _ => s.size - (intOf i).toNat)
    case atStart => exact ⟨0, Nat.zero_le _, rfl, fun j hj => absurd hj (Nat.not_lt_zero _), P0, Q0, B0⟩
    case round =>
      obtain ⟨k, hk, rfl, hall, P, Q, hb⟩ := hrel
      clear P0 Q0 B0
      have c0 := P.cell 0
      have c1 := P.cell 1
      have d0 := Q.cell 0
      have d1 := Q.cell 1
      have f0 := Q.free 0
      have f1 := Q.free 1
      simp only [List.getElem?_cons_zero, List.getElem?_cons_succ] at c0 c1 d0 d1
      by_cases hlt : k < s.size
      · have HX := byteAt_is s k hlt
        have hmk := maskU_lt (fun i => decide (byteAt s i = 49)) k
        have hpk : (2 : Nat) ^ k ≤ 2 ^ 10 := Nat.pow_le_pow_right (by decide) (by omega)
        have hmk2 : rdM s k < 1024 := by show maskU _ k < 1024; omega
        by_cases h49 : byteAt s k = 49
        · rw [h49] at HX
          obtain ⟨T, hT, hT2, p1, p2⟩ := nextPow k (by omega)
          have hor : bits .or .i64 ((rdM s k : Nat) : Int) T = (rdM s (k + 1) : Nat) := by
            rw [hT2, or_i64 _ _ (by omega) (by omega), rdM_one h49]
          have HOR := Lib.hid hor
          have HALL : Hid (∀ j, j < k + 1 → stCh s j) := fun j hj => by
            by_cases e : j = k
            · subst e; exact .inr h49
            · exact hall.out j (by omega)
          have HP := Lib.hid (fun v => P.set 1 v)
          have HQ := Lib.hid (fun v => Q.other (p := ⟨w.heap.size + 1, 1, none⟩) (by show w.heap.size ≠ w.heap.size + 1; omega) v)
          have HB' := Lib.hid (fun v => hb.setCell (p := ⟨w.heap.size + 1, 1, none⟩) (by show w.heap.size ≤ w.heap.size + 1; omega) v)
          have g1 := P.free 1
          clear hor hT2 h49 hall P Q hb hmk hpk HT HB HT2 HF2
          generalize rdM s k = mk at *
          go_wp2
          go_roundw
          case rel => exact ⟨k + 1, by omega, by go_num, HALL, by rw [HOR.out]; exact HP.out _, HQ.out _, HB'.out _⟩
          case measure => simp [intOf]; omega
        · by_cases h48 : byteAt s k = 48
          · rw [h48] at HX
            have HM := Lib.hid (rdM_zero h49)
            have HALL : Hid (∀ j, j < k + 1 → stCh s j) := fun j hj => by
              by_cases e : j = k
              · subst e; exact .inl h48
              · exact hall.out j (by omega)
            have HP := Lib.hid P
            clear h48 h49 hall hmk hpk HT HB HT2 HF2 P
            go_wp2
            go_roundw
            case rel => exact ⟨k + 1, by omega, by go_num, HALL, by rw [HM.out]; exact HP.out, Q, hb⟩
            case measure => simp [intOf]; omega
          · have hbad := HB.out k hlt (fun h => by rcases h with h | h; exact h48 h; exact h49 h)
            obtain ⟨ea, eb⟩ := HF2.out hbad
            have HR := Lib.hid hbad
            have HA := Lib.hid ea
            have HB2 := Lib.hid eb
            have n1 : ¬ (byteAt s k == 49) = true := by simpa using h49
            have n2 : ¬ (byteAt s k == 48) = true := by simpa using h48
            have n3 : (byteAt s k == 49) = false := by simpa using h49
            have n4 : (byteAt s k == 48) = false := by simpa using h48
            obtain ⟨r0, r1⟩ := two_set (.int .i64 0) (.int .i64 0) d0 d1
            clear hbad ea eb hall hmk hpk HT HB HT2 HF2 P Q h48 h49
            go_wp2
            refine bodyPost_ret (v := .tuple #[.agg #[.int .i64 0, .int .i64 0], .bool false]) (by simp [results, Try.results41, go_sem, r0, r1]) rfl ?_
            exact ⟨by rw [HR.out, HA.out, HB2.out], two_below hb (Nat.le_refl _) _ _⟩
      · obtain rfl : k = s.size := by omega
        have hok := HT.out hall.out
        obtain ⟨ea, eb⟩ := HT2.out hok
        have HR := Lib.hid hok
        have HA := Lib.hid ea
        have HB2 := Lib.hid eb
        obtain ⟨r0, r1⟩ := two_set (.int .i64 s.size) (.int .i64 (rdM s s.size : Nat)) d0 d1
        clear hok ea eb hall HT HB HT2 HF2 P Q
        go_wp2
        refine bodyPost_ret (v := .tuple #[.agg #[.int .i64 s.size, .int .i64 (rdM s s.size : Nat)], .bool true]) (by simp [results, Try.results41, go_sem, r0, r1]) rfl ?_
        exact ⟨by rw [HR.out, HA.out, HB2.out], two_below hb (Nat.le_refl _) _ _⟩
end Go.Proofs.Ytjhijmaolnngmaa
