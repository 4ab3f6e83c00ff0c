/- ReadPattern, the model's and the program's: both answer the pattern of a text. No conditions. -/
import Derived.Test.YtlpeigeadjojnabName
import Derived.Test.YtlpeigeadjojnabImpl02
namespace Go.Proofs.Ytlpeigeadjojnab
open Go.RowKit
set_option linter.unusedSimpArgs false
set_option linter.unusedVariables false

/-- the throw of a character, -1 if there is none -/
def digL (c : Int) : Int := if inB c 48 57 then c - 48 else if inB c 97 102 then c - 87 else -1
/-- is a character one of a throw? -/
def isDig (c : Int) : Bool := inB c 48 57 || inB c 97 102
theorem digL_a {c : Int} (h : 48 ≤ c ∧ c ≤ 57) : digL c = c - 48 := by rw [digL, if_pos (inB_true h)]
theorem digL_b {c : Int} (h : 97 ≤ c ∧ c ≤ 102) : digL c = c - 87 := by rw [digL, if_neg (by rw [inB_false (by omega)]; simp), if_pos (inB_true h)]
theorem digL_c {c : Int} (h : ¬ (48 ≤ c ∧ c ≤ 57)) (h' : ¬ (97 ≤ c ∧ c ≤ 102)) : digL c = -1 := by
  rw [digL, if_neg (by rw [inB_false (by omega)]; simp), if_neg (by rw [inB_false (by omega)]; simp)]
theorem digL_bound {c : Int} (h0 : 0 ≤ c) (h1 : c ≤ 1114111) : -1 ≤ digL c ∧ digL c ≤ 15 := by
  by_cases h : 48 ≤ c ∧ c ≤ 57
  · rw [digL_a h]; omega
  · by_cases h' : 97 ≤ c ∧ c ≤ 102
    · rw [digL_b h']; omega
    · rw [digL_c h h']; omega
/-- the throws of a text -/
def readL (s : ByteArray) : List Int := (List.range s.size).map (fun i => digL (byteAt s i))
theorem readL_len (s : ByteArray) : (readL s).length = s.size := by simp [readL]
theorem readL_at (s : ByteArray) (i : Nat) (h : i < s.size) : (readL s).getD i 0 = digL (byteAt s i) := by simp [readL, h]
theorem readL_take (s : ByteArray) (k : Nat) (hk : k < s.size) : (readL s).take k ++ [digL (byteAt s k)] = (readL s).take (k + 1) := by
  rw [List.take_succ_eq_append_getElem (by rw [readL_len]; exact hk)]
  simp [readL]
theorem readL_bad (s : ByteArray) (k : Nat) (hk : k < s.size) (h : digL (byteAt s k) = -1) : okPat (readL s) = false := by
  have := okList_bad (p := readL s) k (by rw [readL_len]; exact hk) (by rw [readL_at s k hk, h]; rfl)
  simp [okPat, this]
theorem readL_long (s : ByteArray) (h : 12 < s.size) : okPat (readL s) = false := by
  cases h0 : okPat (readL s) with
  | false => rfl
  | true => have := okPat_len h0; rw [readL_len] at this; omega
/-- what ReadPattern answers -/
def readA (s : ByteArray) : List Int := if okPat (readL s) then readL s else []
theorem readA_true {s : ByteArray} (h : okPat (readL s) = true) : readA s = readL s := by rw [readA, if_pos h]
theorem readA_false {s : ByteArray} (h : okPat (readL s) = false) : readA s = [] := by rw [readA, if_neg (by simp [h])]
theorem readA_len (s : ByteArray) : (readA s).length ≤ 12 := by
  cases h : okPat (readL s) with
  | true => rw [readA_true h]; exact (okPat_len h).2
  | false => rw [readA_false h]; simp

theorem l02Digit_any (c : Int) (w : World) (h0 : 0 ≤ c) (h1 : c ≤ 255) :
    Calls Try.prog 52 #[.int .u8 c] w fun e w' => e = .returned (.int .i64 (digL c)) ∧ w' = w := by
  by_cases ha : 48 ≤ c
  · by_cases hb : c ≤ 57
    · rw [digL_a ⟨ha, hb⟩]
      go_enter Try.func52, Try.ntmps52
      go_wp2
      go_ret
      exact ⟨rfl, rfl⟩
    · by_cases hc : 97 ≤ c
      · by_cases hd : c ≤ 102
        · rw [digL_b ⟨hc, hd⟩]
          go_enter Try.func52, Try.ntmps52
          go_wp2
          go_ret
          exact ⟨ret_int (by omega), rfl⟩
        · rw [digL_c (by omega) (by omega)]
          go_enter Try.func52, Try.ntmps52
          go_wp2
          go_ret
          exact ⟨rfl, rfl⟩
      · rw [digL_c (by omega) (by omega)]
        go_enter Try.func52, Try.ntmps52
        go_wp2
        go_ret
        exact ⟨rfl, rfl⟩
  · have hc : ¬ 97 ≤ c := by omega
    rw [digL_c (by omega) (by omega)]
    go_enter Try.func52, Try.ntmps52
    go_wp2
    go_ret
    exact ⟨rfl, rfl⟩

theorem l02Read_any (s : ByteArray) (w : World) (hs : s.size ≤ 1048576) :
    Calls Try.prog 40 #[.string s] w fun e w' => ∃ v, e = .returned v ∧ Ints w' w.heap.size v (readL s) ∧ Below w.heap.size w w' := by
  go_enter Try.func40, Try.ntmps40
  go_wp2
  go_loopw [3, 4] (fun v i wr => ∃ k : Nat, k ≤ s.size ∧ i = .int .i64 k ∧ Ints wr w.heap.size v ((readL s).take k) ∧ Below w.heap.size w wr) (fun _ i _ => s.size - (intOf i).toNat)
  case atStart =>
    refine ⟨0, Nat.zero_le _, rfl, ?_, (Below.refl _ _).alloc (Nat.le_refl _) _⟩
    exact World.ownsRow_lit w #[] 0 (Nat.le_refl _) (by simp [maxLen]) rfl
  case round =>
    obtain ⟨k, hk, rfl, hi, hb⟩ := hrel
    by_cases hlt : k < s.size
    · have hbk := byteAt_bound s k
      have HX := byteAt_is s k hlt
      have HC := fun w' => l02Digit_any (byteAt s k) w' hbk.1 hbk.2
      rw [← HX] at HC
      have HT := Lib.hid (readL_take s k hlt)
      have HXX := Lib.hid HX
      have hlen : ((readL s).take k).length ≤ 1000000000 := by simp [readL_len]; omega
      have hBs := hb.size
      clear HX hbk
      go_wp2_with (first | (go_at_call 52; refine (HC _).mono ?_; rintro e w' ⟨rfl, rfl⟩) | (at_builtin; refine append_int _ rfl _ _ rfl _ _ _ rfl hi _ rfl hlen hBs ?_; intro v' w1 hi1 hg1; refine Hid.out ?_))
      have hb1 := hi.below_grown hb hBs hg1
      have hx := HXX.out
      rw [hx, HT.out] at hi1
      clear hg1 hi hb hx HC
      refine Lib.hid ?_
      go_wp2
      go_roundw
      case rel => exact ⟨k + 1, by omega, by go_num, hi1, hb1⟩
      case measure => simp [intOf]; omega
    · obtain rfl : k = s.size := by omega
      rw [List.take_of_length_le (by rw [readL_len]; exact Nat.le_refl _)] at hi
      go_wp2
      go_ret
      exact ⟨_, rfl, hi, hb⟩

/-- throwOf's first answer -/
def thrA (c : Int) : Int := if isDig c then digL c else 0
theorem isDig_no {c : Int} (h : isDig c = false) : digL c = -1 := by
  simp only [isDig, Bool.or_eq_false_iff] at h
  rw [digL, if_neg (by simp [h.1]), if_neg (by simp [h.2])]

theorem append_thr (w0 : World) {ops : Array Oper} {rest : List Oper} {o : Oper} {a : Act} {Q : Exit → Act → World → Prop} (hgd : o.guard = none) (s x : Operand)
    (ho : o.op = .call { callee := .builtin .append, args := #[s, x], argTypes := #[49, 49] }) (B : Nat) (v : Value) (xs : List Int) (hs : a.eval s = v) (h : Ints w0 B v xs) (y : Int)
    (hx : a.eval x = .slice (some ⟨w0.heap.size, 0, none⟩) 1 1) (hlen : xs.length ≤ 1000000000) (hB : B ≤ w0.heap.size)
    (hK : ∀ v' w', Ints w' B v' (xs ++ [y]) → w0.grownBy w' v.ownBlock → wpList Try.prog ops Q rest (a.put o.dst v') w') :
    wpList Try.prog ops Q (o :: rest) a (w0.alloc (.cells #[.int .i64 y] 2)) := by
  obtain ⟨i0, hi, hz0, hz1, hz2⟩ := info_parts Try.info64
  refine wpList_append_own (w0.alloc (.cells #[.int .i64 y] 2)) hgd s x 49 ho B 2 i0 (.int .i64 0) 1 8 Try.underlying49 hi hz0 hz1 hz2 rfl (by decide) v xs.length _ hs (World.ownsRow.alloc h _)
    ⟨w0.heap.size, 0, none⟩ 1 1 [.int .i64 y] hx rfl ?_ ?_ (by unfold maxLen; omega) (by omega) (by simp; omega) ?_
  · intro j u hj
    match j, hj with
    | 0, hj => simp at hj; subst hj; simp [Addr.add]
  · intro u hu; simp at hu; subst hu; rfl
  · intro v' w' h1 h2 _
    refine hK v' w' ?_ ⟨h2.os, h2.tape, h2.output, by have := h2.size; simp at this; omega, fun k hk hne => ?_⟩
    · unfold Ints
      simpa using h1
    · rw [h2.block k (by simp; omega) hne]
      exact Below.heap_alloc _ _ _ hk

theorem readL_badL (s : ByteArray) (k : Nat) (hk : k < s.size) (h : digL (byteAt s k) = -1) : okList (readL s) = false :=
  okList_bad (p := readL s) k (by rw [readL_len]; exact hk) (by rw [readL_at s k hk, h]; rfl)
theorem readL_longL (s : ByteArray) (h : 12 < s.size) : okList (readL s) = false := by
  cases h0 : okList (readL s) with
  | false => rfl
  | true => have := okList_len h0; rw [readL_len] at this; omega

theorem Ints.iterAt {w : World} {B k pos pos' : Nat} {v : Value} {xs : List Int} {s : ByteArray} (h : Ints w B v xs) (hk : w.heap[k]? = some (.stringIter s pos)) : Ints (w.iterAt k s pos') B v xs :=
  h.block fun g hg _ => Lib.iterAt_other w k g s pos' fun e => h.ne_iter hk (by rw [hg, e])

end Go.Proofs.Ytlpeigeadjojnab
