/- ReadPattern, the model's and the program's: both answer the pattern of a text. No conditions. -/
import Derived.Test.YtjhijmaolnngmaaName
import Derived.Test.YtjhijmaolnngmaaImpl02
namespace Go.Proofs.Ytjhijmaolnngmaa
open Go.RowKit
set_option linter.unusedSimpArgs false
set_option linter.unusedVariables false

/-- the throw of a character, -1 if there is none -/
def digL (c : Int) : Int := if inB c 48 57 then c - 48 else if inB c 97 102 then c - 87 else -1
/-- is a character one of a throw? -/
def isDig (c : Int) : Bool := inB c 48 57 || inB c 97 102
theorem digL_a {c : Int} (h : 48 ≤ c ∧ c ≤ 57) : digL c = c - 48 := by rw [digL, if_pos (inB_true h)]
theorem digL_b {c : Int} (h : 97 ≤ c ∧ c ≤ 102) : digL c = c - 87 := by rw [digL, if_neg (by rw [inB_false (by omega)]; simp), if_pos (inB_true h)]
theorem digL_c {c : Int} (h : ¬ (48 ≤ c ∧ c ≤ 57)) (h' : ¬ (97 ≤ c ∧ c ≤ 102)) : digL c = -1 := by
  rw [digL, if_neg (by rw [inB_false (by omega)]; simp), if_neg (by rw [inB_false (by omega)]; simp)]
theorem digL_bound {c : Int} (h0 : 0 ≤ c) (h1 : c ≤ 1114111) : -1 ≤ digL c ∧ digL c ≤ 15 := by
  by_cases h : 48 ≤ c ∧ c ≤ 57
  · rw [digL_a h]; omega
  · by_cases h' : 97 ≤ c ∧ c ≤ 102
    · rw [digL_b h']; omega
    · rw [digL_c h h']; omega
/-- the throws of a text -/
def readL (s : ByteArray) : List Int := (List.range s.size).map (fun i => digL (byteAt s i))
theorem readL_len (s : ByteArray) : (readL s).length = s.size := by simp [readL]
theorem readL_at (s : ByteArray) (i : Nat) (h : i < s.size) : (readL s).getD i 0 = digL (byteAt s i) := by simp [readL, h]
theorem readL_take (s : ByteArray) (k : Nat) (hk : k < s.size) : (readL s).take k ++ [digL (byteAt s k)] = (readL s).take (k + 1) := by
  rw [List.take_succ_eq_append_getElem (by rw [readL_len]; exact hk)]
  simp [readL]
theorem readL_bad (s : ByteArray) (k : Nat) (hk : k < s.size) (h : digL (byteAt s k) = -1) : okPat (readL s) = false := by
  have := okList_bad (p := readL s) k (by rw [readL_len]; exact hk) (by rw [readL_at s k hk, h]; rfl)
  simp [okPat, this]
theorem readL_long (s : ByteArray) (h : 12 < s.size) : okPat (readL s) = false := by
  cases h0 : okPat (readL s) with
  | false => rfl
  | true => have := okPat_len h0; rw [readL_len] at this; omega
/-- what ReadPattern answers -/
def readA (s : ByteArray) : List Int := if okPat (readL s) then readL s else []
theorem readA_true {s : ByteArray} (h : okPat (readL s) = true) : readA s = readL s := by rw [readA, if_pos h]
theorem readA_false {s : ByteArray} (h : okPat (readL s) = false) : readA s = [] := by rw [readA, if_neg (by simp [h])]
theorem readA_len (s : ByteArray) : (readA s).length ≤ 12 := by
  cases h : okPat (readL s) with
  | true => rw [readA_true h]; exact (okPat_len h).2
  | false => rw [readA_false h]; simp

theorem l02Digit_any (c : Int) (w : World) (h0 : 0 ≤ c) (h1 : c ≤ 255) :
    Calls Try.prog 115 #[.int .u8 c] w fun e w' => e = .returned (.int .i64 (digL c)) ∧ w' = w := by
  by_cases ha : 48 ≤ c
  · by_cases hb : c ≤ 57
    · rw [digL_a ⟨ha, hb⟩]
      go_enter Try.func115, Try.ntmps115
      go_wp2
      go_ret
      exact ⟨rfl, rfl⟩
    · by_cases hc : 97 ≤ c
      · by_cases hd : c ≤ 102
        · rw [digL_b ⟨hc, hd⟩]
          go_enter Try.func115, Try.ntmps115
          go_wp2
          go_ret
          exact ⟨ret_int (by omega), rfl⟩
        · rw [digL_c (by omega) (by omega)]
          go_enter Try.func115, Try.ntmps115
          go_wp2
          go_ret
          exact ⟨rfl, rfl⟩
      · rw [digL_c (by omega) (by omega)]
        go_enter Try.func115, Try.ntmps115
        go_wp2
        go_ret
        exact ⟨rfl, rfl⟩
  · have hc : ¬ 97 ≤ c := by omega
    rw [digL_c (by omega) (by omega)]
    go_enter Try.func115, Try.ntmps115
    go_wp2
    go_ret
    exact ⟨rfl, rfl⟩

theorem l02Read_any (s : ByteArray) (w : World) (hs : s.size ≤ 1048576) :
    Calls Try.prog 104 #[.string s] w fun e w' => ∃ v, e = .returned v ∧ Ints w' w.heap.size v (readL s) ∧ Below w.heap.size w w' := by
  go_enter Try.func104, Try.ntmps104
  go_wp2
  go_loopw [3, 4] (fun v i wr => ∃ k : Nat, k ≤ s.size ∧ i = .int .i64 k ∧ Ints wr w.heap.size v ((readL s).take k) ∧ Below w.heap.size w wr) (fun _ i _ => s.size - (intOf i).toNat)
  case atStart =>
    refine ⟨0, Nat.zero_le _, rfl, ?_, (Below.refl _ _).alloc (Nat.le_refl _) _⟩
    exact World.ownsRow_lit w #[] 0 (Nat.le_refl _) (by simp [maxLen]) rfl
  case round =>
    obtain ⟨k, hk, rfl, hi, hb⟩ := hrel
    by_cases hlt : k < s.size
    · have hbk := byteAt_bound s k
      have HX := byteAt_is s k hlt
      have HC := fun w' => l02Digit_any (byteAt s k) w' hbk.1 hbk.2
      rw [← HX] at HC
      have HT := Lib.hid (readL_take s k hlt)
      have HXX := Lib.hid HX
      have hlen : ((readL s).take k).length ≤ 1000000000 := by simp [readL_len]; omega
      have hBs := hb.size
      clear HX hbk
      go_wp2_with (first | (go_at_call 115; refine (HC _).mono ?_; rintro e w' ⟨rfl, rfl⟩) | (at_builtin; refine append_int _ rfl _ _ rfl _ _ _ rfl hi _ rfl hlen hBs ?_; intro v' w1 hi1 hg1; refine Hid.out ?_))
      have hb1 := hi.below_grown hb hBs hg1
      have hx := HXX.out
      rw [hx, HT.out] at hi1
      clear hg1 hi hb hx HC
      refine Lib.hid ?_
      go_wp2
      go_roundw
      case rel => exact ⟨k + 1, by omega, by go_num, hi1, hb1⟩
      case measure => simp [intOf]; omega
    · obtain rfl : k = s.size := by omega
      rw [List.take_of_length_le (by rw [readL_len]; exact Nat.le_refl _)] at hi
      go_wp2
      go_ret
      exact ⟨_, rfl, hi, hb⟩

/-- throwOf's first answer -/
def thrA (c : Int) : Int := if isDig c then digL c else 0
theorem throwOf_yes (c : Int) (w : World) (h : isDig c = true) :
    Calls Try.prog 109 #[.int .i32 c] w fun e w' => e = .returned (.tuple #[.int .i64 (digL c), .bool true]) ∧ w' = w := by
  by_cases ha : 48 ≤ c ∧ c ≤ 57
  · rw [digL_a ha]
    have HC := fun w' => isDigit_any c w'
    rw [inB_true ha] at HC
    obtain ⟨ha1, ha2⟩ := ha
    clear h
    go_enter Try.func109, Try.ntmps109
    go_wp2_with (go_at_call 116; refine (HC _).mono ?_; rintro e w' ⟨rfl, rfl⟩)
    go_ret2
    exact ⟨rfl, rfl⟩
  · have hb : 97 ≤ c ∧ c ≤ 102 := by
      rw [isDig, inB_false (by omega)] at h
      exact inB_iff.1 (by simpa using h)
    rw [digL_b hb]
    have HC := fun w' => isDigit_any c w'
    rw [inB_false (by omega)] at HC
    obtain ⟨hb1, hb2⟩ := hb
    clear h ha
    go_enter Try.func109, Try.ntmps109
    go_wp2_with (go_at_call 116; refine (HC _).mono ?_; rintro e w' ⟨rfl, rfl⟩)
    go_ret2
    exact ⟨ret_intb (by omega), rfl⟩

theorem throwOf_no (c : Int) (w : World) (h : isDig c = false) :
    Calls Try.prog 109 #[.int .i32 c] w fun e w' => e = .returned (.tuple #[.int .i64 0, .bool false]) ∧ w' = w := by
  simp only [isDig, Bool.or_eq_false_iff] at h
  have HC := fun w' => isDigit_any c w'
  rw [h.1] at HC
  have h2 : c < 97 ∨ 102 < c := by
    have := h.2
    simp [inB] at this
    omega
  clear h
  rcases h2 with h2 | h2
  · go_enter Try.func109, Try.ntmps109
    go_wp2_with (go_at_call 116; refine (HC _).mono ?_; rintro e w' ⟨rfl, rfl⟩)
    go_ret2
    exact ⟨rfl, rfl⟩
  · have h3 : 97 ≤ c := by omega
    go_enter Try.func109, Try.ntmps109
    go_wp2_with (go_at_call 116; refine (HC _).mono ?_; rintro e w' ⟨rfl, rfl⟩)
    go_ret2
    exact ⟨rfl, rfl⟩

theorem isDig_no {c : Int} (h : isDig c = false) : digL c = -1 := by
  simp only [isDig, Bool.or_eq_false_iff] at h
  rw [digL, if_neg (by simp [h.1]), if_neg (by simp [h.2])]

/-- what readThrows answers for a text that is not too long: the throws, if it is a list of throws -/
theorem readThrows_long (s : ByteArray) (w : World) (hm : s.size ≤ 1048576) (hs : 12 < s.size) :
    Calls Try.prog 90 #[.string s] w fun e w' => e = .returned (.tuple #[.slice none 0 0, .bool false]) ∧ w = w' := by
  go_enter Try.func90, Try.ntmps90
  go_wp2
  go_ret2
  exact ⟨rfl, rfl⟩

theorem append_thr (w0 : World) {ops : Array Oper} {rest : List Oper} {o : Oper} {a : Act} {Q : Exit → Act → World → Prop} (hgd : o.guard = none) (s x : Operand)
    (ho : o.op = .call { callee := .builtin .append, args := #[s, x], argTypes := #[82, 82] }) (B : Nat) (v : Value) (xs : List Int) (hs : a.eval s = v) (h : Ints w0 B v xs) (y : Int)
    (hx : a.eval x = .slice (some ⟨w0.heap.size, 0, none⟩) 1 1) (hlen : xs.length ≤ 1000000000) (hB : B ≤ w0.heap.size)
    (hK : ∀ v' w', Ints w' B v' (xs ++ [y]) → w0.grownBy w' v.ownBlock → wpList Try.prog ops Q rest (a.put o.dst v') w') :
    wpList Try.prog ops Q (o :: rest) a (w0.alloc (.cells #[.int .i64 y] 2)) := by
  obtain ⟨i0, hi, hz0, hz1, hz2⟩ := info_parts Try.info64
  refine wpList_append_own (w0.alloc (.cells #[.int .i64 y] 2)) hgd s x 82 ho B 2 i0 (.int .i64 0) 1 8 Try.underlying82 hi hz0 hz1 hz2 rfl (by decide) v xs.length _ hs (World.ownsRow.alloc h _)
    ⟨w0.heap.size, 0, none⟩ 1 1 [.int .i64 y] hx rfl ?_ ?_ (by unfold maxLen; omega) (by omega) (by simp; omega) ?_
  · intro j u hj
    match j, hj with
    | 0, hj => simp at hj; subst hj; simp [Addr.add]
  · intro u hu; simp at hu; subst hu; rfl
  · intro v' w' h1 h2 _
    refine hK v' w' ?_ ⟨h2.os, h2.tape, h2.output, by have := h2.size; simp at this; omega, fun k hk hne => ?_⟩
    · unfold Ints
      simpa using h1
    · rw [h2.block k (by simp; omega) hne]
      exact Below.heap_alloc _ _ _ hk

theorem readL_badL (s : ByteArray) (k : Nat) (hk : k < s.size) (h : digL (byteAt s k) = -1) : okList (readL s) = false :=
  okList_bad (p := readL s) k (by rw [readL_len]; exact hk) (by rw [readL_at s k hk, h]; rfl)
theorem readL_longL (s : ByteArray) (h : 12 < s.size) : okList (readL s) = false := by
  cases h0 : okList (readL s) with
  | false => rfl
  | true => have := okList_len h0; rw [readL_len] at this; omega

theorem Ints.iterAt {w : World} {B k pos pos' : Nat} {v : Value} {xs : List Int} {s : ByteArray} (h : Ints w B v xs) (hk : w.heap[k]? = some (.stringIter s pos)) : Ints (w.iterAt k s pos') B v xs :=
  h.block fun g hg _ => Lib.iterAt_other w k g s pos' fun e => h.ne_iter hk (by rw [hg, e])

set_option maxRecDepth 10000 in
theorem readThrows_core (s : ByteArray) (w : World) (hm : s.size ≤ 12) :
    Calls Try.prog 90 #[.string s] w fun e w' => ∃ u xs, e = .returned (.tuple #[u, .bool (okList (readL s))]) ∧ Ints w' w.heap.size u xs ∧ Hid (okList (readL s) = true → xs = readL s) ∧ Below w.heap.size w w' := by
  obtain ⟨i0, hi, hz0, hz1, hz2⟩ := info_parts Try.info64
  go_enter Try.func90, Try.ntmps90
  go_wp2_with (at_make; refine wpList_make_own _ rfl _ _ 82 rfl w.heap.size 2 i0 (.int .i64 0) 1 Try.underlying82 hi hz0 hz1 _ _ _ s.size rfl rfl rfl (by rw [hz2]; omega) (by unfold maxLen; omega) (Nat.le_refl _) ?_; intro w1 hown hgr; refine Hid.out ?_)
  have hI0 : Ints w1 w.heap.size (.slice (some ⟨w.heap.size, 0, none⟩) 0 s.size) ((readL s).take 0) := hown
  have b1 : Below w.heap.size w w1 := (Below.refl _ _).grown hgr (Nat.le_refl _) (by simp)
  have hs1 := b1.size
  clear hown hgr hi hz0 hz1 hz2
  have hk0 : (w1.iter s 0).heap[w1.heap.size]? = some (.stringIter s 0) := World.iter_heap w1 s 0
  have hb0 : Below w.heap.size w (w1.iter s 0) := b1.alloc hs1 _
  have hI1 : Ints (w1.iter s 0) w.heap.size (.slice (some ⟨w.heap.size, 0, none⟩) 0 s.size) ((readL s).take 0) := hI0.alloc _
  clear hI0
  refine Lib.hid ?_
  go_wp2
  go_loopw [4, 6, 7, 8, 17] (fun v _ _ _ _ wr => ∃ pos : Nat, pos ≤ s.size ∧ wr.heap[w1.heap.size]? = some (.stringIter s pos) ∧ Ints wr w.heap.size v ((readL s).take pos) ∧ Below w.heap.size w wr)
    (fun _ _ _ _ _ wr => s.size - wr.iterPos w1.heap.size)
  case atStart => exact ⟨0, Nat.zero_le _, hk0, hI1, hb0⟩
  case round =>
    obtain ⟨pos, hps, hk, hr, hnx⟩ := hrel
    clear hk0 hb0 hI1
    by_cases hp : pos < s.size
    · have hmu : wr.iterPos w1.heap.size = pos := by simp [World.iterPos, hk]
      have HMU := Lib.hid hmu
      clear hmu
      have hbd := byteAt_bound s pos
      have hgood : (byteAt s pos < 128 ∧ isDig (byteAt s pos) = true) ∨ (okList (readL s) = false ∧ isDig ((Utf8.decode s pos).1 : Int) = false) := by
        by_cases h128 : byteAt s pos < 128
        · cases hd : isDig (byteAt s pos) with
          | true => exact .inl ⟨h128, rfl⟩
          | false =>
            refine .inr ⟨readL_badL s pos hp (isDig_no hd), ?_⟩
            have e1 := decode_ascii s pos hp (by have := byteAt_is s pos hp; omega)
            rw [e1]
            simp only
            rw [byteAt_is s pos hp]
            exact hd
        · have hdec := decode_high s pos (by omega)
          refine .inr ⟨readL_badL s pos hp (digL_c (by omega) (by omega)), ?_⟩
          rw [isDig, inB_false (by omega), inB_false (by omega)]
          rfl
      rcases hgood with ⟨h128, hd⟩ | ⟨hbad, hd⟩
      · have hnext : ∀ ty, (Instr.next (.pointer (some ⟨w1.heap.size, 0, none⟩)) true ty).run Try.prog wr = .ok (.tuple #[.bool true, .int .i64 pos, .int .i32 (byteAt s pos)]) (wr.iterAt w1.heap.size s (pos + 1)) := fun ty => by
          rw [← byteAt_is s pos hp]
          exact Lib.run_next_ascii_at wr w1.heap.size s pos ty hk hp (by have := byteAt_is s pos hp; omega)
        have hk1 := Lib.iterAt_heap wr w1.heap.size s pos (pos + 1) hk
        have hnx1 : Below w.heap.size w (wr.iterAt w1.heap.size s (pos + 1)) := Lib.below_iterAt hnx hs1 s (pos + 1)
        have hr1 : Ints (wr.iterAt w1.heap.size s (pos + 1)) w.heap.size u4 ((readL s).take pos) := hr.iterAt hk
        generalize wr.iterAt w1.heap.size s (pos + 1) = W1 at hnext hk1 hnx1 hr1
        have HC := fun w' => throwOf_yes (byteAt s pos) w' hd
        have HT := Lib.hid (readL_take s pos hp)
        have HK1 := Lib.hid hk1
        have hlen : ((readL s).take pos).length ≤ 1000000000 := by simp [readL_len]; omega
        have hBs := hnx1.size
        clear hk hr hnx hk1 hbd h128 hd
        generalize byteAt s pos = c at hnext HC HT
        generalize digL c = x at HC HT
        go_wp2_with (first | (go_at_call 109; refine (HC _).mono ?_; rintro e w' ⟨rfl, rfl⟩) | (at_builtin; refine append_thr _ rfl _ _ rfl _ _ _ rfl hr1 _ rfl hlen hBs ?_; intro v' w2 hi2 hg2; refine Hid.out ?_))
        have hb2 := hr1.below_grown hnx1 hBs hg2
        have hk2 : w2.heap[w1.heap.size]? = some (.stringIter s (pos + 1)) := by
          rw [hg2.block _ (Array.getElem?_eq_some_iff.1 HK1.out).1 (hr1.ne_iter HK1.out)]
          exact HK1.out
        rw [HT.out] at hi2
        clear hg2 hr1 HC hnext
        have HK2 := Lib.hid hk2
        clear hk2
        refine Lib.hid ?_
        go_wp2
        go_roundw
        case rel => exact ⟨pos + 1, by omega, HK2.out, hi2, hb2⟩
        case measure =>
          have hk2 := HK2.out
          rw [HMU.out]
          simp [World.iterPos, hk2]
          omega
      · have hnext : ∀ ty, (Instr.next (.pointer (some ⟨w1.heap.size, 0, none⟩)) true ty).run Try.prog wr = .ok (.tuple #[.bool true, .int .i64 pos, .int .i32 (Utf8.decode s pos).1]) (wr.iterAt w1.heap.size s (pos + (Utf8.decode s pos).2)) := fun ty =>
          Lib.run_next_any_at wr w1.heap.size s pos ty hk hp
        have hnx1 : Below w.heap.size w (wr.iterAt w1.heap.size s (pos + (Utf8.decode s pos).2)) := Lib.below_iterAt hnx hs1 s _
        generalize wr.iterAt w1.heap.size s (pos + (Utf8.decode s pos).2) = W1 at hnext hnx1
        have HC := fun w' => throwOf_no ((Utf8.decode s pos).1 : Int) w' hd
        generalize ((Utf8.decode s pos).1 : Int) = c at hnext HC
        have HB := Lib.hid hbad
        clear hbad hd hk hr hbd
        go_wp2_with (go_at_call 109; refine (HC _).mono ?_; rintro e w' ⟨rfl, rfl⟩)
        go_ret2
        exact ⟨_, [], by rw [HB.out]; rfl, Ints.nil _ _, Lib.hid (fun h => by rw [HB.out] at h; cases h), hnx1⟩
    · have hnext : ∀ ty, (Instr.next (.pointer (some ⟨w1.heap.size, 0, none⟩)) true ty).run Try.prog wr = _ := fun ty => Lib.run_next_end_at wr w1.heap.size s pos ty hk hp
      rw [List.take_of_length_le (by rw [readL_len]; omega)] at hr
      have HC := isList_any u4 w.heap.size (readL s) wr hr
      obtain ⟨okv, hokv⟩ : ∃ b, okList (readL s) = b := ⟨_, rfl⟩
      rw [hokv] at HC
      have HRL := Lib.hid hokv
      clear hokv
      clear hk
      go_wp2_with (go_at_call 94; refine HC.mono ?_; rintro e w2 ⟨rfl, rfl⟩)
      go_ret2
      exact ⟨_, _, by rw [HRL.out]; rfl, hr, Lib.hid (fun _ => rfl), hnx⟩

theorem readThrows_impl (s : ByteArray) (w : World) (hs : s.size ≤ 1048576) :
    Calls Try.prog 90 #[.string s] w fun e w' => ∃ u xs, e = .returned (.tuple #[u, .bool (okList (readL s))]) ∧ Ints w' w.heap.size u xs ∧ Hid (okList (readL s) = true → xs = readL s) ∧ Below w.heap.size w w' := by
  by_cases h : 12 < s.size
  · refine (readThrows_long s w hs h).mono ?_
    rintro e w' ⟨rfl, rfl⟩
    have h0 := readL_longL s h
    exact ⟨_, [], by rw [h0], Ints.nil _ _, Lib.hid (fun hh => by rw [h0] at hh; cases hh), Below.refl _ _⟩
  · exact readThrows_core s w (by omega)

theorem readPattern_impl (s : ByteArray) (w : World) (hs : s.size ≤ 1048576) :
    Calls Try.prog 50 #[.string s] w fun e w' => ∃ u, e = .returned (.tuple #[u, .bool (okPat (readL s))]) ∧ Ints w' w.heap.size u (readA s) ∧ Below w.heap.size w w' := by
  have HR := readThrows_impl s w hs
  cases hl : okList (readL s) with
  | false =>
    have hp : okPat (readL s) = false := by simp [okPat, hl]
    rw [hp, readA_false hp]
    rw [hl] at HR
    clear hl hp
    go_enter Try.func50, Try.ntmps50
    go_wp2_with fail
    refine HR.mono ?_
    rintro e w1 ⟨u, xs, rfl, i1, _, b1⟩
    go_wp2
    go_ret2
    exact ⟨_, rfl, Ints.nil _ _, b1⟩
  | true =>
    rw [hl] at HR
    have HRA := Lib.hid (fun h => readA_true (s := s) h)
    have HRB := Lib.hid (fun h => readA_false (s := s) h)
    clear hl
    go_enter Try.func50, Try.ntmps50
    go_wp2_with fail
    refine HR.mono ?_
    rintro e w1 ⟨u, xs, rfl, i1, hx, b1⟩
    obtain rfl : xs = readL s := by first | exact hx.out rfl | exact hx.out trivial
    have HC := validPattern_impl u w.heap.size (readL s) w1 i1
    clear HR hx
    cases hok : okPat (readL s) with
    | false =>
      rw [hok] at HC
      have HB := Lib.hid (HRB.out hok)
      have HO := Lib.hid hok
      clear hok HRA HRB
      go_wp2_with fail
      refine HC.mono ?_
      rintro e w2 ⟨rfl, b2⟩
      have B2 := b1.trans (b2.mono b1.size)
      clear HC
      go_wp2
      go_ret2
      exact ⟨_, by rw [HO.out]; rfl, by rw [HB.out]; exact Ints.nil _ _, B2⟩
    | true =>
      rw [hok] at HC
      have HB := Lib.hid (HRA.out hok)
      have HO := Lib.hid hok
      clear hok HRA HRB
      go_wp2_with fail
      refine HC.mono ?_
      rintro e w2 ⟨rfl, b2⟩
      have B2 := b1.trans (b2.mono b1.size)
      have i2 := i1.below b2
      clear HC
      go_wp2
      go_ret2
      exact ⟨_, by rw [HO.out]; rfl, by rw [HB.out]; exact i2, B2⟩
end Go.Proofs.Ytjhijmaolnngmaa
