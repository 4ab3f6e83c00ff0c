/- HandsText and ReadHands, the model's and the program's. No conditions but a text's length. -/
import Derived.Test.YtbnmbodnjecajaaHdC
import Derived.Test.YtbnmbodnjecajaaText
import Derived.Test.YtbnmbodnjecajaaName
namespace Go.Proofs.Ytbnmbodnjecajaa
open Go.RowKit
set_option linter.unusedSimpArgs false
set_option linter.unusedVariables false

/-- the letter of a hand -/
def letB (x : Int) : UInt8 := UInt8.ofNat (97 + x.toNat)
def txtH (o : List Int) : List UInt8 := o.map letB
theorem txtH_len (o : List Int) : (txtH o).length = o.length := by simp [txtH]
theorem txtH_take (o : List Int) (k : Nat) (hk : k < o.length) : txtH (o.take k) ++ [letB (o.getD k 0)] = txtH (o.take (k + 1)) := by
  rw [txtH, txtH, List.take_succ_eq_append_getElem hk, List.map_append]
  congr 1
  simp [hk]
def hxA (o : List Int) : ByteArray := if okH o then bytesOf (txtH o) else bytesOf []
theorem hxA_true {o : List Int} (h : okH o = true) : hxA o = bytesOf (txtH o) := by rw [hxA, if_pos h]
theorem hxA_false {o : List Int} (h : okH o = false) : hxA o = bytesOf [] := by rw [hxA, if_neg (by simp [h])]

theorem slice_letter (x : Int) (h0 : 0 ≤ x) (h1 : x ≤ 3) (w : World) :
    (Instr.slice 9 (.string ⟨#[97, 98, 99, 100]⟩) (some (.int .i64 x)) (some (.int .i64 (x + 1))) none).run Try.prog w = .ok (.string (bytesOf [letB x])) w := by
  rw [run_slice_string (h := Try.underlying9)]
  · congr 2
    have : x = 0 ∨ x = 1 ∨ x = 2 ∨ x = 3 := by omega
    rcases this with rfl | rfl | rfl | rfl <;> rfl
  all_goals first | omega | (simp [ByteArray.size]; omega)
set_option maxRecDepth 100000 in
theorem index_letter (x : Int) (h0 : 0 ≤ x) (h1 : x ≤ 3) (w : World) :
    (Instr.index 9 (.string ⟨#[97, 98, 99, 100]⟩) (.int .i64 x)).run Try.prog w = .ok (.int .u8 (letB x).toNat) w := by
  have : x = 0 ∨ x = 1 ∨ x = 2 ∨ x = 3 := by omega
  rcases this with rfl | rfl | rfl | rfl <;> (first | rfl | (show Sem.run _ _ _ = _; kernel_rfl))

theorem l14Text_core (g cap n : Nat) (f : Nat → Int) (T : Nat → List UInt8) (w : World) (hn2 : n ≤ 12) (hg : g < w.heap.size) (hf : ∀ i, i < n → 0 ≤ f i ∧ f i ≤ 3)
    (hT0 : T 0 = []) (hT1 : ∀ i, i < n → T i ++ [letB (f i)] = T (i + 1)) (hTl : ∀ i, i ≤ n → (T i).length ≤ 12)
    (hc : ∀ i, i < n → w.cell? ⟨g, i, none⟩ = some (.int .i64 (f i))) :
    Calls Try.prog 70 #[.slice (some ⟨g, 0, none⟩) n cap] w fun e w' => e = .returned (.string (bytesOf (T n))) ∧ Below w.heap.size w w' := by
  have HT0 := Lib.hid hT0
  have HT1 := Lib.hid hT1
  have HTl := Lib.hid hTl
  clear hT0 hT1 hTl
  go_enter Try.func70, Try.ntmps70
  go_wp2
  go_loopw [4, 5] (fun t i wr => ∃ k : Nat, k ≤ n ∧ i = .int .i64 k ∧ t = .string (bytesOf (T k)) ∧ Below w.heap.size w wr) (fun _ i _ => n - (intOf i).toNat)
  case atStart => exact ⟨0, Nat.zero_le _, rfl, by rw [HT0.out]; rfl, Below.refl _ _⟩
  case round =>
    obtain ⟨k, hk, rfl, rfl, hb⟩ := hrel
    by_cases hlt : k < n
    · have c1 := (hb.cell (p := ⟨g, k, none⟩) hg).trans (hc k hlt)
      obtain ⟨f1, f2⟩ := hf k hlt
      have HH := Lib.hid (HT1.out k hlt)
      have hl := HTl.out k hk
      have hsl := fun wx => slice_letter (f k) f1 f2 wx
      have hcat := fun wx => concat_run (T k) (letB (f k)) (by omega) wx
      have hw : IntKind.i64.wrap (f k + 1) = f k + 1 := IntWalk.i64_in _ (by omega)
      clear hc hf
      go_wp2
      go_quiet (fail)
      go_wp2
      go_roundw
      case rel => exact ⟨k + 1, by omega, by go_num, by rw [HH.out], below_drewN hb _⟩
      case measure => simp [intOf]; omega
    · obtain rfl : k = n := by omega
      clear hc hf
      go_wp2
      go_ret
      exact ⟨rfl, hb⟩

theorem txtH_facts (p : List Int) (h : p.length ≤ 12) : txtH (p.take 0) = [] ∧ (∀ i, i < p.length → txtH (p.take i) ++ [letB (p.getD i 0)] = txtH (p.take (i + 1))) ∧ (∀ i, i ≤ p.length → (txtH (p.take i)).length ≤ 12) ∧ txtH (p.take p.length) = txtH p := by
  refine ⟨rfl, fun i hi => txtH_take p i hi, fun i hi => by rw [txtH_len]; simp; omega, by rw [List.take_length]⟩

theorem l14Text_any (v : Value) (B : Nat) (o : List Int) (w : World) (h : Ints w B v o) (hok : okH o = true) :
    Calls Try.prog 70 #[v] w fun e w' => e = .returned (.string (bytesOf (txtH o))) ∧ Below w.heap.size w w' := by
  obtain ⟨h1, h2⟩ := okH_len hok
  obtain ⟨g, cap, rfl, _, hg, _, _⟩ := h.shape2 h1
  obtain ⟨t0, t1, t2, t3⟩ := txtH_facts o h2
  have := l14Text_core g cap o.length (fun i => o.getD i 0) (fun k => txtH (o.take k)) w h2 hg (fun i hi => ⟨(okH_at hok i hi).1, (okH_at hok i hi).2.1⟩) t0 t1 t2 (fun i hi => h.cell i hi)
  rwa [t3] at this

theorem handsText_spec (v : Value) (B : Nat) (o : List Int) (w : World) (h : Ints w B v o) :
    Calls Try.prog 39 #[v] w fun e w' => e = .returned (.string (hxA o)) ∧ Below w.heap.size w w' := by
  have HO := l14Ok_any v B o w h
  cases hok : okH o with
  | false =>
    rw [hxA_false hok]
    rw [hok] at HO
    clear h
    go_enter Try.func39, Try.ntmps39
    go_wp2_with fail
    refine HO.mono ?_
    rintro e w1 ⟨rfl, rfl⟩
    go_wp2
    go_ret
    exact ⟨rfl, Below.refl _ _⟩
  | true =>
    rw [hxA_true hok]
    rw [hok] at HO
    have HT := l14Text_any v B o w h hok
    clear h hok
    go_enter Try.func39, Try.ntmps39
    go_wp2_with fail
    refine HO.mono ?_
    rintro e w1 ⟨rfl, rfl⟩
    go_wp2_with fail
    refine HT.mono ?_
    rintro e w1 ⟨rfl, b1⟩
    go_wp2
    go_ret
    exact ⟨rfl, b1⟩

set_option maxRecDepth 10000 in
theorem handsText_core (g cap n B : Nat) (p : List Int) (f : Nat → Int) (T : Nat → List UInt8) (w : World) (h : Ints w B (.slice (some ⟨g, 0, none⟩) n cap) p) (hok : okH p = true) (hn1 : 1 ≤ n) (hn2 : n ≤ 12) (hg : g < w.heap.size) (hf : ∀ i, i < n → 0 ≤ f i ∧ f i ≤ 3)
    (hT0 : T 0 = []) (hT1 : ∀ i, i < n → T i ++ [letB (f i)] = T (i + 1)) (hTl : ∀ i, i ≤ n → (T i).length ≤ 12) (hTn : T n ≠ [])
    (hc : ∀ i, i < n → w.cell? ⟨g, i, none⟩ = some (.int .i64 (f i))) :
    Calls Try.prog 40 #[.slice (some ⟨g, 0, none⟩) n cap] w fun e w' => e = .returned (.string (bytesOf (T n))) ∧ Below w.heap.size w w' := by
  have HT0 := Lib.hid hT0
  have HT1 := Lib.hid hT1
  have HTl := Lib.hid hTl
  have HTn := Lib.hid hTn
  clear hT0 hT1 hTl hTn
  go_enter Try.func40, Try.ntmps40
  go_wp2_with fail
  refine (validHands_impl _ B p _ h).mono ?_
  rintro e w1 ⟨rfl, b1⟩
  rw [hok]
  clear h hok
  have hg1 : g < w1.heap.size := Nat.lt_of_lt_of_le hg b1.size
  have hc1 : ∀ i, i < n → w1.cell? ⟨g, i, none⟩ = some (.int .i64 (f i)) := fun i hi => (b1.cell (p := ⟨g, i, none⟩) hg).trans (hc i hi)
  have hB0 : Bld (w1.alloc (.cells #[.pointer none, .slice none 0 0] 73)) w1.heap.size w1.heap.size (T 0) := by rw [HT0.out]; exact Bld.fresh w1
  have hb0 : Below w1.heap.size w1 (w1.alloc (.cells #[.pointer none, .slice none 0 0] 73)) := (Below.refl _ _).alloc (Nat.le_refl _) _
  clear hc hg
  go_wp2
  go_loopw [5, 11] (fun _ i wr => ∃ k : Nat, k ≤ n ∧ i = .int .i64 k ∧ Bld wr w1.heap.size w1.heap.size (T k) ∧ Below w1.heap.size w1 wr) (fun _ i _ => n - (intOf i).toNat)
  case atStart => exact ⟨0, Nat.zero_le _, rfl, hB0, hb0⟩
  case round =>
    obtain ⟨k, hk, rfl, hB, hb⟩ := hrel
    clear hB0 hb0
    by_cases hlt : k < n
    · have c1 := (hb.cell (p := ⟨g, k, none⟩) hg1).trans (hc1 k hlt)
      obtain ⟨f1, f2⟩ := hf k hlt
      have HH := Lib.hid (HT1.out k hlt)
      have hl := HTl.out k hk
      have hix := fun wx => index_letter (f k) f1 f2 wx
      have hsz := hb.size
      clear hc1 hf
      go_wp2_with (go_at_call 71; refine (writeByte_any _ _ (T k) (letB (f k)) _ _ hB rfl (by omega) hsz).mono ?_; rintro e w2 ⟨rfl, hB2, hb2⟩; refine Hid.out ?_)
      rw [HH.out] at hB2
      have hb3 := hb.trans hb2
      refine Lib.hid ?_
      go_wp2
      go_roundw
      case rel => exact ⟨k + 1, by omega, by go_num, hB2, hb3⟩
      case measure => simp [intOf]; omega
    · obtain rfl : k = n := by omega
      clear hc1 hf
      have HC := builderString_some _ _ (T k) wr hB HTn.out
      go_wp2_with (go_at_call 72; refine HC.mono ?_; rintro e w2 ⟨rfl, hb2⟩; refine Hid.out ?_)
      have hb3 := b1.trans ((hb.trans hb2).mono b1.size)
      refine Lib.hid ?_
      go_wp2
      go_ret
      exact ⟨rfl, hb3⟩

theorem handsText_impl (v : Value) (B : Nat) (o : List Int) (w : World) (h : Ints w B v o) :
    Calls Try.prog 40 #[v] w fun e w' => e = .returned (.string (hxA o)) ∧ Below w.heap.size w w' := by
  cases hok : okH o with
  | false =>
    rw [hxA_false hok]
    go_enter Try.func40, Try.ntmps40
    go_wp2_with fail
    refine (validHands_impl v B o _ h).mono ?_
    rintro e w' ⟨rfl, hb⟩
    rw [hok]
    go_wp2
    go_ret
    exact ⟨rfl, hb⟩
  | true =>
    rw [hxA_true hok]
    obtain ⟨h1, h2⟩ := okH_len hok
    obtain ⟨g, cap, rfl, _, hg, _, _⟩ := h.shape2 h1
    obtain ⟨t0, t1, t2, t3⟩ := txtH_facts o h2
    have := handsText_core g cap o.length B o (fun i => o.getD i 0) (fun k => txtH (o.take k)) w h hok h1 h2 hg (fun i hi => ⟨(okH_at hok i hi).1, (okH_at hok i hi).2.1⟩) t0 t1 t2 (by
      rw [t3]
      intro e
      have h0 : (txtH o).length = 0 := by rw [e]; rfl
      rw [txtH_len] at h0
      omega) (fun i hi => h.cell i hi)
    rwa [t3] at this

/-! ### reading -/
def readH (s : ByteArray) : List Int := (List.range s.size).map (fun i => byteAt s i - 97)
theorem readH_len (s : ByteArray) : (readH s).length = s.size := by simp [readH]
theorem readH_at (s : ByteArray) (i : Nat) (h : i < s.size) : (readH s).getD i 0 = byteAt s i - 97 := by simp [readH, h]
theorem readH_take (s : ByteArray) (k : Nat) (hk : k < s.size) : (readH s).take k ++ [byteAt s k - 97] = (readH s).take (k + 1) := by
  rw [List.take_succ_eq_append_getElem (by rw [readH_len]; exact hk)]
  simp [readH]
/-- the number of a letter; -1 of another character -/
def idxC (c : Int) : Int := if 97 ≤ c ∧ c ≤ 100 then c - 97 else -1
def readI (s : ByteArray) : List Int := (List.range s.size).map (fun i => idxC (byteAt s i))
theorem readI_len (s : ByteArray) : (readI s).length = s.size := by simp [readI]
theorem readI_at (s : ByteArray) (i : Nat) (h : i < s.size) : (readI s).getD i 0 = idxC (byteAt s i) := by simp [readI, h]
theorem readI_take (s : ByteArray) (k : Nat) (hk : k < s.size) : (readI s).take k ++ [idxC (byteAt s k)] = (readI s).take (k + 1) := by
  rw [List.take_succ_eq_append_getElem (by rw [readI_len]; exact hk)]
  simp [readI]
theorem readI_ok (s : ByteArray) : okH (readI s) = okH (readH s) ∧ (okH (readH s) = true → readI s = readH s) := by
  cases hr : rngH (readH s) with
  | true =>
    have e : readI s = readH s := by
      refine List.map_congr_left fun i hi => ?_
      have hi := List.mem_range.1 hi
      have := rngH_at hr i (by rw [readH_len]; exact hi)
      rw [readH_at s i hi] at this
      rw [idxC, if_pos (by omega)]
    rw [e]
    exact ⟨rfl, fun _ => rfl⟩
  | false =>
    have h2 : rngH (readI s) = false := by
      rw [← Bool.not_eq_true] at hr ⊢
      intro h2
      refine hr (rngH_true fun k hk => ?_)
      rw [readH_len] at hk
      have := rngH_at h2 k (by rw [readI_len]; exact hk)
      rw [readI_at s k hk] at this
      rw [readH_at s k hk]
      unfold idxC at this
      split at this <;> omega
    rw [okH_far hr, okH_far h2]
    exact ⟨rfl, fun h => by cases h⟩
def rhA (s : ByteArray) : List Int := if okH (readH s) then readH s else []
theorem rhA_true {s : ByteArray} (h : okH (readH s) = true) : rhA s = readH s := by rw [rhA, if_pos h]
theorem rhA_false {s : ByteArray} (h : okH (readH s) = false) : rhA s = [] := by rw [rhA, if_neg (by simp [h])]
theorem rhA_len (s : ByteArray) : (rhA s).length ≤ 12 := by
  cases h : okH (readH s) with
  | true => rw [rhA_true h]; exact (okH_len h).2
  | false => rw [rhA_false h]; simp

set_option maxRecDepth 10000 in
theorem readHands_spec (s : ByteArray) (w : World) (hs : s.size ≤ 1048576) :
    Calls Try.prog 41 #[.string s] w fun e w' => ∃ u, e = .returned (.tuple #[u, .bool (okH (readH s))]) ∧ Ints w' w.heap.size u (rhA s) ∧ Below w.heap.size w w' := by
  go_enter Try.func41, Try.ntmps41
  go_wp2
  go_loopw [4, 5] (fun v i wr => ∃ k : Nat, k ≤ s.size ∧ i = .int .i64 k ∧ Ints wr w.heap.size v ((readH s).take k) ∧ Below w.heap.size w wr) (fun _ i _ => s.size - (intOf i).toNat)
  case atStart =>
    refine ⟨0, Nat.zero_le _, rfl, ?_, (Below.refl _ _).alloc (Nat.le_refl _) _⟩
    exact World.ownsRow_lit w #[] 0 (Nat.le_refl _) (by simp [maxLen]) rfl
  case round =>
    obtain ⟨k, hk, rfl, hi, hb⟩ := hrel
    by_cases hlt : k < s.size
    · have hbk : ((s[k]'hlt).toNat : Int) ≤ 255 := by have := (s[k]'hlt).toNat_lt; omega
      have HX := Lib.hid (byteAt_is s k hlt)
      have HT := Lib.hid (readH_take s k hlt)
      have hlen : ((readH s).take k).length ≤ 1000000000 := by simp [readH_len]; omega
      have hBs := hb.size
      go_wp2_with (at_builtin; refine append_int _ rfl _ _ rfl _ _ _ rfl hi _ rfl hlen hBs ?_; intro v' w1 hi1 hg1; refine Hid.out ?_)
      have hb1 := hi.below_grown hb hBs hg1
      have hx := HX.out
      rw [hx, HT.out] at hi1
      clear hg1 hi hb hx
      refine Lib.hid ?_
      go_wp2
      go_roundw
      case rel => exact ⟨k + 1, by omega, by go_num, hi1, hb1⟩
      case measure => simp [intOf]; omega
    · obtain rfl : k = s.size := by omega
      rw [List.take_of_length_le (by rw [readH_len]; exact Nat.le_refl _)] at hi
      have HO := l14Ok_any _ _ _ _ hi
      cases hok : okH (readH s) with
      | false =>
        have E := Lib.hid hok
        rw [hok] at HO
        clear hi hok
        go_wp2_with fail
        refine HO.mono ?_
        rintro e w2 ⟨rfl, rfl⟩
        go_wp2
        go_ret2
        refine ⟨_, by rw [E.out]; first | done | rfl, ?_, hb⟩
        rw [rhA_false E.out]
        exact Ints.nil _ _
      | true =>
        have E := Lib.hid hok
        rw [hok] at HO
        clear hok
        go_wp2_with fail
        refine HO.mono ?_
        rintro e w2 ⟨rfl, rfl⟩
        go_wp2
        go_ret2
        refine ⟨_, by rw [E.out]; first | done | rfl, ?_, hb⟩
        rw [rhA_true E.out]
        exact hi

theorem firstIdx_abcd (c : Int) (h0 : 0 ≤ c) (h1 : c ≤ 255) : firstIdx ⟨#[97, 98, 99, 100]⟩ c.toNat.toUInt8 = idxC c := by
  have h : (List.range 256).all (fun n => decide (firstIdx ⟨#[97, 98, 99, 100]⟩ n.toUInt8 = idxC n)) = true := by decide +kernel
  rw [List.all_eq_true] at h
  have := h c.toNat (List.mem_range.2 (by omega))
  rw [decide_eq_true_eq] at this
  rw [this, show ((c.toNat : Nat) : Int) = c by omega]

set_option maxRecDepth 100000 in
theorem indexByteString_any (c : Int) (w : World) (h0 : 0 ≤ c) (h1 : c ≤ 255) :
    Calls Try.prog 91 #[.string ⟨#[97, 98, 99, 100]⟩, .int .u8 c] w fun e w' => e = .returned (.int .i64 (idxC c)) ∧ w = w' := by
  have hf := firstIdx_abcd c h0 h1
  go_enter Try.func91, Try.ntmps91
  go_wp2
  rw [run_callFunc_extern Try.func95 (by kernel_rfl) (by kernel_rfl) (by kernel_rfl) (e := Extern.BytealgIndexByte.indexByte) (by kernel_rfl)]
  rw [run_indexByte_string, hf]
  simp only [Result.andThen]
  rw [Oper.upon_value]
  go_wp2
  go_ret
  exact ⟨rfl, rfl⟩

set_option maxRecDepth 100000 in
theorem indexByte_any (c : Int) (w : World) (h0 : 0 ≤ c) (h1 : c ≤ 255) :
    Calls Try.prog 73 #[.string ⟨#[97, 98, 99, 100]⟩, .int .u8 c] w fun e w' => e = .returned (.int .i64 (idxC c)) ∧ w = w' := by
  go_enter Try.func73, Try.ntmps73
  go_wp2_with fail
  refine (indexByteString_any c _ h0 h1).mono ?_
  rintro e w1 ⟨rfl, rfl⟩
  go_wp2
  go_ret
  exact ⟨rfl, rfl⟩

set_option maxRecDepth 10000 in
theorem readHands_impl (s : ByteArray) (w : World) (hs : s.size ≤ 1048576) :
    Calls Try.prog 42 #[.string s] w fun e w' => ∃ u, e = .returned (.tuple #[u, .bool (okH (readH s))]) ∧ Ints w' w.heap.size u (rhA s) ∧ Below w.heap.size w w' := by
  by_cases hm : 12 < s.size
  · have hf : okH (readH s) = false := okH_short (by rw [readH_len]; exact inB_false (by omega))
    rw [rhA_false hf, hf]
    have hbig : ((s.size : Int)) ≤ 1048576 := by omega
    go_enter Try.func42, Try.ntmps42
    go_wp2
    go_ret2
    exact ⟨_, rfl, Ints.nil _ _, Below.refl _ _⟩
  · obtain ⟨i0, hi, hz0, hz1, hz2⟩ := info_parts Try.info64
    go_enter Try.func42, Try.ntmps42
    go_wp2_with (at_make; refine wpList_make_own _ rfl _ _ 22 rfl w.heap.size 2 i0 (.int .i64 0) 1 Try.underlying22 hi hz0 hz1 _ _ _ s.size rfl rfl rfl (by rw [hz2]; omega) (by unfold maxLen; omega) (Nat.le_refl _) ?_; intro w1 hown hgr; refine Hid.out ?_)
    have hI0 : Ints w1 w.heap.size (.slice (some ⟨w.heap.size, 0, none⟩) 0 s.size) ((readI s).take 0) := hown
    have b1 : Below w.heap.size w w1 := (Below.refl _ _).grown hgr (Nat.le_refl _) (by simp)
    clear hown hgr hi hz0 hz1 hz2
    refine Lib.hid ?_
    go_wp2
    go_loopw [4, 5, 6, 15] (fun v _ _ i wr => ∃ k : Nat, k ≤ s.size ∧ i = .int .i64 k ∧ Ints wr w.heap.size v ((readI s).take k) ∧ Below w.heap.size w wr) (fun _ _ _ i _ => s.size - (intOf i).toNat)
    case atStart => exact ⟨0, Nat.zero_le _, rfl, hI0, b1⟩
    case round =>
      obtain ⟨k, hk, rfl, hi, hb⟩ := hrel
      clear hI0 b1
      by_cases hlt : k < s.size
      · have HX := byteAt_is s k hlt
        have hbk := byteAt_bound s k
        have HC := fun w' => indexByte_any (byteAt s k) w' hbk.1 hbk.2
        rw [← HX] at HC
        have HT := Lib.hid (readI_take s k hlt)
        have HXX := Lib.hid HX
        have hlen : ((readI s).take k).length ≤ 1000000000 := by simp [readI_len]; omega
        have hBs := hb.size
        clear HX hbk
        go_wp2_with (first | (go_at_call 73; refine (HC _).mono ?_; rintro e w' ⟨rfl, rfl⟩) | (at_builtin; refine append_int _ rfl _ _ rfl _ _ _ rfl hi _ rfl hlen hBs ?_; intro v' w2 hi1 hg1; refine Hid.out ?_))
        have hb1 := hi.below_grown hb hBs hg1
        have hx := HXX.out
        rw [hx, HT.out] at hi1
        clear hg1 hi hb hx HC
        refine Lib.hid ?_
        go_wp2
        go_roundw
        case rel => exact ⟨k + 1, by omega, by go_num, hi1, hb1⟩
        case measure => simp [intOf]; omega
      · obtain rfl : k = s.size := by omega
        rw [List.take_of_length_le (by rw [readI_len]; exact Nat.le_refl _)] at hi
        have HO := validHands_impl _ _ _ _ hi
        obtain ⟨q1, q2⟩ := readI_ok s
        rw [q1] at HO
        cases hok : okH (readH s) with
        | false =>
          have E := Lib.hid hok
          rw [hok] at HO
          clear hi hok q1 q2
          go_wp2_with fail
          refine HO.mono ?_
          rintro e w2 ⟨rfl, b2⟩
          have B2 := hb.trans (b2.mono hb.size)
          go_wp2
          go_ret2
          refine ⟨_, by rw [E.out]; first | done | rfl, ?_, B2⟩
          rw [rhA_false E.out]
          exact Ints.nil _ _
        | true =>
          have E := Lib.hid hok
          rw [hok] at HO
          rw [q2 hok] at hi
          clear hok q1 q2
          go_wp2_with fail
          refine HO.mono ?_
          rintro e w2 ⟨rfl, b2⟩
          have B2 := hb.trans (b2.mono hb.size)
          have hi2 := hi.below b2
          go_wp2
          go_ret2
          refine ⟨_, by rw [E.out]; first | done | rfl, ?_, B2⟩
          rw [rhA_true E.out]
          exact hi2
end Go.Proofs.Ytbnmbodnjecajaa
