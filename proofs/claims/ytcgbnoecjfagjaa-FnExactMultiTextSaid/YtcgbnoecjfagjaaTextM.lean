/- Multiplex: MultiText, the model's and the program's: both answer the text of a pattern. Conditions: beats of at most 10^7 throws for the program's. -/
import Derived.Test.YtcgbnoecjfagjaaTextG
import Derived.Test.YtcgbnoecjfagjaaRotM
import Derived.Test.YtcgbnoecjfagjaaValidM
namespace Go.Proofs.Ytcgbnoecjfagjaa
open Go.RowKit
set_option linter.unusedSimpArgs false
set_option linter.unusedVariables false

/-- a text, a bracket and a text -/
def pre2 (T X : List UInt8) : List UInt8 := (T ++ [91]) ++ X

/-! ### the model's -/
set_option maxRecDepth 10000 in
theorem l04Digit_any (x : Int) (w : World) (h0 : 0 ≤ x) (h1 : x ≤ 15) :
    Calls Try.prog 76 #[.int .i64 x] w fun e w' => e = .returned (.string (bytesOf [digB x])) ∧ w' = w := by
  have hsl := fun wx => slice_digit x h0 h1 wx
  have hw : IntKind.i64.wrap (x + 1) = x + 1 := IntWalk.i64_in _ (by omega)
  go_enter Try.func76, Try.ntmps76
  go_wp2
  go_ret
  exact ⟨rfl, rfl⟩

set_option maxRecDepth 10000 in
set_option maxHeartbeats 1000000 in
theorem l04Text_row (p : Addr) (g cap n : Nat) (E : TypeId) (B C : Nat) (pss : List (List Int)) (w : World) (hp : w.cell? p = some (.slice (some ⟨g, 0, none⟩) n cap)) (h : Grid E w B C (.slice (some ⟨g, 0, none⟩) n cap) pss) (hn : n = pss.length) (hg : g < w.heap.size) (hs : shapeL pss = true) :
    Calls Try.prog 51 #[.pointer (some p)] w fun e w' => e = .returned (.string (bytesOf (textG pss))) ∧ Below w.heap.size w w' := by
  have hpl := cell_block hp
  have hn2 : n ≤ 12 := by rw [hn]; exact (shapeL_num hs).2
  have HROW := Lib.hid (fun W (hW : Below w.heap.size w W) => (h.rowsI hn hs).below hg hW)
  have HTK := Lib.hid (fun k (hk : k < n) => textG_take pss k (by omega))
  have HTL := Lib.hid (fun k => textG_takes hs k)
  have HTH := Lib.hid (fun k (hk : k < n) => rowOk_throws (shapeL_at hs k (by omega)))
  have HFIN : Hid (pss.take n = pss) := List.take_of_length_le (by omega)
  clear h hs hn
  go_enter Try.func51, Try.ntmps51
  go_wp2
  go_loopw [3, 4] (fun t i wr => ∃ k : Nat, k ≤ n ∧ i = .int .i64 k ∧ t = .string (bytesOf (textG (pss.take k))) ∧ Below w.heap.size w wr) (fun _ i _ => n - (intOf i).toNat)
  case atStart => exact ⟨0, Nat.zero_le _, rfl, rfl, Below.refl _ _⟩
  case round =>
    obtain ⟨k, hk, rfl, rfl, hb⟩ := hrel
    have hp1 : wr.cell? p = some (.slice (some ⟨g, 0, none⟩) n cap) := (hb.cell hpl).trans hp
    by_cases hlt : k < n
    · obtain ⟨gb, cb, m, hmm, hcb0, hib, h1, h4⟩ := HROW.out w (Below.refl _ _) k hlt
      have hcb := (hb.cell (p := ⟨g, k, none⟩) hg).trans hcb0
      have hrow := HTK.out k hlt
      have hth := HTH.out k hlt
      have hTl := HTL.out k
      have HCJ := Lib.hid (fun W (hW : Below w.heap.size w W) j (hj : j < m) => show W.cell? ⟨gb, j, none⟩ = some (.int .i64 ((pss.getD k []).getD j 0)) from (hib.below hW).cell j (by omega))
      generalize pss.getD k [] = row at *
      generalize textG (pss.take k) = T at *
      have HMM := Lib.hid hmm
      clear HROW HTK HTL HTH HFIN hmm hib hcb0
      by_cases hm1 : 1 < m
      · have hmi : ((1 : Int) < (m : Int)) := by omega
        have hrt := @rowT_many row (by have := HMM.out; omega)
        have hcat1 : ∀ wx, (Op.stringOp .add (bytesOf T) ⟨#[91]⟩).run Try.prog wx = .ok (.string (bytesOf (T ++ [91]))) wx := fun wx => concat_run T 91 (by omega) wx
        have HROWT := Lib.hid hrt
        clear hrt
        go_wp2
        go_loopw [3, 6] (fun t i wi => ∃ j : Nat, j ≤ m ∧ i = .int .i64 j ∧ t = .string (bytesOf (pre2 T (textL (row.take j)))) ∧ Below w.heap.size w wi) (fun _ i _ => m - (intOf i).toNat)
        case atStart => exact ⟨0, Nat.zero_le _, rfl, by simp [textL, pre2], hb⟩
        case round =>
          clear hcat1
          clear hb hp1 hcb
          obtain ⟨j, hj, rfl, rfl, hb⟩ := hrel
          have hp1 : wr.cell? p = some (.slice (some ⟨g, 0, none⟩) n cap) := (hb.cell hpl).trans hp
          by_cases hjm : j < m
          · have cj : wr.cell? ⟨gb, j, none⟩ = some (.int .i64 (row.getD j 0)) := HCJ.out wr hb j hjm
            obtain ⟨f1, f2⟩ := hth j (by have := HMM.out; omega)
            have ht := textL_take row j (by have := HMM.out; omega)
            have hlen : (textL (row.take j)).length ≤ 4 := by rw [textL_len, List.length_take]; have := HMM.out; omega
            have HD := fun W => l04Digit_any (row.getD j 0) W f1 f2
            have hcat : ∀ wx, (Op.stringOp .add (bytesOf (pre2 T (textL (row.take j)))) (bytesOf [digB (row.getD j 0)])).run Try.prog wx = .ok (.string (bytesOf (pre2 T (textL (row.take (j + 1)))))) wx := fun wx => by
              have := concat_run ((T ++ [91]) ++ textL (row.take j)) (digB (row.getD j 0)) (by simp; omega) wx
              rw [List.append_assoc (T ++ [91]), ht] at this
              exact this
            generalize textL (row.take j) = X at *
            generalize hY : textL (row.take (j + 1)) = Y at *
            have HY := Lib.hid hY
            clear hY
            clear ht
            generalize row.getD j 0 = x at *
            clear hth
            go_wp2_with fail
            refine (HD _).mono ?_
            rintro e w' ⟨rfl, rfl⟩
            go_wp2
            go_roundw
            case rel => exact ⟨j + 1, by omega, by go_num, by rw [HY.out], hb⟩
            case measure => simp [intOf]; omega
          · obtain rfl : j = m := by omega
            have hfull : row.take j = row := List.take_of_length_le (by have := HMM.out; omega)
            have hcat2 : ∀ wx, (Op.stringOp .add (bytesOf (pre2 T (textL row))) ⟨#[93]⟩).run Try.prog wx = .ok (.string (bytesOf (T ++ rowT row))) wx := fun wx => by
              have := concat_run (T ++ [91] ++ textL row) 93 (by rw [List.length_append, textL_len]; have := HMM.out; simp; omega) wx
              rw [HROWT.out]
              rw [show T ++ [91] ++ textL row ++ [93] = T ++ (91 :: (textL row ++ [93])) by simp] at this
              exact this
            rw [hfull]
            generalize textL row = X at *
            have HH := Lib.hid hrow
            clear hrow hth hfull
            go_wp2
            go_roundw
            case rel => exact ⟨k + 1, by omega, by go_num, by rw [HH.out], hb⟩
            case measure => simp [intOf]; omega
      · have hmi : ¬ ((1 : Int) < (m : Int)) := by omega
        have hrt := @rowT_one row (by have := HMM.out; omega)
        have HROWT := Lib.hid hrt
        clear hrt
        go_wp2
        go_loopw [3, 6] (fun t i wi => ∃ j : Nat, j ≤ m ∧ i = .int .i64 j ∧ t = .string (bytesOf (T ++ textL (row.take j))) ∧ Below w.heap.size w wi) (fun _ i _ => m - (intOf i).toNat)
        case atStart => exact ⟨0, Nat.zero_le _, rfl, by simp [textL], hb⟩
        case round =>
          clear hb hp1 hcb
          obtain ⟨j, hj, rfl, rfl, hb⟩ := hrel
          have hp1 : wr.cell? p = some (.slice (some ⟨g, 0, none⟩) n cap) := (hb.cell hpl).trans hp
          by_cases hjm : j < m
          · have cj : wr.cell? ⟨gb, j, none⟩ = some (.int .i64 (row.getD j 0)) := HCJ.out wr hb j hjm
            obtain ⟨f1, f2⟩ := hth j (by have := HMM.out; omega)
            have ht := textL_take row j (by have := HMM.out; omega)
            have hlen : (textL (row.take j)).length ≤ 4 := by rw [textL_len, List.length_take]; have := HMM.out; omega
            have HD := fun W => l04Digit_any (row.getD j 0) W f1 f2
            have hcat : ∀ wx, (Op.stringOp .add (bytesOf (T ++ textL (row.take j))) (bytesOf [digB (row.getD j 0)])).run Try.prog wx = .ok (.string (bytesOf (T ++ textL (row.take (j + 1))))) wx := fun wx => by
              have := concat_run (T ++ textL (row.take j)) (digB (row.getD j 0)) (by simp; omega) wx
              rw [List.append_assoc T, ht] at this
              exact this
            generalize textL (row.take j) = X at *
            generalize hY : textL (row.take (j + 1)) = Y at *
            have HY := Lib.hid hY
            clear hY
            clear ht
            generalize row.getD j 0 = x at *
            clear hth
            go_wp2_with fail
            refine (HD _).mono ?_
            rintro e w' ⟨rfl, rfl⟩
            go_wp2
            go_roundw
            case rel => exact ⟨j + 1, by omega, by go_num, by rw [HY.out], hb⟩
            case measure => simp [intOf]; omega
          · obtain rfl : j = m := by omega
            have hfull : row.take j = row := List.take_of_length_le (by have := HMM.out; omega)
            rw [hfull]
            have HH := Lib.hid hrow
            clear hrow hth hfull
            go_wp2
            go_roundw
            case rel => exact ⟨k + 1, by omega, by go_num, by rw [HH.out, HROWT.out], hb⟩
            case measure => simp [intOf]; omega
    · obtain rfl : k = n := by omega
      rw [HFIN.out]
      clear HROW HTK HTL HTH HFIN
      go_wp2
      go_ret
      exact ⟨rfl, hb⟩

theorem l04Text_any (p : Addr) (v : Value) (E : TypeId) (B C : Nat) (pss : List (List Int)) (w : World) (hp : w.cell? p = some v) (h : Grid E w B C v pss) (hs : shapeL pss = true) :
    Calls Try.prog 51 #[.pointer (some p)] w fun e w' => e = .returned (.string (bytesOf (textG pss))) ∧ Below w.heap.size w w' := by
  have h1 := (shapeL_num hs).1
  obtain ⟨g, cap, rfl, _, hg, _, hm⟩ := h.shape.resolve_left fun e => by rw [e.2] at h1; simp at h1
  exact l04Text_row p g cap pss.length E B C pss w hp h rfl hg hs

set_option maxRecDepth 10000 in
theorem multiText_spec (v : Value) (E : TypeId) (B C : Nat) (pss : List (List Int)) (w : World) (h : Grid E w B C v pss) :
    Calls Try.prog 26 #[.agg #[v]] w fun e w' => e = .returned (.string (textM pss)) ∧ Below w.heap.size w w' := by
  have HO := fun W (hW : Below w.heap.size w W) (hp : W.cell? ⟨w.heap.size, 0, none⟩ = some v) => l04Ok_any _ v E B C pss W hp (h.below hW)
  cases hok : okM pss with
  | false =>
    rw [textM_false hok]
    rw [hok] at HO
    clear h hok
    go_enter Try.func26, Try.ntmps26
    go_wp2_with fail
    refine (HO _ (below_alM (Below.refl _ _) _) (by simp)).mono ?_
    rintro e w1 ⟨rfl, b1⟩
    replace b1 := (below_alM (Below.refl w.heap.size w) _).trans (b1.mono (by simp))
    go_wp2
    go_ret
    exact ⟨rfl, b1⟩
  | true =>
    rw [textM_true hok]
    have HT := fun W (hW : Below w.heap.size w W) (hp : W.cell? ⟨w.heap.size, 0, none⟩ = some v) => l04Text_any _ v E B C pss W hp (h.below hW) (okM_shape hok)
    rw [hok] at HO
    clear h hok
    go_enter Try.func26, Try.ntmps26
    go_wp2_with fail
    refine (HO _ (below_alM (Below.refl _ _) _) (by simp)).mono ?_
    rintro e w1 ⟨rfl, b1⟩
    have c1 : w1.cell? ⟨w.heap.size, 0, none⟩ = some v := by rw [b1.cell (by simp)]; simp
    replace b1 := (below_alM (Below.refl w.heap.size w) _).trans (b1.mono (by simp))
    clear HO
    go_wp2_with fail
    refine (HT _ b1 c1).mono ?_
    rintro e w2 ⟨rfl, b2⟩
    replace b1 := b1.trans (b2.mono b1.size)
    clear HT c1
    go_wp2
    go_ret
    exact ⟨rfl, b1⟩

/-! ### the program's -/
set_option maxRecDepth 10000 in
set_option maxHeartbeats 1000000 in
theorem text_row (g cap n : Nat) (E : TypeId) (B C : Nat) (pss : List (List Int)) (w : World) (h : Grid E w B C (.slice (some ⟨g, 0, none⟩) n cap) pss) (hn : n = pss.length) (hg : g < w.heap.size) (hs : shapeL pss = true) :
    Calls Try.prog 48 #[.slice (some ⟨g, 0, none⟩) n cap] w fun e w' => e = .returned (.string (bytesOf (textG pss))) ∧ Below w.heap.size w w' := by
  have hn2 : n ≤ 12 := by rw [hn]; exact (shapeL_num hs).2
  have HROW := Lib.hid (h.rowsI hn hs)
  have HTK := Lib.hid (fun k (hk : k < n) => textG_take pss k (by omega))
  have HTL := Lib.hid (fun k => textG_takes hs k)
  have HTH := Lib.hid (fun k (hk : k < n) => rowOk_throws (shapeL_at hs k (by omega)))
  have HFIN : Hid (pss.take n = pss) := List.take_of_length_le (by omega)
  have HPOS := Lib.hid (textG_pos hs)
  have hB0 : Bld (w.alloc (.cells #[.pointer none, .slice none 0 0] 97)) w.heap.size w.heap.size (textG (pss.take 0)) := Bld.fresh w
  have hb0 : Below w.heap.size w (w.alloc (.cells #[.pointer none, .slice none 0 0] 97)) := (Below.refl _ _).alloc (Nat.le_refl _) _
  clear h hs hn
  go_enter Try.func48, Try.ntmps48
  go_wp2
  go_loopw [10] (fun i wr => ∃ k : Nat, k ≤ n ∧ i = .int .i64 k ∧ Bld wr w.heap.size w.heap.size (textG (pss.take k)) ∧ Below w.heap.size w wr) (fun i _ => n - (intOf i).toNat)
  case atStart => exact ⟨0, Nat.zero_le _, rfl, hB0, hb0⟩
  case round =>
    clear hB0 hb0
    obtain ⟨k, hk, rfl, hB, hb⟩ := hrel
    have hsz := hb.size
    by_cases hlt : k < n
    · obtain ⟨gb, cb, m, hmm, hcb0, hib, h1, h4⟩ := HROW.out k hlt
      have hcb := (hb.cell (p := ⟨g, k, none⟩) hg).trans hcb0
      have hrow := HTK.out k hlt
      have hth := HTH.out k hlt
      have hTl := HTL.out k
      have HCJ := Lib.hid (fun W (hW : Below w.heap.size w W) j (hj : j < m) => show W.cell? ⟨gb, j, none⟩ = some (.int .i64 ((pss.getD k []).getD j 0)) from (hib.below hW).cell j (by omega))
      generalize pss.getD k [] = row at *
      generalize textG (pss.take k) = T at *
      have HMM := Lib.hid hmm
      clear HROW HTK HTL HTH HFIN hmm hib hcb0 HPOS
      by_cases hm1 : 1 < m
      · have hmi : ((1 : Int) < (m : Int)) := by omega
        have HROWT := Lib.hid (@rowT_many row (by have := HMM.out; omega))
        go_wp2_with fail
        refine (writeByte_any _ _ T 91 _ _ hB rfl (by omega) hsz).mono ?_
        rintro e w2 ⟨rfl, hB2, hb2⟩
        replace hb := hb.trans hb2
        clear hB hb2 hcb hsz
        go_wp2
        go_loopw [20] (fun i wi => ∃ j : Nat, j ≤ m ∧ i = .int .i64 j ∧ Bld wi w.heap.size w.heap.size (T ++ [91] ++ textL (row.take j)) ∧ Below w.heap.size w wi) (fun i _ => m - (intOf i).toNat)
        case atStart => exact ⟨0, Nat.zero_le _, rfl, by simpa [textL] using hB2, hb⟩
        case round =>
          clear hb hB2
          obtain ⟨j, hj, rfl, hB, hb⟩ := hrel
          have hsz := hb.size
          by_cases hjm : j < m
          · have cj : wr.cell? ⟨gb, j, none⟩ = some (.int .i64 (row.getD j 0)) := HCJ.out wr hb j hjm
            obtain ⟨f1, f2⟩ := hth j (by have := HMM.out; omega)
            have ht := textL_take row j (by have := HMM.out; omega)
            have hlen : (textL (row.take j)).length ≤ 4 := by rw [textL_len, List.length_take]; have := HMM.out; omega
            have hix := fun wx => index_digit (row.getD j 0) f1 f2 wx
            have HT := Lib.hid ht
            generalize row.getD j 0 = x at *
            clear hth ht
            go_wp2_with (go_at_call 73; refine (writeByte_any _ _ (T ++ [91] ++ textL (row.take j)) (digB x) _ _ hB rfl (by simp; omega) hsz).mono ?_; rintro e w2 ⟨rfl, hB2, hb2⟩; refine Hid.out ?_)
            rw [List.append_assoc, HT.out] at hB2
            replace hb := hb.trans hb2
            clear hb2 hB hix
            refine Lib.hid ?_
            go_wp2
            go_roundw
            case rel => exact ⟨j + 1, by omega, by go_num, hB2, hb⟩
            case measure => simp [intOf]; omega
          · obtain rfl : j = m := by omega
            have hfull : row.take j = row := List.take_of_length_le (by have := HMM.out; omega)
            rw [hfull] at hB
            have hlen : (textL row).length ≤ 4 := by rw [textL_len]; have := HMM.out; omega
            clear hth hfull
            go_wp2_with fail
            refine (writeByte_any _ _ (T ++ [91] ++ textL row) 93 _ _ hB rfl (by simp; omega) hsz).mono ?_
            rintro e w2 ⟨rfl, hB2, hb2⟩
            replace hb := hb.trans hb2
            have hB3 : Bld w2 w.heap.size w.heap.size (textG (pss.take (k + 1))) := by
              rw [hrow, HROWT.out]
              simpa using hB2
            clear hB hb2 hB2 hrow
            go_wp2
            go_roundw
            case rel => exact ⟨k + 1, by omega, by go_num, hB3, hb⟩
            case measure => simp [intOf]; omega
      · have hmi : ¬ ((1 : Int) < (m : Int)) := by omega
        have HROWT := Lib.hid (@rowT_one row (by have := HMM.out; omega))
        go_wp2
        go_loopw [20] (fun i wi => ∃ j : Nat, j ≤ m ∧ i = .int .i64 j ∧ Bld wi w.heap.size w.heap.size (T ++ textL (row.take j)) ∧ Below w.heap.size w wi) (fun i _ => m - (intOf i).toNat)
        case atStart => exact ⟨0, Nat.zero_le _, rfl, by simpa [textL] using hB, hb⟩
        case round =>
          clear hb hB hsz hcb
          obtain ⟨j, hj, rfl, hB, hb⟩ := hrel
          have hsz := hb.size
          by_cases hjm : j < m
          · have cj : wr.cell? ⟨gb, j, none⟩ = some (.int .i64 (row.getD j 0)) := HCJ.out wr hb j hjm
            obtain ⟨f1, f2⟩ := hth j (by have := HMM.out; omega)
            have ht := textL_take row j (by have := HMM.out; omega)
            have hlen : (textL (row.take j)).length ≤ 4 := by rw [textL_len, List.length_take]; have := HMM.out; omega
            have hix := fun wx => index_digit (row.getD j 0) f1 f2 wx
            have HT := Lib.hid ht
            generalize row.getD j 0 = x at *
            clear hth ht
            go_wp2_with (go_at_call 73; refine (writeByte_any _ _ (T ++ textL (row.take j)) (digB x) _ _ hB rfl (by simp; omega) hsz).mono ?_; rintro e w2 ⟨rfl, hB2, hb2⟩; refine Hid.out ?_)
            rw [List.append_assoc, HT.out] at hB2
            replace hb := hb.trans hb2
            clear hb2 hB hix
            refine Lib.hid ?_
            go_wp2
            go_roundw
            case rel => exact ⟨j + 1, by omega, by go_num, hB2, hb⟩
            case measure => simp [intOf]; omega
          · obtain rfl : j = m := by omega
            have hfull : row.take j = row := List.take_of_length_le (by have := HMM.out; omega)
            rw [hfull] at hB
            have hB3 : Bld wr w.heap.size w.heap.size (textG (pss.take (k + 1))) := by
              rw [hrow, HROWT.out]
              exact hB
            clear hB hrow hth hfull
            go_wp2
            go_roundw
            case rel => exact ⟨k + 1, by omega, by go_num, hB3, hb⟩
            case measure => simp [intOf]; omega
    · obtain rfl : k = n := by omega
      rw [HFIN.out] at hB
      have HC := builderString_some _ _ (textG pss) wr hB HPOS.out
      clear HROW HTK HTL HTH HFIN HPOS hB
      go_wp2_with fail
      refine HC.mono ?_
      rintro e w2 ⟨rfl, hb2⟩
      replace hb := hb.trans hb2
      clear HC hb2
      go_wp2
      go_ret
      exact ⟨rfl, hb⟩

theorem text_any (v : Value) (E : TypeId) (B C : Nat) (pss : List (List Int)) (w : World) (h : Grid E w B C v pss) (hs : shapeL pss = true) :
    Calls Try.prog 48 #[v] w fun e w' => e = .returned (.string (bytesOf (textG pss))) ∧ Below w.heap.size w w' := by
  have h1 := (shapeL_num hs).1
  obtain ⟨g, cap, rfl, _, hg, _, hm⟩ := h.shape.resolve_left fun e => by rw [e.2] at h1; simp at h1
  exact text_row g cap pss.length E B C pss w h rfl hg hs

set_option maxRecDepth 10000 in
theorem multiText_impl (v : Value) (E : TypeId) (B C : Nat) (pss : List (List Int)) (w : World) (h : Grid E w B C v pss) (hsm : Small pss) :
    Calls Try.prog 22 #[.agg #[v]] w fun e w' => e = .returned (.string (textM pss)) ∧ Below w.heap.size w w' := by
  have HO := fun W (hW : Below w.heap.size w W) => validMulti_impl v E B C pss W (h.below hW) hsm
  cases hok : okM pss with
  | false =>
    rw [textM_false hok]
    rw [hok] at HO
    clear h hok
    go_enter Try.func22, Try.ntmps22
    go_wp2_with fail
    refine (HO _ (below_alM (Below.refl _ _) _)).mono ?_
    rintro e w1 ⟨rfl, b1⟩
    replace b1 := (below_alM (Below.refl w.heap.size w) _).trans (b1.mono (by simp))
    go_wp2
    go_ret
    exact ⟨rfl, b1⟩
  | true =>
    rw [textM_true hok]
    have HT := fun W (hW : Below w.heap.size w W) => text_any v E B C pss W (h.below hW) (okM_shape hok)
    rw [hok] at HO
    clear h hok
    go_enter Try.func22, Try.ntmps22
    go_wp2_with fail
    refine (HO _ (below_alM (Below.refl _ _) _)).mono ?_
    rintro e w1 ⟨rfl, b1⟩
    have c1 : w1.cell? ⟨w.heap.size, 0, none⟩ = some v := by rw [b1.cell (by simp)]; simp
    replace b1 := (below_alM (Below.refl w.heap.size w) _).trans (b1.mono (by simp))
    clear HO
    go_wp2_with fail
    refine (HT _ b1).mono ?_
    rintro e w2 ⟨rfl, b2⟩
    replace b1 := b1.trans (b2.mono b1.size)
    clear HT c1
    go_wp2
    go_ret
    exact ⟨rfl, b1⟩
end Go.Proofs.Ytcgbnoecjfagjaa
