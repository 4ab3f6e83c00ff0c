/- StateText, the model's and the program's: both answer the text of a state. No conditions. -/
import Derived.Test.YtjndiaefcmjbmaaDoorStJ
import Derived.Test.YtjndiaefcmjbmaaDoorStO
import Derived.Test.YtjndiaefcmjbmaaDoorText
import Derived.Test.YtjndiaefcmjbmaaDoorBldX
namespace Go.Proofs.YtjndiaefcmjbmaaDoor
open Go.RowKit
set_option linter.unusedSimpArgs false
set_option linter.unusedVariables false

/-- the character of a bit -/
def bitB (m t : Nat) : UInt8 := if m / 2 ^ t % 2 = 1 then 49 else 48
/-- the first k characters of the text of a mask -/
def stTx (m k : Nat) : List UInt8 := (List.range k).map (bitB m)
theorem stTx_len (m k : Nat) : (stTx m k).length = k := by simp [stTx]
theorem stTx_step (m k : Nat) : stTx m k ++ [bitB m k] = stTx m (k + 1) := by simp [stTx, List.range_succ]
/-- what StateText answers -/
def stTxA (h m : Int) : ByteArray := if okSt h m then bytesOf (stTx m.toNat h.toNat) else bytesOf []
theorem bitB_one {m t : Nat} (h : m / 2 ^ t % 2 = 1) : bitB m t = 49 := if_pos h
theorem bitB_zero {m t : Nat} (h : ¬ m / 2 ^ t % 2 = 1) : bitB m t = 48 := if_neg h

theorem Bld.under_call {w w' : World} {B b : Nat} {l : List UInt8} (h : Bld w B b l) (hb : Below w.heap.size w w') (hB : B ≤ w.heap.size) : Bld w' B b l := by
  rcases h with ⟨hBb, v, hbk, hown, hne⟩ | ⟨hBb, v, hbk, hown, hne⟩
  · exact .inl ⟨hBb, v, (hb.block b (Array.getElem?_eq_some_iff.1 hbk).1).trans hbk, row_kept hown fun g _ hg => hb.block g hg, hne⟩
  · exact .inr ⟨hBb, v, (hb.block b (Array.getElem?_eq_some_iff.1 hbk).1).trans hbk, row_kept hown fun g _ hg => hb.block g hg, hne⟩

set_option maxRecDepth 10000 in
theorem stText_any (h m : Nat) (w : World) (h1 : 1 ≤ h) (hh : h ≤ 10) (hm : m < 2 ^ h) :
    Calls Tryd.prog 55 #[.agg #[.int .i64 h, .int .i64 m]] w fun e w' => e = .returned (.string (bytesOf (stTx m h))) ∧ Below w.heap.size w w' := by
  have hm4 : m < 1024 := by have := pow_lt_1024 hh; omega
  have HBit := Lib.hid (fun k W (hk : k < h) => lands_any h m k W (by omega) (by omega))
  have hne : stTx m h ≠ [] := by intro e; have := congrArg List.length e; rw [stTx_len] at this; simp at this; omega
  have V := (StTwo.made w (.int .i64 h) (.int .i64 m) 25).below (alT _ (.pointer none) (.slice none 0 0) 116)
  have B0 := (alT w (.int .i64 h) (.int .i64 m) 25).alloc (by simp) (.cells #[.pointer none, .slice none 0 0] 116)
  have hB0 := Bld.fresh (w.alloc (.cells #[.int .i64 h, .int .i64 m] 25))
  rw [show (w.alloc (.cells #[.int .i64 h, .int .i64 m] 25)).heap.size = w.heap.size + 1 from by simp] at hB0
  obtain ⟨W0, hW0⟩ : ∃ W0, W0 = (w.alloc (.cells #[.int .i64 h, .int .i64 m] 25)).alloc (.cells #[.pointer none, .slice none 0 0] 116) := ⟨_, rfl⟩
  rw [← hW0] at V B0 hB0
  have HNE := Lib.hid hne
  clear hm hne
  go_enter Tryd.func55, Tryd.ntmps55
  go_wp2
  rw [← hW0]
  have hS0 : w.heap.size + 1 ≤ W0.heap.size := by rw [hW0]; simp
  clear hW0
  go_loopw [7] (fun i wr => ∃ k : Nat, k ≤ h ∧ i = .int .i64 k ∧ Bld wr (w.heap.size + 1) (w.heap.size + 1) (stTx m k) ∧ StTwo wr w.heap.size (.int .i64 h) (.int .i64 m) ∧ w.heap.size + 1 ≤ wr.heap.size ∧ Below w.heap.size w wr) (fun i _ => h - (intOf i).toNat)
  case atStart => exact ⟨0, Nat.zero_le _, rfl, hB0, V, hS0, B0⟩
  case round =>
    obtain ⟨k, hk, rfl, hB, V1, hsz, hb⟩ := hrel
    clear V B0 hB0 hS0
    have c0 := V1.1
    have c1 := V1.2
    have hlen : (stTx m k).length ≤ 10 := by rw [stTx_len]; omega
    by_cases hlt : k < h
    · have HB := fun W => HBit.out k W hlt
      have HS := Lib.hid (stTx_step m k)
      by_cases hbit : m / 2 ^ k % 2 = 1
      · rw [decide_eq_true hbit] at HB
        rw [bitB_one hbit] at HS
        clear HBit hbit
        generalize stTx m k = T at *
        go_wp2_with fail
        refine (HB _).mono ?_
        rintro e w1 ⟨rfl, b1⟩
        have hB1 := hB.under_call b1 hsz
        have V2 := V1.below b1
        have hb2 := hb.trans (b1.mono hb.size)
        have hs2 := b1.size
        have d0 := V2.1
        have d1 := V2.2
        clear c0 c1 V1 hb hB
        go_wp2_with (go_at_call 93; refine (writeByte_any _ _ T 49 _ _ hB1 rfl (by omega) (by omega)).mono ?_; rintro e w2 ⟨rfl, hB2, hb3⟩; refine Hid.out ?_)
        have V3 := StTwo.block V2 (hb3.block _ (by omega))
        have hs3 := hb3.size
        have hb4 : Below w.heap.size w w2 := hb2.trans (hb3.mono (by omega))
        rw [HS.out] at hB2
        clear d0 d1 V2 hb2 hB1
        refine Lib.hid ?_
        go_wp2
        go_roundw
        case rel => exact ⟨k + 1, by omega, by go_num, hB2, V3, by omega, hb4⟩
        case measure => simp [intOf]; omega
      · rw [decide_eq_false hbit] at HB
        rw [bitB_zero hbit] at HS
        clear HBit hbit
        generalize stTx m k = T at *
        go_wp2_with fail
        refine (HB _).mono ?_
        rintro e w1 ⟨rfl, b1⟩
        have hB1 := hB.under_call b1 hsz
        have V2 := V1.below b1
        have hb2 := hb.trans (b1.mono hb.size)
        have hs2 := b1.size
        have d0 := V2.1
        have d1 := V2.2
        clear c0 c1 V1 hb hB
        go_wp2_with (go_at_call 93; refine (writeByte_any _ _ T 48 _ _ hB1 rfl (by omega) (by omega)).mono ?_; rintro e w2 ⟨rfl, hB2, hb3⟩; refine Hid.out ?_)
        have V3 := StTwo.block V2 (hb3.block _ (by omega))
        have hs3 := hb3.size
        have hb4 : Below w.heap.size w w2 := hb2.trans (hb3.mono (by omega))
        rw [HS.out] at hB2
        clear d0 d1 V2 hb2 hB1
        refine Lib.hid ?_
        go_wp2
        go_roundw
        case rel => exact ⟨k + 1, by omega, by go_num, hB2, V3, by omega, hb4⟩
        case measure => simp [intOf]; omega
    · obtain rfl : k = h := by omega
      clear HBit
      have HC := builderString_some _ _ (stTx m k) wr hB HNE.out
      go_wp2_with (go_at_call 94; refine HC.mono ?_; rintro e w2 ⟨rfl, hb2⟩; refine Hid.out ?_)
      have hb3 := hb.trans (hb2.mono (by omega))
      refine Lib.hid ?_
      go_wp2
      go_ret
      exact ⟨rfl, hb3⟩

theorem stateText_impl (h m : Int) (w : World) (b1 : -9223372036854775808 ≤ m) (b2 : m ≤ 9223372036854775807) :
    Calls Tryd.prog 16 #[.agg #[.int .i64 h, .int .i64 m]] w fun e w' => e = .returned (.string (stTxA h m)) ∧ Below w.heap.size w w' := by
  have HV := fun W => isValid_any h m W b1 b2
  cases hok : okSt h m with
  | false =>
    rw [show stTxA h m = bytesOf [] from by rw [stTxA, hok]; rfl]
    rw [hok] at HV
    go_enter Tryd.func16, Tryd.ntmps16
    go_wp2_with fail
    refine (HV _).mono ?_
    rintro e w1 ⟨rfl, b3⟩
    go_wp2
    go_ret
    exact ⟨rfl, by first | exact b3 | exact (two_kept b3).2.2⟩
  | true =>
    rw [show stTxA h m = bytesOf (stTx m.toNat h.toNat) from by rw [stTxA, hok]; rfl]
    rw [hok] at HV
    obtain ⟨a, b, rfl, rfl, h1, h2, h3⟩ := okSt_nat hok
    rw [Int.toNat_natCast, Int.toNat_natCast]
    have HT := fun W => stText_any a b W h1 h2 h3
    generalize bytesOf (stTx b a) = T at *
    go_enter Tryd.func16, Tryd.ntmps16
    go_wp2_with fail
    refine (HV _).mono ?_
    rintro e w1 ⟨rfl, b3⟩
    obtain ⟨c0, c1, b3⟩ := two_kept b3
    go_wp2_with fail
    refine (HT _).mono ?_
    rintro e w2 ⟨rfl, b4⟩
    go_wp2
    go_ret
    exact ⟨rfl, b3.trans (b4.mono b3.size)⟩
end Go.Proofs.YtjndiaefcmjbmaaDoor
