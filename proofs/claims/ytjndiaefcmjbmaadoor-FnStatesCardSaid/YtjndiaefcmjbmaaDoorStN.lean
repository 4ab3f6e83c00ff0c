/- The drawn state and the drawn pattern of low throws of FnStates; a state's text leads back to it. No conditions. -/
import Derived.Test.YtjndiaefcmjbmaaDoorStM
import Derived.Test.YtjndiaefcmjbmaaDoorStX
import Derived.Test.YtjndiaefcmjbmaaDoorStRd
import Derived.Test.YtjndiaefcmjbmaaDoorDrawD
import Derived.Test.YtjndiaefcmjbmaaDoorHigh
namespace Go.Proofs.YtjndiaefcmjbmaaDoor
open Go.RowKit
set_option linter.unusedSimpArgs false
set_option linter.unusedVariables false

theorem bytes_at (l : List UInt8) (i : Nat) (hi : i < l.length) : byteAt (bytesOf l) i = ((l[i]).toNat : Int) := by
  rw [← byteAt_is (bytesOf l) i hi]; rfl
theorem text_back {h m : Nat} (h1 : 1 ≤ h) (hh : h ≤ 10) (hm : m < 2 ^ h) : rdOk (stTxA h m) = true ∧ rdA (stTxA h m) = h ∧ rdB (stTxA h m) = m := by
  have e : stTxA h m = bytesOf (stTx m h) := by rw [stTxA, if_pos (okSt_mk h1 hh hm), Int.toNat_natCast, Int.toNat_natCast]
  have hs : (bytesOf (stTx m h)).size = h := by rw [bytesOf_size, stTx_len]
  have hat : ∀ i, i < h → byteAt (bytesOf (stTx m h)) i = ((bitB m i).toNat : Int) := fun i hi => by
    rw [bytes_at _ _ (by rw [stTx_len]; exact hi)]
    simp [stTx]
  have hbit : ∀ i, i < h → (byteAt (bytesOf (stTx m h)) i = 49 ↔ m / 2 ^ i % 2 = 1) := fun i hi => by
    rw [hat i hi]
    by_cases hb : m / 2 ^ i % 2 = 1
    · rw [bitB_one hb]; exact ⟨fun _ => hb, fun _ => rfl⟩
    · rw [bitB_zero hb]; exact ⟨fun h => absurd h (by decide), fun h => absurd h hb⟩
  have hok : rdOk (bytesOf (stTx m h)) = true := by
    refine rdOk_true (by rw [hs]; exact inB_true ⟨by omega, by omega⟩) fun i hi => ?_
    rw [hs] at hi
    unfold stCh
    by_cases hb : m / 2 ^ i % 2 = 1
    · exact .inr ((hbit i hi).2 hb)
    · left; rw [hat i hi, bitB_zero hb]; rfl
  rw [e]
  refine ⟨hok, by rw [rdA_t hok, hs], ?_⟩
  rw [rdB_t hok, hs]
  congr 1
  refine Nat.eq_of_testBit_eq fun i => ?_
  unfold rdM
  rw [maskU_testBit]
  by_cases hi : i < h
  · rw [decide_eq_true hi, Bool.true_and, Nat.testBit_eq_decide_div_mod_eq]
    exact decide_eq_decide.2 (hbit i hi)
  · rw [decide_eq_false hi, Bool.false_and, Nat.testBit_lt_two_pow (Nat.lt_of_lt_of_le hm (Nat.pow_le_pow_right (by decide) (by omega)))]

set_option maxRecDepth 10000 in
set_option maxHeartbeats 1000000 in
theorem l08Draw_any (a : Option Addr) (len cap b k N : Nat) (zs : List Int) (w : World) (hs : Src w b k (.slice a len cap)) (hr : IsRow .u8 w a len cap zs) (hab : ∀ x, a = some x → 0 < zs.length → x.block ≠ b) (hlen : len ≤ 1000000000) (hk : k ≤ 1000000) (hN : N ≤ b) :
    Calls Tryd.prog 48 #[.pointer (some ⟨b, 0, none⟩)] w fun e w' => ∃ h m : Nat, e = .returned (.agg #[.int .i64 h, .int .i64 m]) ∧ 1 ≤ h ∧ h ≤ 7 ∧ m < 2 ^ h ∧ Below N w w' := by
  have hbl := hs.lt
  have b0 := alT w (.int .i64 0) (.int .i64 0) 25
  have B0 : Below N w (w.alloc (.cells #[.int .i64 0, .int .i64 0] 25)) := (Below.refl _ w).alloc (by omega) _
  have s0 := hs.keep (World.grownBy_alloc w (.cells #[.int .i64 0, .int .i64 0] 25) none) (by simp)
  have r0 := hr.below b0
  have P0 := Blk.made w #[.int .i64 0, .int .i64 0] 25
  have HP := pick_any a len cap b k 7 zs _ s0 r0 hlen (by omega) (by omega)
  clear b0 s0 hs hr
  go_enter Tryd.func48, Tryd.ntmps48
  go_wp2_with fail
  refine HP.mono ?_
  rintro e w1 ⟨x, rfl, hx, s1, g1⟩
  have r1 := r0.grown g1 fun y hy h0 => by simpa using hab y hy h0
  have P1 := P0.block (g1.block w.heap.size P0.lt (by intro e; cases e; omega))
  have B1 := B0.grown g1 (by have := B0.size; omega) (by intro q hq; cases hq; exact hN)
  clear HP r0 P0 B0 g1
  have hxs : x = 0 ∨ x = 1 ∨ x = 2 ∨ x = 3 ∨ x = 4 ∨ x = 5 ∨ x = 6 := by omega
  have HP := Lib.hid (fun m (hm : m ≤ 200) => pick_any a len cap b (k + 1) m zs w1 s1 r1 hlen (by omega) hm)
  have hbw := P1.lt
  clear s1 r1 hx
  rcases hxs with rfl | rfl | rfl | rfl | rfl | rfl | rfl
  all_goals
    go_wp2_with fail
    refine (HP.out _ (by decide)).mono ?_
    rintro e w2 ⟨y, rfl, hy, _, g2⟩
    have P2 := P1.block (g2.block w.heap.size P1.lt (by intro e; cases e; omega))
    have B2 := B1.grown g2 (by omega) (by intro q hq; cases hq; exact hN)
    have c0 := P2.cell 0
    have c1 := P2.cell 1
    have f0 := P2.free 0
    have f1 := P2.free 1
    simp only [List.getElem?_cons_zero, List.getElem?_cons_succ] at c0 c1
    clear P1 B1 P2 g2 HP
    obtain ⟨q, rfl⟩ : ∃ q : Nat, y = q := ⟨y.toNat, by omega⟩
    go_wp2
  · obtain ⟨r0, r1⟩ := stc_set (.int .i64 1) (.int .i64 q) c0 c1
    refine bodyPost_ret (v := .agg #[.int .i64 1, .int .i64 q]) (by simp [results, Tryd.results48, go_sem, r0, r1]) rfl ?_
    exact ⟨1, q, rfl, by decide, by decide, by rw [show (2 : Nat) ^ 1 = 2 from rfl]; omega, two_below B2 (by omega) _ _⟩
  · obtain ⟨r0, r1⟩ := stc_set (.int .i64 2) (.int .i64 q) c0 c1
    refine bodyPost_ret (v := .agg #[.int .i64 2, .int .i64 q]) (by simp [results, Tryd.results48, go_sem, r0, r1]) rfl ?_
    exact ⟨2, q, rfl, by decide, by decide, by rw [show (2 : Nat) ^ 2 = 4 from rfl]; omega, two_below B2 (by omega) _ _⟩
  · obtain ⟨r0, r1⟩ := stc_set (.int .i64 3) (.int .i64 q) c0 c1
    refine bodyPost_ret (v := .agg #[.int .i64 3, .int .i64 q]) (by simp [results, Tryd.results48, go_sem, r0, r1]) rfl ?_
    exact ⟨3, q, rfl, by decide, by decide, by rw [show (2 : Nat) ^ 3 = 8 from rfl]; omega, two_below B2 (by omega) _ _⟩
  · obtain ⟨r0, r1⟩ := stc_set (.int .i64 4) (.int .i64 q) c0 c1
    refine bodyPost_ret (v := .agg #[.int .i64 4, .int .i64 q]) (by simp [results, Tryd.results48, go_sem, r0, r1]) rfl ?_
    exact ⟨4, q, rfl, by decide, by decide, by rw [show (2 : Nat) ^ 4 = 16 from rfl]; omega, two_below B2 (by omega) _ _⟩
  · obtain ⟨r0, r1⟩ := stc_set (.int .i64 5) (.int .i64 q) c0 c1
    refine bodyPost_ret (v := .agg #[.int .i64 5, .int .i64 q]) (by simp [results, Tryd.results48, go_sem, r0, r1]) rfl ?_
    exact ⟨5, q, rfl, by decide, by decide, by rw [show (2 : Nat) ^ 5 = 32 from rfl]; omega, two_below B2 (by omega) _ _⟩
  · obtain ⟨r0, r1⟩ := stc_set (.int .i64 6) (.int .i64 q) c0 c1
    refine bodyPost_ret (v := .agg #[.int .i64 6, .int .i64 q]) (by simp [results, Tryd.results48, go_sem, r0, r1]) rfl ?_
    exact ⟨6, q, rfl, by decide, by decide, by rw [show (2 : Nat) ^ 6 = 64 from rfl]; omega, two_below B2 (by omega) _ _⟩
  · obtain ⟨r0, r1⟩ := stc_set (.int .i64 7) (.int .i64 q) c0 c1
    refine bodyPost_ret (v := .agg #[.int .i64 7, .int .i64 q]) (by simp [results, Tryd.results48, go_sem, r0, r1]) rfl ?_
    exact ⟨7, q, rfl, by decide, by decide, by rw [show (2 : Nat) ^ 7 = 128 from rfl]; omega, two_below B2 (by omega) _ _⟩

set_option maxRecDepth 10000 in
set_option maxHeartbeats 1000000 in
theorem a2State_any (a : Option Addr) (len cap : Nat) (zs : List Int) (w : World) (hr : IsRow .u8 w a len cap zs) (hlen : len ≤ 3000) :
    Calls Tryd.prog 12 #[.slice a len cap] w fun e w' => ∃ h m : Nat, e = .returned (.agg #[.int .i64 h, .int .i64 m]) ∧ 1 ≤ h ∧ h ≤ 7 ∧ m < 2 ^ h ∧ Below w.heap.size w w' := by
  have b0 := alT w (.int .i64 0) (.int .i64 0) 25
  have r0 := hr.below b0
  have P0 := Blk.made w #[.int .i64 0, .int .i64 0] 25
  have z0 : (w.alloc (.cells #[.int .i64 0, .int .i64 0] 25)).heap.size = w.heap.size + 1 := by simp
  have hab : ∀ x, a = some x → 0 < zs.length → x.block ≠ w.heap.size + 1 := by
    intro x hx h0
    rcases hr with ⟨rfl, _⟩ | ⟨y, rfl, _, _, _, hc, _⟩
    · cases hx
    · cases hx
      have h1 := cell_block (hc 0 h0)
      have e : (Addr.add _ 0).block = _ := show (Addr.add x 0).block = x.block by simp [Addr.add]
      rw [e] at h1
      omega
  have HF := l00From_any a len cap (w.alloc (.cells #[.int .i64 0, .int .i64 0] 25))
  rw [z0] at HF
  clear hr
  go_enter Tryd.func12, Tryd.ntmps12
  go_wp2_with fail
  refine HF.mono ?_
  rintro e w1 ⟨rfl, s1, z1, b1⟩
  have r1 := r0.below (by rw [z0]; exact b1)
  have P1 := P0.below b1 (by omega)
  have B1 := b0.trans (b1.mono (by omega))
  have HD := l08Draw_any a len cap (w.heap.size + 1) 0 (w.heap.size + 1) zs w1 s1 r1 hab (by omega) (by omega) (Nat.le_refl _)
  clear s1 r1 r0 P0 b0 HF b1
  go_wp2_with fail
  refine HD.mono ?_
  rintro e w2 ⟨h, m, rfl, h1, h2, h3, b2⟩
  have P2 := P1.below b2 (by omega)
  have B2 := B1.trans (b2.mono (by omega))
  have H3 := Lib.hid h3
  have c0 := P2.cell 0
  have c1 := P2.cell 1
  have f0 := P2.free 0
  have f1 := P2.free 1
  simp only [List.getElem?_cons_zero, List.getElem?_cons_succ] at c0 c1
  clear HD h3 b2 P1 P2 B1 hab
  obtain ⟨r0, r1⟩ := stc_set (.int .i64 h) (.int .i64 m) c0 c1
  go_wp2
  first
    | (go_ret; exact ⟨_, _, rfl, h1, h2, H3.out, B2⟩)
    | (refine bodyPost_ret (v := .agg #[.int .i64 h, .int .i64 m]) (by simp [results, Tryd.results12, go_sem, r0, r1]) rfl ?_
       exact ⟨h, m, rfl, h1, h2, H3.out, two_below B2 (Nat.le_refl _) _ _⟩)

theorem highA_three : okPat [3] = true ∧ highA [3] ≤ 7 := by decide
set_option maxRecDepth 10000 in
set_option maxHeartbeats 1000000 in
theorem a2Low_any (a : Option Addr) (len cap : Nat) (zs : List Int) (w : World) (hr : IsRow .u8 w a len cap zs) (hlen : len ≤ 3000) :
    Calls Tryd.prog 20 #[.slice a len cap] w fun e w' => ∃ v p, e = .returned v ∧ Ints w' w.heap.size v p ∧ okPat p = true ∧ highA p ≤ 7 ∧ Below w.heap.size w w' := by
  have hab : ∀ x, a = some x → 0 < zs.length → x.block ≠ w.heap.size := by
    intro x hx h0
    rcases hr with ⟨rfl, _⟩ | ⟨y, rfl, _, _, _, hc, _⟩
    · cases hx
    · cases hx
      have h1 := cell_block (hc 0 h0)
      have e : (Addr.add _ 0).block = _ := show (Addr.add x 0).block = x.block by simp [Addr.add]
      rw [e] at h1
      omega
  go_enter Tryd.func20, Tryd.ntmps20
  go_wp2_with fail
  refine (l00From_any a len cap _).mono ?_
  rintro e w1 ⟨rfl, s1, z1, b1⟩
  have HR := Lib.hid (fun W (hW : Below w.heap.size w W) => hr.below hW)
  clear hr
  go_wp2
  go_loopw [4] (fun i wr => ∃ j : Nat, j ≤ 5 ∧ i = .int .i64 j ∧ Src wr w.heap.size (3000 * j) (.slice a len cap) ∧ Below w.heap.size w wr) (fun i _ => 5 - (intOf i).toNat)
  case atStart => exact ⟨0, by omega, rfl, s1, b1⟩
  case round =>
    clear s1 b1 z1
    obtain ⟨j, hj, rfl, hs, hb⟩ := hrel
    by_cases hlt : j < 5
    · have HD := l10Draw_any a len cap w.heap.size (3000 * j) zs wr hs (HR.out wr hb) hab (by omega) (by omega)
      have hz := hb.size
      clear hs
      go_wp2_with fail
      refine HD.mono ?_
      rintro e w3 ⟨v, p, rfl, i3, s3, g3⟩
      have B3 := hb.grown g3 hz (by intro q hq; cases hq; exact Nat.le_refl _)
      have i3 := i3.mono hz
      have hz3 := B3.size
      clear HD hb g3
      go_wp2_with fail
      refine (l02Ok_any v _ p _ i3).mono ?_
      rintro e w4 ⟨rfl, b4⟩
      have B4 := B3.trans (b4.mono hz3)
      have i4 := i3.below b4
      have s4 := s3.keep (⟨b4.os, b4.tape, b4.output, b4.size, fun q hq _ => b4.block q hq⟩ : w3.grownBy w4 none) (by simp)
      clear b4 i3 s3 B3
      cases hok : okPat p with
      | true =>
        have HK := Lib.hid hok
        have HH := l02High_ok v _ p _ i4 hok
        clear hok HR
        generalize hq : highA p = q at *
        by_cases hle : q ≤ 7
        · go_wp2_with (first | (go_at_call 62; refine HH.mono ?_; rintro e w5 ⟨rfl, rfl⟩))
          go_ret
          exact ⟨_, _, rfl, i4, HK.out, by omega, B4⟩
        · go_wp2_with (first | (go_at_call 62; refine HH.mono ?_; rintro e w5 ⟨rfl, rfl⟩))
          go_roundw
          case rel => exact ⟨j + 1, by omega, by go_num, s4.mono (by omega), B4⟩
          case measure => simp [intOf]; omega
      | false =>
        clear hok HR
        go_wp2
        go_roundw
        case rel => exact ⟨j + 1, by omega, by go_num, s4.mono (by omega), B4⟩
        case measure => simp [intOf]; omega
    · obtain rfl : j = 5 := by omega
      have hz := hb.size
      have I3 : Ints (wr.alloc (.cells #[.int .i64 3] 2)) w.heap.size (.slice (some ⟨wr.heap.size, 0, none⟩) 1 1) [3] := World.ownsRow_lit (e := 2) (size := 1) wr #[.int .i64 3] 1 hz (by simp [maxLen]) rfl
      go_wp2
      go_ret
      exact ⟨_, _, rfl, I3, highA_three.1, highA_three.2, hb.alloc hz _⟩
end Go.Proofs.YtjndiaefcmjbmaaDoor
