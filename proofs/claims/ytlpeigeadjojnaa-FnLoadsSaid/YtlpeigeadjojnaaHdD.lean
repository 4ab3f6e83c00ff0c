/- Drawing orders of hands: l14Draw, l14Bent, DrawHandThrows, DrawHandAt: they answer some list, and write nothing that was there. Conditions: the code has at most 10^9 bytes. -/
import Derived.Test.YtlpeigeadjojnaaHdE
import Derived.Test.YtlpeigeadjojnaaDrawC
import Derived.Test.YtlpeigeadjojnaaJoined
import Derived.Test.YtlpeigeadjojnaaRot
import Derived.Test.YtlpeigeadjojnaaSpecThr
namespace Go.Proofs.Ytlpeigeadjojnaa
open Go.RowKit
set_option linter.unusedSimpArgs false
set_option linter.unusedVariables false

theorem IsRow.apartH {w : World} {k : IntKind} {a : Option Addr} {len cap : Nat} {zs : List Int} (hr : IsRow k w a len cap zs) : ∀ x, a = some x → 0 < zs.length → x.block ≠ w.heap.size := by
  intro x hx h0
  rcases hr with ⟨rfl, _⟩ | ⟨y, rfl, _, _, _, hc, _⟩
  · cases hx
  · cases hx
    have h1 := cell_block (hc 0 h0)
    have e : (Addr.add _ 0).block = _ := show (Addr.add x 0).block = x.block by simp [Addr.add]
    rw [e] at h1
    omega

theorem seesDropH {w0 : World} {B g m cap : Nat} {out : List Int} (h : Ints w0 B (.slice (some ⟨g, 0, none⟩) m cap) out) (hm : m = out.length) (hg : g < w0.heap.size) (hc : m ≤ cap) (hc2 : cap ≤ 9223372036854775807) (W : World) (hW : Below w0.heap.size w0 W) (k : Nat) (hk : k ≤ m) :
    Sees W (.slice (some ⟨g, k, none⟩) (m - k) (cap - k)) (out.drop k) := by
  subst hm
  exact (h.below hW).drop_ k (by have := hW.size; omega) hc hc2 hk
theorem elemRowH : Try.prog.elem 24 = 2 := by kernel_rfl
theorem sizeRowH (W : World) : (sizeOf 2).run Try.prog W = .ok 1 W := by kernel_rfl
theorem dropRunH {w0 : World} {B g m cap : Nat} {out : List Int} (h : Ints w0 B (.slice (some ⟨g, 0, none⟩) m cap) out) (hm : m = out.length) (hg : g < w0.heap.size) (hc : m ≤ cap) (hc2 : cap ≤ 9223372036854775807) (k : Nat) (hk : k ≤ m) :
    ∃ S : Value, (∀ W, (Instr.slice 24 (.slice (some ⟨g, 0, none⟩) m cap) (some (.int .i64 (k : Int))) none none).run Try.prog W = .ok S W) ∧ ∀ W, Below w0.heap.size w0 W → Sees W S (out.drop k) := by
  have he : ∀ W : World, (Instr.slice 24 (.slice (some ⟨g, 0, none⟩) m cap) (some (.int .i64 (k : Int))) none none).run Try.prog W = .ok (sliced (some ⟨g, 0, none⟩) k m cap 1) W := fun W => by
    have h1 := run_slice_l (P := Try.prog) (w := W) 24 (some ⟨g, 0, none⟩) m cap (by rw [elemRowH]; exact Try.underlying24) .i64 (k : Int) (by omega) (by omega)
    rw [h1]
    rw [elemRowH, sizeRowH]
    simp [Result.andThen]
  refine ⟨_, he, fun W hW => ?_⟩
  have hd := seesDropH h hm hg hc hc2 W hW k hk
  by_cases hck : cap = k
  · have hmk : m = k := by omega
    have e0 : out.drop k = [] := List.drop_eq_nil_of_le (by omega)
    rw [e0]
    subst hck
    subst hmk
    exact ⟨g, 0, 0, by simp [sliced], by have := hW.size; omega, Nat.le_refl _, by omega, fun i hi => absurd hi (Nat.not_lt_zero _)⟩
  · have e0 : sliced (some ⟨g, 0, none⟩) k m cap 1 = .slice (some ⟨g, k, none⟩) (m - k) (cap - k) := by
      simp only [sliced, if_neg hck, Option.map_some, Nat.mul_one, Addr.add]
      by_cases hk0 : k = 0
      · subst hk0; rfl
      · simp [hk0]
    rw [e0]
    exact hd
theorem seesTakeH {w : World} {B g m cap : Nat} {out : List Int} (h : Ints w B (.slice (some ⟨g, 0, none⟩) m cap) out) (hm : m = out.length) (hg : g < w.heap.size) (hc : m ≤ cap) (hc2 : cap ≤ 9223372036854775807) (k : Nat) (hk : k ≤ m) :
    Sees w (.slice (some ⟨g, 0, none⟩) k cap) (out.take k) := by
  refine ⟨g, 0, cap, by rw [List.length_take, Nat.min_eq_left (by omega)], hg, by rw [List.length_take]; omega, hc2, fun i hi => ?_⟩
  rw [List.length_take] at hi
  rw [Nat.zero_add, h.cell i (by omega)]
  simp [List.getElem?_take, show i < k by omega]

set_option maxRecDepth 10000 in
set_option maxHeartbeats 600000 in
theorem l14Draw_any (a : Option Addr) (len cap b k : Nat) (zs : List Int) (w : World) (hs : Src w b k (.slice a len cap)) (hr : IsRow .u8 w a len cap zs) (hab : ∀ x, a = some x → 0 < zs.length → x.block ≠ b) (hlen : len ≤ 1000000000) (hk : k ≤ 900000) :
    Calls Try.prog 66 #[.pointer (some ⟨b, 0, none⟩)] w fun e w' => ∃ v o, e = .returned v ∧ Ints w' w.heap.size v o ∧ 1 ≤ o.length ∧ o.length ≤ 7 ∧ Src w' b (k + 20) (.slice a len cap) ∧ w.grownBy w' (some b) := by
  have hbw := hs.lt
  have hrow : ∀ wr : World, w.grownBy wr (some b) → IsRow .u8 wr a len cap zs := fun wr hg => hr.grown hg fun x hx h0 => by simpa using hab x hx h0
  have HROW := Lib.hid hrow
  have i0 : Ints (w.alloc (.cells #[] 2)) w.heap.size (.slice (some ⟨w.heap.size, 0, none⟩) 0 0) [] := World.ownsRow_lit w #[] 0 (Nat.le_refl _) (by simp [maxLen]) rfl
  have s0 := hs.keep (World.grownBy_alloc w (.cells #[] 2) none) (by simp)
  have G0 : w.grownBy (w.alloc (.cells #[] 2)) (some b) := World.grownBy_alloc _ _ _
  have HP := pick_any a len cap b k 3 zs _ s0 (hrow _ G0) hlen (by omega) (by omega)
  clear hrow hab hr hs s0
  go_enter Try.func66, Try.ntmps66
  go_wp2_with fail
  refine HP.mono ?_
  rintro e w1 ⟨x, rfl, hx, s1, g1⟩
  obtain ⟨n, hn⟩ : ∃ n : Nat, 1 + x = (n : Int) := ⟨(1 + x).toNat, by omega⟩
  have hn1 : 1 ≤ n := by omega
  have hn3 : n ≤ 3 := by omega
  have G1 := G0.trans g1
  have i1 := i0.keepb g1 hbw
  clear HP i0 G0 g1 hx
  go_wp2
  clear hn
  go_loopw [3, 5] (fun v h wr => ∃ (j : Nat) (o : List Int), j ≤ n ∧ h = .int .i64 j ∧ Ints wr w.heap.size v o ∧ o.length = j ∧ Src wr b (k + 1) (.slice a len cap) ∧ w.grownBy wr (some b)) (fun _ h _ => n - (intOf h).toNat)
  case atStart => exact ⟨0, [], Nat.zero_le _, rfl, i1, rfl, s1, G1⟩
  case round =>
    clear i1 s1 G1
    obtain ⟨j, o, hj, rfl, hi, hol, hs, hg⟩ := hrel
    have hz := hg.size
    by_cases hlt : j < n
    · go_wp2_with (at_builtin; refine append_int _ rfl _ _ rfl _ _ _ rfl hi (j : Int) rfl (by omega) hz ?_; intro v' w3 hi3 hg3; refine Hid.out ?_)
      have hog : ∀ q, u3.ownBlock = some q → w.heap.size ≤ q := fun q hq => hi.own_ge hq
      have hs3 := hs.keep hg3 (fun e => by have := hog b e.symm; omega)
      have hgg : w.grownBy w3 (some b) := ⟨hg3.os.trans hg.os, hg3.tape.trans hg.tape, hg3.output.trans hg.output, Nat.le_trans hg.size hg3.size, fun q hq hne => (hg3.block q (by omega) (fun e => by have := hog q e.symm; omega)).trans (hg.block q hq hne)⟩
      clear hg3 hi hog hs hg
      refine Lib.hid ?_
      go_wp2
      go_roundw
      case rel => exact ⟨j + 1, _, by omega, by go_num, hi3, by simp [hol], hs3, hgg⟩
      case measure => simp [intOf]; omega
    · obtain rfl : j = n := by omega
      have HP := pick_any a len cap b (k + 1) 4 zs _ hs (HROW.out _ hg) hlen (by omega) (by omega)
      clear hs
      go_wp2_with fail
      refine HP.mono ?_
      rintro e w4 ⟨x, rfl, hx, s4, g4⟩
      obtain ⟨q0, rfl⟩ : ∃ q : Nat, x = q := ⟨x.toNat, by omega⟩
      have hq0 : q0 ≤ 3 := by omega
      have G4 := hg.trans g4
      have i4 := hi.keepb g4 hbw
      clear HP hi hg g4 hx
      go_wp2
      go_loopw [3, 6, 7, 8] (fun v h _ _ wr => ∃ (q K : Nat) (o : List Int), q ≤ 3 ∧ h = .int .i64 q ∧ Ints wr w.heap.size v o ∧ 1 ≤ o.length ∧ o.length + q ≤ 7 ∧ K + 2 * q ≤ k + 8 ∧ Src wr b K (.slice a len cap) ∧ w.grownBy wr (some b)) (fun _ h _ _ _ => (intOf h).toNat)
      case atStart => exact ⟨q0, k + 1 + 1, o, hq0, rfl, i4, by omega, by omega, by omega, s4, G4⟩
      case round =>
        clear i4 s4 G4 hq0
        obtain ⟨q, K, o, hq, rfl, hi, ho1, ho7, hK, hs, hg⟩ := hrel
        have hz := hg.size
        by_cases h0 : q = 0
        · subst h0
          go_wp2
          go_ret
          exact ⟨_, _, rfl, hi, ho1, by omega, hs.mono (by omega), hg⟩
        · obtain ⟨g, c, rfl, hBg, hgs, hc, hm⟩ := hi.shape2 ho1
          have HP := pick_any a len cap b K ((o.length : Int) + 1) zs _ hs (HROW.out _ hg) hlen (by omega) (by omega)
          have hq1 : (0 : Int) < (q : Int) := by omega
          clear hs
          go_wp2_with fail
          refine HP.mono ?_
          rintro e w5 ⟨x, rfl, hx, s5, g5⟩
          obtain ⟨at', rfl⟩ : ∃ t : Nat, x = t := ⟨x.toNat, by omega⟩
          have hat : at' ≤ o.length := by omega
          have G5 := hg.trans g5
          have i5 := hi.keepb g5 hbw
          have hgs5 : g < w5.heap.size := by have := g5.size; omega
          have hz5 := G5.size
          clear HP hi hg g5 hx hgs
          have HO := l00Own_any _ _ w5 (seesTakeH i5 rfl hgs5 hc hm at' hat) (by simp; omega)
          have hatc : at' ≤ c := by omega
          have HI5 := Lib.hid i5
          generalize hol : o.length = m at *
          go_wp2_with fail
          refine HO.mono ?_
          rintro e w6 ⟨u, rfl, iu, b6⟩
          have s6 := s5.keep (r := none) ⟨b6.os, b6.tape, b6.output, b6.size, fun q hq _ => b6.block q hq⟩ (by simp)
          have G6 : w.grownBy w6 (some b) := ⟨b6.os.trans G5.os, b6.tape.trans G5.tape, b6.output.trans G5.output, Nat.le_trans G5.size b6.size, fun q hq hne => (b6.block q (by omega)).trans (G5.block q hq hne)⟩
          have HP := pick_any a len cap b (K + 1) (j : Int) zs _ s6 (HROW.out _ G6) hlen (by omega) (by omega)
          clear HO s5 G5 s6
          go_wp2_with fail
          refine HP.mono ?_
          rintro e w7 ⟨y, rfl, hy, s7, g7⟩
          have G7 := G6.trans g7
          have iu7 := iu.keepb g7 (by omega)
          have i7 := (HI5.out.below b6).keepb g7 hbw
          have hz7 := G7.size
          have hz67 := g7.size
          have hb6s := b6.size
          clear HP iu G6 g7 hy b6
          go_wp2_with (at_builtin; refine append_int _ rfl _ _ rfl _ _ _ rfl iu7 y rfl (by simp; omega) (by omega) ?_; intro v8 w8 iv8 gr8; refine Hid.out ?_)
          have hou : ∀ q, u.ownBlock = some q → w5.heap.size ≤ q := fun q hq => iu7.own_ge hq
          have s8 := s7.keep gr8 (fun e => by have := hou b e.symm; omega)
          have G8 : w.grownBy w8 (some b) := ⟨gr8.os.trans G7.os, gr8.tape.trans G7.tape, gr8.output.trans G7.output, Nat.le_trans G7.size gr8.size, fun q hq hne => (gr8.block q (by omega) (fun e => by have := hou q e.symm; omega)).trans (G7.block q hq hne)⟩
          have i8 : Ints w8 w.heap.size (.slice (some ⟨g, 0, none⟩) m c) o := i7.block fun q hq hlt => gr8.block q hlt fun e => by
            have h1 := hou q e.symm
            simp [Value.ownBlock] at hq
            omega
          have hz8 := gr8.size
          have hg8 : g < w8.heap.size := by omega
          obtain ⟨S, hsl, hsee⟩ := dropRunH i8 hol.symm hg8 hc hm at' hat
          have hsw := hsee _ (Below.refl _ _)
          clear gr8 iu7 i7 s7 G7 i8 hsee hou HI5
          refine Lib.hid ?_
          go_wp2_with (at_builtin; refine append_sees _ rfl 24 Try.underlying24 _ _ rfl _ _ _ rfl iv8 S _ rfl hsw (by simp; omega) (by omega) ?_; intro v9 w9 iv9 gr9; refine Hid.out ?_)
          have hov : ∀ q, v8.ownBlock = some q → w5.heap.size ≤ q := fun q hq => iv8.own_ge hq
          have s9 := s8.keep gr9 (fun e => by have := hov b e.symm; omega)
          have G9 : w.grownBy w9 (some b) := ⟨gr9.os.trans G8.os, gr9.tape.trans G8.tape, gr9.output.trans G8.output, Nat.le_trans G8.size gr9.size, fun q hq hne => (gr9.block q (by omega) (fun e => by have := hov q e.symm; omega)).trans (G8.block q hq hne)⟩
          have hl9 : (o.take at' ++ [y] ++ o.drop at').length = m + 1 := by simp; omega
          have iv9' := iv9.mono hz5
          clear gr9 hov s8 G8 iv8 iv9 hsl hsw
          refine Lib.hid ?_
          obtain ⟨q1, rfl⟩ : ∃ q1, q = q1 + 1 := ⟨q - 1, by omega⟩
          go_wp2
          go_roundw
          case rel => exact ⟨q1, K + 1 + 1, _, by omega, by go_num, iv9', by omega, by omega, by omega, s9, G9⟩
          case measure => simp [intOf]

set_option maxHeartbeats 2000000 in
theorem l14Bent_any (a : Option Addr) (len cap b k : Nat) (zs : List Int) (w : World) (hs : Src w b k (.slice a len cap)) (hr : IsRow .u8 w a len cap zs) (hab : ∀ x, a = some x → 0 < zs.length → x.block ≠ b) (hlen : len ≤ 1000000000) (hk : k ≤ 900000) :
    Calls Try.prog 36 #[.pointer (some ⟨b, 0, none⟩)] w fun e w' => ∃ v o, e = .returned v ∧ Ints w' w.heap.size v o ∧ Src w' b (k + 30) (.slice a len cap) ∧ w.grownBy w' (some b) := by
  have HD := l14Draw_any a len cap b k zs w hs hr hab hlen (by omega)
  have hbw := hs.lt
  have hrow : ∀ wr : World, w.grownBy wr (some b) → IsRow .u8 wr a len cap zs := fun wr hg => hr.grown hg fun x hx h0 => by simpa using hab x hx h0
  have HROW := Lib.hid hrow
  obtain ⟨iz, hiz, hz0, hz1, hz2⟩ := info_parts Try.info64
  clear hrow hab hr hs
  go_enter Try.func36, Try.ntmps36
  go_wp2_with fail
  refine HD.mono ?_
  rintro e w1 ⟨v, p, rfl, i1, hp1, hp7, s1, g1⟩
  clear HD
  obtain ⟨g, c, rfl, hBg, hgs, hc, hm⟩ := i1.shape2 hp1
  have HP := pick_any a len cap b (k + 20) p.length zs w1 s1 (HROW.out _ g1) hlen (by omega) (by omega)
  clear s1
  go_wp2_with fail
  refine HP.mono ?_
  rintro e w2 ⟨x, rfl, hx, s2, g2⟩
  obtain ⟨j, rfl⟩ : ∃ j : Nat, x = j := ⟨x.toNat, by omega⟩
  have hj : j < p.length := by omega
  have G2 := g1.trans g2
  have i2 := i1.keepb g2 hbw
  clear HP hx g1 g2 i1
  have HP := pick_any a len cap b (k + 20 + 1) 16 zs w2 s2 (HROW.out _ G2) hlen (by omega) (by omega)
  clear s2
  go_wp2_with fail
  refine HP.mono ?_
  rintro e w3 ⟨y, rfl, hy, s3, g3⟩
  have G3 := G2.trans g3
  have i3 := i2.keepb g3 hbw
  have Z3 := G3.size
  clear HP g3 G2 i2
  by_cases h0 : y = 0
  · subst h0
    clear hy hiz hz0 hz1 hz2
    have HI3 := Lib.hid i3
    have i4 : Ints (w3.alloc (.cells #[.int .i64 (-1), .int .i64 3, .int .i64 4] 2)) w3.heap.size (.slice (some ⟨w3.heap.size, 0, none⟩) 3 3) [-1, 3, 4] := World.ownsRow_lit w3 #[.int .i64 (-1), .int .i64 3, .int .i64 4] 3 (Nat.le_refl _) (by simp [maxLen]) rfl
    have s4 := s3.keep (World.grownBy_alloc w3 (.cells #[.int .i64 (-1), .int .i64 3, .int .i64 4] 2) none) (by simp)
    have G4 : w.grownBy (w3.alloc (.cells #[.int .i64 (-1), .int .i64 3, .int .i64 4] 2)) (some b) := G3.trans (World.grownBy_alloc _ _ _)
    have ip4 := HI3.out.alloc (.cells #[.int .i64 (-1), .int .i64 3, .int .i64 4] 2)
    have HA := among_any a len cap b (k + 20 + 1 + 1) w3.heap.size _ _ zs _ s4 (HROW.out _ G4) hlen (by omega) i4 (by omega) (by simp) (by simp)
    have IP4 := Lib.hid ip4
    have G4' := Lib.hid G4
    clear i3 i4 s4 G4 ip4 s3 G3 HI3
    generalize hn : p.length = n at *
    have HN := Lib.hid hn
    clear hn
    go_wp2_with fail
    refine HA.mono ?_
    rintro e w5 ⟨u, rfl, s5, g5⟩
    have i5 := IP4.out.keepb g5 hbw
    have c5 := i5.cell j (by rw [HN.out]; exact hj)
    have f5 := i5.free j
    have i6 := i5.set j u
    have G5 := G4'.out.trans g5
    have G6 := grown_new G5 j hBg (.int .i64 u)
    have s6 := s5.set j (show b ≠ g by omega) (.int .i64 u)
    clear HA i5 IP4 s5 g5 G5
    generalize p.getD j 0 = zz at *
    go_wp2
    go_ret
    exact ⟨_, _, rfl, i6, s6.mono (by omega), G6⟩
  · by_cases h1 : y = 1
    · subst h1
      clear hy h0 hiz hz0 hz1 hz2
      have i4 : Ints (w3.alloc (.cells #[] 2)) w.heap.size (.slice (some ⟨w3.heap.size, 0, none⟩) 0 0) [] := World.ownsRow_lit w3 #[] 0 Z3 (by simp [maxLen]) rfl
      go_wp2
      go_ret
      exact ⟨_, _, rfl, i4, (s3.keep (World.grownBy_alloc w3 (.cells #[] 2) none) (by simp)).mono (by omega), G3.trans (World.grownBy_alloc _ _ _)⟩
    · by_cases h2 : y = 2
      · subst h2
        clear hy h0 h1
        have HP := pick_any a len cap b (k + 20 + 1 + 1) 2 zs _ s3 (HROW.out _ G3) hlen (by omega) (by omega)
        clear s3 i3
        go_wp2_with fail
        refine HP.mono ?_
        rintro e w5 ⟨u, rfl, hu, s5, g5⟩
        have G5 := G3.trans g5
        obtain ⟨m, rfl⟩ : ∃ m : Nat, u = m := ⟨u.toNat, by omega⟩
        have hm2 : m ≤ 2 := by omega
        have hz5 := G5.size
        clear HP g5 G3 hu
        go_wp2_with (at_make; refine wpList_make_full _ rfl _ _ 24 rfl w5.heap.size 2 iz (.int .i64 0) 1 Try.underlying24 hiz hz0 hz1 _ _ _ _ (12 + m) rfl rfl rfl rfl (by rw [hz2]; omega) (by unfold maxLen; omega) (Nat.le_refl _) ?_; intro w6 hown hgr; refine Hid.out ?_)
        have hI := made_ints hown
        have s6 := s5.keep hgr (by simp)
        have G6 : w.grownBy w6 (some b) := ⟨hgr.os.trans G5.os, hgr.tape.trans G5.tape, hgr.output.trans G5.output, Nat.le_trans G5.size hgr.size, fun q hq hne => (hgr.block q (by omega) (by simp)).trans (G5.block q hq hne)⟩
        clear hown hgr hiz hz0 hz1 hz2 G5 s5
        refine Lib.hid ?_
        go_wp2
        go_ret
        exact ⟨_, _, rfl, hI.mono hz5, s6.mono (by omega), G6⟩
      · clear hiz hz0 hz1 hz2
        have hy0 : (y == 0) = false := by simpa using h0
        have hy1 : (y == 1) = false := by simpa using h1
        have hy2 : (y == 2) = false := by simpa using h2
        go_wp2
        go_ret
        exact ⟨_, _, rfl, i3, s3.mono (by omega), G3⟩

theorem f6bigH_any (a : Option Addr) (len cap : Nat) (w : World) (hl : len ≤ 9223372036854775807) :
    Calls Try.prog 5 #[.slice a len cap] w fun e w' => e = .returned (.bool (decide (4096 < (len : Int)))) ∧ w = w' := by
  go_enter Try.func5, Try.ntmps5
  go_wp2
  go_ret
  exact ⟨rfl, rfl⟩

theorem l14Ask_any (a : Option Addr) (len cap : Nat) (zs : List Int) (w : World) (hr : IsRow .u8 w a len cap zs) (hlen : len ≤ 1000000000) :
    Calls Try.prog 27 #[.slice a len cap] w fun e w' => ∃ v p u o, e = .returned (.tuple #[v, u]) ∧ Ints w' w.heap.size v p ∧ Ints w' w.heap.size u o ∧ Below w.heap.size w w' := by
  go_enter Try.func27, Try.ntmps27
  go_wp2_with fail
  refine (l00From_any a len cap w).mono ?_
  rintro e w1 ⟨rfl, s1, z1, b1⟩
  have hab := hr.apartH
  have hr1 := hr.below b1
  have HP := l02Bent_any a len cap w.heap.size 0 zs w1 s1 hr1 hab hlen (by omega)
  go_wp2_with fail
  refine HP.mono ?_
  rintro e w2 ⟨v, p, rfl, i2, s2, g2⟩
  have hr2 := hr1.grown g2 (fun x hx h0 => by simpa using hab x hx h0)
  have HO := l14Bent_any a len cap w.heap.size (0 + 2000) zs w2 s2 hr2 hab hlen (by omega)
  clear HP s1 s2
  go_wp2_with fail
  refine HO.mono ?_
  rintro e w3 ⟨u, o, rfl, i3, s3, g3⟩
  have hz2 := g2.size
  have hz1 := b1.size
  have hlt : w.heap.size < w1.heap.size := by omega
  have i2' := i2.keepb g3 (by omega)
  have B2 : Below w.heap.size w w2 := b1.grown g2 hz1 (fun j hj => by cases hj; exact Nat.le_refl _)
  have B3 : Below w.heap.size w w3 := B2.grown g3 B2.size (fun j hj => by cases hj; exact Nat.le_refl _)
  go_wp2
  go_ret2
  exact ⟨_, p, _, o, rfl, i2'.mono hz1, i3.mono (by omega), B3⟩

theorem drawHandThrows_any (a : Option Addr) (len cap : Nat) (zs : List Int) (w : World) (hr : IsRow .u8 w a len cap zs) (hlen : len ≤ 1000000000) :
    Calls Try.prog 6 #[.slice a len cap] w fun e w' => ∃ v p u o, e = .returned (.tuple #[v, u]) ∧ Ints w' w.heap.size v p ∧ Ints w' w.heap.size u o ∧ Below w.heap.size w w' := by
  have HA := l14Ask_any a len cap zs w hr hlen
  clear hr
  go_enter Try.func6, Try.ntmps6
  go_wp2_with fail
  refine HA.mono ?_
  rintro e w3 ⟨v, p, u, o, rfl, i2, i3, b3⟩
  go_wp2
  go_ret2
  exact ⟨_, p, _, o, rfl, i2, i3, b3⟩

theorem drawHandAt_any (a : Option Addr) (len cap : Nat) (zs : List Int) (w : World) (hr : IsRow .u8 w a len cap zs) (hlen : len ≤ 1000000000) :
    Calls Try.prog 13 #[.slice a len cap] w fun e w' => ∃ u o beat, e = .returned (.tuple #[u, .int .i64 beat]) ∧ Ints w' w.heap.size u o ∧ Below w.heap.size w w' := by
  go_enter Try.func13, Try.ntmps13
  go_wp2_with fail
  refine (l00From_any a len cap w).mono ?_
  rintro e w1 ⟨rfl, s1, z1, b1⟩
  have hab := hr.apartH
  have hr1 := hr.below b1
  have hz1 := b1.size
  have HO := l14Bent_any a len cap w.heap.size 0 zs w1 s1 hr1 hab hlen (by omega)
  clear s1
  go_wp2_with fail
  refine HO.mono ?_
  rintro e w2 ⟨u, o, rfl, i2, s2, g2⟩
  have hr2 := hr1.grown g2 (fun x hx h0 => by simpa using hab x hx h0)
  have B2 : Below w.heap.size w w2 := b1.grown g2 hz1 (fun j hj => by cases hj; exact Nat.le_refl _)
  have HP := pick_any a len cap w.heap.size (0 + 30) 60 zs w2 s2 hr2 hlen (by omega) (by omega)
  clear HO s2
  go_wp2_with fail
  refine HP.mono ?_
  rintro e w3 ⟨x, rfl, hx, s3, g3⟩
  have hr3 := hr2.grown g3 (fun x hx h0 => by simpa using hab x hx h0)
  have B3 : Below w.heap.size w w3 := B2.grown g3 B2.size (fun j hj => by cases hj; exact Nat.le_refl _)
  have i3 := i2.keepb g3 (by omega)
  have HQ := one_any a len cap w.heap.size (0 + 30 + 1) 10 zs w3 s3 hr3 hlen (by omega) (by omega)
  have hz2 := g2.size
  have hz3 := g3.size
  clear HP s3 i2
  go_wp2_with fail
  refine HQ.mono ?_
  rintro e w4 ⟨y, rfl, s4, g4⟩
  have hr4 := hr3.grown g4 (fun x hx h0 => by simpa using hab x hx h0)
  have B4 : Below w.heap.size w w4 := B3.grown g4 B3.size (fun j hj => by cases hj; exact Nat.le_refl _)
  have i4 := i3.keepb g4 (by omega)
  have hz4 := g4.size
  clear HQ i3
  cases y with
  | false =>
    go_wp2
    go_ret2
    exact ⟨_, o, _, rfl, i4.mono hz1, B4⟩
  | true =>
    have il : Ints (w4.alloc (.cells #[.int .i64 (-1000001), .int .i64 (-1000000), .int .i64 1000000, .int .i64 1000001] 2)) w4.heap.size (.slice (some ⟨w4.heap.size, 0, none⟩) 4 4) [-1000001, -1000000, 1000000, 1000001] := World.ownsRow_lit w4 #[.int .i64 (-1000001), .int .i64 (-1000000), .int .i64 1000000, .int .i64 1000001] 4 (Nat.le_refl _) (by simp [maxLen]) rfl
    have s5 := s4.keep (World.grownBy_alloc w4 (.cells #[.int .i64 (-1000001), .int .i64 (-1000000), .int .i64 1000000, .int .i64 1000001] 2) none) (by simp)
    have b5 := (Below.refl w4.heap.size w4).alloc (Nat.le_refl _) (.cells #[.int .i64 (-1000001), .int .i64 (-1000000), .int .i64 1000000, .int .i64 1000001] 2)
    have HA := among_any a len cap w.heap.size (0 + 30 + 1 + 1) w4.heap.size _ _ zs _ s5 (hr4.below b5) hlen (by omega) il (by omega) (by simp) (by simp)
    have i5 := i4.below b5
    have B5 := B4.trans (b5.mono B4.size)
    have I5 := Lib.hid i5
    have BB5 := Lib.hid B5
    clear il s5 s4 i4 i5 b5 B5
    go_wp2_with fail
    refine HA.mono ?_
    rintro e w6 ⟨z, rfl, s6, g6⟩
    have i6 := I5.out.keepb g6 (by omega)
    have B6 : Below w.heap.size w w6 := BB5.out.grown g6 BB5.out.size (fun j hj => by cases hj; exact Nat.le_refl _)
    clear HA
    go_wp2
    go_ret2
    exact ⟨_, o, _, rfl, i6.mono hz1, B6⟩
end Go.Proofs.Ytlpeigeadjojnaa
