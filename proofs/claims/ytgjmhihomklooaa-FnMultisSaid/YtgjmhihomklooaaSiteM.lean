/- Drawn multiplex patterns: l04Site, the throws of one hand's pattern. No conditions but the count of beats. -/
import Derived.Test.YtgjmhihomklooaaDrawB
namespace Go.Proofs.Ytgjmhihomklooaa
open Go.RowKit
set_option linter.unusedSimpArgs false
set_option linter.unusedVariables false

/-- n throws between 0 and 15 -/
def Site (p : List Int) (n : Nat) : Prop := p.length = n ∧ ∀ i, i < n → 0 ≤ p.getD i 0 ∧ p.getD i 0 ≤ 15
theorem Site.set {p : List Int} {n : Nat} (h : Site p n) (i : Nat) (x : Int) (h0 : 0 ≤ x) (h1 : x ≤ 15) : Site (p.set i x) n := by
  refine ⟨by simp [h.1], fun j hj => ?_⟩
  by_cases hi : i < p.length
  · rw [getD_set _ _ _ _ hi]
    by_cases e : j = i
    · rw [if_pos e]; exact ⟨h0, h1⟩
    · rw [if_neg e]; exact h.2 j hj
  · rw [List.set_eq_of_length_le (by omega)]
    exact h.2 j hj
theorem Site.rep (n : Nat) : Site (List.replicate n 0) n := by
  refine ⟨by simp, fun i hi => ?_⟩
  rw [List.getD_eq_getElem?_getD]
  simp [hi]

set_option maxRecDepth 10000 in
set_option maxHeartbeats 2000000 in
theorem l04Site_any (a : Option Addr) (len cap b k : Nat) (n : Nat) (zs : List Int) (w : World) (hs : Src w b k (.slice a len cap)) (hr : IsRow .u8 w a len cap zs) (hab : ∀ x, a = some x → 0 < zs.length → x.block ≠ b) (hlen : len ≤ 1000000000) (hk : k ≤ 1000000) (hn1 : 1 ≤ n) (hn2 : n ≤ 13) :
    Calls Try.prog 114 #[.pointer (some ⟨b, 0, none⟩), .int .i64 n] w fun e w' => ∃ v p, e = .returned v ∧ Ints w' w.heap.size v p ∧ Site p n ∧ Src w' b (k + 20) (.slice a len cap) ∧ w.grownBy w' (some b) := by
  obtain ⟨i0, hi, hz0, hz1, hz2⟩ := info_parts Try.info64
  have hbw := hs.lt
  have hrow : ∀ wr : World, w.grownBy wr (some b) → IsRow .u8 wr a len cap zs := fun wr hg => hr.grown hg fun x hx h0 => by simpa using hab x hx h0
  have HROW := Lib.hid hrow
  have HS := Lib.hid hs
  clear hs hr hrow hab
  go_enter Try.func114, Try.ntmps114
  go_wp2_with (at_make; refine wpList_make_full _ rfl _ _ 32 rfl w.heap.size 2 i0 (.int .i64 0) 1 Try.underlying32 hi hz0 hz1 _ _ _ _ n rfl rfl rfl rfl (by rw [hz2]; omega) (by unfold maxLen; omega) (Nat.le_refl _) ?_)
  intro w2 hown hgr
  have hI : Ints w2 w.heap.size (.slice (some ⟨w.heap.size, 0, none⟩) n n) (List.replicate n 0) := by
    unfold Ints
    simpa [toList_madeCells_one] using hown
  have g2 : w.grownBy w2 (some b) := by
    refine (World.grownBy.refl w (some b)).andThen hgr ?_
    intro q hq
    simp [Value.ownBlock] at hq
  have s2 := HS.out.keep hgr (by simp [Value.ownBlock])
  have HP := pick_any a len cap b k 5 zs w2 s2 (HROW.out _ g2) hlen (by omega) (by omega)
  have hz2 := hgr.size
  clear hown hgr HS
  go_wp2_with fail
  refine HP.mono ?_
  rintro e w3 ⟨x, rfl, hx, s3, g3⟩
  have i3 := hI.keepb g3 hbw
  have G3 := g2.trans g3
  have hx1 : 0 ≤ x ∧ x ≤ 15 := by omega
  clear HP hI s2 g2 g3 hx
  go_wp2
  go_loopw [7] (fun i wr => ∃ (p : List Int) (j : Nat), i = .int .i64 j ∧ j ≤ n ∧ Site p n ∧ Ints wr w.heap.size (.slice (some ⟨w.heap.size, 0, none⟩) n n) p ∧ Src wr b (k + 1) (.slice a len cap) ∧ w.grownBy wr (some b)) (fun i _ => n - (intOf i).toNat)
  case atStart => exact ⟨_, 0, rfl, Nat.zero_le _, Site.rep n, i3, s3, G3⟩
  case round =>
    clear i3 s3 G3
    obtain ⟨p, j, rfl, hj, hp, hi, hs, hg⟩ := hrel
    have hpl := hp.1
    by_cases hlt : j < n
    · have cj := hi.cell j (by omega)
      have fj := hi.free j
      have IA := hi.set j x
      have HA := hp.set j x hx1.1 hx1.2
      have SA := hs.set j (show b ≠ w.heap.size by omega) (.int .i64 x)
      have GA := grown_new hg j (Nat.le_refl _) (.int .i64 x)
      clear hi hs hg hp
      go_wp2
      go_roundw
      case rel => exact ⟨_, j + 1, by go_num, by omega, HA, IA, SA, GA⟩
      case measure => simp [intOf]; omega
    · obtain rfl : j = n := by omega
      have HP := pick_any a len cap b (k + 1) 8 zs wr hs (HROW.out _ hg) hlen (by omega) (by omega)
      go_wp2_with fail
      refine HP.mono ?_
      rintro e w4 ⟨u, rfl, hu, s4, g4⟩
      have i4 := hi.keepb g4 hbw
      have G4 := hg.trans g4
      obtain ⟨m, rfl⟩ : ∃ m : Nat, u = m := ⟨u.toNat, by omega⟩
      have hm7 : m ≤ 7 := by omega
      have HPP := Lib.hid hp
      clear HP hi hs hg g4 hu hp hpl hx1
      go_wp2
      go_loopw [8, 9, 10, 11, 12] (fun mv _ _ _ _ wr => ∃ (p : List Int) (m : Nat), mv = .int .i64 m ∧ m ≤ 7 ∧ Site p j ∧ Ints wr w.heap.size (.slice (some ⟨w.heap.size, 0, none⟩) j j) p ∧ Src wr b (k + 16 - 2 * m) (.slice a len cap) ∧ w.grownBy wr (some b)) (fun mv _ _ _ _ _ => (intOf mv).toNat)
      case atStart => exact ⟨_, m, rfl, hm7, HPP.out, i4, s4.mono (by omega), G4⟩
      case round =>
        clear i4 s4 G4
        obtain ⟨p, m, rfl, hm, hp, hi, hs, hg⟩ := hrel
        have hpl := hp.1
        by_cases hlt : 0 < m
        · by_cases h1 : 1 < j
          · have HP := pick_any a len cap b (k + 16 - 2 * m) ((j : Int) - 1) zs wr hs (HROW.out _ hg) hlen (by omega) (by omega)
            go_wp2_with fail
            refine HP.mono ?_
            rintro e w5 ⟨u, rfl, hu, s5, g5⟩
            obtain ⟨q, rfl⟩ : ∃ q : Nat, u = q := ⟨u.toNat, by omega⟩
            have hq : q + 1 < j := by omega
            have i5 := hi.keepb g5 hbw
            have G5 := hg.trans g5
            clear HP hi hs hg g5 hu
            have HP := pick_any a len cap b (k + 16 - 2 * m + 1) ((j : Int) - 1 - q) zs w5 s5 (HROW.out _ G5) hlen (by omega) (by omega)
            go_wp2_with fail
            refine HP.mono ?_
            rintro e w6 ⟨v, rfl, hv, s6, g6⟩
            obtain ⟨t, rfl⟩ : ∃ t : Nat, v = (t : Int) - q - 1 := ⟨(q + 1 + v).toNat, by omega⟩
            have htj : t < j := by omega
            have hqt : q < t := by omega
            have i6 := i5.keepb g6 hbw
            have G6 := G5.trans g6
            have hsub : (q : Int) + 1 + ((t : Int) - q - 1) = t := by omega
            have ct := i6.cell t (by omega)
            have cq := i6.cell q (by omega)
            have ft := i6.free t
            have fq := i6.free q
            obtain ⟨t0, t1⟩ := hp.2 t htj
            obtain ⟨q0, q1⟩ := hp.2 q (by omega)
            have HIS := Lib.hid (fun (x y : Int) => (i6.set q x).set t y)
            have HHS := Lib.hid (fun (x y : Int) (h0 : 0 ≤ x) (h1 : x ≤ 15) (h2 : 0 ≤ y) (h3 : y ≤ 15) => (hp.set q x h0 h1).set t y h2 h3)
            have HSS := Lib.hid (fun (x y : Value) => (s6.set q (show b ≠ w.heap.size by omega) x).set t (show b ≠ w.heap.size by omega) y)
            have HGS := Lib.hid (fun (x y : Value) => grown_new (grown_new G6 q (Nat.le_refl _) x) t (Nat.le_refl _) y)
            have HI := Lib.hid i6
            have HH := Lib.hid hp
            have HS := Lib.hid s6
            have HG := Lib.hid G6
            clear HP i5 i6 s5 s6 G5 G6 g6 hv hp hpl
            generalize p.getD t 0 = y at *
            generalize p.getD q 0 = z at *
            by_cases hz : 0 ≤ z - ((t : Int) - q)
            · by_cases hy : y + t - q ≤ 15
              · go_wp2
                go_roundw
                case rel => exact ⟨_, m - 1, by go_num, by omega, HHS.out _ _ (by omega) (by omega) (by omega) (by omega), HIS.out _ _, (HSS.out _ _).mono (by omega), HGS.out _ _⟩
                case measure => simp [intOf]; omega
              · go_wp2
                go_roundw
                case rel => exact ⟨_, m - 1, by go_num, by omega, HH.out, HI.out, HS.out.mono (by omega), HG.out⟩
                case measure => simp [intOf]; omega
            · go_wp2
              go_roundw
              case rel => exact ⟨_, m - 1, by go_num, by omega, HH.out, HI.out, HS.out.mono (by omega), HG.out⟩
              case measure => simp [intOf]; omega
          · go_wp2
            go_ret
            exact ⟨_, _, rfl, hi, hp, hs.mono (by omega), hg⟩
        · obtain rfl : m = 0 := by omega
          go_wp2
          go_ret
          exact ⟨_, _, rfl, hi, hp, hs.mono (by omega), hg⟩
end Go.Proofs.Ytgjmhihomklooaa
