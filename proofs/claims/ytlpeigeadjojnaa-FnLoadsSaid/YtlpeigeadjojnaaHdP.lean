/- Drawing what RestsOf, LoadsOf, RenameHands ask: DrawLoadsOf, DrawRenameHands: they answer some lists, and write nothing that was there. Conditions: the code has at most 10^9 bytes. -/
import Derived.Test.YtlpeigeadjojnaaHdD
namespace Go.Proofs.Ytlpeigeadjojnaa
open Go.RowKit
set_option linter.unusedSimpArgs false
set_option linter.unusedVariables false

theorem drawLoadsOf_any (a : Option Addr) (len cap : Nat) (zs : List Int) (w : World) (hr : IsRow .u8 w a len cap zs) (hlen : len ≤ 1000000000) :
    Calls Try.prog 18 #[.slice a len cap] w fun e w' => ∃ v p u o, e = .returned (.tuple #[v, u]) ∧ Ints w' w.heap.size v p ∧ Ints w' w.heap.size u o ∧ Below w.heap.size w w' := by
  have HA := l14Ask_any a len cap zs w hr hlen
  clear hr
  go_enter Try.func18, Try.ntmps18
  go_wp2_with fail
  refine HA.mono ?_
  rintro e w3 ⟨v, p, u, o, rfl, i2, i3, b3⟩
  go_wp2
  go_ret2
  exact ⟨_, p, _, o, rfl, i2, i3, b3⟩

set_option maxRecDepth 10000 in
set_option maxHeartbeats 600000 in
/-- of any list: some number -/
theorem l14Count_some (u : Value) (B : Nat) (o : List Int) (w : World) (h : Ints w B u o) (hl : o.length ≤ 9223372036854775807) :
    Calls Try.prog 52 #[u] w fun e w' => ∃ n : Int, e = .returned (.int .i64 n) ∧ w = w' := by
  have hsl : ∃ a c, u = .slice a o.length c := ints_slH h
  obtain ⟨a, c, rfl⟩ := hsl
  have HC : Hid (∀ j, j < o.length → ∃ g, a = some ⟨g, 0, none⟩ ∧ w.cell? ⟨g, j, none⟩ = some (.int .i64 (o.getD j 0))) := Lib.hid fun j hj => by
    obtain ⟨g, cap, e, _, hg, _, _⟩ := h.shape2 (by omega)
    cases e
    exact ⟨g, rfl, h.cell j hj⟩
  generalize hn : o.length = n at *
  clear h hn
  go_enter Try.func52, Try.ntmps52
  go_wp2
  go_loop [3, 4] (fun t i => ∃ k : Nat, k ≤ n ∧ i = .int .i64 k ∧ ∃ m : Int, t = .int .i64 m) (fun _ i => n - (intOf i).toNat)
  case atStart => exact ⟨0, Nat.zero_le _, rfl, 0, rfl⟩
  case round =>
    obtain ⟨k, hk, rfl, m, rfl⟩ := hrel
    by_cases hlt : k < n
    · obtain ⟨g, rfl, hc⟩ := HC.out k hlt
      generalize o.getD k 0 = y at *
      clear HC
      go_wp2_with fail
      refine (l00Max_any _ _ _).mono ?_
      rintro e w' ⟨rfl, rfl⟩
      go_wp2
      go_round
      case rel => exact ⟨k + 1, by omega, by go_num, _, rfl⟩
      case measure => simp [intOf]; omega
    · obtain rfl : k = n := by omega
      clear HC
      go_wp2
      go_ret
      first | exact ⟨_, rfl, rfl⟩ | exact ⟨⟨_, rfl⟩, rfl⟩ | rfl | trivial

set_option maxRecDepth 10000 in
set_option maxHeartbeats 600000 in
theorem drawRenameHands_any (a : Option Addr) (len cap : Nat) (zs : List Int) (w : World) (hr : IsRow .u8 w a len cap zs) (hlen : len ≤ 1000000000) :
    Calls Try.prog 23 #[.slice a len cap] w fun e w' => ∃ v o u names, e = .returned (.tuple #[v, u]) ∧ Ints w' w.heap.size v o ∧ Ints w' w.heap.size u names ∧ Below w.heap.size w w' := by
  go_enter Try.func23, Try.ntmps23
  go_wp2_with fail
  refine (l00From_any a len cap w).mono ?_
  rintro e w1 ⟨rfl, s1, z1, b1⟩
  have hab := hr.apartH
  have hr1 := hr.below b1
  have hz1 := b1.size
  have HO := l14Bent_any a len cap w.heap.size 0 zs w1 s1 hr1 hab hlen (by omega)
  clear s1
  go_wp2_with fail
  refine HO.mono ?_
  rintro e w2 ⟨v, o, rfl, i2, s2, g2⟩
  clear HO
  have hz2 := g2.size
  have hlt : w.heap.size < w1.heap.size := by omega
  have B2 : Below w.heap.size w w2 := b1.grown g2 hz1 (fun j hj => by cases hj; exact Nat.le_refl _)
  have hol : o.length ≤ 9223372036854775807 := by
    by_cases h1 : 1 ≤ o.length
    · obtain ⟨g, c, rfl, _, _, hc, hm⟩ := i2.shape2 h1
      first | omega | (unfold maxLen at hm; omega)
    · omega
  have hE : Ints (w2.alloc (.cells #[] 2)) w2.heap.size (.slice (some ⟨w2.heap.size, 0, none⟩) 0 0) [] := World.ownsRow_lit w2 #[] 0 (Nat.le_refl _) (by simp [maxLen]) rfl
  have sE := s2.keep (World.grownBy_alloc w2 (.cells #[] 2) none) (by simp)
  have gE : w2.grownBy (w2.alloc (.cells #[] 2)) (some w.heap.size) := World.grownBy_alloc _ _ _
  have HBF := Lib.hid (fun (wr : World) (hg : w2.grownBy wr (some w.heap.size)) => show Below w.heap.size w wr from B2.grown hg B2.size (fun j hj => by cases hj; exact Nat.le_refl _))
  have HROW := Lib.hid (fun (wr : World) (hb : Below w.heap.size w wr) => hr.below hb)
  have HO2 := Lib.hid (fun (wr : World) (hg : w2.grownBy wr (some w.heap.size)) => i2.keepb hg (by omega))
  clear hr hr1 hab g2 s2 B2 b1
  go_wp2
  clear i2
  go_loopw [6, 7, 8] (fun v h _ wr => ∃ (j K : Nat) (nm : List Int), j ≤ 4 ∧ h = .int .i64 j ∧ Ints wr w2.heap.size v nm ∧ nm.length = j ∧ K ≤ 30 + 4 * j ∧ Src wr w.heap.size K (.slice a len cap) ∧ w2.grownBy wr (some w.heap.size)) (fun _ h _ _ => 4 - (intOf h).toNat)
  case atStart => exact ⟨0, _, [], by omega, rfl, hE, rfl, by omega, sE, gE⟩
  case round =>
    clear hE sE gE
    obtain ⟨j, K, nm, hj, rfl, hi, hnl, hK, hs, hg⟩ := hrel
    have hz := hg.size
    have HCN := l14Count_some v w1.heap.size o wr (HO2.out wr hg) hol
    go_wp2_with fail
    refine HCN.mono ?_
    rintro e w3 ⟨n, rfl, rfl⟩
    clear HCN
    by_cases h1 : (j : Int) < n
    · by_cases h2 : j < 4
      · have HP := pick_any a len cap w.heap.size K ((j : Int) + 1) zs wr hs (HROW.out wr (HBF.out wr hg)) hlen (by omega) (by omega)
        have h2' : (j : Int) < 4 := by omega
        clear hs
        go_wp2_with fail
        refine HP.mono ?_
        rintro e w4 ⟨x, rfl, hx, s4, g4⟩
        obtain ⟨q, rfl⟩ : ∃ q : Nat, x = q := ⟨x.toNat, by omega⟩
        have hq : q ≤ j := by omega
        have G4 := hg.trans g4
        have i4 := hi.keepb g4 (by omega)
        have hz4 := G4.size
        clear HP hi hg g4 hx
        go_wp2_with (at_builtin; refine append_int _ rfl _ _ rfl _ _ _ rfl i4 (j : Int) rfl (by omega) hz4 ?_; intro v' w5 hi5 hg5; refine Hid.out ?_)
        have hog : ∀ y, y ∈ (u6 : Value).ownBlock → w2.heap.size ≤ y := fun y hy => i4.own_ge hy
        have s5 := s4.keep hg5 (fun e => by have := hog _ e.symm; omega)
        have G5 : w2.grownBy w5 (some w.heap.size) := ⟨hg5.os.trans G4.os, hg5.tape.trans G4.tape, hg5.output.trans G4.output, Nat.le_trans G4.size hg5.size, fun y hy hne => (hg5.block y (by omega) (fun e => by have := hog y e.symm; omega)).trans (G4.block y hy hne)⟩
        have hl5 : (nm ++ [(j : Int)]).length = j + 1 := by simp [hnl]
        obtain ⟨g0, cc, rfl, hBg, _, _, _⟩ := hi5.shape2 (by omega)
        rw [hl5] at hi5 ⊢
        clear hg5 i4 hog s4 G4
        generalize nm ++ [(j : Int)] = L at *
        have c1 := hi5.cell q (by omega)
        have c2 := hi5.cell j (by omega)
        have f2 := hi5.free j
        have hi6 := hi5.set j (L.getD q 0)
        have hl6 : (L.set j (L.getD q 0)).length = j + 1 := by simp [hl5]
        have G6 := grown_new G5 j hBg (.int .i64 (L.getD q 0))
        have s6 := s5.set j (show w.heap.size ≠ g0 by omega) (.int .i64 (L.getD q 0))
        generalize L.getD q 0 = y at *
        generalize L.set j y = M at *
        have d1 := hi6.cell q (by omega)
        have e1 := hi6.free q
        have HI7 := Lib.hid (hi6.set q (j : Int))
        have hl7 : (M.set q (j : Int)).length = j + 1 := by simp [hl6]
        have G7 := Lib.hid (grown_new G6 q hBg (.int .i64 (j : Int)))
        have S7 := Lib.hid (s6.set q (show w.heap.size ≠ g0 by omega) (.int .i64 (j : Int)))
        generalize M.getD q 0 = m1 at *
        generalize L.getD j 0 = m2 at *
        clear hi5 hi6 G5 G6 s5 s6 HROW HO2 HBF
        refine Lib.hid ?_
        go_wp2
        go_roundw
        case rel => exact ⟨j + 1, K + 1, _, by omega, by go_num, HI7.out, hl7, by omega, S7.out, G7.out⟩
        case measure => simp [intOf]; omega
      · have h2' : ¬ (j : Int) < 4 := by omega
        subst hnl
        obtain ⟨a', c', rfl⟩ := ints_slH hi
        by_cases h0 : nm.length = 0
        · exfalso; omega
        · have HP := one_any a len cap w.heap.size K 8 zs wr hs (HROW.out wr (HBF.out wr hg)) hlen (by omega) (by omega)
          obtain ⟨g0, cc, he, hBg, _, _, _⟩ := hi.shape2 (by omega)
          have h1' : (0 : Int) < (nm.length : Int) := by omega
          cases he
          clear hs
          go_wp2_with fail
          refine HP.mono ?_
          rintro e w4 ⟨x, rfl, s4, g4⟩
          have G4 := hg.trans g4
          have i4 := hi.keepb g4 (by omega)
          clear HP hi hg g4
          cases x with
          | false =>
            have hi0 := Lib.hid (HO2.out w4 G4)
            have hi1 := Lib.hid i4
            have hbb := Lib.hid (HBF.out w4 G4)
            clear i4 s4 HROW HO2 HBF G4 hK
            go_wp2
            go_ret2
            first | exact ⟨_, o, _, nm, rfl, hi0.out.mono hz1, hi1.out.mono (by omega), hbb.out⟩ | exact ⟨_, o, _, rfl, hi0.out.mono hz1, ⟨nm, hi1.out.mono (by omega)⟩, hbb.out⟩
          | true =>
            have HP := pick_any a len cap w.heap.size (K + 1) 5 zs w4 s4 (HROW.out w4 (HBF.out w4 G4)) hlen (by omega) (by omega)
            clear s4
            go_wp2_with fail
            refine HP.mono ?_
            rintro e w5 ⟨x, rfl, hx, s5, g5⟩
            have G5 := G4.trans g5
            have i5 := i4.keepb g5 (by omega)
            have c5 := i5.cell 0 (by omega)
            have f5 := i5.free 0
            have hi1 := Lib.hid (i5.set 0 (x - 1))
            have G6 := grown_new G5 0 hBg (.int .i64 (x - 1))
            have hi0 := Lib.hid (HO2.out _ G6)
            have hbb := Lib.hid (HBF.out _ G6)
            generalize nm.getD 0 0 = zz at *
            clear HP i4 i5 s5 g5 G4 G5 G6 HROW HO2 HBF hK
            go_wp2
            go_ret2
            exact ⟨_, o, _, _, rfl, hi0.out.mono hz1, hi1.out.mono (by omega), hbb.out⟩
    · subst hnl
      obtain ⟨a', c', rfl⟩ := ints_slH hi
      by_cases h0 : nm.length = 0
      · have hi0 := Lib.hid (HO2.out wr hg)
        have hi1 := Lib.hid hi
        have hbb := Lib.hid (HBF.out wr hg)
        rw [h0] at hi1 ⊢
        clear hi hs HROW HO2 HBF hK hg
        go_wp2
        go_ret2
        first | exact ⟨_, o, _, nm, rfl, hi0.out.mono hz1, hi1.out.mono (by omega), hbb.out⟩ | exact ⟨_, o, _, rfl, hi0.out.mono hz1, ⟨nm, hi1.out.mono (by omega)⟩, hbb.out⟩
      · have HP := one_any a len cap w.heap.size K 8 zs wr hs (HROW.out wr (HBF.out wr hg)) hlen (by omega) (by omega)
        obtain ⟨g0, cc, he, hBg, _, _, _⟩ := hi.shape2 (by omega)
        have h1' : (0 : Int) < (nm.length : Int) := by omega
        cases he
        clear hs
        go_wp2_with fail
        refine HP.mono ?_
        rintro e w4 ⟨x, rfl, s4, g4⟩
        have G4 := hg.trans g4
        have i4 := hi.keepb g4 (by omega)
        clear HP hi hg g4
        cases x with
        | false =>
          have hi0 := Lib.hid (HO2.out w4 G4)
          have hi1 := Lib.hid i4
          have hbb := Lib.hid (HBF.out w4 G4)
          clear i4 s4 HROW HO2 HBF G4 hK
          go_wp2
          go_ret2
          first | exact ⟨_, o, _, nm, rfl, hi0.out.mono hz1, hi1.out.mono (by omega), hbb.out⟩ | exact ⟨_, o, _, rfl, hi0.out.mono hz1, ⟨nm, hi1.out.mono (by omega)⟩, hbb.out⟩
        | true =>
          have HP := pick_any a len cap w.heap.size (K + 1) 5 zs w4 s4 (HROW.out w4 (HBF.out w4 G4)) hlen (by omega) (by omega)
          clear s4
          go_wp2_with fail
          refine HP.mono ?_
          rintro e w5 ⟨x, rfl, hx, s5, g5⟩
          have G5 := G4.trans g5
          have i5 := i4.keepb g5 (by omega)
          have c5 := i5.cell 0 (by omega)
          have f5 := i5.free 0
          have hi1 := Lib.hid (i5.set 0 (x - 1))
          have G6 := grown_new G5 0 hBg (.int .i64 (x - 1))
          have hi0 := Lib.hid (HO2.out _ G6)
          have hbb := Lib.hid (HBF.out _ G6)
          generalize nm.getD 0 0 = zz at *
          clear HP i4 i5 s5 g5 G4 G5 G6 HROW HO2 HBF hK
          go_wp2
          go_ret2
          exact ⟨_, o, _, _, rfl, hi0.out.mono hz1, hi1.out.mono (by omega), hbb.out⟩
end Go.Proofs.Ytlpeigeadjojnaa
