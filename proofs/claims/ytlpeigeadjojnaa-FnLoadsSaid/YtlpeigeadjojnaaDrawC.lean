/- The source's methods among and text, and the model's l02Bent: they answer something, and write the source alone. Conditions: the source has read at most a million bytes. -/
import Derived.Test.YtlpeigeadjojnaaDrawB
import Derived.Test.YtlpeigeadjojnaaSees
namespace Go.Proofs.Ytlpeigeadjojnaa
open Go.RowKit
set_option linter.unusedSimpArgs false
set_option linter.unusedVariables false

theorem among_any (a : Option Addr) (len cap b k B : Nat) (v : Value) (xs : List Int) (zs : List Int) (w : World) (hs : Src w b k (.slice a len cap)) (hr : IsRow .u8 w a len cap zs) (hlen : len ≤ 1000000000) (hk : k ≤ 1000000000) (hv : Ints w B v xs) (hB : b < B) (h1 : 1 ≤ xs.length) (h2 : xs.length ≤ 200) :
    Calls Try.prog 39 #[.pointer (some ⟨b, 0, none⟩), v] w fun e w' => ∃ x, e = .returned (.int .i64 x) ∧ Src w' b (k + 1) (.slice a len cap) ∧ w.grownBy w' (some b) := by
  obtain ⟨g, c, rfl, hBg, hg, hc, hm⟩ := hv.shape2 h1
  have HP := pick_any a len cap b k xs.length zs w hs hr hlen hk (by omega)
  have HV := Lib.hid hv
  obtain ⟨n, hn⟩ : ∃ n, n = xs.length := ⟨_, rfl⟩
  rw [← hn] at HP h1 h2 hc ⊢
  have HN := Lib.hid hn
  clear hn hv
  go_enter Try.func39, Try.ntmps39
  go_wp2_with fail
  refine HP.mono ?_
  rintro e w1 ⟨x, rfl, hx, s1, g1⟩
  obtain ⟨j, rfl⟩ : ∃ j : Nat, x = j := ⟨x.toNat, by omega⟩
  have hj : j < n := by omega
  have hv1 := HV.out.keepb g1 hB
  have hcell := hv1.cell j (by have := HN.out; omega)
  clear HP HV hv1 hx
  generalize xs.getD j 0 = y at *
  go_wp2
  go_ret
  exact ⟨_, rfl, s1, g1⟩

/-- a string that is not long -/
def shortStr : Value → Bool
  | .string s => decide (s.size ≤ 100)
  | _ => false

/-- the length of a slice -/
def lenV : Value → Nat
  | .slice _ n _ => n
  | _ => 0

set_option maxHeartbeats 2000000 in
theorem l02Bent_any (a : Option Addr) (len cap b k : Nat) (zs : List Int) (w : World) (hs : Src w b k (.slice a len cap)) (hr : IsRow .u8 w a len cap zs) (hab : ∀ x, a = some x → 0 < zs.length → x.block ≠ b) (hlen : len ≤ 1000000000) (hk : k ≤ 900000) :
    Calls Try.prog 59 #[.pointer (some ⟨b, 0, none⟩)] w fun e w' => ∃ v p, e = .returned v ∧ Ints w' w.heap.size v p ∧ Src w' b (k + 2000) (.slice a len cap) ∧ w.grownBy w' (some b) := by
  have HD := l02Draw_any a len cap b k 7 zs w hs hr hab hlen (by omega) (by omega) (by omega)
  have hbw := hs.lt
  have hrow : ∀ wr : World, w.grownBy wr (some b) → IsRow .u8 wr a len cap zs := fun wr hg => hr.grown hg fun x hx h0 => by simpa using hab x hx h0
  have HROW := Lib.hid hrow
  clear hrow hab hr hs
  go_enter Try.func59, Try.ntmps59
  go_wp2_with fail
  refine HD.mono ?_
  rintro e w1 ⟨v, p, rfl, i1, hok, hp7, s1, g1⟩
  clear HD
  have hp1 := (okPat_len hok).1
  have hpx := fun i hi => okPat_at hok i hi
  have HPX := Lib.hid hpx
  obtain ⟨g, c, rfl, hBg, hgs, hc, hm⟩ := i1.shape2 hp1
  have HP := pick_any a len cap b (k + 1000) p.length zs w1 s1 (HROW.out _ g1) hlen (by omega) (by omega)
  clear s1 hpx hok
  go_wp2_with fail
  refine HP.mono ?_
  rintro e w2 ⟨x, rfl, hx, s2, g2⟩
  obtain ⟨j, rfl⟩ : ∃ j : Nat, x = j := ⟨x.toNat, by omega⟩
  have hj : j < p.length := by omega
  have G2 := g1.trans g2
  have i2 := i1.keepb g2 hbw
  clear HP hx g1 g2 i1
  have HP := pick_any a len cap b (k + 1000 + 1) 14 zs w2 s2 (HROW.out _ G2) hlen (by omega) (by omega)
  clear s2
  go_wp2_with fail
  refine HP.mono ?_
  rintro e w3 ⟨y, rfl, hy, s3, g3⟩
  have G3 := G2.trans g3
  have i3 := i2.keepb g3 hbw
  have Z3 := G3.size
  clear HP g3 G2 i2
  by_cases h0 : y = 0
  · subst h0
    clear hy
    have cj := i3.cell j hj
    obtain ⟨hx1, hx2⟩ := HPX.out j hj
    have HI3 := Lib.hid i3
    generalize p.getD j 0 = z at *
    have i4 : Ints (w3.alloc (.cells #[.int .i64 (-1), .int .i64 15, .int .i64 16, .int .i64 (z + 1)] 2)) w3.heap.size (.slice (some ⟨w3.heap.size, 0, none⟩) 4 4) [-1, 15, 16, z + 1] := World.ownsRow_lit w3 #[.int .i64 (-1), .int .i64 15, .int .i64 16, .int .i64 (z + 1)] 4 (Nat.le_refl _) (by simp [maxLen]) rfl
    have s4 := s3.keep (World.grownBy_alloc w3 (.cells #[.int .i64 (-1), .int .i64 15, .int .i64 16, .int .i64 (z + 1)] 2) none) (by simp)
    have G4 : w.grownBy (w3.alloc (.cells #[.int .i64 (-1), .int .i64 15, .int .i64 16, .int .i64 (z + 1)] 2)) (some b) := G3.trans (World.grownBy_alloc _ _ _)
    have ip4 := HI3.out.alloc (.cells #[.int .i64 (-1), .int .i64 15, .int .i64 16, .int .i64 (z + 1)] 2)
    have HA := among_any a len cap b (k + 1000 + 1 + 1) w3.heap.size _ _ zs _ s4 (HROW.out _ G4) hlen (by omega) i4 (by omega) (by simp) (by simp)
    have IP4 := Lib.hid ip4
    have G4' := Lib.hid G4
    clear i3 i4 s4 G4 ip4 s3 G3 HI3
    generalize hn : p.length = n at *
    have HN := Lib.hid hn
    clear hn
    go_wp2_with fail
    refine HA.mono ?_
    rintro e w5 ⟨u, rfl, s5, g5⟩
    have i5 := IP4.out.keepb g5 hbw
    have c5 := i5.cell j (by rw [HN.out]; exact hj)
    have f5 := i5.free j
    have i6 := i5.set j u
    have G5 := G4'.out.trans g5
    have G6 := grown_new G5 j hBg (.int .i64 u)
    have s6 := s5.set j (show b ≠ g by omega) (.int .i64 u)
    clear HA i5 IP4 s5 g5 G5
    generalize p.getD j 0 = zz at *
    go_wp2
    go_ret
    exact ⟨_, _, rfl, i6, s6.mono (by omega), G6⟩
  · by_cases h1 : y = 1
    · subst h1
      clear hy h0
      have HP := pick_any a len cap b (k + 1000 + 1 + 1) 10 zs w3 s3 (HROW.out _ G3) hlen (by omega) (by omega)
      go_wp2_with fail
      refine HP.mono ?_
      rintro e w4 ⟨z, rfl, hz, s4, g4⟩
      have i4 := i3.keepb g4 hbw
      have G4 := G3.trans g4
      have c4 := i4.cell j hj
      have f4 := i4.free j
      have i5 := i4.set j z
      have G5 := grown_new G4 j hBg (.int .i64 z)
      have s5 := s4.set j (show b ≠ g by omega) (.int .i64 z)
      clear HP i3 i4 s3 s4 G3 G4 g4 hz
      generalize p.length = n at *
      go_wp2
      go_ret
      exact ⟨_, _, rfl, i5, s5.mono (by omega), G5⟩
    · by_cases h2 : y = 2
      · subst h2
        clear hy h0 h1
        have i4 : Ints (w3.alloc (.cells #[] 2)) w.heap.size (.slice (some ⟨w3.heap.size, 0, none⟩) 0 0) [] := World.ownsRow_lit w3 #[] 0 Z3 (by simp [maxLen]) rfl
        go_wp2
        go_ret
        exact ⟨_, _, rfl, i4, (s3.keep (World.grownBy_alloc w3 (.cells #[] 2) none) (by simp)).mono (by omega), G3.trans (World.grownBy_alloc _ _ _)⟩
      · by_cases h3 : y = 3
        · subst h3
          clear hy h0 h1 h2
          have i4 : Ints (w3.alloc (.cells #[] 2)) w.heap.size (.slice (some ⟨w3.heap.size, 0, none⟩) 0 0) [] := World.ownsRow_lit w3 #[] 0 Z3 (by simp [maxLen]) rfl
          have s4 := s3.keep (World.grownBy_alloc w3 (.cells #[] 2) none) (by simp)
          have G4 : w.grownBy (w3.alloc (.cells #[] 2)) (some b) := G3.trans (World.grownBy_alloc _ _ _)
          have HP := pick_any a len cap b (k + 1000 + 1 + 1) 2 zs _ s4 (HROW.out _ G4) hlen (by omega) (by omega)
          have I4 := Lib.hid i4
          have G4' := Lib.hid G4
          clear i3 i4 s4 G4 s3 G3
          go_wp2_with fail
          refine HP.mono ?_
          rintro e w5 ⟨u, rfl, hu, s5, g5⟩
          have i5 := I4.out.keepb g5 hbw
          have G5 := G4'.out.trans g5
          obtain ⟨n, hn⟩ : ∃ n : Nat, 12 + u = (n : Int) := ⟨(12 + u).toNat, by omega⟩
          have hn13 : n ≤ 13 := by omega
          clear HP I4 g5 hu
          go_wp2
          clear hn
          go_loopw [3] (fun v wr => ∃ q : List Int, Hid (lenV v = q.length) ∧ q.length ≤ 14 ∧ Ints wr w.heap.size v q ∧ Src wr b (k + 1000 + 1 + 1 + 1) (.slice a len cap) ∧ w.grownBy wr (some b)) (fun v _ => n - lenV v)
          case atStart => exact ⟨[], rfl, by simp, i5, s5, G5⟩
          case round =>
            clear i5 s5 G5
            obtain ⟨q, hlv, hql, hi, hs, hg⟩ := hrel
            have hz := hg.size
            obtain ⟨m, hm'⟩ : ∃ m, m = q.length := ⟨_, rfl⟩
            have HM := Lib.hid hm'
            obtain ⟨A, c', rfl⟩ : ∃ A c', u3 = Value.slice A m c' := by
              rcases hi.shape with ⟨rfl, rfl⟩ | ⟨g', c', rfl, _⟩
              · exact ⟨none, 0, by rw [hm']; rfl⟩
              · exact ⟨_, c', by rw [hm']⟩
            rw [← hm'] at hql
            clear hm'
            by_cases hlt : m < n
            · go_wp2_with (at_builtin; refine append_int _ rfl _ _ rfl _ _ _ rfl hi _ rfl (by have := HM.out; omega) hz ?_; intro v' w6 i6 g6; refine Hid.out ?_)
              have G6 : w.grownBy w6 (some b) := hg.andThen g6 (fun q hq => .inl (by have := hi.own_ge hq; exact this))
              have s6 := hs.keep g6 (by intro e; have := hi.own_ge e.symm; omega)
              clear hi hs hg g6
              refine Lib.hid ?_
              go_wp2
              go_roundw
              case rel => exact ⟨_, by
                have hl : (q ++ [(3 : Int)]).length = q.length + 1 := by simp
                rcases i6.shape with ⟨rfl, h⟩ | ⟨g', c'', rfl, _⟩
                · rw [h] at hl; simp at hl
                · rfl, by have := HM.out; simp; omega, i6, s6, G6⟩
              case measure =>
                have hl : (q ++ [(3 : Int)]).length = q.length + 1 := by simp
                have hm := HM.out
                rcases i6.shape with ⟨rfl, h⟩ | ⟨g', c'', rfl, _⟩
                · rw [h] at hl; simp at hl
                · rw [hl, ← hm]; simp only [lenV]; omega
            · go_wp2
              go_ret
              exact ⟨_, _, rfl, hi, hs.mono (by omega), hg⟩
        · have e0 : (y == 0) = false := by simpa using h0
          have e1 : (y == 1) = false := by simpa using h1
          have e2 : (y == 2) = false := by simpa using h2
          have e3 : (y == 3) = false := by simpa using h3
          clear h0 h1 h2 h3
          go_wp2
          go_ret
          exact ⟨_, _, rfl, i3, s3.mono (by omega), G3⟩
end Go.Proofs.Ytlpeigeadjojnaa
