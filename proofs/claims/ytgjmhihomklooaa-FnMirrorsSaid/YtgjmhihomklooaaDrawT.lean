/- What FnMirrors draws twice: two lists of beats. Condition: at most 10^9 bytes. -/
import Derived.Test.YtgjmhihomklooaaMirP
import Derived.Test.YtgjmhihomklooaaDrawsS
import Derived.Test.YtgjmhihomklooaaSynN
import Derived.Test.YtgjmhihomklooaaSynL
namespace Go.Proofs.Ytgjmhihomklooaa
open Go.RowKit
set_option linter.unusedSimpArgs false
set_option linter.unusedVariables false

set_option maxRecDepth 10000 in
set_option maxHeartbeats 2000000 in
theorem drawSameSync_any (a : Option Addr) (len cap : Nat) (zs : List Int) (w : World) (hr : IsRow .u8 w a len cap zs) (hlen : len ≤ 1000000000) :
    Calls Try.prog 38 #[.slice a len cap] w fun e w' => ∃ v p u q, e = .returned (.tuple #[v, u]) ∧ Syns w' w.heap.size v p ∧ Syns w' w.heap.size u q ∧ Below w.heap.size w w' := by
  have hab := hr.apart
  have hrow : ∀ wr : World, Below w.heap.size w wr → IsRow .u8 wr a len cap zs := fun wr hb => hr.below hb
  have HROW := Lib.hid hrow
  go_enter Try.func38, Try.ntmps38
  go_wp2_with fail
  refine (l00From_any a len cap _).mono ?_
  rintro e w1 ⟨rfl, s1, z1, b1⟩
  have HB := l05Bent_any a len cap w.heap.size 0 zs w1 s1 (hr.below b1) hab hlen (by omega)
  have hz1 := b1.size
  clear s1 hr hab hrow
  go_wp2_with fail
  refine HB.mono ?_
  rintro e w2 ⟨v, p, rfl, i2, hp, hfull, s2, g2⟩
  have B2 : Below w.heap.size w w2 := b1.grown g2 hz1 (by intro q hq; cases hq; exact Nat.le_refl _)
  have hz2 := g2.size
  clear HB
  obtain ⟨g, cp, rfl, hgz⟩ : ∃ g cp, v = .slice (some ⟨g, 0, none⟩) p.length cp ∧ g < w2.heap.size := by
    rcases i2.shape with ⟨h1, h2⟩ | ⟨g, cap, h1, _, h3, _⟩
    · obtain ⟨g, hg⟩ := hfull h2
      rw [h1] at hg
      cases hg
    · exact ⟨g, cap, h1, h3⟩
  obtain ⟨i0, hi, hz0, hz1', hz2'⟩ := info_parts Try.infoSyn
  have hsp := fun j u hj => (i2.alloc (.cells #[] 115)).spread synV_len j u hj
  have hfl := flat_len synV_len p
  have hon : ∀ u ∈ p.flatMap synV, u.oneCell' = true := fun u hu => by
    obtain ⟨y, _, hy⟩ := List.mem_flatMap.1 hu
    exact synV_one y u hy
  have hown0 : (w2.alloc (.cells #[] 115)).ownsRow w2.heap.size 115 4 (.slice (some ⟨w2.heap.size, 0, none⟩) 0 0) 0 [] := OwnK.empty 115 4 synV w2 (Nat.le_refl _)
  clear hfull
  go_wp2_with (at_builtin; refine wpList_append_own _ rfl _ _ 44 rfl w2.heap.size 115 i0 (.agg #[.int .i64 0, .bool false, .int .i64 0, .bool false]) 4 32 Try.underlying44 hi hz0 hz1' hz2' rfl (by decide) _ 0 [] rfl hown0 ⟨g, 0, none⟩ p.length cp (p.flatMap synV) rfl hfl hsp hon (by unfold maxLen; omega) (by omega) (by simp) ?_; intro v3 w3 h1 h2 h3; refine Hid.out ?_)
  have ib : Syns w3 w2.heap.size v3 p := by unfold Syns OwnK; simpa using h1
  have B3 : Below w.heap.size w w3 := (B2.alloc (by omega) _).grown h2 (by have := B2.size; simp; omega) (fun q hq => by have e : w2.heap.size = q := Option.some.inj hq; have := B2.size; omega)
  have gr3 : w2.grownBy w3 none := ⟨h2.os, h2.tape, h2.output, by have := h2.size; simp at this; omega, fun k hk _ => (h2.block k (by simp; omega) (fun e => by have e2 : k = w2.heap.size := Option.some.inj e; omega)).trans (Below.heap_alloc _ _ _ hk)⟩
  have ia : Syns w3 w1.heap.size (.slice (some ⟨g, 0, none⟩) p.length cp) p := i2.block fun g' hg' hlt' => gr3.block g' hlt' (by simp)
  have sc := s2.keep gr3 (by simp)
  have Bc := B3
  have hz3 := gr3.size
  have hlow : w.heap.size < w1.heap.size := by omega
  have hlow2 : w.heap.size < w2.heap.size := by omega
  have HQ9 : Hid (p.length ≤ 8) := hp
  obtain ⟨a3, c3, rfl⟩ := ib.sl
  clear hown0 hsp hfl hon h1 h2 h3 hi hz0 hz1' hz2' i2 s2 g2 B2 b1 gr3 B3
  refine Lib.hid ?_
  by_cases h0 : p.length = 0
  · have h0' : ¬ (0 : Int) < (p.length : Int) := by omega
    clear h0
    have HO6 := one_any a len cap w.heap.size _ 6 zs _ sc (HROW.out _ Bc) hlen (by omega) (by omega)
    clear sc
    go_wp2_with fail
    refine HO6.mono ?_
    rintro e w6 ⟨x6, rfl, s6, g6⟩
    have ia6 := ia.keepb g6 hlow
    have ib6 := ib.keepb g6 hlow2
    have B6 := Bc.grown g6 Bc.size (by intro q hq; cases hq; exact Nat.le_refl _)
    have z6 := g6.size
    clear HO6 ia ib g6
    cases x6 with
    | false =>
      go_wp2
      go_ret2
      first | exact ⟨_, _, _, _, rfl, ia6.mono hz1, ib6.mono (by omega), B6⟩ | exact ⟨_, _, rfl, ⟨_, ia6.mono hz1⟩, ⟨_, ib6.mono (by omega)⟩, B6⟩ | exact ⟨_, _, _, rfl, _, ia6.mono hz1, ib6.mono (by omega), B6⟩ | exact ⟨_, _, ⟨rfl, _, ia6.mono hz1⟩, _, ib6.mono (by omega), B6⟩ | (trace_state; fail)
    | true =>
      go_wp2_with (at_builtin; refine append_syn _ rfl _ _ rfl _ _ _ rfl ib6 ((0, false), (0, false)) rfl (by have := HQ9.out; omega) (by omega) ?_; intro v7 w7 i7 g7; refine Hid.out ?_)
      have ia7 : Syns w7 w1.heap.size (.slice (some ⟨g, 0, none⟩) p.length cp) p := ia6.block fun g' hg' hlt' => g7.block g' hlt' (by intro e; have h1 := ib6.own_ge e.symm; simp [Value.ownBlock] at hg'; omega)
      have B7 : Below w.heap.size w w7 := B6.grown g7 B6.size (by intro q hq; have := ib6.own_ge hq; omega)
      clear ia6 ib6 g7
      refine Lib.hid ?_
      go_wp2
      go_ret2
      first | exact ⟨_, _, _, _, rfl, ia7.mono hz1, i7.mono (by omega), B7⟩ | exact ⟨_, _, rfl, ⟨_, ia7.mono hz1⟩, ⟨_, i7.mono (by omega)⟩, B7⟩ | exact ⟨_, _, _, rfl, _, ia7.mono hz1, i7.mono (by omega), B7⟩ | (trace_state; fail)
  · have h0' : (0 : Int) < (p.length : Int) := by omega
    have HO2 := one_any a len cap w.heap.size _ 2 zs _ sc (HROW.out _ Bc) hlen (by omega) (by omega)
    clear sc
    go_wp2_with fail
    refine HO2.mono ?_
    rintro e w4 ⟨x4, rfl, sc, g4⟩
    replace ia := ia.keepb g4 hlow
    replace ib := ib.keepb g4 hlow2
    replace Bc := Bc.grown g4 Bc.size (by intro q hq; cases hq; exact Nat.le_refl _)
    have z4 := g4.size
    clear HO2 g4
    cases x4 with
    | false =>
      have HO6 := one_any a len cap w.heap.size _ 6 zs _ sc (HROW.out _ Bc) hlen (by omega) (by omega)
      clear sc
      go_wp2_with fail
      refine HO6.mono ?_
      rintro e w6 ⟨x6, rfl, s6, g6⟩
      have ia6 := ia.keepb g6 hlow
      have ib6 := ib.keepb g6 hlow2
      have B6 := Bc.grown g6 Bc.size (by intro q hq; cases hq; exact Nat.le_refl _)
      have z6 := g6.size
      clear HO6 ia ib g6
      cases x6 with
      | false =>
        go_wp2
        go_ret2
        first | exact ⟨_, _, _, _, rfl, ia6.mono hz1, ib6.mono (by omega), B6⟩ | exact ⟨_, _, rfl, ⟨_, ia6.mono hz1⟩, ⟨_, ib6.mono (by omega)⟩, B6⟩ | exact ⟨_, _, _, rfl, _, ia6.mono hz1, ib6.mono (by omega), B6⟩ | exact ⟨_, _, ⟨rfl, _, ia6.mono hz1⟩, _, ib6.mono (by omega), B6⟩ | (trace_state; fail)
      | true =>
        go_wp2_with (at_builtin; refine append_syn _ rfl _ _ rfl _ _ _ rfl ib6 ((0, false), (0, false)) rfl (by have := HQ9.out; omega) (by omega) ?_; intro v7 w7 i7 g7; refine Hid.out ?_)
        have ia7 : Syns w7 w1.heap.size (.slice (some ⟨g, 0, none⟩) p.length cp) p := ia6.block fun g' hg' hlt' => g7.block g' hlt' (by intro e; have h1 := ib6.own_ge e.symm; simp [Value.ownBlock] at hg'; omega)
        have B7 : Below w.heap.size w w7 := B6.grown g7 B6.size (by intro q hq; have := ib6.own_ge hq; omega)
        clear ia6 ib6 g7
        refine Lib.hid ?_
        go_wp2
        go_ret2
        first | exact ⟨_, _, _, _, rfl, ia7.mono hz1, i7.mono (by omega), B7⟩ | exact ⟨_, _, rfl, ⟨_, ia7.mono hz1⟩, ⟨_, i7.mono (by omega)⟩, B7⟩ | exact ⟨_, _, _, rfl, _, ia7.mono hz1, i7.mono (by omega), B7⟩ | (trace_state; fail)
    | true =>
      obtain ⟨g3, c3', e3, hB3, hg3, _, _⟩ := ib.shape2 (by omega)
      simp only [Value.slice.injEq] at e3
      obtain ⟨rfl, _, rfl⟩ := e3
      have c1 := (ib.four 0 (by omega)).2.1
      have f1 := ib.free (0 * 4 + 1)
      have HP := ib.put synV_len s0 0 1 (.bool (!(p.getD 0 s0).1.2)) (((p.getD 0 s0).1.1, !(p.getD 0 s0).1.2), (p.getD 0 s0).2) (by omega) (by decide) rfl
      simp only [Nat.zero_mul, Nat.zero_add] at c1 f1 HP
      have HPA : Syns (w4.setCell ⟨g3, 1, none⟩ (.bool (!(p.getD 0 s0).1.2))) w1.heap.size (.slice (some ⟨g, 0, none⟩) p.length cp) p := ia.block fun g' hg' _ => Below.heap_setCell _ _ _ _ (by simp [Value.ownBlock] at hg'; subst hg'; show g ≠ g3; omega)
      have HSC := sc.set 1 (show w.heap.size ≠ g3 by omega) (.bool (!(p.getD 0 s0).1.2))
      have HBC := Bc.setCell (p := ⟨g3, 1, none⟩) (by show w.heap.size ≤ g3; omega) (.bool (!(p.getD 0 s0).1.2))
      have z5 : (w4.setCell ⟨g3, 1, none⟩ (.bool (!(p.getD 0 s0).1.2))).heap.size = w4.heap.size := by simp
      have HQ9 : Hid ((p.set 0 (((p.getD 0 s0).1.1, !(p.getD 0 s0).1.2), (p.getD 0 s0).2)).length ≤ 8) := by unfold Hid; rw [List.length_set]; exact HQ9.out
      clear ia ib sc Bc
      have ia := HPA
      have ib := HP
      have sc := HSC
      have Bc := HBC
      clear HPA HP HSC HBC
      generalize p.set 0 (((p.getD 0 s0).1.1, !(p.getD 0 s0).1.2), (p.getD 0 s0).2) = p5 at *
      generalize (p.getD 0 s0).1.2 = zz at *
      have HO6 := one_any a len cap w.heap.size _ 6 zs _ sc (HROW.out _ Bc) hlen (by omega) (by omega)
      clear sc
      go_wp2_with fail
      refine HO6.mono ?_
      rintro e w6 ⟨x6, rfl, s6, g6⟩
      have ia6 := ia.keepb g6 hlow
      have ib6 := ib.keepb g6 hlow2
      have B6 := Bc.grown g6 Bc.size (by intro q hq; cases hq; exact Nat.le_refl _)
      have z6 := g6.size
      clear HO6 ia ib g6
      cases x6 with
      | false =>
        go_wp2
        go_ret2
        first | exact ⟨_, _, _, _, rfl, ia6.mono hz1, ib6.mono (by omega), B6⟩ | exact ⟨_, _, rfl, ⟨_, ia6.mono hz1⟩, ⟨_, ib6.mono (by omega)⟩, B6⟩ | exact ⟨_, _, _, rfl, _, ia6.mono hz1, ib6.mono (by omega), B6⟩ | exact ⟨_, _, ⟨rfl, _, ia6.mono hz1⟩, _, ib6.mono (by omega), B6⟩ | (trace_state; fail)
      | true =>
        go_wp2_with (at_builtin; refine append_syn _ rfl _ _ rfl _ _ _ rfl ib6 ((0, false), (0, false)) rfl (by have := HQ9.out; omega) (by omega) ?_; intro v7 w7 i7 g7; refine Hid.out ?_)
        have ia7 : Syns w7 w1.heap.size (.slice (some ⟨g, 0, none⟩) p.length cp) p := ia6.block fun g' hg' hlt' => g7.block g' hlt' (by intro e; have h1 := ib6.own_ge e.symm; simp [Value.ownBlock] at hg'; omega)
        have B7 : Below w.heap.size w w7 := B6.grown g7 B6.size (by intro q hq; have := ib6.own_ge hq; omega)
        clear ia6 ib6 g7
        refine Lib.hid ?_
        go_wp2
        go_ret2
        first | exact ⟨_, _, _, _, rfl, ia7.mono hz1, i7.mono (by omega), B7⟩ | exact ⟨_, _, rfl, ⟨_, ia7.mono hz1⟩, ⟨_, i7.mono (by omega)⟩, B7⟩ | exact ⟨_, _, _, rfl, _, ia7.mono hz1, i7.mono (by omega), B7⟩ | (trace_state; fail)
end Go.Proofs.Ytgjmhihomklooaa
