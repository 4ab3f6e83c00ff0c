/- What the laws of synchronous patterns draw: beats; and the model's comparison of parts of lists. Condition: at most 10^9 bytes. -/
import Derived.Test.YtgjmhihomklooaaBentS
import Derived.Test.YtgjmhihomklooaaSynT
namespace Go.Proofs.Ytgjmhihomklooaa
open Go.RowKit
set_option linter.unusedSimpArgs false
set_option linter.unusedVariables false

theorem IsRow.apart {w : World} {k : IntKind} {a : Option Addr} {len cap : Nat} {zs : List Int} (hr : IsRow k w a len cap zs) : ∀ x, a = some x → 0 < zs.length → x.block ≠ w.heap.size := by
  intro x hx h0
  rcases hr with ⟨rfl, _⟩ | ⟨y, rfl, _, _, _, hc, _⟩
  · cases hx
  · cases hx
    have h1 := cell_block (hc 0 h0)
    have e : (Addr.add _ 0).block = _ := show (Addr.add x 0).block = x.block by simp [Addr.add]
    rw [e] at h1
    omega

set_option maxRecDepth 10000 in
theorem f6big_any (a : Option Addr) (len cap : Nat) (w : World) (hl : len ≤ 9223372036854775807) :
    Calls Try.prog 10 #[.slice a len cap] w fun e w' => e = .returned (.bool (decide (4096 < (len : Int)))) ∧ w' = w := by
  go_enter Try.func10, Try.ntmps10
  go_wp2
  go_ret
  exact ⟨by first | rfl | simp, rfl⟩

set_option maxRecDepth 10000 in
theorem drawMirrorSync_any (a : Option Addr) (len cap : Nat) (zs : List Int) (w : World) (hr : IsRow .u8 w a len cap zs) (hlen : len ≤ 1000000000) :
    Calls Try.prog 29 #[.slice a len cap] w fun e w' => ∃ v p, e = .returned v ∧ Syns w' w.heap.size v p ∧ p.length ≤ 8 ∧ Below w.heap.size w w' := by
  have hab := hr.apart
  go_enter Try.func29, Try.ntmps29
  go_wp2_with fail
  refine (l00From_any a len cap _).mono ?_
  rintro e w1 ⟨rfl, s1, z1, b1⟩
  have HB := l05Bent_any a len cap w.heap.size 0 zs w1 s1 (hr.below b1) hab hlen (by omega)
  have hz1 := b1.size
  clear s1 hr hab
  go_wp2_with fail
  refine HB.mono ?_
  rintro e w2 ⟨v, p, rfl, i2, hp, _, _, g2⟩
  have B2 : Below w.heap.size w w2 := b1.grown g2 hz1 (by intro q hq; cases hq; exact Nat.le_refl _)
  clear HB
  go_wp2
  go_ret
  first | exact ⟨_, rfl, _, i2.mono hz1, hp, B2⟩ | exact ⟨_, _, rfl, i2.mono hz1, hp, B2⟩

set_option maxRecDepth 10000 in
theorem drawStarSync_any (a : Option Addr) (len cap : Nat) (zs : List Int) (w : World) (hr : IsRow .u8 w a len cap zs) (hlen : len ≤ 1000000000) :
    Calls Try.prog 32 #[.slice a len cap] w fun e w' => ∃ v p, e = .returned v ∧ Syns w' w.heap.size v p ∧ p.length ≤ 8 ∧ Below w.heap.size w w' := by
  have hab := hr.apart
  go_enter Try.func32, Try.ntmps32
  go_wp2_with fail
  refine (l00From_any a len cap _).mono ?_
  rintro e w1 ⟨rfl, s1, z1, b1⟩
  have HB := l05Bent_any a len cap w.heap.size 0 zs w1 s1 (hr.below b1) hab hlen (by omega)
  have hz1 := b1.size
  clear s1 hr hab
  go_wp2_with fail
  refine HB.mono ?_
  rintro e w2 ⟨v, p, rfl, i2, hp, _, _, g2⟩
  have B2 : Below w.heap.size w w2 := b1.grown g2 hz1 (by intro q hq; cases hq; exact Nat.le_refl _)
  clear HB
  go_wp2
  go_ret
  first | exact ⟨_, rfl, _, i2.mono hz1, hp, B2⟩ | exact ⟨_, _, rfl, i2.mono hz1, hp, B2⟩

set_option maxRecDepth 10000 in
theorem drawSyncClash_any (a : Option Addr) (len cap : Nat) (zs : List Int) (w : World) (hr : IsRow .u8 w a len cap zs) (hlen : len ≤ 1000000000) :
    Calls Try.prog 35 #[.slice a len cap] w fun e w' => ∃ v p, e = .returned v ∧ Syns w' w.heap.size v p ∧ p.length ≤ 8 ∧ Below w.heap.size w w' := by
  have hab := hr.apart
  go_enter Try.func35, Try.ntmps35
  go_wp2_with fail
  refine (l00From_any a len cap _).mono ?_
  rintro e w1 ⟨rfl, s1, z1, b1⟩
  have HB := l05Bent_any a len cap w.heap.size 0 zs w1 s1 (hr.below b1) hab hlen (by omega)
  have hz1 := b1.size
  clear s1 hr hab
  go_wp2_with fail
  refine HB.mono ?_
  rintro e w2 ⟨v, p, rfl, i2, hp, _, _, g2⟩
  have B2 : Below w.heap.size w w2 := b1.grown g2 hz1 (by intro q hq; cases hq; exact Nat.le_refl _)
  clear HB
  go_wp2
  go_ret
  first | exact ⟨_, rfl, _, i2.mono hz1, hp, B2⟩ | exact ⟨_, _, rfl, i2.mono hz1, hp, B2⟩

set_option maxRecDepth 10000 in
set_option maxHeartbeats 400000 in
theorem sameSync_off (g o g' o' cap cap' n : Nat) (p q : List Syn) (w : World) (hn9 : n ≤ 9223372036854775807) (hn : n = p.length) (hn' : n = q.length) (hg : g < w.heap.size) (hg' : g' < w.heap.size) (hc : ∀ i, i < n → Four w g (o + i * 4) (p.getD i s0)) (hc' : ∀ i, i < n → Four w g' (o' + i * 4) (q.getD i s0)) :
    Calls Try.prog 39 #[.slice (some ⟨g, o, none⟩) n cap, .slice (some ⟨g', o', none⟩) n cap'] w fun e w' => e = .returned (.bool (sameS p q)) ∧ Below w.heap.size w w' := by
  have HB := Lib.hid (fun i (h : p.getD i s0 ≠ q.getD i s0) => sameS_bad i h)
  have HG := Lib.hid (fun (h : ∀ i, i < n → p.getD i s0 = q.getD i s0) => sameS_good (p := p) (q := q) (by omega) fun i hi => h i (by omega))
  have HC := Lib.hid hc
  have HC' := Lib.hid hc'
  have hm : Try.prog.eqGuardType Try.prog.depth 115 = false := by kernel_rfl
  clear hc hc' hn hn'
  go_enter Try.func39, Try.ntmps39
  go_wp2
  go_loopw [5] (fun i wr => ∃ k : Nat, k ≤ n ∧ i = .int .i64 k ∧ Hid (∀ j, j < k → p.getD j s0 = q.getD j s0) ∧ Below w.heap.size w wr) (fun i _ => n - (intOf i).toNat)
  case atStart => exact ⟨0, Nat.zero_le _, rfl, fun j hj => absurd hj (Nat.not_lt_zero _), Below.refl _ _⟩
  case round =>
    obtain ⟨k, hk, rfl, hall, hb⟩ := hrel
    by_cases hlt : k < n
    · obtain ⟨c0, c1, c2, c3⟩ := (HC.out k hlt).below hb hg
      obtain ⟨d0, d1, d2, d3⟩ := (HC'.out k hlt).below hb hg'
      have HBK := Lib.hid (HB.out k)
      have HNX := Lib.hid (fun (h : p.getD k s0 = q.getD k s0) => show ∀ j, j < k + 1 → p.getD j s0 = q.getD j s0 from fun j hj => by
        by_cases e : j = k
        · subst e; exact h
        · exact hall.out j (by omega))
      clear HC HC' HB HG
      generalize p.getD k s0 = y at *
      generalize q.getD k s0 = z at *
      have HQ := fun W => neq_syn y z W
      obtain ⟨⟨y0, y1⟩, y2, y3⟩ := y
      obtain ⟨⟨z0, z1⟩, z2, z3⟩ := z
      simp only [synA] at c0 c1 c2 c3 d0 d1 d2 d3 HQ
      by_cases he : ((y0, y1), (y2, y3)) = ((z0, z1), (z2, z3))
      · have HN := Lib.hid (HNX.out he)
        rw [decide_eq_false (fun h => h he)] at HQ
        clear he HBK HNX
        go_wp2
        go_quiet (fail)
        all_goals go_wp2
        all_goals go_roundw
        case rel => exact ⟨k + 1, by omega, by go_num, HN, below_drewN hb _⟩
        case measure => simp [intOf]; omega
      · have HR := Lib.hid (HBK.out he)
        rw [decide_eq_true he] at HQ
        clear he HBK HNX
        go_wp2
        go_quiet (fail)
        all_goals go_wp2
        all_goals go_ret
        all_goals exact ⟨by rw [HR.out]; rfl, below_drewN hb _⟩
    · obtain rfl : k = n := by omega
      have HR := Lib.hid (HG.out hall.out)
      clear HC HC' HB HG hall
      go_wp2
      go_ret
      exact ⟨by rw [HR.out]; rfl, hb⟩

end Go.Proofs.Ytgjmhihomklooaa
