/- The walk of the law FnCollisions: it returns true. No conditions. -/
import Derived.Test.YtdnihapijlchlaaOrder
import Derived.Test.YtdnihapijlchlaaThrows
namespace Go.Proofs.Ytdnihapijlchlaa
open Go.RowKit
set_option linter.unusedSimpArgs false
set_option linter.unusedVariables false

/-- the drawn throws are a list of throws -/
theorem okList_drawn {p : List Int} (h : 1 ≤ p.length ∧ p.length ≤ 6) (hx : ∀ x ∈ p, 0 ≤ x ∧ x ≤ 8) : okList p = true := by
  unfold okList
  rw [inB_true (by omega), Bool.and_true, List.all_eq_true]
  intro x hxm
  have := hx x hxm
  exact inB_true (by omega)

theorem walk_FnCollisions (a0 : Option Addr) (len0 cap0 : Nat) (z0 : List Int) (a1 : Option Addr) (len1 cap1 : Nat) (z1 : List Int) (w : World) (r0 : IsRow .u8 w a0 len0 cap0 z0) (r1 : IsRow .u8 w a1 len1 cap1 z1) :
    Calls Try.prog 4 #[.slice a0 len0 cap0, .slice a1 len1 cap1] w fun e w' => e = .returned (.bool true) ∧ Below w.heap.size w w' := by
  have hm0 : len0 ≤ 9223372036854775807 := by have := r0.bytes.2.1; unfold maxLen at this; omega
  have hm1 : len1 ≤ 9223372036854775807 := by have := r1.bytes.2.1; unfold maxLen at this; omega
  have HL := a2Long_any a0 a1 len0 cap0 len1 cap1 w hm0 hm1
  cases hL : longL len0 len1 with
  | true =>
    rw [hL] at HL
    go_enter Try.func4, Try.ntmps4
    go_wp2_with fail
    refine HL.mono ?_
    rintro e w' ⟨rfl, rfl⟩
    go_wp2
    go_ret
    exact ⟨rfl, Below.refl _ _⟩
  | false =>
    rw [hL] at HL
    have hb0 : len0 ≤ 3000 := by simp [longL] at hL; omega
    have hb1 : len1 ≤ 3000 := by simp [longL] at hL; omega
    clear hL hm0 hm1
    go_enter Try.func4, Try.ntmps4
    go_wp2_with fail
    refine HL.mono ?_
    rintro e w' ⟨rfl, rfl⟩
    clear HL
    go_wp2_with fail
    refine (a2Throws_any a0 len0 cap0 z0 _ r0 hb0).mono ?_
    rintro e w1 ⟨v, p, rfl, i1, hpl, hpx, b1⟩
    go_wp2_with fail
    refine (a2Throws_any a1 len1 cap1 z1 _ (r1.below b1) hb1).mono ?_
    rintro e w2 ⟨u, q, rfl, i2, hql, hqx, b2⟩
    have B2 := b1.trans (b2.mono b1.size)
    have hok := okList_drawn hpl hpx
    have i1 := i1.below b2
    clear b1 b2 hqx hpx r0 r1
    rcases i1.shape with ⟨rfl, rfl⟩ | ⟨g, cap, rfl, _, _, _⟩
    · simp at hpl
    have hpm : p.length ≤ 9223372036854775807 := by omega
    go_wp2_with fail
    refine (collisionOf_impl _ _ _ _ i1).mono ?_
    rintro e w3 ⟨rfl, b3⟩
    have B3 := B2.trans (b3.mono B2.size)
    have i1 := i1.below b3
    have i2 := i2.below b3
    go_wp2_with fail
    refine (comparePatterns_impl _ _ _ _ _ _ _ i1 i2).mono ?_
    rintro e w4 ⟨rfl, b4⟩
    have B4 := B3.trans (b4.mono B3.size)
    have i1 := i1.below b4
    have i2 := i2.below b4
    clear b3 b4 B2 B3
    have HR := compL_range p q
    have HA := compL_anti p q
    have HZ := compL_zero p q
    have HP := compL_self p
    generalize compL p q = c at HR HA HZ
    obtain ⟨hr0, hr1⟩ := HR
    go_wp2_with fail
    refine (comparePatterns_impl _ _ _ _ _ _ _ i2 i1).mono ?_
    rintro e w5 ⟨rfl, b5⟩
    have B5 := B4.trans (b5.mono B4.size)
    have i1 := i1.below b5
    have i2 := i2.below b5
    rw [HA]
    clear b5 B4
    go_wp2_with fail
    refine (a2Same_any _ _ _ _ _ _ _ i1 i2).mono ?_
    rintro e w6 ⟨rfl, b6⟩
    have B6 := B5.trans (b6.mono B5.size)
    have i1 := i1.below b6
    rw [← HZ]
    clear b6 B5 i2
    go_wp2_with fail
    refine (comparePatterns_impl _ _ _ _ _ _ _ i1 i1).mono ?_
    rintro e w7 ⟨rfl, b7⟩
    have B7 := B6.trans (b7.mono B6.size)
    have i1 := i1.below b7
    rw [HP]
    clear b7 B6 HA HZ HP
    cases hcl : clash (lnd p) p.length with
    | none =>
      have e1 : colA p = -1 := by rw [colA, if_pos hok, hcl]; rfl
      have e2 : colB p = -1 := by rw [colB, if_pos hok, hcl]; rfl
      have e3 : colC p = 0 := by rw [colC, if_pos hok, hcl]; rfl
      have hv : okPat p = true := by rw [okPat, hok, hcl]; rfl
      rw [e1, e2, e3]
      clear e1 e2 e3 hcl hok
      go_wp2_with fail
      refine (validPattern_spec _ _ _ _ i1).mono ?_
      rintro e w8 ⟨rfl, b8⟩
      have B8 := B7.trans (b8.mono B7.size)
      rw [hv]
      clear b8 B7 hv i1
      go_wp2
      go_ret
      exact ⟨rfl, B8⟩
    | some ik =>
      obtain ⟨i, k⟩ := ik
      have e1 : colA p = i := by rw [colA, if_pos hok, hcl]; rfl
      have e2 : colB p = k := by rw [colB, if_pos hok, hcl]; rfl
      have e3 : colC p = 9 := by rw [colC, if_pos hok, hcl]; rfl
      obtain ⟨hik, hkn, hll⟩ := clash_is hcl
      have ci := i1.cell i (by omega)
      have ck := i1.cell k hkn
      have bi := okList_at hok i (by omega)
      have bk := okList_at hok k hkn
      unfold lnd at hll
      rw [e1, e2, e3]
      clear e1 e2 e3 hcl hok i1
      generalize p.getD i 0 = x at ci bi hll
      generalize p.getD k 0 = y at ck bk hll
      generalize p.length = n at *
      have HE := Lib.hid hll
      clear hll
      go_wp2
      go_quiet (fail)
      go_wp2
      go_ret
      exact ⟨ret_bool (by rw [HE.out]; simp), below_drewN B7 _⟩
end Go.Proofs.Ytdnihapijlchlaa
