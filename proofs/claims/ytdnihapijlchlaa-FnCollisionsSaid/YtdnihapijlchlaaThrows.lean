/- The drawn lists A2Throws: 1 to 6 throws from 0 to 8. Condition: at most 3000 bytes. -/
import Derived.Test.YtdnihapijlchlaaSrc
import Derived.Test.YtdnihapijlchlaaPat
namespace Go.Proofs.Ytdnihapijlchlaa
open Go.RowKit
set_option linter.unusedSimpArgs false
set_option linter.unusedVariables false

theorem a2Throws_any (a : Option Addr) (len cap : Nat) (zs : List Int) (w : World) (hr : IsRow .u8 w a len cap zs) (hlen : len ≤ 3000) :
    Calls Try.prog 28 #[.slice a len cap] w fun e w' => ∃ v xs, e = .returned v ∧ Ints w' w.heap.size v xs ∧ (1 ≤ xs.length ∧ xs.length ≤ 6) ∧ (∀ x ∈ xs, 0 ≤ x ∧ x ≤ 8) ∧ Below w.heap.size w w' := by
  go_enter Try.func28, Try.ntmps28
  go_wp2_with fail
  refine (l00From_any a len cap _).mono ?_
  rintro e w1 ⟨rfl, s1, z1, b1⟩
  go_wp2_with fail
  have i1 : Ints (w1.alloc (.cells #[] 2)) (w.heap.size + 1) (.slice (some ⟨w.heap.size + 1, 0, none⟩) 0 0) [] := by
    rw [← z1]
    exact World.ownsRow_lit w1 #[] 0 (Nat.le_refl _) (by simp [maxLen]) rfl
  refine (pick_any a len cap _ 0 6 zs _ (s1.keep (World.grownBy_alloc _ _ none) (by simp)) ((hr.below b1).below ((Below.refl _ _).alloc (Nat.le_refl _) _)) (by omega) (by omega) (by omega)).mono ?_
  rintro e w2 ⟨x, rfl, hx, s2, g2⟩
  have B1 : Below w.heap.size w (w1.alloc (.cells #[] 2)) := b1.alloc (by omega) _
  have B2 : Below w.heap.size w w2 := B1.grown g2 (by have := B1.size; omega) (by intro k hk; cases hk; omega)
  have i2 : Ints w2 (w.heap.size + 1) (.slice (some ⟨w.heap.size + 1, 0, none⟩) 0 0) [] := i1.block (fun g hg hlt => g2.block g hlt (by have := i1.own_ge hg; intro e; cases e; omega))
  clear i1 B1 s1 b1 g2
  go_wp2
  go_loopw [4, 5] (fun v i wr => ∃ (xs : List Int) (j : Nat), i = .int .i64 j ∧ ((xs.length : Int) + j = x + 1 ∧ j ≤ 6) ∧ (∀ y ∈ xs, 0 ≤ y ∧ y ≤ 8) ∧ Ints wr (w.heap.size + 1) v xs ∧ Src wr w.heap.size (1 + xs.length) (.slice a len cap) ∧ Below w.heap.size w wr) (fun _ i _ => (intOf i).toNat)
  case atStart =>
    refine ⟨[], (x + 1).toNat, ?_, ?_, by simp, i2, s2, B2⟩
    · go_num
    · simp; omega
  case round =>
    obtain ⟨xs, j, rfl, hj, hxs, hi, hs, hb⟩ := hrel
    have hB := hb.size
    by_cases h0 : 0 < j
    · have HC := pick_any a len cap _ (1 + xs.length) 9 zs _ hs (hr.below hb) (by omega) (by omega) (by omega)
      have hlen : xs.length ≤ 1000000000 := by omega
      go_wp2_with (first | (go_at_call 68; refine HC.mono ?_; rintro e w3 ⟨y, rfl, hy, s3, g3⟩; have i3 := hi.block (w' := w3) (fun g hg hlt => g3.block g hlt (by have := hi.own_ge hg; intro e; cases e; omega)); have b3 := hb.grown g3 hB (by intro k hk; cases hk; omega); have B3 := s3.lt) | (at_builtin; refine append_int _ rfl _ _ rfl _ _ _ rfl i3 _ rfl hlen (by omega) ?_; intro v' w4 i4 g4; refine Hid.out ?_))
      have hb4 := (i3.mono (B' := w.heap.size) (by omega)).below_grown b3 (by omega) g4
      have s4 := s3.keep g4 (by intro e; have := i3.own_ge e.symm; omega)
      have HL : (xs ++ [y]).length = xs.length + 1 := by simp
      have HX : ∀ z ∈ xs ++ [y], 0 ≤ z ∧ z ≤ 8 := by
        intro z hz
        rcases List.mem_append.1 hz with hz | hz
        · exact hxs z hz
        · simp at hz; subst hz; omega
      clear HC hi hs hb
      refine Lib.hid ?_
      go_wp2
      go_roundw
      case rel => exact ⟨xs ++ [y], j - 1, by go_num, ⟨by omega, by omega⟩, HX, i4, s4.mono (by omega), hb4⟩
      case measure => simp [intOf]; omega
    · obtain rfl : j = 0 := by omega
      go_wp2
      go_ret
      exact ⟨_, _, rfl, hi.mono (by omega), by omega, hxs, hb⟩
end Go.Proofs.Ytdnihapijlchlaa
