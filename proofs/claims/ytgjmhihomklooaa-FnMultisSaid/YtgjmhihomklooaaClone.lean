/- slices.Clone on a list of numbers; the program's remainder at every number. Conditions: a list of at least one number. -/
import Derived.Test.YtgjmhihomklooaaSingleL
import Derived.WalkSpells
namespace Go.Proofs.Ytgjmhihomklooaa
open Go.RowKit
set_option linter.unusedSimpArgs false
set_option linter.unusedVariables false

set_option maxRecDepth 10000 in
theorem clone_any (v : Value) (B : Nat) (xs : List Int) (w : World) (h : Ints w B v xs) (h1 : 1 ≤ xs.length) (hlen : xs.length ≤ 1000000) :
    Calls Try.prog 155 #[v] w fun e w' => ∃ a n c, e = .returned (.slice a n c) ∧ Ints w' w.heap.size (.slice a n c) xs ∧ Below w.heap.size w w' := by
  have i1 := ownInts_empty w (Nat.le_refl w.heap.size)
  have b1 : Below w.heap.size w (w.alloc (.cells #[] 2)) := (Below.refl _ _).alloc (Nat.le_refl _) _
  have hs := (h.sees h1).below b1
  obtain ⟨g, cap, rfl, _, hg, hc, hm⟩ := h.shape2 h1
  clear h
  obtain ⟨n, hn⟩ : ∃ n, n = xs.length := ⟨_, rfl⟩
  rw [← hn] at hs hc h1 ⊢
  have HN := Lib.hid hn
  clear hn
  have hz : w.heap.size ≤ (w.alloc (.cells #[] 2)).heap.size := b1.size
  have hq : ∀ W, (binOp .eql 32 (.slice (some ⟨g, 0, none⟩) n cap) (.slice none 0 0)).run Try.prog W = .ok (.bool false) W := fun W => by
    have := Lib.run_eql_slice_nil (P := Try.prog) W 32 2 (some ⟨g, 0, none⟩) n cap 0 0 Try.underlying32
    simpa using this
  go_enter Try.func155, Try.ntmps155
  go_wp2_with (at_builtin; refine append_sees _ rfl 32 Try.underlying32 _ _ rfl _ _ _ rfl i1 _ xs rfl hs (by have := HN.out; simp; omega) hz ?_; intro v2 w2 i2 gr2; refine Hid.out ?_)
  have hb2 := i1.below_grown b1 hz gr2
  clear gr2 i1 b1 hs
  obtain ⟨g2, c2, hv, _, _, _, _⟩ := i2.shape2 (by have := HN.out; simp; omega)
  subst hv
  refine Lib.hid ?_
  go_wp2
  go_ret
  exact ⟨_, _, _, rfl, by simpa using i2, hb2⟩

theorem modulo_wide (a n : Int) (w : World) (hn : 1 ≤ n) (hn2 : n ≤ 1000000) (ha : -9223372036854775808 ≤ a) (ha2 : a ≤ 9223372036854775807) :
    Calls Try.prog 134 #[.int .i64 a, .int .i64 n] w fun e w' => e = .returned (.int .i64 (a % n)) ∧ w' = w := by
  have e0 := Int.emod_nonneg a (show n ≠ 0 by omega)
  have e1 := Int.emod_lt_of_pos a (show 0 < n by omega)
  by_cases h0 : 0 ≤ a
  · have h00 : ¬ a % n < 0 := by omega
    go_enter Try.func134, Try.ntmps134
    go_wp2
    go_ret
    exact ⟨rfl, rfl⟩
  · have hd := emod_tmod a n (by omega)
    have hl := tmod_low a n (by omega) (by omega)
    rw [hd]
    by_cases hr : a.tmod n < 0
    · rw [if_pos hr]
      clear hd
      go_enter Try.func134, Try.ntmps134
      go_wp2
      go_ret
      exact ⟨rfl, rfl⟩
    · rw [if_neg hr]
      clear hd
      go_enter Try.func134, Try.ntmps134
      go_wp2
      go_ret
      exact ⟨rfl, rfl⟩
end Go.Proofs.Ytgjmhihomklooaa
