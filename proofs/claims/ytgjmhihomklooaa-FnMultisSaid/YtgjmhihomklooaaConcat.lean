/- slices.Grow on no slice, slices.Concat on two lists of numbers. Conditions: at least one number in each, at most 100. -/
import Derived.Test.YtgjmhihomklooaaClone
import Derived.Lib.AppendZeros
namespace Go.Proofs.Ytgjmhihomklooaa
open Go.RowKit
set_option linter.unusedSimpArgs false
set_option linter.unusedVariables false

theorem zeros_size (n : Nat) : (Builtin.zeroCells #[.int .i64 0] n).size = n := by simp [Builtin.zeroCells]
theorem zeros_row (w : World) (n c : Nat) (hc : n ≤ c) (hm : c ≤ maxLen) :
    Ints (w.drew.alloc (.cells (Builtin.zeroCells #[.int .i64 0] n ++ Builtin.zeroCells #[.int .i64 0] (c - n)) 2)) w.heap.size (.slice (some ⟨w.heap.size, 0, none⟩) 0 c) [] := by
  refine ⟨rfl, .inr ⟨w.heap.size, c, Builtin.zeroCells #[.int .i64 0] n ++ Builtin.zeroCells #[.int .i64 0] (c - n), rfl, Nat.le_refl _, ?_, Nat.zero_le _, hm, ?_, by simp⟩⟩
  · show (w.heap.push _)[w.heap.size]? = _
    exact Array.getElem?_push_size
  · rw [Array.size_append, zeros_size, zeros_size]; omega

set_option maxRecDepth 10000 in
theorem grow_nil (n : Nat) (w : World) (h1 : 1 ≤ n) (hn : n ≤ 1000) :
    Calls Try.prog 119 #[.slice none 0 0, .int .i64 n] w fun e w' => ∃ g c, e = .returned (.slice (some ⟨g, 0, none⟩) 0 c) ∧ Ints w' w.heap.size (.slice (some ⟨g, 0, none⟩) 0 c) [] ∧ Below w.heap.size w w' := by
  obtain ⟨i0, hi, hz0, hz1, hz2⟩ := info_parts Try.info64
  have hlt := Nat.mod_lt (w.tape w.drawn (.appendCap n 0 2)) (show 0 < 2 ^ 63 - n by omega)
  have hcap : n ≤ grownCap w n 0 2 ∧ grownCap w n 0 2 ≤ maxLen := by
    simp only [grownCap, Question.cut, maxLen]
    omega
  have hrow := Lib.hid (zeros_row w n _ hcap.1 hcap.2)
  go_enter Try.func119, Try.ntmps119
  go_wp2_with (at_builtin; refine Lib.wpList_append_run _ rfl _ _ _ _ rfl _ _ rfl rfl _ _ (Lib.run_append_nil_zeros w 32 3 _ 2 i0 (.int .i64 0) .i64 .i64 Try.underlying32 rfl hi hz0 n (by omega) (by omega) (by omega) (by rw [hz2]; omega)) ?_; refine Hid.out ?_)
  generalize grownCap w n 0 2 = c at *
  refine Lib.hid ?_
  go_wp2
  go_ret
  exact ⟨_, _, rfl, hrow.out, (below_drew1 (Below.refl _ _)).alloc (by simp) _⟩

set_option maxRecDepth 10000 in
set_option maxHeartbeats 1000000 in
theorem concat_two (s ga na ca gb nb cb : Nat) (a b : List Int) (w : World) (hs : s < w.heap.size) (h0 : w.cell? ⟨s, 0, none⟩ = some (.slice (some ⟨ga, 0, none⟩) na ca)) (h1 : w.cell? ⟨s, 1, none⟩ = some (.slice (some ⟨gb, 0, none⟩) nb cb))
    (ha : Sees w (.slice (some ⟨ga, 0, none⟩) na ca) a) (hb : Sees w (.slice (some ⟨gb, 0, none⟩) nb cb) b) (hna : na = a.length) (hnb : nb = b.length) (ha1 : 1 ≤ na) (ha2 : na ≤ 100) (hb1 : 1 ≤ nb) (hb2 : nb ≤ 100) :
    Calls Try.prog 64 #[.slice (some ⟨s, 0, none⟩) 2 2] w fun e w' => ∃ u, e = .returned u ∧ Ints w' w.heap.size u (a ++ b) ∧ Below w.heap.size w w' := by
  have HG := Lib.hid (fun W => show Calls Try.prog 119 #[.slice none 0 0, .int .i64 ((na : Int) + (nb : Int))] W fun e w' => ∃ g c, e = .returned (.slice (some ⟨g, 0, none⟩) 0 c) ∧ Ints w' W.heap.size (.slice (some ⟨g, 0, none⟩) 0 c) [] ∧ Below W.heap.size W w' from by
    have h := grow_nil (na + nb) W (by omega) (by omega)
    rw [Int.natCast_add] at h
    exact h)
  have HNA := Lib.hid hna
  have HNB := Lib.hid hnb
  have HA := Lib.hid ha
  have HB := Lib.hid hb
  clear hna hnb ha hb
  go_enter Try.func64, Try.ntmps64
  go_wp2
  refine wp_loop_rounds 3 ?_
  rw [rounds_succ]
  go_wp2
  rw [rounds_succ]
  go_wp2
  rw [rounds_succ]
  go_wp2_with fail
  refine (HG.out w).mono ?_
  rintro e w1 ⟨g, c, rfl, i1, b1⟩
  have h01 := (b1.cell (p := ⟨s, 0, none⟩) hs).trans h0
  have h11 := (b1.cell (p := ⟨s, 1, none⟩) hs).trans h1
  have hz := b1.size
  have HA1 := Lib.hid (HA.out.below b1)
  have H1 := Lib.hid h1
  clear HG HA h0 h1
  go_wp2
  refine wp_loop_rounds 3 ?_
  rw [rounds_succ]
  go_wp2_with (at_builtin; refine append_sees _ rfl 32 Try.underlying32 _ _ rfl _ _ _ rfl i1 _ a rfl HA1.out (by have := HNA.out; simp; omega) hz ?_; intro v2 w2 i2 gr2; refine Hid.out ?_)
  have b2 := i1.below_grown b1 hz gr2
  have h12 := (b2.cell (p := ⟨s, 1, none⟩) hs).trans H1.out
  have hz2 := b2.size
  have HB2 := Lib.hid (HB.out.below b2)
  obtain ⟨g2, c2, hv, _, _, _, _⟩ := i2.shape2 (by have := HNA.out; simp; omega)
  subst hv
  clear HB HA1 i1 gr2 h01 h11
  refine Lib.hid ?_
  go_wp2
  rw [rounds_succ]
  go_wp2_with (at_builtin; refine append_sees _ rfl 32 Try.underlying32 _ _ rfl _ _ _ rfl i2 _ b rfl HB2.out (by have := HNA.out; have := HNB.out; simp; omega) hz2 ?_; intro v3 w3 i3 gr3; refine Hid.out ?_)
  have b3 := i2.below_grown b2 hz2 gr3
  clear i2 gr3
  refine Lib.hid ?_
  go_wp2
  rw [rounds_succ]
  go_wp2
  go_ret
  exact ⟨_, rfl, by simpa using i3, b3⟩
end Go.Proofs.Ytgjmhihomklooaa
