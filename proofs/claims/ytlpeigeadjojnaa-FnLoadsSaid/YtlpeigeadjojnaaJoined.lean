/- The program's joined: the throws of all parts in new memory. Condition: the first part is not empty. -/
import Derived.Test.YtlpeigeadjojnaaSees
import Derived.Test.YtlpeigeadjojnaaImpl02
import Derived.Test.YtlpeigeadjojnaaOps
namespace Go.Proofs.Ytlpeigeadjojnaa
open Go.RowKit
set_option linter.unusedSimpArgs false
set_option linter.unusedVariables false

/-- a slice of slices that read as lists -/
def Parts (w : World) (v : Value) (ps : List (List Int)) : Prop :=
  (v = .slice none 0 0 ∧ ps = []) ∨ ∃ g cap, v = .slice (some ⟨g, 0, none⟩) ps.length cap ∧ g < w.heap.size ∧ ps.length ≤ 100 ∧ ∀ i, i < ps.length → ∃ u, w.cell? ⟨g, i, none⟩ = some u ∧ Sees w u (ps.getD i [])

theorem flat_take (ps : List (List Int)) (k : Nat) (hk : k < ps.length) : (ps.take (k + 1)).flatten = (ps.take k).flatten ++ ps.getD k [] := by
  rw [List.take_succ_eq_append_getElem hk, List.flatten_append]
  congr 1
  simp [hk]
theorem parts_len (ps : List (List Int)) (k : Nat) (hk : k ≤ ps.length) : (ps.take k).flatten.length ≤ ps.flatten.length := by
  conv => rhs; rw [← List.take_append_drop k ps]
  rw [List.flatten_append, List.length_append]
  omega

theorem joined_none (v : Value) (xs : List Int) (w : World) (h : Sees w v xs) (h1 : 1 ≤ xs.length) (hlen : xs.length ≤ 1000000) :
    Calls Try.prog 82 #[v, .slice none 0 0] w fun e w' => ∃ u, e = .returned u ∧ Ints w' w.heap.size u xs ∧ Below w.heap.size w w' := by
  have hs := h
  obtain ⟨g, off, cap, rfl, hg, hc, hm, hcell⟩ := h
  clear hcell
  obtain ⟨n, hn⟩ : ∃ n, n = xs.length := ⟨_, rfl⟩
  rw [← hn] at h1 hlen hs hc ⊢
  have HN := Lib.hid hn
  clear hn
  go_enter Try.func82, Try.ntmps82
  go_wp2_with (at_builtin; refine append_new _ rfl 39 Try.underlying39 _ _ rfl _ rfl _ xs rfl hs (by have := HN.out; omega) (by have := HN.out; omega) ?_; intro v' w1 i1 g1; refine Hid.out ?_)
  have b1 : Below w.heap.size w w1 := (Below.refl _ _).grown g1 (Nat.le_refl _) (by simp)
  clear g1
  refine Lib.hid ?_
  go_wp2
  refine wp_loop_rounds 1 ?_
  rw [rounds_succ]
  go_wp2
  go_ret
  exact ⟨_, rfl, i1, b1⟩

set_option maxHeartbeats 400000 in
theorem joined_some (v : Value) (xs : List Int) (ps : List (List Int)) (gm cm : Nat) (w : World) (h : Sees w v xs) (h1 : 1 ≤ xs.length) (hgm : gm < w.heap.size) (hps : ps.length ≤ 100)
    (hcm : ∀ i, i < ps.length → ∃ u, w.cell? ⟨gm, i, none⟩ = some u ∧ Sees w u (ps.getD i [])) (hlen : xs.length + ps.flatten.length ≤ 1000000) :
    Calls Try.prog 82 #[v, .slice (some ⟨gm, 0, none⟩) ps.length cm] w fun e w' => ∃ u, e = .returned u ∧ Ints w' w.heap.size u (xs ++ ps.flatten) ∧ Below w.heap.size w w' := by
  have hs := h
  obtain ⟨g, off, cap, rfl, hg, hc, hm, hcell⟩ := h
  clear hcell
  obtain ⟨n, hn⟩ : ∃ n, n = xs.length := ⟨_, rfl⟩
  obtain ⟨m, hm'⟩ : ∃ m, m = ps.length := ⟨_, rfl⟩
  rw [← hn] at h1 hlen hs hc ⊢
  rw [← hm'] at hps hcm ⊢
  have HN := Lib.hid hn
  have HM := Lib.hid hm'
  have HC := Lib.hid hcm
  clear hn hm' hcm
  go_enter Try.func82, Try.ntmps82
  go_wp2_with (at_builtin; refine append_new _ rfl 39 Try.underlying39 _ _ rfl _ rfl _ xs rfl hs (by have := HN.out; omega) (by have := HN.out; omega) ?_; intro v' w1 i1 g1; refine Hid.out ?_)
  have b1 : Below w.heap.size w w1 := (Below.refl _ _).grown g1 (Nat.le_refl _) (by simp)
  clear g1
  refine Lib.hid ?_
  go_wp2
  go_loopw [5, 14] (fun v i wr => ∃ k : Nat, k ≤ m ∧ i = .int .i64 k ∧ Ints wr w.heap.size v (xs ++ (ps.take k).flatten) ∧ Below w.heap.size w wr) (fun _ i _ => m - (intOf i).toNat)
  case atStart => exact ⟨0, Nat.zero_le _, rfl, by simpa using i1, b1⟩
  case round =>
    clear i1 b1
    obtain ⟨k, hk, rfl, hi, hb⟩ := hrel
    have hBs := hb.size
    by_cases hlt : k < m
    · obtain ⟨u, hu, hsu⟩ := HC.out k hlt
      have hu' := (hb.cell (p := ⟨gm, k, none⟩) hgm).trans hu
      have hsu' := hsu.below hb
      have hfl := parts_len ps (k + 1) (by have := HM.out; omega)
      have hft := flat_take ps k (by have := HM.out; omega)
      have HL : (xs ++ (ps.take k).flatten).length + (ps.getD k []).length ≤ 1000000 := by
        rw [hft, List.length_append] at hfl
        rw [List.length_append]
        have := HN.out
        omega
      have HF := Lib.hid hft
      obtain ⟨g2, off2, cap2, rfl, _⟩ := hsu
      clear hu hfl hft HC
      generalize ps.getD k [] = ys at *
      obtain ⟨ny, hny⟩ : ∃ ny, ny = ys.length := ⟨_, rfl⟩
      rw [← hny] at hu' hsu'
      clear hny
      go_wp2_with (at_builtin; refine append_sees _ rfl 39 Try.underlying39 _ _ rfl _ _ _ rfl hi _ ys rfl hsu' (by omega) hBs ?_; intro v2 w2 i2 gr2; refine Hid.out ?_)
      have hb2 := hi.below_grown hb hBs gr2
      clear gr2 hi hb hsu' hu' HL
      refine Lib.hid ?_
      go_wp2
      go_roundw
      case rel => exact ⟨k + 1, by omega, by go_num, by rw [HF.out, ← List.append_assoc]; exact i2, hb2⟩
      case measure => simp [intOf]; omega
    · obtain rfl : k = m := by omega
      clear HC
      go_wp2
      go_ret
      exact ⟨_, rfl, by have := HM.out; rw [this, List.take_length] at hi; exact hi, hb⟩

theorem joined_any (v u : Value) (xs : List Int) (ps : List (List Int)) (w : World) (h : Sees w v xs) (hp : Parts w u ps) (h1 : 1 ≤ xs.length) (hlen : xs.length + ps.flatten.length ≤ 1000000) :
    Calls Try.prog 82 #[v, u] w fun e w' => ∃ u, e = .returned u ∧ Ints w' w.heap.size u (xs ++ ps.flatten) ∧ Below w.heap.size w w' := by
  rcases hp with ⟨rfl, rfl⟩ | ⟨g, cap, rfl, hg, hl, hc⟩
  · simpa using joined_none v xs w h h1 (by simpa using hlen)
  · exact joined_some v xs ps g cap w h h1 hg hl hc hlen
end Go.Proofs.Ytlpeigeadjojnaa
