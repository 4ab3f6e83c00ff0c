/- The law's own helpers on slices of int64: toInt64S copies, eqInt64S compares, markInt64S writes counting numbers, heldInt64S asks for them. No conditions but that a slice is of at most 2^20 elements. -/
import Derived.Test.YtlpeigeadjojnabBase
namespace Go.Proofs.Ytlpeigeadjojnab
open Go.RowKit
set_option linter.unusedSimpArgs false
set_option linter.unusedVariables false

theorem take_set_next (zs : List Int) (n k : Nat) (hk : k < n) (hn : n ≤ zs.length) :
    (zs.take k ++ List.replicate (n - k) 0).set k (zs.getD k 0) = zs.take (k + 1) ++ List.replicate (n - (k + 1)) 0 := by
  apply List.ext_getElem
  · simp; omega
  · intro i h1 h2
    simp at h1
    simp only [List.getElem_set, List.getElem_append, List.length_take, List.getElem_take, List.getElem_replicate]
    by_cases hik : k = i
    · subst hik
      simp [show k < min (k + 1) zs.length from by omega, List.getElem?_eq_getElem (show k < zs.length by omega)]
    · rw [if_neg hik]
      by_cases hlt : i < k
      · rw [dif_pos (by omega), dif_pos (by omega)]
      · rw [dif_neg (by omega), dif_neg (by omega)]

set_option maxHeartbeats 400000 in
theorem toInt64S_pos (b off len cap : Nat) (zs : List Int) (w : World) (hl : len ≤ zs.length) (hbig : len ≤ 1048576) (hb : b < w.heap.size)
    (hc : ∀ i, i < len → w.cell? ⟨b, off + i, none⟩ = some (.int .i64 (zs.getD i 0))) :
    Calls Try.prog 6 #[.slice (some ⟨b, off, none⟩) len cap] w fun e w' =>
      e = .returned (.slice (some ⟨w.heap.size, 0, none⟩) len len) ∧ Ints w' w.heap.size (.slice (some ⟨w.heap.size, 0, none⟩) len len) (zs.take len) ∧ Below w.heap.size w w' := by
  obtain ⟨i0, hi, hz0, hz1, hz2⟩ := info_parts Try.info64
  go_enter Try.func6, Try.ntmps6
  go_wp2_with (at_make; refine wpList_make_full _ rfl _ _ 22 rfl w.heap.size 2 i0 (.int .i64 0) 1 Try.underlying22 hi hz0 hz1 _ _ _ _ len rfl rfl rfl rfl (by rw [hz2]; omega) (by unfold maxLen; omega) (Nat.le_refl _) ?_)
  intro w1 hown hg
  have h1 : Ints w1 w.heap.size (.slice (some ⟨w.heap.size, 0, none⟩) len len) (zs.take 0 ++ List.replicate (len - 0) 0) := by
    unfold Ints
    simpa [toList_madeCells_one] using hown
  have hb1 : Below w.heap.size w w1 := (Below.refl _ _).grown hg (Nat.le_refl _) (by simp)
  clear hown hg hi hz0 hz1 hz2
  go_wp2
  go_loopw [4] (fun i wr => ∃ k : Nat, k ≤ len ∧ i = .int .i64 k ∧ Ints wr w.heap.size (.slice (some ⟨w.heap.size, 0, none⟩) len len) (zs.take k ++ List.replicate (len - k) 0) ∧ Below w.heap.size w wr)
    (fun i _ => len - (intOf i).toNat)
  case atStart => exact ⟨0, Nat.zero_le _, rfl, h1, hb1⟩
  case round =>
    obtain ⟨k, hk, rfl, hr, hbr⟩ := hrel
    by_cases hlt : k < len
    · have hcell := cells_lift hbr hb hc k hlt
      have hold := hr.cell k (by simp; omega)
      have hfree := hr.free k
      have hn := hr.set k (zs.getD k 0)
      rw [take_set_next zs len k hlt hl] at hn
      have hbn := hbr.setCell (p := ⟨w.heap.size, k, none⟩) (Nat.le_refl _) (.int .i64 (zs.getD k 0))
      clear h1 hb1 hc
      go_wp2
      go_roundw
      case rel => exact ⟨k + 1, by omega, by go_num, hn, hbn⟩
      case measure => simp [intOf]; omega
    · obtain rfl : k = len := by omega
      clear h1 hb1 hc
      go_wp2
      go_ret
      exact ⟨rfl, by simpa using hr, hbr⟩

theorem toInt64S_zero (a : Option Addr) (cap : Nat) (w : World) :
    Calls Try.prog 6 #[.slice a 0 cap] w fun e w' =>
      e = .returned (.slice (some ⟨w.heap.size, 0, none⟩) 0 0) ∧ Ints w' w.heap.size (.slice (some ⟨w.heap.size, 0, none⟩) 0 0) [] ∧ Below w.heap.size w w' := by
  obtain ⟨i0, hi, hz0, hz1, hz2⟩ := info_parts Try.info64
  go_enter Try.func6, Try.ntmps6
  go_wp2_with (at_make; refine wpList_make_full _ rfl _ _ 22 rfl w.heap.size 2 i0 (.int .i64 0) 1 Try.underlying22 hi hz0 hz1 _ _ _ _ 0 rfl rfl rfl rfl (by rw [hz2]; omega) (by unfold maxLen; omega) (Nat.le_refl _) ?_)
  intro w1 hown hg
  have h1 : Ints w1 w.heap.size (.slice (some ⟨w.heap.size, 0, none⟩) 0 0) [] := by
    unfold Ints
    simpa [toList_madeCells_one] using hown
  have hb1 : Below w.heap.size w w1 := (Below.refl _ _).grown hg (Nat.le_refl _) (by simp)
  clear hown hg hi hz0 hz1 hz2
  go_wp2
  refine wp_loop_rounds 1 ?_
  rw [rounds_succ]
  go_wp2
  go_ret
  exact ⟨rfl, h1, hb1⟩

theorem toInt64S_any (a : Option Addr) (len cap : Nat) (zs : List Int) (w : World) (h : IsRow .i64 w a len cap zs) (hbig : len ≤ 1048576) :
    Calls Try.prog 6 #[.slice a len cap] w fun e w' =>
      e = .returned (.slice (some ⟨w.heap.size, 0, none⟩) len len) ∧ Ints w' w.heap.size (.slice (some ⟨w.heap.size, 0, none⟩) len len) (zs.take len) ∧ Below w.heap.size w w' := by
  obtain ⟨h1, _, rfl | ⟨b, off, rfl, hb, hc⟩⟩ := h.parts
  · simpa using toInt64S_zero a cap w
  · exact toInt64S_pos b off len cap zs w h1 hbig hb hc

/-- eqInt64S of two slices that hold the same numbers. -/
theorem eqInt64S_row (g g' cap cap' B B' : Nat) (xs : List Int) (w : World) (h : Ints w B (.slice (some ⟨g, 0, none⟩) xs.length cap) xs) (h' : Ints w B' (.slice (some ⟨g', 0, none⟩) xs.length cap') xs) :
    Calls Try.prog 8 #[.slice (some ⟨g, 0, none⟩) xs.length cap, .slice (some ⟨g', 0, none⟩) xs.length cap'] w fun e w' => e = .returned (.bool true) ∧ Below w.heap.size w w' := by
  have hm := h.len
  obtain ⟨n, hn⟩ : ∃ n, n = xs.length := ⟨_, rfl⟩
  have hc : ∀ i, i < n → w.cell? ⟨g, i, none⟩ = some (.int .i64 (xs.getD i 0)) := fun i hi => h.cell i (by omega)
  have hc' : ∀ i, i < n → w.cell? ⟨g', i, none⟩ = some (.int .i64 (xs.getD i 0)) := fun i hi => h'.cell i (by omega)
  rw [← hn] at hm ⊢
  clear h h'
  have HN := Lib.hid hn
  clear hn
  go_enter Try.func8, Try.ntmps8
  go_wp2
  go_loopw [5] (fun i wr => ∃ k : Nat, k ≤ n ∧ i = .int .i64 k ∧ ∃ m, wr = w.drewN m) (fun i _ => n - (intOf i).toNat)
  case atStart => exact ⟨0, Nat.zero_le _, rfl, 0, rfl⟩
  case round =>
    obtain ⟨k, hk, rfl, m, rfl⟩ := hrel
    by_cases hlt : k < n
    · have c1 := hc k hlt
      have c2 := hc' k hlt
      clear hc hc'
      go_wp2
      go_quiet (fail)
      go_wp2
      go_roundw
      case rel => exact ⟨k + 1, by omega, by go_num, _, rfl⟩
      case measure => simp [intOf]; omega
    · obtain rfl : k = n := by omega
      clear hc hc'
      go_wp2
      go_ret
      exact ⟨rfl, below_drewN (Below.refl _ _) _⟩

theorem eqInt64S_zero (a a' : Option Addr) (cap cap' : Nat) (w : World) :
    Calls Try.prog 8 #[.slice a 0 cap, .slice a' 0 cap'] w fun e w' => e = .returned (.bool true) ∧ Below w.heap.size w w' := by
  go_enter Try.func8, Try.ntmps8
  go_wp2
  refine wp_loop_rounds 1 ?_
  rw [rounds_succ]
  go_wp2
  go_ret
  exact ⟨rfl, Below.refl _ _⟩

theorem eqInt64S_any (v u : Value) (B B' : Nat) (xs : List Int) (w : World) (h : Ints w B v xs) (h' : Ints w B' u xs) :
    Calls Try.prog 8 #[v, u] w fun e w' => e = .returned (.bool true) ∧ Below w.heap.size w w' := by
  rcases h.shape with ⟨rfl, rfl⟩ | ⟨g, cap, rfl, _, _, _⟩
  · rcases h'.shape with ⟨rfl, _⟩ | ⟨g', cap', rfl, _, _, _⟩
    · exact eqInt64S_zero _ _ _ _ _
    · exact eqInt64S_zero _ _ _ _ _
  · rcases h'.shape with ⟨rfl, rfl⟩ | ⟨g', cap', rfl, _, _, _⟩
    · exact eqInt64S_zero _ _ _ _ _
    · exact eqInt64S_row _ _ _ _ _ _ _ _ h h'

/-- The n numbers from k on. -/
def ups (k : Int) (n : Nat) : List Int := (List.range n).map (fun (i : Nat) => k + (i : Int))
theorem ups_len (k : Int) (n : Nat) : (ups k n).length = n := by simp [ups]
theorem ups_get (k : Int) (n j : Nat) (h : j < n) : (ups k n).getD j 0 = k + j := by
  unfold ups
  rw [List.getD_eq_getElem?_getD, List.getElem?_map, List.getElem?_range h]
  rfl
theorem ups_set (k : Int) (xs : List Int) (j : Nat) (h : j < xs.length) : (ups k j ++ xs.drop j).set j (k + j) = ups k (j + 1) ++ xs.drop (j + 1) := by
  apply List.ext_getElem
  · simp [ups]; omega
  · intro i h1 h2
    simp [ups] at h1
    simp only [ups, List.getElem_set, List.getElem_append, List.length_map, List.length_range, List.getElem_map, List.getElem_range, List.getElem_drop]
    by_cases hik : j = i
    · subst hik
      simp
    · rw [if_neg hik]
      by_cases hlt : i < j
      · rw [dif_pos (by omega), dif_pos (by omega)]
      · rw [dif_neg (by omega), dif_neg (by omega)]
        congr 1; omega

end Go.Proofs.Ytlpeigeadjojnab
