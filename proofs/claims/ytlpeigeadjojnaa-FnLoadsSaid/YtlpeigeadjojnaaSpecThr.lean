/- The model's chapter 3, first part: l00Own, l00Same, l03Rotate, l03Reverse, l03Checked, l03Repeat, l03Root, l03Canon, l03Alike compute rotations, reversals, roots and canonical forms. No conditions but that a list is not empty where it must not be. -/
import Derived.Test.YtlpeigeadjojnaaRot
import Derived.Test.YtlpeigeadjojnaaSpec02b
import Derived.Deep.RegionWith
namespace Go.Proofs.Ytlpeigeadjojnaa
open Go.RowKit
set_option linter.unusedSimpArgs false
set_option linter.unusedVariables false

theorem l00Own_any (v : Value) (xs : List Int) (w : World) (h : Sees w v xs) (hlen : xs.length ≤ 100000000) :
    Calls Try.prog 81 #[v] w fun e w' => ∃ u, e = .returned u ∧ Ints w' w.heap.size u xs ∧ Below w.heap.size w w' := by
  have i1 : Ints (w.alloc (.cells #[] 2)) w.heap.size (.slice (some ⟨w.heap.size, 0, none⟩) 0 0) [] := World.ownsRow_lit w #[] 0 (Nat.le_refl _) (by simp [maxLen]) rfl
  have b1 : Below w.heap.size w (w.alloc (.cells #[] 2)) := (Below.refl _ _).alloc (Nat.le_refl _) _
  have hs := h.alloc (.cells #[] 2)
  obtain ⟨g, off, cap, rfl, hg, hc, hm, hcell⟩ := h
  clear hcell
  obtain ⟨n, hn⟩ : ∃ n, n = xs.length := ⟨_, rfl⟩
  rw [← hn] at hlen hs hc ⊢
  have HN := Lib.hid hn
  clear hn
  have hz : w.heap.size ≤ (w.alloc (.cells #[] 2)).heap.size := b1.size
  go_enter Try.func81, Try.ntmps81
  go_wp2_with (at_builtin; refine append_sees _ rfl 24 Try.underlying24 _ _ rfl _ _ _ rfl i1 _ xs rfl hs (by have := HN.out; simp; omega) hz ?_; intro v2 w2 i2 gr2; refine Hid.out ?_)
  have hb2 := i1.below_grown b1 hz gr2
  clear gr2 i1 b1 hs
  refine Lib.hid ?_
  go_wp2
  go_ret
  exact ⟨_, rfl, by simpa using i2, hb2⟩

end Go.Proofs.Ytlpeigeadjojnaa
