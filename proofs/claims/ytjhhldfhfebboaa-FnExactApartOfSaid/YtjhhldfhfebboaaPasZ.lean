/- The model's shape of a passing pattern, and whether it is valid. -/
import Derived.Test.YtjhhldfhfebboaaPasY
import Derived.BigQuiet
namespace Go.Proofs.Ytjhhldfhfebboaa
open Go.RowKit Go.Shelf
set_option linter.unusedSimpArgs false
set_option linter.unusedVariables false

set_option maxRecDepth 10000 in
set_option maxHeartbeats 4000000 in
theorem l06Shape_any (P : Nat) (va vb : Value) (B C : Nat) (a b : List Pt) (w : World) (h : PasP w B C va vb a b) (hP : Blk w P [va, vb] 31) :
    Calls Try.prog 84 #[.pointer (some ⟨P, 0, none⟩)] w fun e w' => e = .returned (.bool (okPL a b)) ∧ Below w.heap.size w w' := by
  rw [← okPL_two]
  have HA0 := fun N => l06List_any va B a (w.drewN N) (h.fst.below (below_drewN (Below.refl _ _) N))
  have HB0 := fun N => l06List_any vb B b (w.drewN N) (h.snd.below (below_drewN (Below.refl _ _) N))
  obtain ⟨x, c, rfl⟩ := h.fst.sl
  obtain ⟨y, d, rfl⟩ := h.snd.sl
  have la := h.fst.len
  have lb := h.snd.len
  generalize a.length = m at *
  generalize b.length = n at *
  generalize okL a = r at *
  generalize okL b = s at *
  have c0 := hP.cell 0
  have c1 := hP.cell 1
  simp only [List.getElem?_cons_zero, List.getElem?_cons_succ] at c0 c1
  have hmn : ((m : Int) == (n : Int)) = decide (m = n) := by rw [Bool.eq_iff_iff]; simp; omega
  have HA := Lib.hid HA0
  have HB := Lib.hid HB0
  clear h hP HA0 HB0
  generalize decide (m = n) = q at *
  cases r with
  | false =>
    go_enter Try.func84, Try.ntmps84
    go_wp2
    go_quiet ((go_at_call 103; first | (with_reducible exact Calls.quiet_of_same (HA.out _)) | (with_reducible exact Calls.quiet_of_same (HB.out _))))
    all_goals go_wp2
    all_goals go_ret
    all_goals exact ⟨by first | rfl | simp, below_drewN (Below.refl _ _) _⟩
  | true =>
    cases s with
    | false =>
      go_enter Try.func84, Try.ntmps84
      go_wp2
      go_quiet ((go_at_call 103; first | (with_reducible exact Calls.quiet_of_same (HA.out _)) | (with_reducible exact Calls.quiet_of_same (HB.out _))))
      all_goals go_wp2
      all_goals go_ret
      all_goals exact ⟨by first | rfl | simp, below_drewN (Below.refl _ _) _⟩
    | true =>
      go_enter Try.func84, Try.ntmps84
      go_wp2
      go_quiet ((go_at_call 103; first | (with_reducible exact Calls.quiet_of_same (HA.out _)) | (with_reducible exact Calls.quiet_of_same (HB.out _))))
      all_goals go_wp2
      all_goals go_ret
      all_goals exact ⟨by first | rfl | simp, below_drewN (Below.refl _ _) _⟩
end Go.Proofs.Ytjhhldfhfebboaa
