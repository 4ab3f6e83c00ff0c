/- How long the answers of chapter 3 are at most. Plain mathematics. No conditions. -/
import Derived.Test.YtomhhognfpfacaaSpecSix
namespace Go.Proofs.Ytomhhognfpfacaa
theorem lenRes {c : Int} {q : List Int} {n : Nat} (h : c = 0 → q.length ≤ n) : (resA c q).length ≤ n := by
  by_cases hc : c = 0
  · subst hc; rw [resA_ok]; exact h rfl
  · rw [resA_bad c q hc]; simp
theorem lenRotate (p : List Int) (s : Int) : (resA (beatCode p s) (rotL p s)).length ≤ p.length := lenRes fun _ => by rw [rotL_len]; exact Nat.le_refl _
theorem lenReverse (p : List Int) : (resA (okC p) (revL p)).length ≤ p.length := lenRes fun _ => by rw [revL_len]; exact Nat.le_refl _
theorem lenRoot (p : List Int) : (resA (okC p) (rootL p)).length ≤ p.length := lenRes fun _ => by unfold rootL; simp; omega
theorem lenCanon (p : List Int) : (resA (okC p) (canL p)).length ≤ p.length := lenRes fun hc => by
  cases hok : okPat p with
  | false => rw [okC_false hok] at hc; omega
  | true => exact (canL_len (okPat_len hok).1).2
theorem lenSwap (p : List Int) (i k : Int) : (resA (swapC p i k) (swapL p i.toNat k.toNat)).length ≤ p.length := lenRes fun _ => by rw [swapL_len]; exact Nat.le_refl _
theorem lenRaise (p : List Int) (i c : Int) : (resA c (raiseL p i.toNat)).length ≤ p.length := lenRes fun _ => by rw [raiseL_len]; exact Nat.le_refl _
theorem lenShift (p : List Int) (s c : Int) : (resA c (shiftL p s)).length ≤ p.length := lenRes fun _ => by rw [shiftL_len]; exact Nat.le_refl _
theorem lenDual (p : List Int) (s c : Int) : (resA c (dualL p s)).length ≤ p.length := lenRes fun _ => by rw [dualL_len]; exact Nat.le_refl _
theorem lenRepeat (p : List Int) (s : Int) : (resA (patC p (inB s 1 (12 / (p.length : Int))) 0) (repL p s.toNat)).length ≤ 12 := lenRes fun hc => by
  cases hok : okPat p with
  | false => rw [patC_bad _ _ hok] at hc; omega
  | true =>
    cases hin : inB s 1 (12 / (p.length : Int)) with
    | false => rw [hin, patC_far _ hok] at hc; omega
    | true =>
      obtain ⟨hb1, hb2⟩ := inB_iff.1 hin
      obtain ⟨l1, l2⟩ := okPat_len hok
      rw [repL_len]
      have h1 : s * (p.length : Int) ≤ 12 := Int.le_trans (Int.mul_le_mul_of_nonneg_right hb2 (by omega)) (Int.ediv_mul_le _ (by omega))
      have h2 : ((s.toNat * p.length : Nat) : Int) ≤ 12 := by rw [Int.natCast_mul, show ((s.toNat : Nat) : Int) = s from by omega]; exact h1
      omega
end Go.Proofs.Ytomhhognfpfacaa
