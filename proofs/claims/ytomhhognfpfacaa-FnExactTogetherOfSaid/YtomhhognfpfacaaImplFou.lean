/- The program's chapter 3, second part: RepeatPattern, SwapLandings, RootPattern, CanonicalPattern, AlikePatterns answer as the plain mathematics says. No conditions. -/
import Derived.Test.YtomhhognfpfacaaImplThr
import Derived.BigRegion
namespace Go.Proofs.Ytomhhognfpfacaa
open Go.RowKit
set_option linter.unusedSimpArgs false
set_option linter.unusedVariables false

/-- the code of an exchange -/
def swapC (p : List Int) (i k : Int) : Int := patC p (inB i 0 ((p.length : Int) - 1) && inB k 0 ((p.length : Int) - 1)) (chkC (swapL p i.toNat k.toNat))

/- slices of slices -/
theorem Try.infoTL : (Try.prog.info? 76).map (fun i => (i.zero, i.size, i.bytes)) = some (some (.slice none 0 0), 1, 24) := by kernel_rfl

theorem rep_mix (m k : Nat) (V z : Value) (hk : k < m) : (List.replicate k V ++ List.replicate (m - k) z).set k V = List.replicate (k + 1) V ++ List.replicate (m - (k + 1)) z := by
  apply List.ext_getElem
  · simp; omega
  · intro i h1 h2
    simp at h1
    simp only [List.getElem_set, List.getElem_append, List.length_replicate, List.getElem_replicate]
    by_cases hik : k = i
    · subst hik; simp
    · rw [if_neg hik]
      by_cases hlt : i < k
      · rw [dif_pos hlt, dif_pos (by omega)]
      · rw [dif_neg hlt, dif_neg (by omega)]

theorem repL_front (p : List Int) (m : Nat) : p ++ repL p m = repL p m ++ p := by
  induction m with
  | zero => simp [repL]
  | succ m ih => rw [repL, ← List.append_assoc, ih]
theorem repL_flat (p : List Int) (m : Nat) : (List.replicate m p).flatten = repL p m := by
  induction m with
  | zero => rfl
  | succ m ih => rw [List.replicate_succ, List.flatten_cons, ih, repL, repL_front]

end Go.Proofs.Ytomhhognfpfacaa
