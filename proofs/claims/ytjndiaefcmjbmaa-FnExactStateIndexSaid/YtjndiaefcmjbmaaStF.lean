/- StateOf, the model's and the program's. No conditions. -/
import Derived.Test.YtjndiaefcmjbmaaStJ
import Derived.Test.YtjndiaefcmjbmaaStO
import Derived.Test.YtjndiaefcmjbmaaOwnK
import Derived.Test.YtjndiaefcmjbmaaHigh
import Derived.Test.YtjndiaefcmjbmaaImpl02b
import Derived.Deep.RegionLaw
namespace Go.Proofs.Ytjndiaefcmjbmaa
open Go.RowKit
set_option linter.unusedSimpArgs false
set_option linter.unusedVariables false

/-- whether a prop lands t beats from a beat, which has been thrown before -/
def comes (p : List Int) (beat : Int) (t : Nat) : Bool := decide (fromL p (beat + t) < beat)
/-- the mask of a pattern before a beat -/
def ofM (p : List Int) (beat : Int) (k : Nat) : Nat := maskU (comes p beat) k
theorem ofM_lt (p : List Int) (beat : Int) (k : Nat) : ofM p beat k < 2 ^ k := maskU_lt _ _
theorem ofM_one {p : List Int} {beat : Int} {k : Nat} (h : fromL p (beat + k) < beat) : ofM p beat (k + 1) = ofM p beat k ||| 2 ^ k := by
  show maskU _ k ||| (if decide (fromL p (beat + k) < beat) = true then 2 ^ k else 0) = _
  rw [decide_eq_true h, if_pos rfl]; rfl
theorem ofM_zero {p : List Int} {beat : Int} {k : Nat} (h : ¬ fromL p (beat + k) < beat) : ofM p beat (k + 1) = ofM p beat k := by
  show maskU _ k ||| (if decide (fromL p (beat + k) < beat) = true then 2 ^ k else 0) = _
  rw [decide_eq_false h, if_neg (by simp), Nat.or_zero]; rfl
/-- the code of a pattern, a beat and a height -/
def ofC (p : List Int) (beat height : Int) : Int :=
  if okPat p then (if inB beat (-1000) 1000 && inB height 1 10 then (if highA p ≤ height then 0 else 6) else 2) else 1
def ofA (p : List Int) (beat height : Int) : Int := if ofC p beat height = 0 then height else 0
def ofB (p : List Int) (beat height : Int) : Int := if ofC p beat height = 0 then (ofM p beat height.toNat : Nat) else 0
theorem ofC_bad {p : List Int} {beat height : Int} (h : okPat p = false) : ofC p beat height = 1 := by rw [ofC, if_neg (by simp [h])]
theorem ofC_far {p : List Int} {beat height : Int} (h : okPat p = true) (h2 : (inB beat (-1000) 1000 && inB height 1 10) = false) : ofC p beat height = 2 := by rw [ofC, if_pos h, if_neg (by simp [h2])]
theorem ofC_low {p : List Int} {beat height : Int} (h : okPat p = true) (h2 : (inB beat (-1000) 1000 && inB height 1 10) = true) (h3 : ¬ highA p ≤ height) : ofC p beat height = 6 := by rw [ofC, if_pos h, if_pos h2, if_neg h3]
theorem ofC_ok {p : List Int} {beat height : Int} (h : okPat p = true) (h2 : (inB beat (-1000) 1000 && inB height 1 10) = true) (h3 : highA p ≤ height) : ofC p beat height = 0 := by rw [ofC, if_pos h, if_pos h2, if_pos h3]
/-- a throw that was made before lands is no throw 0 -/
theorem from_pos {p : List Int} (h : okPat p = true) {beat : Int} {k : Nat} (hb : fromL p (beat + k) < beat) : 0 < atL p (fromL p (beat + k)) := by
  obtain ⟨t, ht, hf, hat, _⟩ := from_spec h (beat + k)
  rw [hf] at hb ⊢
  rw [hat]
  omega
theorem ints_slO {w : World} {B : Nat} {v : Value} {xs : List Int} (h : Ints w B v xs) : ∃ a cap, v = .slice a xs.length cap := by
  rcases h.shape with ⟨rfl, rfl⟩ | ⟨g, cap, rfl, _⟩
  · exact ⟨_, _, rfl⟩
  · exact ⟨_, _, rfl⟩
theorem from_near {p : List Int} (h : okPat p = true) (b : Int) : b - 15 ≤ fromL p b ∧ fromL p b ≤ b := by
  obtain ⟨t, ht, hf, _, _⟩ := from_spec h b
  omega

theorem highA_bound {p : List Int} (hok : okPat p = true) : 0 ≤ highA p ∧ highA p ≤ 15 := by
  rw [highA_true hok]
  exact hiF_bound _ _ (fun i hi => okPat_at hok i hi)

theorem ofC_zero {p : List Int} {beat height : Int} (h : ofC p beat height = 0) : okPat p = true ∧ (-1000 ≤ beat ∧ beat ≤ 1000) ∧ (1 ≤ height ∧ height ≤ 10) ∧ highA p ≤ height := by
  unfold ofC at h
  split at h
  · rename_i h1
    split at h
    · rename_i h2
      rw [Bool.and_eq_true] at h2
      split at h
      · rename_i h3
        exact ⟨h1, inB_iff.1 h2.1, inB_iff.1 h2.2, h3⟩
      · omega
    · omega
  · omega

end Go.Proofs.Ytjndiaefcmjbmaa
