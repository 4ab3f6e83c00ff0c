/- What the law of the states asks of a pattern and its states, in plain mathematics. No conditions. -/
import Derived.Test.YtjndiaefcmjbmaaDoorStM
import Derived.Test.YtjndiaefcmjbmaaDoorStK
namespace Go.Proofs.YtjndiaefcmjbmaaDoor

theorem atL_high {p : List Int} (hok : okPat p = true) (x : Int) : atL p x ≤ highA p := by
  obtain ⟨l1, _⟩ := okPat_len hok
  rw [highA_true hok]
  unfold atL
  have h1 : 0 ≤ x % (p.length : Int) := Int.emod_nonneg _ (by omega)
  have h2 : x % (p.length : Int) < p.length := Int.emod_lt_of_pos _ (by omega)
  exact hiF_ge (fun i => p.getD i 0) p.length _ (by omega)

/-- the masks of a pattern's states, with the least height that fits -/
def lowM (p : List Int) (a i : Nat) : Nat := ofM p (i : Int) (a + 1)
theorem low_all {p : List Int} (hok : okPat p = true) {a : Nat} (ha : highA p = a) (h7 : a ≤ 7) :
    ofC p 0 ((a : Int) + 1) = 0 ∧
    (∀ i, i < p.length → canI (a + 1) (lowM p a i) (p.getD i 0) = true ∧ nextM (lowM p a i) (p.getD i 0).toNat = lowM p a ((i + 1) % p.length) ∧ (popN (lowM p a i) : Int) = propsA p ∧ 0 ≤ p.getD i 0 ∧ p.getD i 0 ≤ a ∧ lowM p a i < 2 ^ (a + 1)) ∧
    runGo (a + 1) (lowM p a 0) p 0 = (lowM p a 0, p.length, 0) := by
  obtain ⟨l1, l2⟩ := okPat_len hok
  have hh : ∀ x, atL p x < ((a + 1 : Nat) : Int) := fun x => by have := atL_high hok x; omega
  refine ⟨ofC_ok hok (by rw [Bool.and_eq_true, inB_iff, inB_iff]; omega) (by omega), fun i hi => ?_, ?_⟩
  · have hat := atL_nat p i hi
    have hc := ofM_can hok hh (i : Int)
    have hn := ofM_next hok hh (i : Int)
    have hb := atL_bound hok (i : Int)
    have hlt := atL_high hok (i : Int)
    rw [hat] at hc hn hb hlt
    have hp1 := (ofM_pop hok (h := a + 1) (by omega) hh i (by omega)).1
    have hp2 := ofM_props hok (h := a + 1) (by omega) hh
    refine ⟨hc, ?_, ?_, hb.1, by omega, ofM_lt _ _ _⟩
    · show nextM (ofM p (i : Int) (a + 1)) _ = ofM p (((i + 1) % p.length : Nat) : Int) (a + 1)
      rw [hn]
      by_cases he : i + 1 = p.length
      · rw [he, Nat.mod_self, show (i : Int) + 1 = 0 + (p.length : Int) by omega, ofM_per hok]; rfl
      · rw [Nat.mod_eq_of_lt (by omega)]; rfl
    · show (popN (ofM p (i : Int) (a + 1)) : Int) = _
      have hp1' : popN (ofM p (i : Int) (a + 1)) = popN (ofM p 0 (a + 1)) := hp1
      rw [hp1']; exact hp2
  · have := ofM_run hok hh p.length (Nat.le_refl _)
    simpa [lowM] using this
end Go.Proofs.YtjndiaefcmjbmaaDoor
