/- What a walk is told of a Multi that came in: its rows. No conditions. -/
import Derived.Test.YtdgmmaghmdbnjaaMulti
import Derived.Test.YtdgmmaghmdbnjaaRows
import Derived.WalkKit
import Derived.ProofKit
import Derived.OpenShut
import Derived.ShutString
import Derived.ChangeSame
import Derived.Deep.Matrix
namespace Go.Proofs.Ytdgmmaghmdbnjaa
open Go.ChangeShapes Go.WideShapes Go.ChangeAt Go.RowKit
set_option linter.unusedVariables false
set_option linter.unusedSimpArgs false

set_option maxRecDepth 100000 in
theorem open_multi {H : Type} {enc : TypeId × Value → H} {W : World} {base b0 : Nat} {v : Value} {d : DataW H} {p : List MemPlace}
    (hv : Value.okWide Try.prog W .any base 59 v) (h : DataW.Trod enc Try.prog W b0 (fun _ => true) true 59 v d p) :
    ∃ (a : Option Addr) (len cap : Nat) (A : Nat → Option Addr) (L C : Nat → Nat) (Z : Nat → List Int), v = .agg #[.slice a len cap] ∧ IsRows W a len cap A L C Z := by
  have hs := Try.underlying59
  obtain ⟨cs, rfl, hsz⟩ := okWide_struct hs hv
  have h1 : Try.prog.cellsOf 59 = 1 := by kernel_rfl
  obtain ⟨c0, rfl⟩ : ∃ c, cs = #[c] := by
    have : cs.size = 1 := hsz.trans h1
    obtain ⟨l⟩ := cs
    match l, this with
    | [c], _ => exact ⟨c, rfl⟩
  obtain ⟨fuel, hf⟩ := h
  obtain ⟨y0, n, hx, _, h0⟩ := trod_struct1 hs hf
  have h2 : Try.prog.cellsOf 24 = 1 := by kernel_rfl
  have h0' : DataW.trod enc Try.prog W b0 (fun _ => true) true n 24 [c0] = some y0 := by simpa [Value.cells, h2] using h0
  rcases Go.Deep.open_int_rows Try.underlying24 Try.underlying32 Try.underlying2 (by kernel_rfl) (by kernel_rfl) h0' with ⟨hcs, _⟩ | ⟨a, len, cap, A, L, C, Z, hcs, _, hl, hm, _, hr⟩
  · simp at hcs
    subst hcs
    exact ⟨none, 0, 0, fun _ => none, fun _ => 0, fun _ => 0, fun _ => [], rfl, .inl ⟨rfl, rfl, rfl⟩⟩
  · simp at hcs
    subst hcs
    refine ⟨some a, len, cap, A, L, C, Z, rfl, .inr ⟨a, rfl, hl, hm, fun r hr' => ?_⟩⟩
    obtain ⟨g1, g2, g3, g4, g5, g6, g7⟩ := hr r hr'
    refine ⟨g1, ?_⟩
    cases hA : A r with
    | none =>
      have := g6 hA
      have hz : Z r = [] := List.length_eq_zero_iff.1 (by omega)
      exact .inl ⟨rfl, by omega, this, hz⟩
    | some x => exact .inr ⟨x, rfl, g2, g3, g4, fun i hi => (g7 x hA).2 i (by omega), g5⟩
end Go.Proofs.Ytdgmmaghmdbnjaa
