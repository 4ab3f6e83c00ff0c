/- What a walk is told of a passing pattern that came in. No conditions. -/
import Derived.Test.YtjhhldfhfebboaaPasW
import Derived.Test.YtjhhldfhfebboaaRows
import Derived.WalkKit
import Derived.ProofKit
import Derived.OpenShut
import Derived.ShutString
import Derived.ChangeSame
import Derived.Deep.Slices
import Derived.ChangeArms
namespace Go.Proofs.Ytjhhldfhfebboaa
open Go.ChangeShapes Go.WideShapes Go.ChangeAt Go.RowKit
set_option linter.unusedVariables false
set_option linter.unusedSimpArgs false

set_option maxRecDepth 100000 in
theorem open_pas {H : Type} {enc : TypeId × Value → H} {W : World} {b0 n : Nat} {c : Value} {y : DataW H × List MemPlace}
    (h : DataW.trod enc Try.prog W b0 (fun _ => true) true n 22 [c] = some y) : ∃ (a : Option Addr) (len cap : Nat) (z : List Pt), c = .slice a len cap ∧ IsPas W a len cap z := by
  have hs := Try.underlying22
  rcases Go.Deep.open_slice hs h with ⟨hcs, _⟩ | ⟨x, l, c', m, n', D, Pl, hcs, _, hl, hm, hmm, _, hx⟩
  · simp at hcs
    subst hcs
    exact ⟨none, 0, 0, [], rfl, .inl ⟨rfl, rfl, rfl, rfl⟩⟩
  · simp at hcs
    subst hcs
    have h2 : Try.prog.cellsOf 105 = 2 := by kernel_rfl
    have hi : Try.prog.cellsOf 2 = 1 := by kernel_rfl
    have hb : Try.prog.cellsOf 4 = 1 := by kernel_rfl
    have each : ∀ i, i < m → ∃ s : Pt, fitP s ∧ ∀ t, t < 2 → W.cell? (x.add (i * 2 + t)) = (pasV s)[t]? := by
      intro i him
      obtain ⟨cs', h1, h3⟩ := hx i him
      rw [h2] at h1
      obtain ⟨_, hlen, hcell⟩ := World.cells?_some h1
      obtain ⟨z0, z1, k0, _, _, g0, g1⟩ := trod_struct2 Try.underlying105 h3
      obtain ⟨n0, a0, _, f0⟩ := DataW.trod_int Try.underlying2 g0
      obtain ⟨c0, a1, _⟩ := DataW.trod_bool Try.underlying4 g1
      match cs', hlen with
      | [v0, v1], _ =>
        simp [h2, hi, hb] at a0 a1
        subst a0 a1
        refine ⟨(n0, c0), bounds_i64 f0, fun t ht => ?_⟩
        have := hcell t ht
        rw [Addr.add_add] at this
        exact this
    obtain ⟨z, hz⟩ := Go.Deep.choose_lt (α := Pt) (n := m) each
    have hlm : l ≤ m := by rw [hmm]; split <;> omega
    refine ⟨some x, l, c', (List.range l).map z, rfl, .inr ⟨x, rfl, hl, hm, by simp, ?_, ?_⟩⟩
    · intro s hs
      obtain ⟨i, hi, rfl⟩ := List.mem_map.1 hs
      have := List.mem_range.1 hi
      exact (hz i (by omega)).1
    · intro i hi t ht
      simp at hi
      rw [(hz i (by omega)).2 t ht]
      simp

set_option maxRecDepth 100000 in
theorem open_passing {H : Type} {enc : TypeId × Value → H} {W : World} {base b0 : Nat} {v : Value} {d : DataW H} {p : List MemPlace}
    (hv : Value.okWide Try.prog W .any base 24 v) (h : DataW.Trod enc Try.prog W b0 (fun _ => true) true 24 v d p) :
    ∃ (a : Option Addr) (la ca : Nat) (za : List Pt) (b : Option Addr) (lb cb : Nat) (zb : List Pt), v = .agg #[.slice a la ca, .slice b lb cb] ∧ IsPas W a la ca za ∧ IsPas W b lb cb zb := by
  have hs := Try.underlying24
  obtain ⟨cs, rfl, hsz⟩ := okWide_struct hs hv
  have h1 : Try.prog.cellsOf 24 = 2 := by kernel_rfl
  obtain ⟨c0, c1, rfl⟩ : ∃ c d, cs = #[c, d] := by
    have : cs.size = 2 := hsz.trans h1
    obtain ⟨l⟩ := cs
    match l, this with
    | [c, d], _ => exact ⟨c, d, rfl⟩
  obtain ⟨fuel, hf⟩ := h
  obtain ⟨y0, y1, n, _, _, e0, e1⟩ := trod_struct2 hs hf
  have h2 : Try.prog.cellsOf 22 = 1 := by kernel_rfl
  have e0' : DataW.trod enc Try.prog W b0 (fun _ => true) true n 22 [c0] = some y0 := by simpa [Value.cells, h2] using e0
  have e1' : DataW.trod enc Try.prog W b0 (fun _ => true) true n 22 [c1] = some y1 := by simpa [Value.cells, h2] using e1
  obtain ⟨a, la, ca, za, rfl, wa⟩ := open_pas e0'
  obtain ⟨b, lb, cb, zb, rfl, wb⟩ := open_pas e1'
  exact ⟨a, la, ca, za, b, lb, cb, zb, rfl, wa, wb⟩
end Go.Proofs.Ytjhhldfhfebboaa
