/- What a walk is told of a slice of synchronous beats that came in. No conditions. -/
import Derived.Test.YtgjmhihomklooaaSynV
import Derived.Deep.Slices
import Derived.ChangeArms
import Derived.ChangeSame
namespace Go.Proofs.Ytgjmhihomklooaa
open Go.ChangeShapes Go.WideShapes Go.ChangeAt Go.RowKit
set_option linter.unusedVariables false
set_option linter.unusedSimpArgs false

set_option maxRecDepth 100000 in
theorem open_syncs {H : Type} {enc : TypeId × Value → H} {W : World} {base b0 : Nat} {v : Value} {d : DataW H} {p : List MemPlace}
    (hv : Value.okWide Try.prog W .any base 57 v) (h : DataW.Trod enc Try.prog W b0 (fun _ => true) true 57 v d p) :
    ∃ (a : Option Addr) (len cap : Nat) (z : List Syn), v = .slice a len cap ∧ IsSyncs W a len cap z := by
  have hs := Try.underlying57
  obtain ⟨a, len, cap, rfl⟩ := okWide_slice hs hv
  obtain ⟨fuel, hf⟩ := h
  rcases Go.Deep.open_slice hs hf with ⟨hcs, _⟩ | ⟨x, l, c, m, n, D, Pl, hcs, _, hl, hm, hmm, _, hx⟩
  · simp [Value.cells] at hcs
    obtain ⟨rfl, rfl, rfl⟩ := hcs
    exact ⟨none, 0, 0, [], rfl, .inl ⟨rfl, rfl, rfl, rfl⟩⟩
  · simp [Value.cells] at hcs
    obtain ⟨rfl, rfl, rfl⟩ := hcs
    have h4 : Try.prog.cellsOf 123 = 4 := by kernel_rfl
    have h2 : Try.prog.cellsOf 121 = 2 := by kernel_rfl
    have hi : Try.prog.cellsOf 2 = 1 := by kernel_rfl
    have hb : Try.prog.cellsOf 4 = 1 := by kernel_rfl
    have each : ∀ i, i < m → ∃ s : Syn, fitS s ∧ ∀ t, t < 4 → W.cell? (x.add (i * 4 + t)) = (synV s)[t]? := by
      intro i him
      obtain ⟨cs', h1, h3⟩ := hx i him
      rw [h4] at h1
      obtain ⟨_, hlen, hcell⟩ := World.cells?_some h1
      obtain ⟨y0, y1, k, _, _, e0, e1⟩ := trod_struct2 Try.underlying123 h3
      obtain ⟨z0, z1, k0, _, _, g0, g1⟩ := trod_struct2 Try.underlying121 e0
      obtain ⟨q0, q1, k1, _, _, r0, r1⟩ := trod_struct2 Try.underlying121 e1
      obtain ⟨n0, a0, _, f0⟩ := DataW.trod_int Try.underlying2 g0
      obtain ⟨c0, a1, _⟩ := DataW.trod_bool Try.underlying4 g1
      obtain ⟨n1, a2, _, f1⟩ := DataW.trod_int Try.underlying2 r0
      obtain ⟨c1, a3, _⟩ := DataW.trod_bool Try.underlying4 r1
      match cs', hlen with
      | [v0, v1, v2, v3], _ =>
        simp [h2, hi, hb] at a0 a1 a2 a3
        subst a0 a1 a2 a3
        refine ⟨((n0, c0), (n1, c1)), ⟨bounds_i64 f0, bounds_i64 f1⟩, fun t ht => ?_⟩
        have := hcell t ht
        rw [Addr.add_add] at this
        exact this
    obtain ⟨z, hz⟩ := Go.Deep.choose_lt (α := Syn) (n := m) each
    have hlm : len ≤ m := by rw [hmm]; split <;> omega
    refine ⟨some x, len, cap, (List.range len).map z, rfl, .inr ⟨x, rfl, hl, hm, by simp, ?_, ?_⟩⟩
    · intro s hs
      obtain ⟨i, hi, rfl⟩ := List.mem_map.1 hs
      have := List.mem_range.1 hi
      exact (hz i (by omega)).1
    · intro i hi t ht
      simp at hi
      rw [(hz i (by omega)).2 t ht]
      simp
end Go.Proofs.Ytgjmhihomklooaa
