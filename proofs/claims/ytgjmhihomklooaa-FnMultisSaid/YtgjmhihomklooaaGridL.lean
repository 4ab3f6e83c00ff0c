/- 'append(own rows, row)' at a step of a region that draws its order: the new slice owns its rows. No conditions but bounds on lengths. -/
import Derived.Test.YtgjmhihomklooaaRange
import Derived.Deep.AppendLies
import Derived.Deep.RegionLaw
namespace Go.Proofs.Ytgjmhihomklooaa
open Go.RowKit
set_option linter.unusedSimpArgs false
set_option linter.unusedVariables false

theorem step_append_row (w : World) {ops : Array Oper} {o : Oper} {a : Act} {K : Act → World → Prop} {Q : Exit → Act → World → Prop} {E : Prop} (hgd : o.guard = none) (s x : Operand)
    (ho : o.op = .call { callee := .builtin .append, args := #[s, x], argTypes := #[24, 24] }) (B C : Nat) (v : Value) (pss : List (List Int)) (hs : a.eval s = v) (h : Grid 32 w B C v pss) (G : Nat) (u : Value) (p : List Int)
    (hx : a.eval x = .slice (some ⟨G, 0, none⟩) 1 1) (hcell : w.cell? ⟨G, 0, none⟩ = some u) (hn : Ints w C u p) (hlen : pss.length ≤ 1000000) (hBC : B ≤ C) (hC : C ≤ w.heap.size)
    (hK : ∀ g cap w', Grid 32 w' B w'.heap.size (.slice (some ⟨g, 0, none⟩) (pss.length + 1) cap) (pss ++ [p]) → Within B C w w' → K (a.put o.dst (.slice (some ⟨g, 0, none⟩) (pss.length + 1) cap)) w') :
    if Region.wanted o (yielded ops a.tmps) = true then Oper.wp Try.prog o a w K Q else E := by
  obtain ⟨i0, hi, hz0, hz1, hz2⟩ := info_parts Try.infoR
  obtain ⟨d, rfl⟩ := hn.hd
  obtain ⟨hs', hl, hO, hu, hr, ha⟩ := h
  refine step_append_lies w hgd s x 24 ho B 32 i0 (.slice none 0 0) 1 24 Try.underlying24 hi hz0 hz1 hz2 rfl (by decide) v hs'.length _ hs hO ⟨G, 0, none⟩ 1 1 [hdV d] hx rfl ?_ ?_ (by decide) (by unfold maxLen; omega) (by omega) (by omega) w.heap.size rfl ?_
  · intro j y hj
    match j, hj with
    | 0, hj => simp at hj; subst hj; simpa [Addr.add] using hcell
  · intro y hy; simp at hy; subst hy; exact hdV_one d
  · intro g cap w' h1 h2 _ _
    have hO' : Own 32 hdV w' B (.slice (some ⟨g, 0, none⟩) (hs'.length + 1) cap) (hs' ++ [d]) := by
      unfold Own
      simpa using h1
    have hG := Grid.joined (E := 32) (by decide) hl hO hr ha hn hBC hO' h2 (Nat.le_trans hC h2.size) (Nat.le_refl _)
    rw [hl] at hG ⊢
    exact hK g cap w' hG (Within.of_grown h2 fun k hk => ⟨hO.own_ge hk, hu k hk⟩)
end Go.Proofs.Ytgjmhihomklooaa
