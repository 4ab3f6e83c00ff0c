/- What a walk is told of a state that came in, and how the laws copy and compare states. No conditions. -/
import Derived.Test.YtblllikenjofoaaDoorStB
import Derived.Test.YtblllikenjofoaaDoorRows
import Derived.WalkKit
import Derived.ProofKit
import Derived.OpenShut
import Derived.ShutString
import Derived.ChangeSame
namespace Go.Proofs.YtblllikenjofoaaDoor
open Go.ChangeShapes Go.WideShapes Go.ChangeAt Go.RowKit
set_option linter.unusedVariables false
set_option linter.unusedSimpArgs false

set_option maxRecDepth 100000 in
theorem open_state {H : Type} {enc : TypeId × Value → H} {W : World} {base b0 : Nat} {v : Value} {d : DataW H} {p : List MemPlace}
    (hv : Value.okWide Tryd.prog W .any base 45 v) (h : DataW.Trod enc Tryd.prog W b0 (fun _ => true) true 45 v d p) :
    ∃ (x y : Int), v = .agg #[.int .i64 x, .int .i64 y] ∧ (-9223372036854775808 ≤ x ∧ x ≤ 9223372036854775807) ∧ (-9223372036854775808 ≤ y ∧ y ≤ 9223372036854775807) := by
  have hs := Tryd.underlying45
  obtain ⟨cs, rfl, hsz⟩ := okWide_struct hs hv
  have h1 : Tryd.prog.cellsOf 45 = 2 := by kernel_rfl
  have hi : Tryd.prog.cellsOf 2 = 1 := by kernel_rfl
  obtain ⟨c0, c1, rfl⟩ : ∃ c d, cs = #[c, d] := by
    have : cs.size = 2 := hsz.trans h1
    obtain ⟨l⟩ := cs
    match l, this with
    | [c, d], _ => exact ⟨c, d, rfl⟩
  obtain ⟨fuel, hf⟩ := h
  obtain ⟨y0, y1, n, _, _, e0, e1⟩ := trod_struct2 hs hf
  obtain ⟨n0, a0, _, f0⟩ := DataW.trod_int Tryd.underlying2 e0
  obtain ⟨n1, a1, _, f1⟩ := DataW.trod_int Tryd.underlying2 e1
  simp [Value.cells, hi] at a0 a1
  subst a0 a1
  exact ⟨n0, n1, rfl, bounds_i64 f0, bounds_i64 f1⟩

/-- a variable of two cells -/
def StTwo (w : World) (b : Nat) (u v : Value) : Prop := w.cell? ⟨b, 0, none⟩ = some u ∧ w.cell? ⟨b, 1, none⟩ = some v
theorem StTwo.lt {w : World} {b : Nat} {u v : Value} (h : StTwo w b u v) : b < w.heap.size := cell_block h.1
theorem StTwo.below {w w' : World} {b : Nat} {u v : Value} (h : StTwo w b u v) (hb : Below w.heap.size w w') : StTwo w' b u v :=
  ⟨(hb.cell (p := ⟨b, 0, none⟩) h.lt).trans h.1, (hb.cell (p := ⟨b, 1, none⟩) h.lt).trans h.2⟩
theorem StTwo.made (w : World) (u v : Value) (T : TypeId) : StTwo (w.alloc (.cells #[u, v] T)) w.heap.size u v := by
  refine ⟨?_, ?_⟩ <;> simp
theorem StTwo.block {w w' : World} {b : Nat} {u v : Value} (h : StTwo w b u v) (e : w'.heap[b]? = w.heap[b]?) : StTwo w' b u v := by
  refine ⟨?_, ?_⟩
  · rw [← h.1]; simp only [World.cell?, e]
  · rw [← h.2]; simp only [World.cell?, e]
theorem alT (w : World) (u v : Value) (T : TypeId) : Below w.heap.size w (w.alloc (.cells #[u, v] T)) := (Below.refl _ _).alloc (Nat.le_refl _) _

theorem toState_any (h m : Int) (w : World) :
    Calls Tryd.prog 28 #[.agg #[.int .i64 h, .int .i64 m]] w fun e w' => e = .returned (.agg #[.int .i64 h, .int .i64 m]) ∧ Below w.heap.size w w' := by
  go_enter Tryd.func28, Tryd.ntmps28
  go_wp2
  refine bodyPost_ret (v := .agg #[.int .i64 h, .int .i64 m]) (by simp [results, Tryd.results28, go_sem]) rfl ?_
  exact ⟨rfl, (((Below.refl w.heap.size w).alloc (Nat.le_refl _) _).alloc (by simp) _).alloc (by simp; omega) _⟩

end Go.Proofs.YtblllikenjofoaaDoor
