/- The map from the states of one kind to their indices, the program's: indicesOf. No conditions. -/
import Derived.Test.YtdghbbnddgngoaaArA
import Derived.Test.YtdghbbnddgngoaaGpI
import Derived.Test.YtdghbbnddgngoaaImpl02
import Derived.Maps.OwnSet
import Derived.DeepKeys4
import Derived.Carry
namespace Go.Proofs.Ytdghbbnddgngoaa
open Go.RowKit
open Go.Maps (Keyed)
set_option linter.unusedSimpArgs false
set_option linter.unusedVariables false

abbrev DS := DataW Unit
theorem Try.stateLaid : laidOutB Try.prog = true := by kernel_rfl
theorem stateRow : (60 : TypeId) < Try.prog.types.size := of_decide_eq_true (by kernel_rfl)
theorem stateWide : (match Try.prog.underlying 60 with | some (.array _ _) | some (.struct _) => true | _ => false) = true := by kernel_rfl
set_option maxRecDepth 100000 in
theorem stateKeyed : Keyed Try.prog 60 := Keyed.of_law (deep_law_laid Try.stateLaid (m := 2) (by omega) stateRow (by kernel_rfl) stateWide)
def keyS (h v : Int) : Value := .agg #[.int .i64 h, .int .i64 v]
theorem cellsSt : Try.prog.cellsOf 60 = 2 := by kernel_rfl
theorem cellsOf64 : Try.prog.cellsOf 2 = 1 := by kernel_rfl
theorem keyS_some (h v : Int) (h0 : 0 ≤ h) (h1 : h ≤ 2000) (h2 : 0 ≤ v) (h3 : v ≤ 2000) : ∃ l, keyOf Try.prog 60 (keyS h v) = some l := by
  have e1 : (Lit.int .i64 h).wf = true := WalkArith.wf_i64 (by omega)
  have e2 : (Lit.int .i64 v).wf = true := WalkArith.wf_i64 (by omega)
  have hkt : Try.prog.keyType 60 = true := by kernel_rfl
  have hf : (keyS h v).formed Try.prog 60 = true := by simp [keyS, Value.formed, Try.underlying60, cellsSt]
  obtain ⟨m, hm⟩ : ∃ m, Try.prog.types.size + 1 = m + 2 := ⟨Try.prog.types.size - 1, by have h9 : 1 ≤ Try.prog.types.size := Nat.lt_of_le_of_lt (Nat.zero_le _) stateRow; omega⟩
  have hL : Try.prog.keyLits (m + 2) 60 [.int .i64 h, .int .i64 v] = some [.int .i64 h, .int .i64 v] := by
    unfold Program.keyLits
    rw [Try.underlying60]
    simp [cellsSt, cellsOf64, Program.keyLits, Try.underlying2, e1, e2]
  refine ⟨.string (keyBytes [.int .i64 h, .int .i64 v]), ?_⟩
  unfold keyOf
  rw [Try.underlying60]
  simp only [hkt, hf, Bool.and_self, if_true, hm]
  have hcs : (keyS h v).cells.toList = [.int .i64 h, .int .i64 v] := rfl
  rw [hcs, hL]
  rfl
/-- the key's literal -/
noncomputable def slit (h v : Int) : Lit := (keyOf Try.prog 60 (keyS h v)).getD (.bool false)
theorem slit_key {h v : Int} (h0 : 0 ≤ h) (h1 : h ≤ 2000) (h2 : 0 ≤ v) (h3 : v ≤ 2000) : keyOf Try.prog 60 (keyS h v) = some (slit h v) := by
  obtain ⟨l, hl⟩ := keyS_some h v h0 h1 h2 h3
  rw [slit, hl]; rfl
theorem slit_inj {h v h' v' : Int} (h0 : 0 ≤ h) (h1 : h ≤ 2000) (h2 : 0 ≤ v) (h3 : v ≤ 2000) (k0 : 0 ≤ h') (k1 : h' ≤ 2000) (k2 : 0 ≤ v') (k3 : v' ≤ 2000) (e : slit h v = slit h' v') : h = h' ∧ v = v' := by
  have e1 := slit_key h0 h1 h2 h3
  have e2 := slit_key k0 k1 k2 k3
  rw [e] at e1
  have := stateKeyed.inj e1 e2
  simpa [keyS] using this

/-- the map behind the first j states of a kind -/
def IdxMap (D : DS) (h p j : Nat) : Prop := Maps.IsMap D ∧ ∀ i, i < j → D.atKey (slit h (mskG h p i)) (.lit (.int .i64 0)) = .lit (.int .i64 (i : Int))
theorem IdxMap.zero (h p : Nat) : IdxMap (.map []) h p 0 := ⟨Maps.isMap_empty, fun i hi => absurd hi (Nat.not_lt_zero _)⟩
set_option maxRecDepth 100000 in
theorem IdxMap.add {D : DS} {h p j : Nat} (hD : IdxMap D h p j) (hh : h ≤ 10) (hj : j < cntG h p) : IdxMap (D.put (slit h (mskG h p j)) (.lit (.int .i64 (j : Int)))) h p (j + 1) := by
  have hp := pow_lt_1024 hh
  have hb : ∀ i, i < cntG h p → mskG h p i < 1024 := fun i hi => by have := (mskG_at hi).1; omega
  have kj : WideAt.IsKeyLit (slit h (mskG h p j)) := stateKeyed.key (v := keyS h (mskG h p j)) (slit_key (by omega) (by omega) (by omega) (by have := hb j hj; omega))
  refine ⟨hD.1.put _ _, fun i hi => ?_⟩
  by_cases e : i = j
  · subst e
    exact Maps.atKey_put_same hD.1 kj _ _
  · have hij : i < j := by omega
    have hup : mskG h p i < mskG h p j := mskN_up hij hj
    have b1 := hb i (by omega)
    have b2 := hb j hj
    rw [Maps.atKey_put_other (fun e => by have := (slit_inj (by omega) (by omega) (by omega) (by omega) (by omega) (by omega) (by omega) (by omega) e).2; omega)]
    exact hD.2 i hij

theorem ownsIdx_below {W W' : World} {b n : Nat} {D : DS} (h : W.ownsMap Try.prog 60 (plainElem Try.prog 2) b n D) (hb : Below W.heap.size W W') : W'.ownsMap Try.prog 60 (plainElem Try.prog 2) b n D :=
  h.kept (row := none) ⟨hb.os, hb.tape, hb.output, hb.size, fun k hk _ => hb.block k hk⟩ (by simp)

theorem run_makeHint (n : Int) (w : World) : (Instr.makeMap 58 (some (.int .i64 n))).run Try.prog w = .ok (.map (some w.heap.size)) (w.alloc (.map #[] 0)) := by
  simp [Instr.makeMap, run_underlying Try.underlying58, asInt, asIntOf, Result.andThen]

end Go.Proofs.Ytdghbbnddgngoaa
