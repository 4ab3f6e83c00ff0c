/- The map from the states of one kind to their indices, the program's: indicesOf. No conditions. -/
import Derived.Test.YtdghbbnddgngoaaDoorArA
import Derived.Test.YtdghbbnddgngoaaDoorGpI
import Derived.Test.YtdghbbnddgngoaaDoorImpl02
import Derived.Maps.OwnSet
import Derived.DeepKeys4
import Derived.Carry
namespace Go.Proofs.YtdghbbnddgngoaaDoor
open Go.RowKit
open Go.Maps (Keyed)
set_option linter.unusedSimpArgs false
set_option linter.unusedVariables false

abbrev DS := DataW Unit
theorem Tryd.stateLaid : laidOutB Tryd.prog = true := by kernel_rfl
theorem stateRow : (35 : TypeId) < Tryd.prog.types.size := of_decide_eq_true (by kernel_rfl)
theorem stateWide : (match Tryd.prog.underlying 35 with | some (.array _ _) | some (.struct _) => true | _ => false) = true := by kernel_rfl
set_option maxRecDepth 100000 in
theorem stateKeyed : Keyed Tryd.prog 35 := Keyed.of_law (deep_law_laid Tryd.stateLaid (m := 2) (by omega) stateRow (by kernel_rfl) stateWide)
def keyS (h v : Int) : Value := .agg #[.int .i64 h, .int .i64 v]
theorem cellsSt : Tryd.prog.cellsOf 35 = 2 := by kernel_rfl
theorem cellsOf64 : Tryd.prog.cellsOf 2 = 1 := by kernel_rfl
theorem keyS_some (h v : Int) (h0 : 0 ≤ h) (h1 : h ≤ 2000) (h2 : 0 ≤ v) (h3 : v ≤ 2000) : ∃ l, keyOf Tryd.prog 35 (keyS h v) = some l := by
  have e1 : (Lit.int .i64 h).wf = true := WalkArith.wf_i64 (by omega)
  have e2 : (Lit.int .i64 v).wf = true := WalkArith.wf_i64 (by omega)
  have hkt : Tryd.prog.keyType 35 = true := by kernel_rfl
  have hf : (keyS h v).formed Tryd.prog 35 = true := by simp [keyS, Value.formed, Tryd.underlying35, cellsSt]
  obtain ⟨m, hm⟩ : ∃ m, Tryd.prog.types.size + 1 = m + 2 := ⟨Tryd.prog.types.size - 1, by have h9 : 1 ≤ Tryd.prog.types.size := Nat.lt_of_le_of_lt (Nat.zero_le _) stateRow; omega⟩
  have hL : Tryd.prog.keyLits (m + 2) 35 [.int .i64 h, .int .i64 v] = some [.int .i64 h, .int .i64 v] := by
    unfold Program.keyLits
    rw [Tryd.underlying35]
    simp [cellsSt, cellsOf64, Program.keyLits, Tryd.underlying2, e1, e2]
  refine ⟨.string (keyBytes [.int .i64 h, .int .i64 v]), ?_⟩
  unfold keyOf
  rw [Tryd.underlying35]
  simp only [hkt, hf, Bool.and_self, if_true, hm]
  have hcs : (keyS h v).cells.toList = [.int .i64 h, .int .i64 v] := rfl
  rw [hcs, hL]
  rfl
/-- the key's literal -/
noncomputable def slit (h v : Int) : Lit := (keyOf Tryd.prog 35 (keyS h v)).getD (.bool false)
theorem slit_key {h v : Int} (h0 : 0 ≤ h) (h1 : h ≤ 2000) (h2 : 0 ≤ v) (h3 : v ≤ 2000) : keyOf Tryd.prog 35 (keyS h v) = some (slit h v) := by
  obtain ⟨l, hl⟩ := keyS_some h v h0 h1 h2 h3
  rw [slit, hl]; rfl
theorem slit_inj {h v h' v' : Int} (h0 : 0 ≤ h) (h1 : h ≤ 2000) (h2 : 0 ≤ v) (h3 : v ≤ 2000) (k0 : 0 ≤ h') (k1 : h' ≤ 2000) (k2 : 0 ≤ v') (k3 : v' ≤ 2000) (e : slit h v = slit h' v') : h = h' ∧ v = v' := by
  have e1 := slit_key h0 h1 h2 h3
  have e2 := slit_key k0 k1 k2 k3
  rw [e] at e1
  have := stateKeyed.inj e1 e2
  simpa [keyS] using this

/-- the map behind the first j states of a kind -/
def IdxMap (D : DS) (h p j : Nat) : Prop := Maps.IsMap D ∧ ∀ i, i < j → D.atKey (slit h (mskG h p i)) (.lit (.int .i64 0)) = .lit (.int .i64 (i : Int))
theorem IdxMap.zero (h p : Nat) : IdxMap (.map []) h p 0 := ⟨Maps.isMap_empty, fun i hi => absurd hi (Nat.not_lt_zero _)⟩
set_option maxRecDepth 100000 in
theorem IdxMap.add {D : DS} {h p j : Nat} (hD : IdxMap D h p j) (hh : h ≤ 10) (hj : j < cntG h p) : IdxMap (D.put (slit h (mskG h p j)) (.lit (.int .i64 (j : Int)))) h p (j + 1) := by
  have hp := pow_lt_1024 hh
  have hb : ∀ i, i < cntG h p → mskG h p i < 1024 := fun i hi => by have := (mskG_at hi).1; omega
  have kj : WideAt.IsKeyLit (slit h (mskG h p j)) := stateKeyed.key (v := keyS h (mskG h p j)) (slit_key (by omega) (by omega) (by omega) (by have := hb j hj; omega))
  refine ⟨hD.1.put _ _, fun i hi => ?_⟩
  by_cases e : i = j
  · subst e
    exact Maps.atKey_put_same hD.1 kj _ _
  · have hij : i < j := by omega
    have hup : mskG h p i < mskG h p j := mskN_up hij hj
    have b1 := hb i (by omega)
    have b2 := hb j hj
    rw [Maps.atKey_put_other (fun e => by have := (slit_inj (by omega) (by omega) (by omega) (by omega) (by omega) (by omega) (by omega) (by omega) e).2; omega)]
    exact hD.2 i hij

theorem ownsIdx_below {W W' : World} {b n : Nat} {D : DS} (h : W.ownsMap Tryd.prog 35 (plainElem Tryd.prog 2) b n D) (hb : Below W.heap.size W W') : W'.ownsMap Tryd.prog 35 (plainElem Tryd.prog 2) b n D :=
  h.kept (row := none) ⟨hb.os, hb.tape, hb.output, hb.size, fun k hk _ => hb.block k hk⟩ (by simp)

theorem run_makeHint (n : Int) (w : World) : (Instr.makeMap 58 (some (.int .i64 n))).run Tryd.prog w = .ok (.map (some w.heap.size)) (w.alloc (.map #[] 0)) := by
  simp [Instr.makeMap, run_underlying Tryd.underlying58, asInt, asIntOf, Result.andThen]

set_option maxRecDepth 10000 in
set_option maxHeartbeats 2000000 in
theorem indicesOf_any (v : Value) (B p h : Nat) (w : World) (hI : Sts w B v (mskS h p (2 ^ h))) (hh : h ≤ 10) :
    Calls Tryd.prog 26 #[v] w fun e w' => ∃ (D : DS) (nn : Nat), e = .returned (.map (some w.heap.size)) ∧ w'.ownsMap Tryd.prog 35 (plainElem Tryd.prog 2) w.heap.size nn D ∧ IdxMap D h p (cntG h p) ∧ Below w.heap.size w w' := by
  have hn10 := cntG_le h p hh
  have hl : (mskS h p (2 ^ h)).length = cntG h p := by rw [mskS_len]; rfl
  have HMK := Lib.hid (fun i (hi : i < cntG h p) => show ∃ g cap, v = .slice (some ⟨g, 0, none⟩) (cntG h p) cap ∧ g < w.heap.size ∧ w.cell? ⟨g, i * 2, none⟩ = some (.int .i64 h) ∧ w.cell? ⟨g, i * 2 + 1, none⟩ = some (.int .i64 (mskG h p i : Nat)) from by
    obtain ⟨g, cap, e, _, e2, _⟩ := hI.shape2 (by omega)
    rw [hl] at e
    have hc := hI
    rw [e] at hc
    obtain ⟨c0, c1⟩ := hc.twoS i (by omega)
    rw [show s0 = ((0, 0) : Int × Int) from rfl, mskS_at (show i < (mskN p (2 ^ h)).length from hi)] at c0 c1
    exact ⟨g, cap, e, e2, c0, c1⟩)
  have HADD := Lib.hid (fun (D : DS) j (hD : IdxMap D h p j) (hj : j < cntG h p) => hD.add hh hj)
  have HKY := Lib.hid (fun i (hi : i < cntG h p) => show keyOf Tryd.prog 35 (.agg #[.int .i64 h, .int .i64 (mskG h p i : Nat)]) = some (slit h (mskG h p i)) from
    slit_key (h := (h : Int)) (v := (mskG h p i : Nat)) (by omega) (by omega) (by omega) (by have := (mskG_at hi).1; have := pow_lt_1024 hh; omega))
  obtain ⟨va, vc, rfl⟩ := hI.sl
  rw [hl] at HMK ⊢
  clear hI hl
  generalize hn : cntG h p = n at *
  have hmm := fun (m : Nat) W => run_makeHint (m : Int) W
  have own0 := World.ownsMap_made w Tryd.prog 35 (plainElem (H := Unit) Tryd.prog 2)
  have b0 : Below w.heap.size w (w.alloc (.map #[] 0)) := (Below.refl _ w).alloc (Nat.le_refl _) _
  go_enter Tryd.func26, Tryd.ntmps26
  go_wp2
  go_loopw [11] (fun i wr => ∃ (k : Nat) (D : DS) (nn : Nat), k ≤ n ∧ i = .int .i64 (k : Int) ∧ wr.ownsMap Tryd.prog 35 (plainElem Tryd.prog 2) w.heap.size nn D ∧ nn ≤ k ∧ IdxMap D h p k ∧ Below w.heap.size w wr) (fun i _ => n - (intOf i).toNat)
  case atStart => exact ⟨0, _, 0, by omega, rfl, own0, by omega, IdxMap.zero h p, b0⟩
  case round =>
    clear own0 b0
    obtain ⟨k, D, nn, hk, rfl, hown, hnn, hS, hb⟩ := hrel
    by_cases hlt : k < n
    · have hlt' : decide (k < n) = true := decide_eq_true hlt
      obtain ⟨g, cap, hv, hg, c0, c1⟩ := HMK.out k hlt
      cases hv
      have hkey := HKY.out k hlt
      have HS2 := Lib.hid (HADD.out D k hS hlt)
      have d0 := (hb.cell (p := ⟨g, k * 2, none⟩) hg).trans c0
      have d1 := (hb.cell (p := ⟨g, k * 2 + 1, none⟩) hg).trans c1
      have hbz := hb.size
      clear HMK HADD HKY c0 c1 hS
      generalize mskG h p k = m at *
      have hown1 := hown.alloc (.cells #[.int .i64 h, .int .i64 m] 35)
      have hb1 := hb.alloc hbz (.cells #[.int .i64 h, .int .i64 m] 35)
      clear hown
      go_wp2_with (at_mapUpdate; refine wpList_mapUpdate_own _ rfl _ _ _ 58 rfl 35 2 stateKeyed Tryd.underlying58 _ w.heap.size nn _ rfl hown1 (by unfold maxLen; omega) _ _ _ rfl rfl hkey (.lit (.int .i64 (k : Int))) [] (plainElem_int Tryd.underlying2 (WalkArith.wf_i64 (by omega))) ?_; intro w1 hown2 hgrow1; refine Hid.out ?_)
      have hb2 := hb1.grown hgrow1 hb1.size (fun j hj => by cases hj; exact Nat.le_refl _)
      clear hgrow1 hown1
      refine Lib.hid ?_
      go_wp2
      go_roundw
      case rel => exact ⟨k + 1, _, nn + 1, by omega, by go_num, hown2, by omega, HS2.out, hb2⟩
      case measure => simp [intOf]; omega
    · obtain rfl : k = n := by omega
      clear HMK HADD HKY
      go_wp2
      go_ret
      exact ⟨D, nn, rfl, hown, hS, hb⟩
end Go.Proofs.YtdghbbnddgngoaaDoor
