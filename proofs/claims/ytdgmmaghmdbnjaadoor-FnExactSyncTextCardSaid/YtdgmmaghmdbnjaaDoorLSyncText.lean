/- The law FnExactSyncText returns true at every input, and leaves its arguments and the program's table of marks as they were. Conditions: none beyond the card's own tie of the table to the program's text. -/
import Derived.Test.YtdgmmaghmdbnjaaDoorWSyncText
import Derived.Test.YtdgmmaghmdbnjaaDoorSOpen
import Derived.Test.YtdgmmaghmdbnjaaDoorCards
import Derived.Test.YtdgmmaghmdbnjaaDoorTie
import Derived.LaidMore
import Derived.LaidLaws
import Derived.Stop.Joined
import Derived.SevenTiedAt
namespace Go.Proofs.YtdgmmaghmdbnjaaDoor.fnExactSyncText
open Go.ChangeShapes Go.WideShapes Go.ChangeAt Go.RowKit
open Go.ChangeMaps (open_string shut_string)
set_option linter.unusedVariables false

theorem own : ownKnob Tryd.prog.godebug = none := by kernel_rfl
theorem laidOut : laidOutB Tryd.prog = true := by kernel_rfl
theorem gMarks : Tryd.prog.globalNamed "loop.example/g00927/impl.syncMarks" = some 0 := by kernel_rfl
theorem tMarks : (Tryd.prog.globals[0]?).map (·.type) = some 52 := by kernel_rfl
theorem cellsArr : Tryd.prog.cellsOf 52 = 4 := by kernel_rfl
theorem cellsElt : Tryd.prog.cellsOf 51 = 2 := by kernel_rfl
theorem cellsStr : Tryd.prog.cellsOf 9 = 1 := by kernel_rfl
/-- the table's cells -/
def markCells : Array Value := #[.string ⟨#[40]⟩, .string ⟨#[44]⟩, .string ⟨#[]⟩, .string ⟨#[41]⟩]

theorem door_met (os : Os) (args : Array Value) : laidMetH Tryd.prog Rows.fnExactSyncTextRow.laid ((World.doorLaid Tryd.prog 400 os).forCall (fun _ _ => 0) ⟨#[], args, []⟩).memory :=
  laidMetH_of_parts3 (fuel := 8) (laidMet_of_run' 8 (by kernel_rfl) (by kernel_rfl)) (by kernel_rfl) (by kernel_rfl)

theorem reads_table {H : Type} (enc : TypeId × Value → H) (W : World) (sp : Nat → Bool) : DataW.trod enc Tryd.prog W 0 sp true 4 52 markCells.toList = some (Rows.laid_loop_example_g00927_impl_syncMarks, []) := by kernel_rfl

set_option maxRecDepth 100000 in
/-- what the condition gives: the variable's cells -/
theorem of_laid {W : World} (h : laidMetH Tryd.prog Rows.fnExactSyncTextRow.laid W) : W.var? Tryd.prog "loop.example/g00927/impl.syncMarks" = some markCells := by
  rw [MakeChecks.laidMetH_plain _ _ _ (by kernel_rfl)] at h
  obtain ⟨ps, ⟨g0, t0, cs0, f0, p0, q0, hg0, ht0, hv0, hd0, _, _⟩, _, _⟩ := h
  obtain rfl := Option.some.inj (gMarks.symm.trans hg0)
  obtain rfl := Option.some.inj (tMarks.symm.trans ht0)
  rw [hv0]
  congr 1
  obtain ⟨xs, m, rfl, hx, hl, hn, hel⟩ := DataW.trod_array Tryd.underlying52 hd0
  rw [cellsArr] at hl
  obtain ⟨l⟩ := cs0
  simp only at hl hel
  match l, hl with
  | [c0, c1, c2, c3], _ =>
    rw [cellsElt] at hel
    match xs, hn with
    | [x0, x1], _ =>
      simp only [Rows.laid_loop_example_g00927_impl_syncMarks, Prod.mk.injEq, DataW.agg.injEq, List.map_cons, List.map_nil, List.cons.injEq] at hx
      obtain ⟨⟨y0, y1, _⟩, _⟩ := hx
      obtain ⟨a0, a1, k0, hx0, _, e0, e1⟩ := trod_struct2 Tryd.underlying51 (show DataW.trod _ Tryd.prog W 0 _ false m 51 [c0, c1] = some x0 from hel 0 (by decide))
      obtain ⟨a2, a3, k1, hx1, _, e2, e3⟩ := trod_struct2 Tryd.underlying51 (show DataW.trod _ Tryd.prog W 0 _ false m 51 [c2, c3] = some x1 from hel 1 (by decide))
      obtain ⟨s0, g0, r0, _⟩ := DataW.trod_string Tryd.underlying9 (show DataW.trod _ Tryd.prog W 0 _ false k0 9 [c0] = some a0 from e0)
      obtain ⟨s1, g1, r1, _⟩ := DataW.trod_string Tryd.underlying9 (show DataW.trod _ Tryd.prog W 0 _ false k0 9 [c1] = some a1 from e1)
      obtain ⟨s2, g2, r2, _⟩ := DataW.trod_string Tryd.underlying9 (show DataW.trod _ Tryd.prog W 0 _ false k1 9 [c2] = some a2 from e2)
      obtain ⟨s3, g3, r3, _⟩ := DataW.trod_string Tryd.underlying9 (show DataW.trod _ Tryd.prog W 0 _ false k1 9 [c3] = some a3 from e3)
      simp only [List.cons.injEq, and_true] at g0 g1 g2 g3
      subst g0 g1 g2 g3 hx0 hx1
      rw [r0, r1] at y0
      rw [r2, r3] at y1
      simp only [DataW.agg.injEq, List.cons.injEq, DataW.lit.injEq, Lit.string.injEq, and_true] at y0 y1
      obtain rfl : s0 = ⟨#[40]⟩ := bytes_inj y0.1.symm
      obtain rfl : s1 = ⟨#[44]⟩ := bytes_inj y0.2.symm
      obtain rfl : s2 = ⟨#[]⟩ := bytes_inj y1.1.symm
      obtain rfl : s3 = ⟨#[41]⟩ := bytes_inj y1.2.symm
      rfl

theorem walk (a0 : Option Addr) (len0 cap0 : Nat) (z0 : List Syn) (w : World) (w0 : IsSyncs w a0 len0 cap0 z0) (hM : Marks w) :
    Calls Tryd.prog 4 #[.slice a0 len0 cap0] w fun e w' => e = .returned (.bool true) ∧ Below w.heap.size w w' :=
  walk_SyncText a0 len0 cap0 z0 w w0 hM

set_option maxRecDepth 100000 in
theorem lifted (os : Os) (started : os.Started) (H : Type) (enc : TypeId × Value → H) :
    ReturnsInHanded {} Tryd.checked os 4 .any (fun w args => (Rows.fnExactSyncTextSpec.pre enc Tryd.prog Tryd.f4 [] false w args ∧ laidMetH Tryd.prog Rows.fnExactSyncTextRow.laid w) ∧ sizedMet enc Tryd.prog Tryd.f4 (OpenSpec.ofChange Rows.fnExactSyncTextSpec) false w args)
      (Rows.fnExactSyncTextSpec.post enc Tryd.prog Tryd.f4 false true false false) := by
  refine returnsInHanded_of_change_and (C := Tryd.checked) (X := fun w _ => laidMetH Tryd.prog Rows.fnExactSyncTextRow.laid w) (fun _ _ _ hh h => h.of_heap hh) own started (by kernel_rfl) Tryd.func4
    (ChangeSpec.witness_shaped (enc := enc) (C := Tryd.checked) (os := os) (X := fun w _ => laidMetH Tryd.prog Rows.fnExactSyncTextRow.laid w) false (World.doorLaid Tryd.prog 400 os) #[.slice none 0 0] 8 rfl (World.shaped_of_RefB (by kernel_rfl) (by kernel_rfl)) (by kernel_rfl) (by kernel_rfl) (by kernel_rfl) (door_met os _)) ?_
  intro W base args ds gs before hval0 hW _ _ hL _
  have hval : ∀ (j : Nat) t v, Tryd.f4.params[j]? = some t → args[j]? = some v → Value.okWide Tryd.prog W .any base t v := hval0
  have hW' := hW
  obtain ⟨p, q, hA0, hV0, rfl, hfz, hnd⟩ := hW
  have hA : DataW.TrodAll enc Tryd.prog W 0 (fun _ => true) true Tryd.f4.params.toList args.toList ds p := hA0
  have hV : DataW.TrodVars enc Tryd.prog W (fun _ => true) ["loop.example/g00927/impl.syncMarks"] gs q := hV0
  rw [Tryd.params4] at hA hval
  obtain ⟨v0, vs0, d0, ds0, p0, q0, hargs, rfl, rfl, h0, r0⟩ := trodAll_cons hA
  obtain ⟨rfl, rfl, rfl⟩ := trodAll_nil r0
  obtain rfl : args = #[v0] := by cases args; simp_all
  obtain ⟨g, t, cs, fuel, d, p', rfl, hg, ht, hvar, hd, rfl⟩ := trodVars_one hV
  obtain rfl := Option.some.inj (gMarks.symm.trans hg)
  obtain rfl := Option.some.inj (tMarks.symm.trans ht)
  obtain rfl : cs = markCells := Option.some.inj (hvar.symm.trans (of_laid hL))
  obtain ⟨rfl, rfl⟩ := DataW.Trod.unique (v := .agg markCells) ⟨fuel, hd⟩ ⟨4, reads_table enc W _⟩
  have k0 := h0
  have lt0 : ∀ x ∈ p0, x.block < W.heap.size := by obtain ⟨m, hm⟩ := k0; exact DataW.trod_lt m _ _ _ hm
  obtain ⟨a0, len0, cap0, z0, rfl, w0⟩ := open_syncs (hval 0 33 v0 rfl rfl) h0
  clear hA0 hval0
  have hc0 : W.cell? ⟨0, 0, none⟩ = some (.string ⟨#[40]⟩) := (by have := World.var?_cell hg hvar 0; exact this.trans rfl)
  have hc1 : W.cell? ⟨0, 1, none⟩ = some (.string ⟨#[44]⟩) := (by have := World.var?_cell hg hvar 1; exact this.trans rfl)
  have hc2 : W.cell? ⟨0, 2, none⟩ = some (.string ⟨#[]⟩) := (by have := World.var?_cell hg hvar 2; exact this.trans rfl)
  have hc3 : W.cell? ⟨0, 3, none⟩ = some (.string ⟨#[41]⟩) := (by have := World.var?_cell hg hvar 3; exact this.trans rfl)
  have hblk : 0 < W.heap.size := cell_block hc0
  have hM : Marks W := ⟨hblk, hc0, hc1, hc2, hc3⟩
  refine (walk a0 len0 cap0 z0 W w0 hM).mono fun e W' ⟨he, bel⟩ => ?_
  subst he
  have hvar' : W'.var? Tryd.prog "loop.example/g00927/impl.syncMarks" = some markCells := var?_below bel hg hblk hvar
  exact ⟨_, rfl, _, _, _, [], _, _, hW', trodAll_mk1 (shut_bool Tryd.underlying4 _), (trodAll_cons_mk (Below.trod laidOut (by kernel_rfl) (of_decide_eq_true (by kernel_rfl)) k0 bel lt0) trodAll_mk0), trodVars_mk1 hg ht hvar' (reads_table enc W' _), bel.frame _, fun h => by cases h⟩

theorem row_holds : Rows.FnExactSyncTextSaid :=
  OpenClaim.holds_of_wide 4 Tryd.f4 rfl rfl rfl rfl rfl rfl rfl ⟨rfl, rfl, rfl, rfl, rfl⟩ rfl rfl rfl rfl rfl (by kernel_rfl) Tryd.func4 (by kernel_rfl)
    (of_decide_eq_true (by kernel_rfl)) (by unfold Func.isWrapper; first | (rw [if_pos (by decide +kernel)]; kernel_rfl) | (rw [if_neg (by decide +kernel)]; exact ⟨rfl, rfl⟩))
    (fun os started H enc _ => lifted os started H enc)

theorem proved : Rows.FnExactSyncTextCardSaid :=
  Claim7.holds_tied_plain_at .later [] [.data] true Rows.fnExactSyncTextCard.stood.harness Rows.fnExactSyncTextCard.stood.looks
    row_holds (fun _ h => by cases h) (by kernel_rfl) (fun _ h => by cases h) fnExactSyncText_row_tie rfl ⟨rfl, rfl⟩ (by kernel_rfl) rfl
    (fun f fn hf hfn => by
      obtain rfl : f = 4 := Option.some.inj ((show Tryd.prog.funcNamed "loop.example/g00927/laws.FnExactSyncText" = some 4 by kernel_rfl).symm.trans hf) |>.symm
      obtain rfl : fn = Tryd.f4 := (Option.some.inj (Tryd.func4.symm.trans hfn)).symm
      exact ⟨by kernel_rfl, fun j t ht => by
        rw [Tryd.params4] at ht
        have hm : t ∈ [33] := by simpa using Array.mem_of_getElem? ht
        have hall : ([33].all fun u => !Tryd.prog.wantsStandIn u) = true := by kernel_rfl
        exact (show Tryd.prog.wantsStandIn t = false by simpa using List.all_eq_true.1 hall t hm)⟩)
    (by kernel_rfl)
#print axioms proved
end Go.Proofs.YtdgmmaghmdbnjaaDoor.fnExactSyncText
