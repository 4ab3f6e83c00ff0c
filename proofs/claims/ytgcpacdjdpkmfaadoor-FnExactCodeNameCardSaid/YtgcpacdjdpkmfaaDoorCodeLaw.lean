/- The law FnExactCodeName returns true at every input, and leaves its argument and the program's table of names as they were. Conditions: none beyond the card's own tie of the table to the program's text. -/
import Derived.Test.YtgcpacdjdpkmfaaDoorCode
import Derived.Test.YtgcpacdjdpkmfaaDoorCards
import Derived.Test.YtgcpacdjdpkmfaaDoorTie
import Derived.LaidMore
import Derived.LaidLaws
import Derived.Stop.Joined
import Derived.SevenTiedAt
namespace Go.Proofs.YtgcpacdjdpkmfaaDoor.fnExactCodeName
open Go.ChangeShapes Go.WideShapes Go.ChangeAt Go.RowKit
set_option linter.unusedVariables false

theorem own : ownKnob Tryd.prog.godebug = none := by kernel_rfl
theorem laidOut : laidOutB Tryd.prog = true := by kernel_rfl
theorem gNames : Tryd.prog.globalNamed "loop.example/g00927/impl.codeNames" = some 0 := by kernel_rfl
theorem tNames : (Tryd.prog.globals[0]?).map (·.type) = some 29 := by kernel_rfl
theorem cellsArr : Tryd.prog.cellsOf 29 = 11 := by kernel_rfl
theorem cellsStr : Tryd.prog.cellsOf 9 = 1 := by kernel_rfl

theorem door_met (os : Os) (args : Array Value) : laidMetH Tryd.prog Rows.fnExactCodeNameRow.laid ((World.doorLaid Tryd.prog 400 os).forCall (fun _ _ => 0) ⟨#[], args, []⟩).memory :=
  laidMetH_of_parts3 (fuel := 8) (laidMet_of_run' 8 (by kernel_rfl) (by kernel_rfl)) (by kernel_rfl) (by kernel_rfl)

theorem reads_table {H : Type} (enc : TypeId × Value → H) (W : World) (sp : Nat → Bool) : DataW.trod enc Tryd.prog W 0 sp true 3 29 nameCells.toList = some (Rows.laid_loop_example_g00927_impl_codeNames, []) := by kernel_rfl

/-- what the condition gives: the variable's cells -/
theorem of_laid {W : World} (h : laidMetH Tryd.prog Rows.fnExactCodeNameRow.laid W) : W.var? Tryd.prog "loop.example/g00927/impl.codeNames" = some nameCells := by
  rw [MakeChecks.laidMetH_plain _ _ _ (by kernel_rfl)] at h
  obtain ⟨ps, ⟨g0, t0, cs0, f0, p0, q0, hg0, ht0, hv0, hd0, _, _⟩, _, _⟩ := h
  obtain rfl := Option.some.inj (gNames.symm.trans hg0)
  obtain rfl := Option.some.inj (tNames.symm.trans ht0)
  rw [hv0]
  congr 1
  obtain ⟨xs, m, rfl, hx, hl, hn, hel⟩ := DataW.trod_array Tryd.underlying29 hd0
  rw [cellsArr] at hl
  obtain ⟨l⟩ := cs0
  simp only at hl hel
  match l, hl with
  | [c0, c1, c2, c3, c4, c5, c6, c7, c8, c9, c10], _ =>
    rw [cellsStr] at hel
    match xs, hn with
    | [x0, x1, x2, x3, x4, x5, x6, x7, x8, x9, x10], _ =>
      simp only [Rows.laid_loop_example_g00927_impl_codeNames, Prod.mk.injEq, DataW.agg.injEq, List.map_cons, List.map_nil, List.cons.injEq] at hx
      obtain ⟨⟨y0, y1, y2, y3, y4, y5, y6, y7, y8, y9, y10, _⟩, _⟩ := hx
      obtain ⟨s0, e0, r0, _⟩ := DataW.trod_string Tryd.underlying9 (show DataW.trod _ Tryd.prog W 0 _ false m 9 [c0] = some x0 from hel 0 (by decide))
      obtain ⟨s1, e1, r1, _⟩ := DataW.trod_string Tryd.underlying9 (show DataW.trod _ Tryd.prog W 0 _ false m 9 [c1] = some x1 from hel 1 (by decide))
      obtain ⟨s2, e2, r2, _⟩ := DataW.trod_string Tryd.underlying9 (show DataW.trod _ Tryd.prog W 0 _ false m 9 [c2] = some x2 from hel 2 (by decide))
      obtain ⟨s3, e3, r3, _⟩ := DataW.trod_string Tryd.underlying9 (show DataW.trod _ Tryd.prog W 0 _ false m 9 [c3] = some x3 from hel 3 (by decide))
      obtain ⟨s4, e4, r4, _⟩ := DataW.trod_string Tryd.underlying9 (show DataW.trod _ Tryd.prog W 0 _ false m 9 [c4] = some x4 from hel 4 (by decide))
      obtain ⟨s5, e5, r5, _⟩ := DataW.trod_string Tryd.underlying9 (show DataW.trod _ Tryd.prog W 0 _ false m 9 [c5] = some x5 from hel 5 (by decide))
      obtain ⟨s6, e6, r6, _⟩ := DataW.trod_string Tryd.underlying9 (show DataW.trod _ Tryd.prog W 0 _ false m 9 [c6] = some x6 from hel 6 (by decide))
      obtain ⟨s7, e7, r7, _⟩ := DataW.trod_string Tryd.underlying9 (show DataW.trod _ Tryd.prog W 0 _ false m 9 [c7] = some x7 from hel 7 (by decide))
      obtain ⟨s8, e8, r8, _⟩ := DataW.trod_string Tryd.underlying9 (show DataW.trod _ Tryd.prog W 0 _ false m 9 [c8] = some x8 from hel 8 (by decide))
      obtain ⟨s9, e9, r9, _⟩ := DataW.trod_string Tryd.underlying9 (show DataW.trod _ Tryd.prog W 0 _ false m 9 [c9] = some x9 from hel 9 (by decide))
      obtain ⟨s10, e10, r10, _⟩ := DataW.trod_string Tryd.underlying9 (show DataW.trod _ Tryd.prog W 0 _ false m 9 [c10] = some x10 from hel 10 (by decide))
      simp only [List.cons.injEq, and_true] at e0 e1 e2 e3 e4 e5 e6 e7 e8 e9 e10
      obtain rfl := e0
      rw [r0] at y0
      obtain rfl := e1
      rw [r1] at y1
      obtain rfl := e2
      rw [r2] at y2
      obtain rfl := e3
      rw [r3] at y3
      obtain rfl := e4
      rw [r4] at y4
      obtain rfl := e5
      rw [r5] at y5
      obtain rfl := e6
      rw [r6] at y6
      obtain rfl := e7
      rw [r7] at y7
      obtain rfl := e8
      rw [r8] at y8
      obtain rfl := e9
      rw [r9] at y9
      obtain rfl := e10
      rw [r10] at y10
      simp only [DataW.lit.injEq, Lit.string.injEq] at y0 y1 y2 y3 y4 y5 y6 y7 y8 y9 y10
      obtain rfl : s0 = ⟨#[111, 107]⟩ := bytes_inj y0.symm
      obtain rfl : s1 = ⟨#[105, 110, 118, 97, 108, 105, 100]⟩ := bytes_inj y1.symm
      obtain rfl : s2 = ⟨#[114, 97, 110, 103, 101]⟩ := bytes_inj y2.symm
      obtain rfl : s3 = ⟨#[110, 111, 116, 45, 102, 111, 117, 110, 100]⟩ := bytes_inj y3.symm
      obtain rfl : s4 = ⟨#[101, 120, 105, 115, 116, 115]⟩ := bytes_inj y4.symm
      obtain rfl : s5 = ⟨#[102, 117, 108, 108]⟩ := bytes_inj y5.symm
      obtain rfl : s6 = ⟨#[115, 116, 97, 116, 101]⟩ := bytes_inj y6.symm
      obtain rfl : s7 = ⟨#[115, 121, 110, 116, 97, 120]⟩ := bytes_inj y7.symm
      obtain rfl : s8 = ⟨#[102, 111, 114, 109, 97, 116]⟩ := bytes_inj y8.symm
      obtain rfl : s9 = ⟨#[99, 111, 108, 108, 105, 115, 105, 111, 110]⟩ := bytes_inj y9.symm
      obtain rfl : s10 = ⟨#[108, 111, 115, 116]⟩ := bytes_inj y10.symm
      rfl

set_option maxRecDepth 100000 in
theorem lifted (os : Os) (started : os.Started) (H : Type) (enc : TypeId × Value → H) :
    ReturnsInHanded {} Tryd.checked os 3 .any (fun w args => (Rows.fnExactCodeNameSpec.pre enc Tryd.prog Tryd.f3 [] false w args ∧ laidMetH Tryd.prog Rows.fnExactCodeNameRow.laid w) ∧ sizedMet enc Tryd.prog Tryd.f3 (OpenSpec.ofChange Rows.fnExactCodeNameSpec) false w args)
      (Rows.fnExactCodeNameSpec.post enc Tryd.prog Tryd.f3 false true false false) := by
  refine returnsInHanded_of_change_and (C := Tryd.checked) (X := fun w _ => laidMetH Tryd.prog Rows.fnExactCodeNameRow.laid w) (fun _ _ _ hh h => h.of_heap hh) own started (by kernel_rfl) Tryd.func3
    (ChangeSpec.witness_shaped (enc := enc) (C := Tryd.checked) (os := os) (X := fun w _ => laidMetH Tryd.prog Rows.fnExactCodeNameRow.laid w) false (World.doorLaid Tryd.prog 400 os) #[.int .i64 0] 8 rfl (World.shaped_of_RefB (by kernel_rfl) (by kernel_rfl)) (by kernel_rfl) (by kernel_rfl) (by kernel_rfl) (door_met os _)) ?_
  intro W base args ds gs before hval0 hW _ _ hL _
  have hval : ∀ (j : Nat) t v, Tryd.f3.params[j]? = some t → args[j]? = some v → Value.okWide Tryd.prog W .any base t v := hval0
  have hW' := hW
  obtain ⟨p, q, hA0, hV0, rfl, hfz, hnd⟩ := hW
  have hA : DataW.TrodAll enc Tryd.prog W 0 (fun _ => true) true Tryd.f3.params.toList args.toList ds p := hA0
  have hV : DataW.TrodVars enc Tryd.prog W (fun _ => true) ["loop.example/g00927/impl.codeNames"] gs q := hV0
  rw [Tryd.params3] at hA hval
  obtain ⟨v0, d0, rfl, rfl, h0⟩ := trodAll_one hA
  obtain ⟨c, rfl, rfl, rfl, wc⟩ := open_int Tryd.underlying2 (hval 0 2 v0 rfl rfl) h0
  obtain ⟨g, t, cs, fuel, d, p', rfl, hg, ht, hvar, hd, rfl⟩ := trodVars_one hV
  obtain rfl := Option.some.inj (gNames.symm.trans hg)
  obtain rfl := Option.some.inj (tNames.symm.trans ht)
  obtain rfl : cs = nameCells := Option.some.inj (hvar.symm.trans (of_laid hL))
  obtain ⟨rfl, rfl⟩ := DataW.Trod.unique (v := .agg nameCells) ⟨fuel, hd⟩ ⟨3, reads_table enc W _⟩
  clear hA0 hV0 hval0
  have hcell : ∀ j, j < 11 → W.cell? ⟨0, j, none⟩ = nameCells[j]? := fun j _ => by
    have := World.var?_cell hg hvar j
    simpa using this
  have hblk : 0 < W.heap.size := by
    have := hcell 0 (by decide)
    simp only [World.cell?] at this
    cases hh : W.heap[0]? with
    | none => rw [hh] at this; cases this
    | some o => exact (Array.getElem?_eq_some_iff.1 hh).1
  refine (walk_CodeName c W hblk hcell).mono fun e W' ⟨he, bel⟩ => ?_
  subst he
  have hvar' : W'.var? Tryd.prog "loop.example/g00927/impl.codeNames" = some nameCells := var?_below bel hg hblk hvar
  exact ⟨_, rfl, _, _, _, [], [], _, hW', trodAll_mk1 (shut_bool Tryd.underlying4 _), trodAll_mk1 (shut_int Tryd.underlying2 wc), trodVars_mk1 hg ht hvar' (reads_table enc W' _), bel.frame _, fun h => by cases h⟩

theorem row_holds : Rows.FnExactCodeNameSaid :=
  OpenClaim.holds_of_wide 3 Tryd.f3 rfl rfl rfl rfl rfl rfl rfl ⟨rfl, rfl, rfl, rfl, rfl⟩ rfl rfl rfl rfl rfl (by kernel_rfl) Tryd.func3 (by kernel_rfl)
    (of_decide_eq_true (by kernel_rfl)) (by unfold Func.isWrapper; first | (rw [if_pos (by decide +kernel)]; kernel_rfl) | (rw [if_neg (by decide +kernel)]; exact ⟨rfl, rfl⟩))
    (fun os started H enc _ => lifted os started H enc)

theorem proved : Rows.FnExactCodeNameCardSaid :=
  Claim7.holds_tied_plain_at .later [] [.data] true Rows.fnExactCodeNameCard.stood.harness true
    row_holds (fun _ h => by cases h) (by kernel_rfl) (fun _ h => by cases h) fnExactCodeName_row_tie rfl ⟨rfl, rfl⟩ (by kernel_rfl) rfl
    (fun f fn hf hfn => by
      obtain rfl : f = 3 := Option.some.inj ((show Tryd.prog.funcNamed "loop.example/g00927/laws.FnExactCodeName" = some 3 by kernel_rfl).symm.trans hf) |>.symm
      obtain rfl : fn = Tryd.f3 := (Option.some.inj (Tryd.func3.symm.trans hfn)).symm
      exact ⟨by kernel_rfl, fun j t ht => by
        rw [Tryd.params3] at ht
        have hm : t ∈ [2] := by simpa using Array.mem_of_getElem? ht
        have hall : ([2].all fun u => !Tryd.prog.wantsStandIn u) = true := by kernel_rfl
        exact (show Tryd.prog.wantsStandIn t = false by simpa using List.all_eq_true.1 hall t hm)⟩)
    (by kernel_rfl)
#print axioms proved
end Go.Proofs.YtgcpacdjdpkmfaaDoor.fnExactCodeName
