/- The law FnExactNoteName returns true at every input, and leaves its argument and the program's table of names as they were. Conditions: none beyond the card's own tie of the table to the program's text. -/
import Derived.Test.YtgjmhihomklooaaDoorNote
import Derived.Test.YtgjmhihomklooaaDoorCards
import Derived.Test.YtgjmhihomklooaaDoorTie
import Derived.LaidMore
import Derived.LaidLaws
import Derived.Stop.Joined
import Derived.SevenTiedAt
namespace Go.Proofs.YtgjmhihomklooaaDoor.fnExactNoteName
open Go.ChangeShapes Go.WideShapes Go.ChangeAt Go.RowKit
set_option linter.unusedVariables false

theorem note_in (x lo hi : Int) (w : World) : Calls Tryd.prog 42 #[.int .i64 x, .int .i64 lo, .int .i64 hi] w fun e w' => e = .returned (.bool (decide (lo ≤ x) && decide (x ≤ hi))) ∧ w' = w := by
  by_cases h : lo ≤ x
  · by_cases h' : x ≤ hi
    · rw [decide_eq_true h, decide_eq_true h']
      go_enter Tryd.func42, Tryd.ntmps42
      go_wp2
      go_ret
      exact ⟨by first | rfl | simp [h, h'], rfl⟩
    · rw [decide_eq_true h, decide_eq_false h']
      go_enter Tryd.func42, Tryd.ntmps42
      go_wp2
      go_ret
      exact ⟨by first | rfl | simp [h, h'], rfl⟩
  · rw [decide_eq_false h]
    go_enter Tryd.func42, Tryd.ntmps42
    go_wp2
    go_ret
    exact ⟨by first | rfl | simp [h], rfl⟩

theorem own : ownKnob Tryd.prog.godebug = none := by kernel_rfl
theorem laidOut : laidOutB Tryd.prog = true := by kernel_rfl
theorem gNames : Tryd.prog.globalNamed "loop.example/g00927/impl.noteNames" = some 1 := by kernel_rfl
theorem tNames : (Tryd.prog.globals[1]?).map (·.type) = some 68 := by kernel_rfl
theorem cellsArr : Tryd.prog.cellsOf 68 = 5 := by kernel_rfl
theorem cellsStr : Tryd.prog.cellsOf 9 = 1 := by kernel_rfl

theorem door_met (os : Os) (args : Array Value) : laidMetH Tryd.prog Rows.fnExactNoteNameRow.laid ((World.doorLaid Tryd.prog 400 os).forCall (fun _ _ => 0) ⟨#[], args, []⟩).memory :=
  laidMetH_of_parts3 (fuel := 8) (laidMet_of_run' 8 (by kernel_rfl) (by kernel_rfl)) (by kernel_rfl) (by kernel_rfl)

theorem reads_table {H : Type} (enc : TypeId × Value → H) (W : World) (sp : Nat → Bool) : DataW.trod enc Tryd.prog W 0 sp true 3 68 noteCells.toList = some (Rows.laid_loop_example_g00927_impl_noteNames, []) := by kernel_rfl

set_option maxRecDepth 100000 in
/-- what the condition gives: the variable's cells -/
theorem of_laid {W : World} (h : laidMetH Tryd.prog Rows.fnExactNoteNameRow.laid W) : W.var? Tryd.prog "loop.example/g00927/impl.noteNames" = some noteCells := by
  rw [MakeChecks.laidMetH_plain _ _ _ (by kernel_rfl)] at h
  obtain ⟨ps, ⟨g0, t0, cs0, f0, p0, q0, hg0, ht0, hv0, hd0, _, _⟩, _, _⟩ := h
  obtain rfl := Option.some.inj (gNames.symm.trans hg0)
  obtain rfl := Option.some.inj (tNames.symm.trans ht0)
  rw [hv0]
  congr 1
  obtain ⟨xs, m, rfl, hx, hl, hn, hel⟩ := DataW.trod_array Tryd.underlying68 hd0
  rw [cellsArr] at hl
  obtain ⟨l⟩ := cs0
  simp only at hl hel
  match l, hl with
  | [c0, c1, c2, c3, c4], _ =>
    rw [cellsStr] at hel
    match xs, hn with
    | [x0, x1, x2, x3, x4], _ =>
      simp only [Rows.laid_loop_example_g00927_impl_noteNames, Prod.mk.injEq, DataW.agg.injEq, List.map_cons, List.map_nil, List.cons.injEq] at hx
      obtain ⟨⟨y0, y1, y2, y3, y4, _⟩, _⟩ := hx
      obtain ⟨s0, e0, r0, _⟩ := DataW.trod_string Tryd.underlying9 (show DataW.trod _ Tryd.prog W 0 _ false m 9 [c0] = some x0 from hel 0 (by decide))
      obtain ⟨s1, e1, r1, _⟩ := DataW.trod_string Tryd.underlying9 (show DataW.trod _ Tryd.prog W 0 _ false m 9 [c1] = some x1 from hel 1 (by decide))
      obtain ⟨s2, e2, r2, _⟩ := DataW.trod_string Tryd.underlying9 (show DataW.trod _ Tryd.prog W 0 _ false m 9 [c2] = some x2 from hel 2 (by decide))
      obtain ⟨s3, e3, r3, _⟩ := DataW.trod_string Tryd.underlying9 (show DataW.trod _ Tryd.prog W 0 _ false m 9 [c3] = some x3 from hel 3 (by decide))
      obtain ⟨s4, e4, r4, _⟩ := DataW.trod_string Tryd.underlying9 (show DataW.trod _ Tryd.prog W 0 _ false m 9 [c4] = some x4 from hel 4 (by decide))
      simp only [List.cons.injEq, and_true] at e0 e1 e2 e3 e4
      obtain rfl := e0
      rw [r0] at y0
      obtain rfl := e1
      rw [r1] at y1
      obtain rfl := e2
      rw [r2] at y2
      obtain rfl := e3
      rw [r3] at y3
      obtain rfl := e4
      rw [r4] at y4
      simp only [DataW.lit.injEq, Lit.string.injEq] at y0 y1 y2 y3 y4
      obtain rfl : s0 = ⟨#[]⟩ := bytes_inj y0.symm
      obtain rfl : s1 = ⟨#[112, 97, 116, 116, 101, 114, 110]⟩ := bytes_inj y1.symm
      obtain rfl : s2 = ⟨#[109, 117, 108, 116, 105]⟩ := bytes_inj y2.symm
      obtain rfl : s3 = ⟨#[115, 121, 110, 99]⟩ := bytes_inj y3.symm
      obtain rfl : s4 = ⟨#[112, 97, 115, 115, 105, 110, 103]⟩ := bytes_inj y4.symm
      rfl

set_option maxRecDepth 100000 in
theorem lifted (os : Os) (started : os.Started) (H : Type) (enc : TypeId × Value → H) :
    ReturnsInHanded {} Tryd.checked os 5 .any (fun w args => (Rows.fnExactNoteNameSpec.pre enc Tryd.prog Tryd.f5 [] false w args ∧ laidMetH Tryd.prog Rows.fnExactNoteNameRow.laid w) ∧ sizedMet enc Tryd.prog Tryd.f5 (OpenSpec.ofChange Rows.fnExactNoteNameSpec) false w args)
      (Rows.fnExactNoteNameSpec.post enc Tryd.prog Tryd.f5 false true false false) := by
  refine returnsInHanded_of_change_and (C := Tryd.checked) (X := fun w _ => laidMetH Tryd.prog Rows.fnExactNoteNameRow.laid w) (fun _ _ _ hh h => h.of_heap hh) own started (by kernel_rfl) Tryd.func5
    (ChangeSpec.witness_shaped (enc := enc) (C := Tryd.checked) (os := os) (X := fun w _ => laidMetH Tryd.prog Rows.fnExactNoteNameRow.laid w) false (World.doorLaid Tryd.prog 400 os) #[.int .i64 0] 8 rfl (World.shaped_of_RefB (by kernel_rfl) (by kernel_rfl)) (by kernel_rfl) (by kernel_rfl) (by kernel_rfl) (door_met os _)) ?_
  intro W base args ds gs before hval0 hW _ _ hL _
  have hval : ∀ (j : Nat) t v, Tryd.f5.params[j]? = some t → args[j]? = some v → Value.okWide Tryd.prog W .any base t v := hval0
  have hW' := hW
  obtain ⟨p, q, hA0, hV0, rfl, hfz, hnd⟩ := hW
  have hA : DataW.TrodAll enc Tryd.prog W 0 (fun _ => true) true Tryd.f5.params.toList args.toList ds p := hA0
  have hV : DataW.TrodVars enc Tryd.prog W (fun _ => true) ["loop.example/g00927/impl.noteNames"] gs q := hV0
  rw [Tryd.params5] at hA hval
  obtain ⟨v0, d0, rfl, rfl, h0⟩ := trodAll_one hA
  obtain ⟨c, rfl, rfl, rfl, wc⟩ := open_int Tryd.underlying2 (hval 0 2 v0 rfl rfl) h0
  obtain ⟨g, t, cs, fuel, d, p', rfl, hg, ht, hvar, hd, rfl⟩ := trodVars_one hV
  obtain rfl := Option.some.inj (gNames.symm.trans hg)
  obtain rfl := Option.some.inj (tNames.symm.trans ht)
  obtain rfl : cs = noteCells := Option.some.inj (hvar.symm.trans (of_laid hL))
  obtain ⟨rfl, rfl⟩ := DataW.Trod.unique (v := .agg noteCells) ⟨fuel, hd⟩ ⟨3, reads_table enc W _⟩
  clear hA0 hV0 hval0
  have hcell : ∀ j, j < 5 → W.cell? ⟨1, j, none⟩ = noteCells[j]? := fun j _ => by
    have := World.var?_cell hg hvar j
    simpa using this
  have hblk : 1 < W.heap.size := by
    have := hcell 0 (by decide)
    simp only [World.cell?] at this
    cases hh : W.heap[1]? with
    | none => rw [hh] at this; cases this
    | some o => exact (Array.getElem?_eq_some_iff.1 hh).1
  refine (walk_NoteName (fun x lo hi w => note_in x lo hi w) c W hblk hcell).mono fun e W' ⟨he, bel⟩ => ?_
  subst he
  have hvar' : W'.var? Tryd.prog "loop.example/g00927/impl.noteNames" = some noteCells := var?_below bel hg hblk hvar
  exact ⟨_, rfl, _, _, _, [], [], _, hW', trodAll_mk1 (shut_bool Tryd.underlying4 _), trodAll_mk1 (shut_int Tryd.underlying2 wc), trodVars_mk1 hg ht hvar' (reads_table enc W' _), bel.frame _, fun h => by cases h⟩

theorem row_holds : Rows.FnExactNoteNameSaid :=
  OpenClaim.holds_of_wide 5 Tryd.f5 rfl rfl rfl rfl rfl rfl rfl ⟨rfl, rfl, rfl, rfl, rfl⟩ rfl rfl rfl rfl rfl (by kernel_rfl) Tryd.func5 (by kernel_rfl)
    (of_decide_eq_true (by kernel_rfl)) (by unfold Func.isWrapper; first | (rw [if_pos (by decide +kernel)]; kernel_rfl) | (rw [if_neg (by decide +kernel)]; exact ⟨rfl, rfl⟩))
    (fun os started H enc _ => lifted os started H enc)

theorem proved : Rows.FnExactNoteNameCardSaid :=
  Claim7.holds_tied_plain_at .later [] [.data] true Rows.fnExactNoteNameCard.stood.harness Rows.fnExactNoteNameCard.stood.looks
    row_holds (fun _ h => by cases h) (by kernel_rfl) (fun _ h => by cases h) fnExactNoteName_row_tie rfl ⟨rfl, rfl⟩ (by kernel_rfl) rfl
    (fun f fn hf hfn => by
      obtain rfl : f = 5 := Option.some.inj ((show Tryd.prog.funcNamed "loop.example/g00927/laws.FnExactNoteName" = some 5 by kernel_rfl).symm.trans hf) |>.symm
      obtain rfl : fn = Tryd.f5 := (Option.some.inj (Tryd.func5.symm.trans hfn)).symm
      exact ⟨by kernel_rfl, fun j t ht => by
        rw [Tryd.params5] at ht
        have hm : t ∈ [2] := by simpa using Array.mem_of_getElem? ht
        have hall : ([2].all fun u => !Tryd.prog.wantsStandIn u) = true := by kernel_rfl
        exact (show Tryd.prog.wantsStandIn t = false by simpa using List.all_eq_true.1 hall t hm)⟩)
    (by kernel_rfl)
#print axioms proved
end Go.Proofs.YtgjmhihomklooaaDoor.fnExactNoteName
