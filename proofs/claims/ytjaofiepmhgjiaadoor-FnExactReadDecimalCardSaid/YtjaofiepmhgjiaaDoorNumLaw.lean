/- The law FnExactReadDecimal returns true at every input, and leaves its argument as it was. Conditions: none beyond the card's own tie of the library's variables to their text. -/
import Derived.Test.YtjaofiepmhgjiaaDoorNumSpec
import Derived.Test.YtjaofiepmhgjiaaDoorShelf
import Derived.Test.YtjaofiepmhgjiaaDoorCards
import Derived.Test.YtjaofiepmhgjiaaDoorTie
import Derived.Lib.LaidTab
import Derived.Lib.AppendIntMem
import Derived.Lib.ParseIntBCases
import Derived.LaidMore
import Derived.LaidLaws
import Derived.Stop.Joined
import Derived.Stop.LaidErr
import Derived.SevenTiedAt
import Derived.ChangeArms
import Derived.ChangeVars
namespace Go.Proofs.YtjaofiepmhgjiaaDoor
open Go.ChangeShapes Go.WideShapes Go.ChangeAt Go.RowKit
open Go.ChangeMaps (open_string shut_string)
set_option linter.unusedVariables false
set_option linter.unusedSimpArgs false

theorem own : ownKnob Tryd.prog.godebug = none := by kernel_rfl
theorem gPow : Tryd.prog.globalNamed "internal/strconv.uint64pow10" = some 2 := by kernel_rfl
theorem tPow : (Tryd.prog.globals[2]?).map (·.type) = some 59 := by kernel_rfl
theorem cellsU64 : Tryd.prog.cellsOf 35 = 1 := by kernel_rfl
theorem cellsPow : Tryd.prog.cellsOf 59 = 20 := by kernel_rfl
theorem gSyn : Tryd.prog.globalNamed "strconv.ErrSyntax" = some 0 := by kernel_rfl
theorem gRan : Tryd.prog.globalNamed "strconv.ErrRange" = some 1 := by kernel_rfl
theorem tSyn : (Tryd.prog.globals[0]?).map (·.type) = some 26 := by kernel_rfl
theorem tRan : (Tryd.prog.globals[1]?).map (·.type) = some 26 := by kernel_rfl

theorem var_lt {w : World} {n : String} {g : Nat} {v : Value} (hg : Tryd.prog.globalNamed n = some g) (h : w.var? Tryd.prog n = some #[v]) : g < w.heap.size := by
  have := World.var?_cell hg h 0
  simp only [World.cell?] at this
  cases hh : w.heap[g]? with
  | none => rw [hh] at this; cases this
  | some o => exact (Array.getElem?_eq_some_iff.1 hh).1

/-- the table of powers of ten -/
def PowIs (w : World) : Prop := Lib.TabIs Tryd.prog w "internal/strconv.uint64pow10" .u64 Lib.pow10Tab
theorem PowIs.lt {w : World} (h : PowIs w) : 2 < w.heap.size := by
  have := World.var?_cell gPow h 0
  simp only [World.cell?] at this
  cases hh : w.heap[2]? with
  | none => rw [hh] at this; cases this
  | some o => exact (Array.getElem?_eq_some_iff.1 hh).1
theorem PowIs.below {w w' : World} (h : PowIs w) (hb : Below w.heap.size w w') : PowIs w' := var?_below hb gPow h.lt h
/-- the library's variables -/
def VarsAre (w : World) : Prop := PowIs w ∧ (∃ tp p, w.var? Tryd.prog "strconv.ErrSyntax" = some #[.iface tp p]) ∧ (∃ tp p, w.var? Tryd.prog "strconv.ErrRange" = some #[.iface tp p])
theorem VarsAre.below {w w' : World} (h : VarsAre w) (hb : Below w.heap.size w w') : VarsAre w' := by
  obtain ⟨h1, ⟨tp, p, h2⟩, ⟨tq, q, h3⟩⟩ := h
  exact ⟨h1.below hb, ⟨tp, p, var?_below hb gSyn (var_lt gSyn h2) h2⟩, ⟨tq, q, var?_below hb gRan (var_lt gRan h3) h3⟩⟩

theorem decimal_impl (n : Int) (w : World) (h1 : -9223372036854775808 ≤ n) (h2 : n ≤ 9223372036854775807) (ht : PowIs w) :
    Calls Tryd.prog 8 #[.int .i64 n] w fun e w' => e = .returned (.string (decS n)) ∧ Below w.heap.size w w' := by
  have HC := Any.strconv_FormatInt_10 Tryd.laysM173 n h1 h2 w ht
  have hfold : (⟨(Lib.itoa n).toArray⟩ : ByteArray) = decS n := rfl
  rw [hfold] at HC
  generalize decS n = s at HC ⊢
  clear h1 h2 ht hfold
  go_enter Tryd.func8, Tryd.ntmps8
  go_wp2_with fail
  refine HC.mono ?_
  rintro e w' ⟨rfl, k, os, hw⟩
  have hb : Below w.heap.size w w' := by rw [hw]; exact Lib.below_grow _ _ (Nat.le_refl _) _ _
  clear hw
  go_wp2
  go_ret
  exact ⟨rfl, hb⟩

theorem readDecimal_impl (s : ByteArray) (w : World) (hs : s.size ≤ 1048576) (hv : VarsAre w) :
    Calls Tryd.prog 5 #[.string s] w (Rd s w) := by
  obtain ⟨hpow, ⟨tp, p, hsyn⟩, ⟨tq, q, hran⟩⟩ := hv
  have hgood := fun m (h : Good m s) => h.parse
  rcases hp : Lib.parseIntB 64 s.data.toList with v | _ | _
  · have hone : ∀ m, Good m s → m = v := fun m h => by have := hgood m h; rw [hp] at this; injection this with this; exact this.symm
    have HC : Calls Tryd.prog 7 #[.string s, .int .i64 10, .int .i64 64] w _ := Any.strconv_ParseInt_10_at64_ok Tryd.laysC174 s (by omega) v hp w
    clear hgood hp hsyn hran
    by_cases hlo : v < -999999999999999999
    · have hno : ∀ m, ¬ Good m s := fun m h => by have := hone m h; have := h.1; omega
      clear hone
      go_enter Tryd.func5, Tryd.ntmps5
      go_wp2_with fail
      refine HC.mono ?_
      rintro e w1 ⟨rfl, hW⟩
      have hb : Below w.heap.size w w1 := by
        rcases hW with rfl | ⟨t, rfl⟩
        · exact Below.refl _ _
        · exact Lib.bytesWorld_below _ _ _
      clear hW
      go_wp2
      go_ret2
      exact Rd.no hno hb
    · by_cases hhi : 999999999999999999 < v
      · have hno : ∀ m, ¬ Good m s := fun m h => by have := hone m h; have := h.2.1; omega
        clear hone
        go_enter Tryd.func5, Tryd.ntmps5
        go_wp2_with fail
        refine HC.mono ?_
        rintro e w1 ⟨rfl, hW⟩
        have hb : Below w.heap.size w w1 := by
          rcases hW with rfl | ⟨t, rfl⟩
          · exact Below.refl _ _
          · exact Lib.bytesWorld_below _ _ _
        clear hW
        go_wp2
        go_ret2
        exact Rd.no hno hb
      · have HD := fun W (hW : Below w.heap.size w W) => decimal_impl v W (by omega) (by omega) (PowIs.below (show PowIs w from hpow) hW)
        by_cases he : decS v = s
        · have hgd : Good v s := ⟨by omega, by omega, he⟩
          rw [he] at HD
          clear he hone
          go_enter Tryd.func5, Tryd.ntmps5
          go_wp2_with fail
          refine HC.mono ?_
          rintro e w1 ⟨rfl, hW⟩
          have hb : Below w.heap.size w w1 := by
            rcases hW with rfl | ⟨t, rfl⟩
            · exact Below.refl _ _
            · exact Lib.bytesWorld_below _ _ _
          clear hW
          go_wp2_with fail
          refine (HD _ hb).mono ?_
          rintro e w2 ⟨rfl, hb2⟩
          go_wp2
          go_ret2
          exact Rd.yes hgd (hb.trans (hb2.mono hb.size))
        · have hno : ∀ m, ¬ Good m s := fun m h => he (by rw [← hone m h]; exact h.2.2)
          have hq := ne_list he
          generalize decS v = x at *
          clear he hone
          go_enter Tryd.func5, Tryd.ntmps5
          go_wp2_with fail
          refine HC.mono ?_
          rintro e w1 ⟨rfl, hW⟩
          have hb : Below w.heap.size w w1 := by
            rcases hW with rfl | ⟨t, rfl⟩
            · exact Below.refl _ _
            · exact Lib.bytesWorld_below _ _ _
          clear hW
          go_wp2_with fail
          refine (HD _ hb).mono ?_
          rintro e w2 ⟨rfl, hb2⟩
          go_wp2
          go_ret2
          exact Rd.no hno (hb.trans (hb2.mono hb.size))
  · have hno : ∀ m, ¬ Good m s := fun m h => by have := hgood m h; rw [hp] at this; cases this
    have HC : Calls Tryd.prog 7 #[.string s, .int .i64 10, .int .i64 64] w _ := Any.strconv_ParseInt_10_at64_syntax_var Tryd.laysC174 s (by omega) hp tp p w hsyn
    clear hgood hp hsyn hran hpow
    go_enter Tryd.func5, Tryd.ntmps5
    go_wp2_with fail
    refine HC.mono ?_
    rintro e w1 ⟨N, rfl, hN, hcell, hb⟩
    clear hcell
    go_wp2
    go_ret2
    exact Rd.no hno hb
  · have hno : ∀ m, ¬ Good m s := fun m h => by have := hgood m h; rw [hp] at this; cases this
    have HC : Calls Tryd.prog 7 #[.string s, .int .i64 10, .int .i64 64] w _ := Any.strconv_ParseInt_10_at64_range_var Tryd.laysC174 s (by omega) hp tq q w hran
    generalize Lib.intSat 64 s.data.toList = sat at HC
    clear hgood hp hsyn hran hpow
    go_enter Tryd.func5, Tryd.ntmps5
    go_wp2_with fail
    refine HC.mono ?_
    rintro e w1 ⟨N, rfl, hN, hcell, hb⟩
    clear hcell
    go_wp2
    go_ret2
    exact Rd.no hno hb

theorem walk_ReadDecimal (s : ByteArray) (ws : s.size ≤ maxLen) (w : World) (hv : VarsAre w) :
    Calls Tryd.prog 3 #[.string s] w fun e w' => e = .returned (.bool true) ∧ Below w.heap.size w w' := by
  unfold maxLen at ws
  by_cases hbig : s.size ≤ 1048576
  · have HS := readDecimal_spec s w hbig
    have HI := fun W (hW : Below w.heap.size w W) => readDecimal_impl s W hbig (hv.below hW)
    clear hv
    go_enter Tryd.func3, Tryd.ntmps3
    go_wp2_with fail
    refine HS.mono ?_
    rintro e w1 ⟨n, b, rfl, ha, b1⟩
    go_wp2_with fail
    refine (HI _ b1).mono ?_
    rintro e w2 ⟨n', b', rfl, ha', b2⟩
    obtain ⟨rfl, rfl⟩ := ha.unique ha'
    have B := b1.trans (b2.mono b1.size)
    clear ha ha' HI b2
    go_wp2
    go_ret
    exact ⟨rfl, B⟩
  · have hb0 : (1048576 : Int) < (s.size : Int) := by omega
    go_enter Tryd.func3, Tryd.ntmps3
    go_wp2
    go_ret
    exact ⟨rfl, Below.refl _ _⟩

namespace fnExactReadDecimal
theorem rowErr (u : TypeId) (h : Tryd.prog.typeName? 3 u = some "*errors.errorString") : u = 54 :=
  typeName_ptr_named (nm := "errors.errorString") (by rw [show "*" ++ "errors.errorString" = "*errors.errorString" by decide]; kernel_rfl) (by kernel_rfl) (by decide) u (by rw [show "*" ++ "errors.errorString" = "*errors.errorString" by decide]; exact h)
theorem cellsErr : Tryd.prog.cellsOf 56 = 1 := by kernel_rfl
theorem cellsStr : Tryd.prog.cellsOf 9 = 1 := by kernel_rfl
theorem door_met (os : Os) (args : Array Value) : laidMetH Tryd.prog Rows.fnExactReadDecimalRow.laid ((World.doorLaid Tryd.prog 400 os).forCall (fun _ _ => 0) ⟨#[], args, []⟩).memory :=
  laidMetH_of_parts3 (fuel := 8) (laidMet_of_run' 8 (by kernel_rfl) (by kernel_rfl)) (by kernel_rfl) (by kernel_rfl)

theorem of_laid {W : World} (h : laidMetH Tryd.prog Rows.fnExactReadDecimalRow.laid W) : VarsAre W := by
  rw [MakeChecks.laidMetH_plain _ _ _ (by kernel_rfl)] at h
  have h' := h
  obtain ⟨ps, ⟨g0, t0, cs0, f0, p0, q0, hg0, ht0, hv0, hd0, ⟨g1, t1, cs1, f1, p1, q1, hg1, ht1, hv1, hd1, ⟨g2, t2, cs2, f2, p2, q2, hg2, ht2, hv2, hd2, _, _⟩, _⟩, _⟩, _, _⟩ := h
  obtain rfl := Option.some.inj (gPow.symm.trans hg2)
  obtain rfl := Option.some.inj (tPow.symm.trans ht2)
  have e : (Rows.laid_internal_strconv_uint64pow10 : DataW Unit) = Lib.tabData .u64 Lib.pow10Tab := rfl
  rw [e] at hd2
  refine ⟨?_, ?_, ?_⟩
  · unfold PowIs Lib.TabIs
    rw [hv2, ← Lib.cells_of_tab Tryd.underlying59 Tryd.underlying35 cellsU64 cellsPow hd2]
  · obtain ⟨a0, s0, hva, _, _, _⟩ := laid_sentinel h'.tail.tail.tail.tail gSyn tSyn Tryd.underlying26 rowErr Tryd.underlying54 Tryd.underlying56 rfl rfl Tryd.underlying9 cellsErr cellsStr
    exact ⟨_, _, hva⟩
  · obtain ⟨a0, s0, hva, _, _, _⟩ := laid_sentinel h'.tail.tail.tail gRan tRan Tryd.underlying26 rowErr Tryd.underlying54 Tryd.underlying56 rfl rfl Tryd.underlying9 cellsErr cellsStr
    exact ⟨_, _, hva⟩

set_option maxRecDepth 100000 in
theorem lifted (os : Os) (started : os.Started) (H : Type) (enc : TypeId × Value → H) :
    ReturnsInHanded {} Tryd.checked os 3 .any (fun w args => (Rows.fnExactReadDecimalSpec.pre enc Tryd.prog Tryd.f3 [] false w args ∧ laidMetH Tryd.prog Rows.fnExactReadDecimalRow.laid w) ∧ sizedMet enc Tryd.prog Tryd.f3 (OpenSpec.ofChange Rows.fnExactReadDecimalSpec) false w args)
      (Rows.fnExactReadDecimalSpec.post enc Tryd.prog Tryd.f3 false true false false) := by
  refine returnsInHanded_of_change_and (C := Tryd.checked) (X := fun w _ => laidMetH Tryd.prog Rows.fnExactReadDecimalRow.laid w) (fun _ _ _ hh h => h.of_heap hh) own started (by kernel_rfl) Tryd.func3
    (ChangeSpec.witness_shaped (enc := enc) (C := Tryd.checked) (os := os) (X := fun w _ => laidMetH Tryd.prog Rows.fnExactReadDecimalRow.laid w) false (World.doorLaid Tryd.prog 400 os) #[.string ByteArray.empty] 8 rfl (World.shaped_of_RefB (by kernel_rfl) (by kernel_rfl)) (by kernel_rfl) (by kernel_rfl) (by kernel_rfl) (door_met os _)) ?_
  intro W base args ds gs before hval0 hW _ _ hL _
  have hval : ∀ (j : Nat) t v, Tryd.f3.params[j]? = some t → args[j]? = some v → Value.okWide Tryd.prog W .any base t v := hval0
  have hW' := hW
  obtain ⟨p, q, hA0, hV, rfl, hfz, hnd⟩ := hW
  have hA : DataW.TrodAll enc Tryd.prog W 0 (fun _ => true) true Tryd.f3.params.toList args.toList ds p := hA0
  rw [Tryd.params3] at hA hval
  obtain ⟨v0, d0, rfl, rfl, h0⟩ := trodAll_one hA
  obtain ⟨rfl, rfl⟩ := trodVars_none hV
  obtain ⟨a0, rfl, rfl, rfl, w0⟩ := open_string Tryd.underlying9 (hval 0 9 v0 rfl rfl) h0
  clear hA0 hval0
  refine (walk_ReadDecimal a0 w0 W (of_laid hL)).mono fun e W' ⟨he, bel⟩ => ?_
  subst he
  exact ⟨_, rfl, _, _, _, [], [], [], hW', trodAll_mk1 (shut_bool Tryd.underlying4 _), trodAll_mk1 (shut_string Tryd.underlying9 w0), rfl, bel.frame _, fun h => by cases h⟩

theorem row_holds : Rows.FnExactReadDecimalSaid :=
  OpenClaim.holds_of_wide 3 Tryd.f3 rfl rfl rfl rfl rfl rfl rfl ⟨rfl, rfl, rfl, rfl, rfl⟩ rfl rfl rfl rfl rfl (by kernel_rfl) Tryd.func3 (by kernel_rfl)
    (of_decide_eq_true (by kernel_rfl)) (by unfold Func.isWrapper; first | (rw [if_pos (by decide +kernel)]; kernel_rfl) | (rw [if_neg (by decide +kernel)]; exact ⟨rfl, rfl⟩))
    (fun os started H enc _ => lifted os started H enc)

theorem proved : Rows.FnExactReadDecimalCardSaid :=
  Claim7.holds_tied_plain_at .later [] [.data, .data, .data, .sentinel, .sentinel] true Rows.fnExactReadDecimalCard.stood.harness true
    row_holds (fun _ h => by cases h) (by kernel_rfl) (fun _ h => by cases h) fnExactReadDecimal_row_tie rfl ⟨rfl, rfl⟩ (by kernel_rfl) rfl
    (fun f fn hf hfn => by
      obtain rfl : f = 3 := Option.some.inj ((show Tryd.prog.funcNamed "loop.example/g00927/laws.FnExactReadDecimal" = some 3 by kernel_rfl).symm.trans hf) |>.symm
      obtain rfl : fn = Tryd.f3 := (Option.some.inj (Tryd.func3.symm.trans hfn)).symm
      exact ⟨by kernel_rfl, fun j t ht => by
        rw [Tryd.params3] at ht
        have hm : t ∈ [9] := by simpa using Array.mem_of_getElem? ht
        have hall : ([9].all fun u => !Tryd.prog.wantsStandIn u) = true := by kernel_rfl
        exact (show Tryd.prog.wantsStandIn t = false by simpa using List.all_eq_true.1 hall t hm)⟩)
    (by kernel_rfl)
#print axioms proved
end fnExactReadDecimal
end Go.Proofs.YtjaofiepmhgjiaaDoor
