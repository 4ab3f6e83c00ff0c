/- The law FnStates returns true at every input, and leaves its arguments as they were. Conditions: none beyond the card's own tie of the library's table to its text. -/
import Derived.Test.YtjndiaefcmjbmaaDoorStN
import Derived.Test.YtjndiaefcmjbmaaDoorStQ
import Derived.Test.YtjndiaefcmjbmaaDoorStU
import Derived.Test.YtjndiaefcmjbmaaDoorStL
import Derived.Test.YtjndiaefcmjbmaaDoorStRi
import Derived.Test.YtjndiaefcmjbmaaDoorStRe
import Derived.Test.YtjndiaefcmjbmaaDoorStW
import Derived.Deep.RegionLaw
import Derived.Deep.RegionHeld3
import Derived.Deep.RegionWith
import Derived.Deep.DrawnRows
import Derived.Deep.DeepCutAuto
import Derived.Test.YtjndiaefcmjbmaaDoorStX
import Derived.Test.YtjndiaefcmjbmaaDoorAid
import Derived.Test.YtjndiaefcmjbmaaDoorSame
import Derived.Test.YtjndiaefcmjbmaaDoorSpec02b
import Derived.Test.YtjndiaefcmjbmaaDoorStO
import Derived.Test.YtjndiaefcmjbmaaDoorCards
import Derived.Test.YtjndiaefcmjbmaaDoorTie
import Derived.Lib.LaidTab
import Derived.LaidMore
import Derived.LaidLaws
import Derived.Stop.Joined
import Derived.SevenTiedAt
import Derived.ChangeArms
import Derived.ChangeVars

/- The walk of the law FnStates: it returns true. Condition: the library's table as its text lays it. -/
namespace Go.Proofs.YtjndiaefcmjbmaaDoor
open Go.RowKit
set_option linter.unusedSimpArgs false
set_option linter.unusedVariables false

theorem bel_alSt {w w' : World} (h : Below w.heap.size w w') (o : Obj) : Below w.heap.size w (w'.alloc o) := h.alloc h.size o

set_option maxRecDepth 100000 in
set_option maxHeartbeats 20000000 in
theorem walk_FnStates (a0 : Option Addr) (len0 cap0 : Nat) (z0 : List Int) (a1 : Option Addr) (len1 cap1 : Nat) (z1 : List Int) (w : World) (r0 : IsRow .u8 w a0 len0 cap0 z0) (r1 : IsRow .u8 w a1 len1 cap1 z1) (hT : CtzTab w) :
    Calls Tryd.prog 3 #[.slice a0 len0 cap0, .slice a1 len1 cap1] w fun e w' => e = .returned (.bool true) ∧ Below w.heap.size w w' := by
  have hm0 : len0 ≤ 9223372036854775807 := by have := r0.bytes.2.1; unfold maxLen at this; omega
  have hm1 : len1 ≤ 9223372036854775807 := by have := r1.bytes.2.1; unfold maxLen at this; omega
  have HL := a2Long_any a0 a1 len0 cap0 len1 cap1 w hm0 hm1
  cases hL : longL len0 len1 with
  | true =>
    rw [hL] at HL
    go_enter Tryd.func3, Tryd.ntmps3
    go_wp2_with fail
    refine HL.mono ?_
    rintro e w' ⟨rfl, rfl⟩
    go_wp2
    go_ret
    exact ⟨rfl, Below.refl _ _⟩
  | false =>
    rw [hL] at HL
    have hb0 : len0 ≤ 3000 := by simp [longL] at hL; omega
    have hb1 : len1 ≤ 3000 := by simp [longL] at hL; omega
    clear hL hm0 hm1
    have BB := Below.refl w.heap.size w
    go_enter Tryd.func3, Tryd.ntmps3
    go_wp2_with fail
    refine HL.mono ?_
    rintro e w' ⟨rfl, rfl⟩
    clear HL
    --BODY
    go_wp2_with fail
    refine (a2State_any a0 len0 cap0 z0 _ r0 hb0).mono ?_
    rintro e wd1 ⟨h, m, rfl, h1, h7, hm, bb⟩
    have S1 := bb.size
    replace r1 := r1.below bb
    replace BB := BB.trans (bb.mono BB.size)
    clear bb
    clear r0
    have hok := okSt_mk (show 1 ≤ h by omega) (show h ≤ 10 by omega) hm
    have hm10 : m < 1024 := Nat.lt_of_lt_of_le hm (pow_lt_1024 (by omega))
    have HPI : ∀ W : World, Calls Tryd.prog 13 #[.agg #[.int .i64 h, .int .i64 m]] W fun e w' => e = .returned (.tuple #[.int .i64 (popN m : Int), .int .i64 0]) ∧ Below W.heap.size W w' := fun W => by
      have := propsIn_impl h m W (by omega) (by omega)
      rwa [if_pos hok, stC_true hok, Int.toNat_natCast] at this
    have HTF : ∀ W : World, CtzTab W → Calls Tryd.prog 14 #[.agg #[.int .i64 h, .int .i64 m]] W fun e w' => ∃ u, e = .returned (.tuple #[u, .int .i64 0]) ∧ Ints w' W.heap.size u (throwsL h m) ∧ Below W.heap.size W w' := fun W hW => by
      have := throwsFrom_impl h m W (by omega) (by omega) hW
      rwa [thrwA, if_pos hok, stC_true hok, Int.toNat_natCast, Int.toNat_natCast] at this
    have HTX := fun W : World => stateText_impl h m W (by omega) (by omega)
    obtain ⟨tb1, tb2, tb3⟩ := text_back h1 (by omega) hm
    have htz : (stTxA h m).size ≤ 1048576 := by rw [stTxA, if_pos hok, bytesOf_size, stTx_len]; omega
    have HRD : ∀ W : World, Calls Tryd.prog 15 #[.string (stTxA h m)] W fun e w' => e = .returned (.tuple #[.agg #[.int .i64 h, .int .i64 m], .bool true]) ∧ Below W.heap.size W w' := fun W => by
      have := readState_impl (stTxA h m) W htz
      rwa [tb1, tb2, tb3] at this
    have HOK := Lib.hid hok
    have HM := Lib.hid hm
    have hL1 := throwsL_some h (by omega) m hm
    have hL2 := throwsL_len h m
    generalize stTxA (h : Int) (m : Int) = tx at *
    clear tb1 tb2 tb3 htz hok hm
    have al := alT wd1 (.int .i64 h) (.int .i64 m) 25
    have nv := StTwo.made wd1 (.int .i64 h) (.int .i64 m) 25
    replace r1 := r1.below al
    replace BB := BB.trans (al.mono BB.size)
    have V1 := nv
    clear al nv
    have cV10 := V1.1
    have cV11 := V1.2
    go_wp2_with fail
    refine (HPI _).mono ?_
    rintro e wd2 ⟨rfl, bb⟩
    have S2 := bb.size
    clear cV10 cV11
    replace r1 := r1.below bb
    replace V1 := V1.below bb
    replace BB := BB.trans (bb.mono BB.size)
    clear bb
    have LV12 := V1.lt
    have cV10 := V1.1
    have cV11 := V1.2
    go_wp2_with fail
    refine (HTF _ (hT.below BB)).mono ?_
    rintro e wd3 ⟨vI3, rfl, I3, bb⟩
    have S3 := bb.size
    clear cV10 cV11
    replace r1 := r1.below bb
    replace V1 := V1.below bb
    replace BB := BB.trans (bb.mono BB.size)
    clear bb
    have LV13 := V1.lt
    replace I3 := IRw.mk' I3
    have cV10 := V1.1
    have cV11 := V1.2
    go_wp2_with fail
    refine (HTX _).mono ?_
    rintro e wd4 ⟨rfl, bb⟩
    have S4 := bb.size
    clear cV10 cV11
    replace r1 := r1.below bb
    replace I3 := I3.below bb
    replace V1 := V1.below bb
    replace BB := BB.trans (bb.mono BB.size)
    clear bb
    have LV14 := V1.lt
    have cV10 := V1.1
    have cV11 := V1.2
    go_wp2_with fail
    refine (HRD _).mono ?_
    rintro e wd5 ⟨rfl, bb⟩
    have S5 := bb.size
    clear cV10 cV11
    replace r1 := r1.below bb
    replace I3 := I3.below bb
    replace V1 := V1.below bb
    replace BB := BB.trans (bb.mono BB.size)
    clear bb
    have LV15 := V1.lt
    have al := alT wd5 (.int .i64 h) (.int .i64 m) 25
    have nv := StTwo.made wd5 (.int .i64 h) (.int .i64 m) 25
    replace r1 := r1.below al
    replace I3 := I3.below al
    replace V1 := V1.below al
    replace BB := BB.trans (al.mono BB.size)
    have V2 := nv
    clear al nv
    have cV10 := V1.1
    have cV11 := V1.2
    have cV20 := V2.1
    have cV21 := V2.2
    obtain ⟨lg, lc, rfl, q1, q2, q3, q4⟩ := I3.ints.shape2 (by omega)
    have hne : ((throwsL h m).length : Int) ≠ 0 := by omega
    clear q1 q2 q3 q4
    have HC := fun i (hi : i < (throwsL h m).length) => throwsL_can hi
    have HU := fun i (hi : i < (throwsL h m).length) => throwsL_up (i := i) hi
    have HCL := fun (W : World) (hW : Ints W wd2.heap.size (.slice (some ⟨lg, 0, none⟩) (throwsL h m).length lc) (throwsL h m)) i (hi : i < (throwsL h m).length) => hW.cell i hi
    have HC := Lib.hid HC
    have HU := Lib.hid HU
    have hLI := I3.ints
    have HCL := Lib.hid HCL
    clear I3
    generalize throwsL h m = L at *
    have hz0 : ((L.length : Int) == 0) = false := by simpa using hne
    clear hne
    go_wp2
    go_loopw [12] (fun i wr => ∃ k : Nat, k ≤ L.length ∧ i = .int .i64 k ∧ StTwo wr wd1.heap.size (.int .i64 h) (.int .i64 m) ∧ Ints wr wd2.heap.size (.slice (some ⟨lg, 0, none⟩) L.length lc) L ∧ IsRow .u8 wr a1 len1 cap1 z1 ∧ Below w'.heap.size w' wr) (fun i _ => L.length - (intOf i).toNat)
    case atStart => exact ⟨0, Nat.zero_le _, rfl, V1, hLI, r1, BB⟩
    case round =>
      clear V1 hLI r1 BB
      obtain ⟨k, hk, rfl, V, hl, hr1, hb⟩ := hrel
      have c0 := V.1
      have c1 := V.2
      by_cases hlt : k < L.length
      · have cx := HCL.out wr hl k (by omega)
        obtain ⟨u1, u2, u3⟩ := HC.out k (by omega)
        have hup := HU.out k (by omega)
        obtain ⟨t, ht⟩ : ∃ t : Nat, L.getD k 0 = t := ⟨(L.getD k 0).toNat, by omega⟩
        rw [ht] at cx u1 u2 u3
        obtain ⟨np1, np2⟩ := next_keeps h (by omega) m HM.out t (by omega) u1
        have HN := Lib.hid (fun W (hW : Below wr.heap.size wr W) => show Calls Tryd.prog 17 #[.agg #[.int .i64 h, .int .i64 m], .int .i64 t] W fun e w' => e = .returned (.tuple #[.agg #[.int .i64 h, .int .i64 (nextM m t : Nat)], .int .i64 0]) ∧ Below wr.heap.size wr w' from by
          have := nextState_impl h m t W (by omega) (by omega) (by omega) (by omega)
          have hcs : canS h m t = true := by rw [canS, HOK.out, Int.toNat_natCast, Int.toNat_natCast, u1]; rfl
          rw [nxtH, nxtM, nxtC, if_pos hcs, if_pos hcs, if_pos HOK.out] at this
          simp only [Int.toNat_natCast] at this
          rw [if_pos u1] at this
          exact this.mono fun e w' ⟨h1, h2⟩ => ⟨h1, hW.trans (h2.mono hW.size)⟩)
        have HNA := Lib.hid (fun W (hW : Below wr.heap.size wr W) (hB : Blk W wr.heap.size [.int .i64 0, .int .i64 0] 25) => show Calls Tryd.prog 17 #[.agg #[.int .i64 h, .int .i64 m], .int .i64 t] W fun e w' => e = .returned (.tuple #[.agg #[.int .i64 h, .int .i64 (nextM m t : Nat)], .int .i64 0]) ∧ Below wr.heap.size wr w' ∧ (w'.cell? ⟨wr.heap.size, 0, none⟩ = some (.int .i64 0) ∧ w'.cell? ⟨wr.heap.size, 1, none⟩ = some (.int .i64 0) ∧ w'.frozen? ⟨wr.heap.size, 0, none⟩ = false ∧ w'.frozen? ⟨wr.heap.size, 1, none⟩ = false) from by
          have := nextState_impl h m t W (by omega) (by omega) (by omega) (by omega)
          have hcs : canS h m t = true := by rw [canS, HOK.out, Int.toNat_natCast, Int.toNat_natCast, u1]; rfl
          rw [nxtH, nxtM, nxtC, if_pos hcs, if_pos hcs, if_pos HOK.out] at this
          simp only [Int.toNat_natCast] at this
          rw [if_pos u1] at this
          refine this.mono fun e w' ⟨h1, h2⟩ => ⟨h1, hW.trans (h2.mono hW.size), ?_⟩
          have hB2 := hB.below h2 hB.lt
          exact ⟨hB2.cell 0, hB2.cell 1, hB2.free 0, hB2.free 1⟩)
        have HCE := Lib.hid (fun W (hW : Below wr.heap.size wr W) => show W.cell? ⟨wd1.heap.size, 0, none⟩ = some (.int .i64 h) ∧ W.cell? ⟨wd1.heap.size, 1, none⟩ = some (.int .i64 m) ∧ W.cell? ⟨lg, k, none⟩ = some (.int .i64 t) from
          ⟨(hW.cell (p := ⟨_, _, none⟩) V.lt).trans c0, (hW.cell (p := ⟨_, _, none⟩) V.lt).trans c1, (hW.cell (p := ⟨_, _, none⟩) (cell_block cx)).trans cx⟩)
        have HUP := Lib.hid hup
        have HTE := Lib.hid ht
        have HU1 := Lib.hid u1
        have HLI := Lib.hid hl
        have hq := nextM_lt h1 HM.out (show t ≤ h by omega)
        have HPS := fun W : World => show Calls Tryd.prog 18 #[.agg #[.int .i64 h, .int .i64 (nextM m t : Nat)]] W fun e w' => e = .returned (.tuple #[.int .i64 (popN m : Int), .int .i64 0]) ∧ Below W.heap.size W w' from by
          have := propsIn_spec h (nextM m t : Nat) W
          have hok2 := okSt_mk h1 (by omega) hq
          rwa [if_pos hok2, stC_true hok2, Int.toNat_natCast, np1] at this
        have HPR := Lib.hid (fun h0 : 0 < k => HCL.out wr hl (k - 1) (by omega))
        have BW := Below.refl wr.heap.size wr
        clear HC HU HCL HTX HRD HTF hup ht u1 hl np1 np2 hq
        generalize nextM m t = q at *
        go_upto_region 12 with fail
        go_cut [13, 14] (fun p e wx => ∃ nb : Nat, p = .pointer (some ⟨nb, 0, none⟩) ∧ e = .int .i64 0 ∧ wr.heap.size ≤ nb ∧ StTwo wx nb (.int .i64 h) (.int .i64 q) ∧ Below wr.heap.size wr wx)
        case first =>
          go_region_held3 (fun W => Below wr.heap.size wr W ∧ W.cell? ⟨wd1.heap.size, 0, none⟩ = some (.int .i64 h) ∧ W.cell? ⟨wd1.heap.size, 1, none⟩ = some (.int .i64 m) ∧ W.cell? ⟨lg, k, none⟩ = some (.int .i64 t)) (refine ⟨?_, HCE.out _ ?_⟩ <;> (repeat (first | assumption | exact Below.refl _ _ | refine Below.drew ?_ | refine below_drewN ?_ _ | refine bel_alSt ?_ _ | refine Below.setCell ?_ (by simp) _))) (first | (go_at_call 17; (with_reducible refine (HNA.out _ ?_ ?hB).mono ?_); (case hB => exact Blk.made _ _ _); (repeat (first | assumption | exact Below.refl _ _ | refine Below.drew ?_ | refine below_drewN ?_ _ | refine bel_alSt ?_ _)); rintro e w2 ⟨rfl, b2, e0, e1, f0, f1⟩) | (go_at_call 17; (with_reducible refine (HN.out _ ?_).mono ?_); (repeat (first | assumption | exact Below.refl _ _ | refine Below.drew ?_ | refine below_drewN ?_ _)); rintro e w2 ⟨rfl, b2⟩))
          all_goals (go_wp2_with fail; go_meet)
          · exact ⟨_, rfl, rfl, b2.size, StTwo.made _ _ _ _, bel_alSt b2 _⟩
          · exact ⟨_, rfl, rfl, Nat.le_refl _, stc_set _ _ e0 e1, two_below b2 (Nat.le_refl _) _ _⟩
        case rest =>
          obtain ⟨nb, rfl, rfl, hnb, NX, hbx⟩ := hcut
          have n0 := NX.1
          have n1 := NX.2
          have HHN := HN
          have HHA := HNA
          clear HN HNA HHN HHA
          go_wp2_with fail
          refine (HPS _).mono ?_
          rintro e w3 ⟨rfl, b3⟩
          have hb3 := hbx.trans (b3.mono hbx.size)
          have NX3 := NX.below b3
          have hs3 := b3.size
          have hs4 := hbx.size
          have ltn := NX3.lt
          clear n0 n1 NX hbx b3 HPS
          have hrefl := Below.refl w3.heap.size w3
          obtain ⟨e0, e1, e2⟩ := HCE.out _ hb3
          have HCE3 := Lib.hid (fun W (hW : Below w3.heap.size w3 W) => show W.cell? ⟨wd1.heap.size, 0, none⟩ = some (.int .i64 h) ∧ W.cell? ⟨wd1.heap.size, 1, none⟩ = some (.int .i64 m) ∧ W.cell? ⟨lg, k, none⟩ = some (.int .i64 t) ∧ W.cell? ⟨nb, 0, none⟩ = some (.int .i64 h) from
            ⟨(hW.cell (p := ⟨_, _, none⟩) (cell_block e0)).trans e0, (hW.cell (p := ⟨_, _, none⟩) (cell_block e1)).trans e1, (hW.cell (p := ⟨_, _, none⟩) (cell_block e2)).trans e2, (hW.cell (p := ⟨_, _, none⟩) ltn).trans NX3.1⟩)
          have HCT3 := Lib.hid (fun W (hW : Below w3.heap.size w3 W) => show Calls Tryd.prog 19 #[.agg #[.int .i64 h, .int .i64 m], .int .i64 t] W fun e w' => e = .returned (.bool true) ∧ Below w3.heap.size w3 w' from by
            have := canThrow_impl h m t W (by omega) (by omega) (by omega) (by omega)
            rw [show canS (h : Int) m t = true from by rw [canS, HOK.out, Int.toNat_natCast, Int.toNat_natCast, HU1.out]; rfl] at this
            exact this.mono fun e w' ⟨h1, h2⟩ => ⟨h1, hW.trans (h2.mono hW.size)⟩)
          go_upto_region 14 with fail
          go_cut [139] (fun r wx => r = .bool false ∧ Below w3.heap.size w3 wx)
          case first =>
            by_cases hk0 : k = 0
            · have d0 : decide ((0 : Int) < (k : Int)) = false := by simp; omega
              have d1 : decide (0 < k) = false := by simp; omega
              clear hk0
              refine wp_region_held_drew (S := (fun W => Below w3.heap.size w3 W ∧ W.cell? ⟨wd1.heap.size, 0, none⟩ = some (.int .i64 h) ∧ W.cell? ⟨wd1.heap.size, 1, none⟩ = some (.int .i64 m) ∧ W.cell? ⟨lg, k, none⟩ = some (.int .i64 t) ∧ W.cell? ⟨nb, 0, none⟩ = some (.int .i64 h))) (by kernel_rfl) ?_ (fun hHeld => ?_)
              · (try dsimp only); (refine ⟨?_, HCE3.out _ ?_⟩ <;> (repeat (first | assumption | exact Below.refl _ _ | refine Below.drew ?_ | refine below_drewN ?_ _)))
              refine wpAnyH_take (i := 0) (oi := { dst := some 97, op := Go.Op.move (Go.Operand.tmp 14), type := 2, pos := "laws.go:249", after := #[], guard := none }) (v := ?_) rfl (by kernel_rfl) (by kernel_rfl) (by kernel_rfl) (fun _ _ _ h => h) (Or.inl ⟨by rfl, ?_⟩) (by assumption) ?_
              rotate_left
              · (intro w hSw; (try dsimp only at hSw); go_simp); (try with_reducible rfl)
              try simp only [Act.put, List.setIfInBounds_toArray, List.set_cons_zero, List.set_cons_succ]
              refine wpAnyH_take (i := 1) (oi := { dst := some 98, op := Go.Op.binOp Go.BinOp.neq 2 (Go.Operand.tmp 97) (Go.Operand.const (Go.Value.int Go.IntKind.i64 0)) 2, type := 4, pos := "laws.go:249", after := #[{ on := 0, ground := Go.Ground.data }], guard := none }) (v := ?_) rfl (by kernel_rfl) (by kernel_rfl) (by kernel_rfl) (fun _ _ _ h => h) (Or.inl ⟨by rfl, ?_⟩) (by assumption) ?_
              rotate_left
              · (intro w hSw; (try dsimp only at hSw); go_simp); (try with_reducible rfl)
              try simp only [Act.put, List.setIfInBounds_toArray, List.set_cons_zero, List.set_cons_succ]
              refine wpAnyH_take (i := 2) (oi := { dst := some 99, op := Go.Op.move (Go.Operand.tmp 98), type := 4, pos := "laws.go:249", after := #[{ on := 1, ground := Go.Ground.data }], guard := none }) (v := ?_) rfl (by kernel_rfl) (by kernel_rfl) (by kernel_rfl) (fun _ _ _ h => h) (Or.inl ⟨by rfl, ?_⟩) (by assumption) ?_
              rotate_left
              · (intro w hSw; (try dsimp only at hSw); go_simp); (try with_reducible rfl)
              try simp only [Act.put, List.setIfInBounds_toArray, List.set_cons_zero, List.set_cons_succ]
              refine wpAnyH_take (i := 3) (oi := { dst := some 100, op := Go.Op.move (Go.Operand.tmp 16), type := 2, pos := "laws.go:249", after := #[{ on := 2, ground := Go.Ground.guard }], guard := some (2, false) }) (v := ?_) rfl (by kernel_rfl) (by kernel_rfl) (by kernel_rfl) (fun _ _ _ h => h) (Or.inl ⟨by rfl, ?_⟩) (by assumption) ?_
              rotate_left
              · (intro w hSw; (try dsimp only at hSw); go_simp); (try with_reducible rfl)
              try simp only [Act.put, List.setIfInBounds_toArray, List.set_cons_zero, List.set_cons_succ]
              refine wpAnyH_take (i := 4) (oi := { dst := some 101, op := Go.Op.binOp Go.BinOp.neq 2 (Go.Operand.tmp 100) (Go.Operand.const (Go.Value.int Go.IntKind.i64 0)) 2, type := 4, pos := "laws.go:249", after := #[{ on := 3, ground := Go.Ground.data }, { on := 2, ground := Go.Ground.guard }], guard := some (2, false) }) (v := ?_) rfl (by kernel_rfl) (by kernel_rfl) (by kernel_rfl) (fun _ _ _ h => h) (Or.inl ⟨by rfl, ?_⟩) (by assumption) ?_
              rotate_left
              · (intro w hSw; (try dsimp only at hSw); go_simp); (try with_reducible rfl)
              try simp only [Act.put, List.setIfInBounds_toArray, List.set_cons_zero, List.set_cons_succ]
              refine wpAnyH_take (i := 5) (oi := { dst := some 102, op := Go.Op.pick (Go.Operand.tmp 99) (Go.Operand.const (Go.Value.bool true)) (Go.Operand.tmp 101), type := 4, pos := "laws.go:249", after := #[{ on := 2, ground := Go.Ground.data }, { on := 4, ground := Go.Ground.data }], guard := none }) (v := ?_) rfl (by kernel_rfl) (by kernel_rfl) (by kernel_rfl) (fun _ _ _ h => h) (Or.inl ⟨by rfl, ?_⟩) (by assumption) ?_
              rotate_left
              · (intro w hSw; (try dsimp only at hSw); go_simp); (try with_reducible rfl)
              try simp only [Act.put, List.setIfInBounds_toArray, List.set_cons_zero, List.set_cons_succ]
              refine wpAnyH_take (i := 6) (oi := { dst := some 103, op := Go.Op.move (Go.Operand.tmp 102), type := 4, pos := "laws.go:249", after := #[{ on := 5, ground := Go.Ground.data }, { on := 2, ground := Go.Ground.chain }], guard := none }) (v := ?_) rfl (by kernel_rfl) (by kernel_rfl) (by kernel_rfl) (fun _ _ _ h => h) (Or.inl ⟨by rfl, ?_⟩) (by assumption) ?_
              rotate_left
              · (intro w hSw; (try dsimp only at hSw); go_simp); (try with_reducible rfl)
              try simp only [Act.put, List.setIfInBounds_toArray, List.set_cons_zero, List.set_cons_succ]
              refine wpAnyH_take (i := 7) (oi := { dst := some 104, op := Go.Op.move (Go.Operand.tmp 15), type := 2, pos := "laws.go:249", after := #[{ on := 6, ground := Go.Ground.guard }], guard := some (6, false) }) (v := ?_) rfl (by kernel_rfl) (by kernel_rfl) (by kernel_rfl) (fun _ _ _ h => h) (Or.inl ⟨by rfl, ?_⟩) (by assumption) ?_
              rotate_left
              · (intro w hSw; (try dsimp only at hSw); go_simp); (try with_reducible rfl)
              try simp only [Act.put, List.setIfInBounds_toArray, List.set_cons_zero, List.set_cons_succ]
              refine wpAnyH_take (i := 8) (oi := { dst := some 105, op := Go.Op.move (Go.Operand.tmp 6), type := 2, pos := "laws.go:249", after := #[{ on := 6, ground := Go.Ground.guard }], guard := some (6, false) }) (v := ?_) rfl (by kernel_rfl) (by kernel_rfl) (by kernel_rfl) (fun _ _ _ h => h) (Or.inl ⟨by rfl, ?_⟩) (by assumption) ?_
              rotate_left
              · (intro w hSw; (try dsimp only at hSw); go_simp); (try with_reducible rfl)
              try simp only [Act.put, List.setIfInBounds_toArray, List.set_cons_zero, List.set_cons_succ]
              refine wpAnyH_take (i := 9) (oi := { dst := some 106, op := Go.Op.binOp Go.BinOp.neq 2 (Go.Operand.tmp 104) (Go.Operand.tmp 105) 2, type := 4, pos := "laws.go:249", after := #[{ on := 7, ground := Go.Ground.data }, { on := 8, ground := Go.Ground.data }, { on := 6, ground := Go.Ground.guard }], guard := some (6, false) }) (v := ?_) rfl (by kernel_rfl) (by kernel_rfl) (by kernel_rfl) (fun _ _ _ h => h) (Or.inl ⟨by rfl, ?_⟩) (by assumption) ?_
              rotate_left
              · (intro w hSw; (try dsimp only at hSw); go_simp); (try with_reducible rfl)
              try simp only [Act.put, List.setIfInBounds_toArray, List.set_cons_zero, List.set_cons_succ]
              refine wpAnyH_take (i := 10) (oi := { dst := some 107, op := Go.Op.pick (Go.Operand.tmp 103) (Go.Operand.const (Go.Value.bool true)) (Go.Operand.tmp 106), type := 4, pos := "laws.go:249", after := #[{ on := 6, ground := Go.Ground.data }, { on := 9, ground := Go.Ground.data }], guard := none }) (v := ?_) rfl (by kernel_rfl) (by kernel_rfl) (by kernel_rfl) (fun _ _ _ h => h) (Or.inl ⟨by rfl, ?_⟩) (by assumption) ?_
              rotate_left
              · (intro w hSw; (try dsimp only at hSw); go_simp); (try with_reducible rfl)
              try simp only [Act.put, List.setIfInBounds_toArray, List.set_cons_zero, List.set_cons_succ]
              refine wpAnyH_take (i := 11) (oi := { dst := some 108, op := Go.Op.move (Go.Operand.tmp 107), type := 4, pos := "laws.go:249", after := #[{ on := 10, ground := Go.Ground.data }, { on := 6, ground := Go.Ground.chain }], guard := none }) (v := ?_) rfl (by kernel_rfl) (by kernel_rfl) (by kernel_rfl) (fun _ _ _ h => h) (Or.inl ⟨by rfl, ?_⟩) (by assumption) ?_
              rotate_left
              · (intro w hSw; (try dsimp only at hSw); go_simp); (try with_reducible rfl)
              try simp only [Act.put, List.setIfInBounds_toArray, List.set_cons_zero, List.set_cons_succ]
              refine wpAnyH_take (i := 12) (oi := { dst := some 109, op := Go.Op.fieldAddr 25 (Go.Operand.tmp 13) 0, type := 0, pos := "laws.go:249", after := #[{ on := 11, ground := Go.Ground.guard }], guard := some (11, false) }) (v := ?_) rfl (by kernel_rfl) (by kernel_rfl) (by kernel_rfl) (fun _ _ _ h => h) (Or.inl ⟨by rfl, ?_⟩) (by assumption) ?_
              rotate_left
              · (intro w hSw; (try dsimp only at hSw); go_simp); (try with_reducible rfl)
              try simp only [Act.put, List.setIfInBounds_toArray, List.set_cons_zero, List.set_cons_succ]
              refine wpAnyH_take (i := 13) (oi := { dst := some 110, op := Go.Op.load 2 (Go.Operand.tmp 109), type := 2, pos := "laws.go:249", after := #[{ on := 12, ground := Go.Ground.data }, { on := 11, ground := Go.Ground.guard }], guard := some (11, false) }) (v := ?_) rfl (by kernel_rfl) (by kernel_rfl) (by kernel_rfl) (fun _ _ _ h => h) (Or.inl ⟨by rfl, ?_⟩) (by assumption) ?_
              rotate_left
              · (intro w hSw; (try dsimp only at hSw); go_simp); (try with_reducible rfl)
              try simp only [Act.put, List.setIfInBounds_toArray, List.set_cons_zero, List.set_cons_succ]
              refine wpAnyH_take (i := 14) (oi := { dst := some 111, op := Go.Op.fieldAddr 25 (Go.Operand.tmp 5) 0, type := 0, pos := "laws.go:249", after := #[{ on := 11, ground := Go.Ground.guard }], guard := some (11, false) }) (v := ?_) rfl (by kernel_rfl) (by kernel_rfl) (by kernel_rfl) (fun _ _ _ h => h) (Or.inl ⟨by rfl, ?_⟩) (by assumption) ?_
              rotate_left
              · (intro w hSw; (try dsimp only at hSw); go_simp); (try with_reducible rfl)
              try simp only [Act.put, List.setIfInBounds_toArray, List.set_cons_zero, List.set_cons_succ]
              refine wpAnyH_take (i := 15) (oi := { dst := some 112, op := Go.Op.load 2 (Go.Operand.tmp 111), type := 2, pos := "laws.go:249", after := #[{ on := 14, ground := Go.Ground.data }, { on := 11, ground := Go.Ground.guard }], guard := some (11, false) }) (v := ?_) rfl (by kernel_rfl) (by kernel_rfl) (by kernel_rfl) (fun _ _ _ h => h) (Or.inl ⟨by rfl, ?_⟩) (by assumption) ?_
              rotate_left
              · (intro w hSw; (try dsimp only at hSw); go_simp); (try with_reducible rfl)
              try simp only [Act.put, List.setIfInBounds_toArray, List.set_cons_zero, List.set_cons_succ]
              refine wpAnyH_take (i := 16) (oi := { dst := some 113, op := Go.Op.binOp Go.BinOp.neq 2 (Go.Operand.tmp 110) (Go.Operand.tmp 112) 2, type := 4, pos := "laws.go:249", after := #[{ on := 13, ground := Go.Ground.data }, { on := 15, ground := Go.Ground.data }, { on := 11, ground := Go.Ground.guard }], guard := some (11, false) }) (v := ?_) rfl (by kernel_rfl) (by kernel_rfl) (by kernel_rfl) (fun _ _ _ h => h) (Or.inl ⟨by rfl, ?_⟩) (by assumption) ?_
              rotate_left
              · (intro w hSw; (try dsimp only at hSw); go_simp); (try with_reducible rfl)
              try simp only [Act.put, List.setIfInBounds_toArray, List.set_cons_zero, List.set_cons_succ]
              refine wpAnyH_take (i := 17) (oi := { dst := some 114, op := Go.Op.pick (Go.Operand.tmp 108) (Go.Operand.const (Go.Value.bool true)) (Go.Operand.tmp 113), type := 4, pos := "laws.go:249", after := #[{ on := 11, ground := Go.Ground.data }, { on := 16, ground := Go.Ground.data }], guard := none }) (v := ?_) rfl (by kernel_rfl) (by kernel_rfl) (by kernel_rfl) (fun _ _ _ h => h) (Or.inl ⟨by rfl, ?_⟩) (by assumption) ?_
              rotate_left
              · (intro w hSw; (try dsimp only at hSw); go_simp); (try with_reducible rfl)
              try simp only [Act.put, List.setIfInBounds_toArray, List.set_cons_zero, List.set_cons_succ]
              refine wpAnyH_take (i := 18) (oi := { dst := some 115, op := Go.Op.move (Go.Operand.tmp 114), type := 4, pos := "laws.go:249", after := #[{ on := 17, ground := Go.Ground.data }, { on := 11, ground := Go.Ground.chain }], guard := none }) (v := ?_) rfl (by kernel_rfl) (by kernel_rfl) (by kernel_rfl) (fun _ _ _ h => h) (Or.inl ⟨by rfl, ?_⟩) (by assumption) ?_
              rotate_left
              · (intro w hSw; (try dsimp only at hSw); go_simp); (try with_reducible rfl)
              try simp only [Act.put, List.setIfInBounds_toArray, List.set_cons_zero, List.set_cons_succ]
              refine wpAnyH_take (i := 19) (oi := { dst := some 116, op := Go.Op.load 25 (Go.Operand.tmp 5), type := 25, pos := "laws.go:249", after := #[{ on := 18, ground := Go.Ground.guard }], guard := some (18, false) }) (v := ?_) rfl (by kernel_rfl) (by kernel_rfl) (by kernel_rfl) (fun _ _ _ h => h) (Or.inl ⟨by rfl, ?_⟩) (by assumption) ?_
              rotate_left
              · (intro w hSw; (try dsimp only at hSw); go_simp); (try with_reducible rfl)
              try simp only [Act.put, List.setIfInBounds_toArray, List.set_cons_zero, List.set_cons_succ]
              refine wpAnyH_take (i := 20) (oi := { dst := some 117, op := Go.Op.move (Go.Operand.tmp 8), type := 29, pos := "laws.go:249", after := #[{ on := 18, ground := Go.Ground.guard }], guard := some (18, false) }) (v := ?_) rfl (by kernel_rfl) (by kernel_rfl) (by kernel_rfl) (fun _ _ _ h => h) (Or.inl ⟨by rfl, ?_⟩) (by assumption) ?_
              rotate_left
              · (intro w hSw; (try dsimp only at hSw); go_simp); (try with_reducible rfl)
              try simp only [Act.put, List.setIfInBounds_toArray, List.set_cons_zero, List.set_cons_succ]
              refine wpAnyH_take (i := 21) (oi := { dst := some 118, op := Go.Op.move (Go.Operand.tmp 12), type := 3, pos := "laws.go:249", after := #[{ on := 18, ground := Go.Ground.guard }], guard := some (18, false) }) (v := ?_) rfl (by kernel_rfl) (by kernel_rfl) (by kernel_rfl) (fun _ _ _ h => h) (Or.inl ⟨by rfl, ?_⟩) (by assumption) ?_
              rotate_left
              · (intro w hSw; (try dsimp only at hSw); go_simp); (try with_reducible rfl)
              try simp only [Act.put, List.setIfInBounds_toArray, List.set_cons_zero, List.set_cons_succ]
              refine wpAnyH_take (i := 22) (oi := { dst := some 119, op := Go.Op.indexAddr 29 (Go.Operand.tmp 117) (Go.Operand.tmp 118), type := 0, pos := "laws.go:249", after := #[{ on := 20, ground := Go.Ground.data }, { on := 21, ground := Go.Ground.data }, { on := 18, ground := Go.Ground.guard }], guard := some (18, false) }) (v := ?_) rfl (by kernel_rfl) (by kernel_rfl) (by kernel_rfl) (fun _ _ _ h => h) (Or.inl ⟨by rfl, ?_⟩) (by assumption) ?_
              rotate_left
              · (intro w hSw; (try dsimp only at hSw); go_simp); (try with_reducible rfl)
              try simp only [Act.put, List.setIfInBounds_toArray, List.set_cons_zero, List.set_cons_succ]
              refine wpAnyH_take (i := 23) (oi := { dst := some 120, op := Go.Op.load 2 (Go.Operand.tmp 119), type := 2, pos := "laws.go:249", after := #[{ on := 22, ground := Go.Ground.data }, { on := 18, ground := Go.Ground.guard }], guard := some (18, false) }) (v := ?_) rfl (by kernel_rfl) (by kernel_rfl) (by kernel_rfl) (fun _ _ _ h => h) (Or.inl ⟨by rfl, ?_⟩) (by assumption) ?_
              rotate_left
              · (intro w hSw; (try dsimp only at hSw); go_simp); (try with_reducible rfl)
              try simp only [Act.put, List.setIfInBounds_toArray, List.set_cons_zero, List.set_cons_succ]
              refine wpAnyH_ready (rs := [24]) (by kernel_rfl) (by simp) ?_
              refine AllReadyH.cons (o := { dst := some 121, op := Go.Op.call { callee := Go.Callee.value (Go.Operand.func 19), args := #[Go.Operand.tmp 116, Go.Operand.tmp 120], argTypes := #[25, 2] }, type := 4, pos := "laws.go:249", after := #[{ on := 19, ground := Go.Ground.data }, { on := 23, ground := Go.Ground.data }, { on := 18, ground := Go.Ground.chain }, { on := 18, ground := Go.Ground.guard }], guard := some (18, false) }) rfl (fun K hK => ?_) AllReadyH.nil
              go_simp
              (go_at_call 19; (with_reducible refine (HCT3.out _ ?_).mono ?_); (repeat (first | assumption | exact Below.refl _ _ | refine Below.drew ?_ | refine below_drewN ?_ _)); rintro e w4 ⟨rfl, b4⟩)
              refine hK.out _ _ ?_ (fun hHeld2 => ?_)
              · (try dsimp only); (refine ⟨?_, HCE3.out _ ?_⟩ <;> (repeat (first | assumption | exact Below.refl _ _ | refine Below.drew ?_ | refine below_drewN ?_ _)))
              clear hK K hHeld
              have hHeld := hHeld2
              clear hHeld2
              try simp only [Act.put, List.setIfInBounds_toArray, List.set_cons_zero, List.set_cons_succ]
              refine wpAnyH_take (i := 25) (oi := { dst := some 122, op := Go.Op.unOp Go.UnOp.not 4 (Go.Operand.tmp 121), type := 4, pos := "laws.go:249", after := #[{ on := 24, ground := Go.Ground.data }, { on := 18, ground := Go.Ground.guard }], guard := some (18, false) }) (v := ?_) rfl (by kernel_rfl) (by kernel_rfl) (by kernel_rfl) (fun _ _ _ h => h) (Or.inl ⟨by rfl, ?_⟩) (by assumption) ?_
              rotate_left
              · (intro w hSw; (try dsimp only at hSw); go_simp); (try with_reducible rfl)
              try simp only [Act.put, List.setIfInBounds_toArray, List.set_cons_zero, List.set_cons_succ]
              refine wpAnyH_take (i := 26) (oi := { dst := some 123, op := Go.Op.pick (Go.Operand.tmp 115) (Go.Operand.const (Go.Value.bool true)) (Go.Operand.tmp 122), type := 4, pos := "laws.go:249", after := #[{ on := 18, ground := Go.Ground.data }, { on := 25, ground := Go.Ground.data }], guard := none }) (v := ?_) rfl (by kernel_rfl) (by kernel_rfl) (by kernel_rfl) (fun _ _ _ h => h) (Or.inl ⟨by rfl, ?_⟩) (by assumption) ?_
              rotate_left
              · (intro w hSw; (try dsimp only at hSw); go_simp); (try with_reducible rfl)
              try simp only [Act.put, List.setIfInBounds_toArray, List.set_cons_zero, List.set_cons_succ]
              refine wpAnyH_take (i := 27) (oi := { dst := some 124, op := Go.Op.move (Go.Operand.tmp 123), type := 4, pos := "laws.go:249", after := #[{ on := 26, ground := Go.Ground.data }, { on := 24, ground := Go.Ground.chain }], guard := none }) (v := ?_) rfl (by kernel_rfl) (by kernel_rfl) (by kernel_rfl) (fun _ _ _ h => h) (Or.inl ⟨by rfl, ?_⟩) (by assumption) ?_
              rotate_left
              · (intro w hSw; (try dsimp only at hSw); go_simp); (try with_reducible rfl)
              try simp only [Act.put, List.setIfInBounds_toArray, List.set_cons_zero, List.set_cons_succ]
              refine wpAnyH_take (i := 28) (oi := { dst := some 125, op := Go.Op.move (Go.Operand.tmp 12), type := 3, pos := "laws.go:249", after := #[{ on := 27, ground := Go.Ground.guard }], guard := some (27, false) }) (v := ?_) rfl (by kernel_rfl) (by kernel_rfl) (by kernel_rfl) (fun _ _ _ h => h) (Or.inl ⟨by rfl, ?_⟩) (by assumption) ?_
              rotate_left
              · (intro w hSw; (try dsimp only at hSw); go_simp); (try with_reducible rfl)
              try simp only [Act.put, List.setIfInBounds_toArray, List.set_cons_zero, List.set_cons_succ]
              refine wpAnyH_take (i := 29) (oi := { dst := some 126, op := Go.Op.binOp Go.BinOp.gtr 3 (Go.Operand.tmp 125) (Go.Operand.const (Go.Value.int Go.IntKind.i64 0)) 3, type := 4, pos := "laws.go:249", after := #[{ on := 28, ground := Go.Ground.data }, { on := 27, ground := Go.Ground.guard }], guard := some (27, false) }) (v := ?_) rfl (by kernel_rfl) (by kernel_rfl) (by kernel_rfl) (fun _ _ _ h => h) (Or.inl ⟨by rfl, ?_⟩) (by assumption) ?_
              rotate_left
              · (intro w hSw; (try dsimp only at hSw); go_simp); (try with_reducible rfl)
              try simp only [Act.put, List.setIfInBounds_toArray, List.set_cons_zero, List.set_cons_succ]
              refine wpAnyH_take (i := 30) (oi := { dst := some 127, op := Go.Op.move (Go.Operand.tmp 126), type := 4, pos := "laws.go:249", after := #[{ on := 29, ground := Go.Ground.data }, { on := 27, ground := Go.Ground.chain }, { on := 27, ground := Go.Ground.guard }], guard := some (27, false) }) (v := ?_) rfl (by kernel_rfl) (by kernel_rfl) (by kernel_rfl) (fun _ _ _ h => h) (Or.inl ⟨by rfl, ?_⟩) (by assumption) ?_
              rotate_left
              · (intro w hSw; (try dsimp only at hSw); go_simp); (try with_reducible rfl)
              try simp only [Act.put, List.setIfInBounds_toArray, List.set_cons_zero, List.set_cons_succ]
              refine wpAnyH_take (i := 31) (oi := { dst := some 128, op := Go.Op.move (Go.Operand.tmp 8), type := 29, pos := "laws.go:249", after := #[{ on := 30, ground := Go.Ground.guard }], guard := some (30, true) }) (v := undef) rfl (by kernel_rfl) (by kernel_rfl) (by kernel_rfl) (fun _ _ _ h => h) (Or.inr ⟨by rfl, rfl⟩) (by assumption) ?_
              try simp only [Act.put, List.setIfInBounds_toArray, List.set_cons_zero, List.set_cons_succ]
              refine wpAnyH_take (i := 32) (oi := { dst := some 129, op := Go.Op.move (Go.Operand.tmp 12), type := 3, pos := "laws.go:249", after := #[{ on := 30, ground := Go.Ground.guard }], guard := some (30, true) }) (v := undef) rfl (by kernel_rfl) (by kernel_rfl) (by kernel_rfl) (fun _ _ _ h => h) (Or.inr ⟨by rfl, rfl⟩) (by assumption) ?_
              try simp only [Act.put, List.setIfInBounds_toArray, List.set_cons_zero, List.set_cons_succ]
              refine wpAnyH_take (i := 33) (oi := { dst := some 130, op := Go.Op.indexAddr 29 (Go.Operand.tmp 128) (Go.Operand.tmp 129), type := 0, pos := "laws.go:249", after := #[{ on := 31, ground := Go.Ground.data }, { on := 32, ground := Go.Ground.data }, { on := 30, ground := Go.Ground.guard }], guard := some (30, true) }) (v := undef) rfl (by kernel_rfl) (by kernel_rfl) (by kernel_rfl) (fun _ _ _ h => h) (Or.inr ⟨by rfl, rfl⟩) (by assumption) ?_
              try simp only [Act.put, List.setIfInBounds_toArray, List.set_cons_zero, List.set_cons_succ]
              refine wpAnyH_take (i := 34) (oi := { dst := some 131, op := Go.Op.load 2 (Go.Operand.tmp 130), type := 2, pos := "laws.go:249", after := #[{ on := 33, ground := Go.Ground.data }, { on := 30, ground := Go.Ground.guard }], guard := some (30, true) }) (v := undef) rfl (by kernel_rfl) (by kernel_rfl) (by kernel_rfl) (fun _ _ _ h => h) (Or.inr ⟨by rfl, rfl⟩) (by assumption) ?_
              try simp only [Act.put, List.setIfInBounds_toArray, List.set_cons_zero, List.set_cons_succ]
              refine wpAnyH_take (i := 35) (oi := { dst := some 132, op := Go.Op.move (Go.Operand.tmp 8), type := 29, pos := "laws.go:249", after := #[{ on := 30, ground := Go.Ground.guard }], guard := some (30, true) }) (v := undef) rfl (by kernel_rfl) (by kernel_rfl) (by kernel_rfl) (fun _ _ _ h => h) (Or.inr ⟨by rfl, rfl⟩) (by assumption) ?_
              try simp only [Act.put, List.setIfInBounds_toArray, List.set_cons_zero, List.set_cons_succ]
              refine wpAnyH_take (i := 36) (oi := { dst := some 133, op := Go.Op.move (Go.Operand.tmp 12), type := 3, pos := "laws.go:249", after := #[{ on := 30, ground := Go.Ground.guard }], guard := some (30, true) }) (v := undef) rfl (by kernel_rfl) (by kernel_rfl) (by kernel_rfl) (fun _ _ _ h => h) (Or.inr ⟨by rfl, rfl⟩) (by assumption) ?_
              try simp only [Act.put, List.setIfInBounds_toArray, List.set_cons_zero, List.set_cons_succ]
              refine wpAnyH_take (i := 37) (oi := { dst := some 134, op := Go.Op.binOp Go.BinOp.sub 3 (Go.Operand.tmp 133) (Go.Operand.const (Go.Value.int Go.IntKind.i64 1)) 3, type := 3, pos := "laws.go:249", after := #[{ on := 36, ground := Go.Ground.data }, { on := 30, ground := Go.Ground.guard }], guard := some (30, true) }) (v := undef) rfl (by kernel_rfl) (by kernel_rfl) (by kernel_rfl) (fun _ _ _ h => h) (Or.inr ⟨by rfl, rfl⟩) (by assumption) ?_
              try simp only [Act.put, List.setIfInBounds_toArray, List.set_cons_zero, List.set_cons_succ]
              refine wpAnyH_take (i := 38) (oi := { dst := some 135, op := Go.Op.indexAddr 29 (Go.Operand.tmp 132) (Go.Operand.tmp 134), type := 0, pos := "laws.go:249", after := #[{ on := 35, ground := Go.Ground.data }, { on := 37, ground := Go.Ground.data }, { on := 30, ground := Go.Ground.guard }], guard := some (30, true) }) (v := undef) rfl (by kernel_rfl) (by kernel_rfl) (by kernel_rfl) (fun _ _ _ h => h) (Or.inr ⟨by rfl, rfl⟩) (by assumption) ?_
              try simp only [Act.put, List.setIfInBounds_toArray, List.set_cons_zero, List.set_cons_succ]
              refine wpAnyH_take (i := 39) (oi := { dst := some 136, op := Go.Op.load 2 (Go.Operand.tmp 135), type := 2, pos := "laws.go:249", after := #[{ on := 38, ground := Go.Ground.data }, { on := 30, ground := Go.Ground.guard }], guard := some (30, true) }) (v := undef) rfl (by kernel_rfl) (by kernel_rfl) (by kernel_rfl) (fun _ _ _ h => h) (Or.inr ⟨by rfl, rfl⟩) (by assumption) ?_
              try simp only [Act.put, List.setIfInBounds_toArray, List.set_cons_zero, List.set_cons_succ]
              refine wpAnyH_take (i := 40) (oi := { dst := some 137, op := Go.Op.binOp Go.BinOp.leq 2 (Go.Operand.tmp 131) (Go.Operand.tmp 136) 2, type := 4, pos := "laws.go:249", after := #[{ on := 34, ground := Go.Ground.data }, { on := 39, ground := Go.Ground.data }, { on := 30, ground := Go.Ground.guard }], guard := some (30, true) }) (v := undef) rfl (by kernel_rfl) (by kernel_rfl) (by kernel_rfl) (fun _ _ _ h => h) (Or.inr ⟨by rfl, rfl⟩) (by assumption) ?_
              try simp only [Act.put, List.setIfInBounds_toArray, List.set_cons_zero, List.set_cons_succ]
              refine wpAnyH_take (i := 41) (oi := { dst := some 138, op := Go.Op.pick (Go.Operand.tmp 127) (Go.Operand.tmp 137) (Go.Operand.const (Go.Value.bool false)), type := 4, pos := "laws.go:249", after := #[{ on := 30, ground := Go.Ground.data }, { on := 40, ground := Go.Ground.data }, { on := 27, ground := Go.Ground.guard }], guard := some (27, false) }) (v := ?_) rfl (by kernel_rfl) (by kernel_rfl) (by kernel_rfl) (fun _ _ _ h => h) (Or.inl ⟨by rfl, ?_⟩) (by assumption) ?_
              rotate_left
              · (intro w hSw; (try dsimp only at hSw); go_simp); (try with_reducible rfl)
              try simp only [Act.put, List.setIfInBounds_toArray, List.set_cons_zero, List.set_cons_succ]
              refine wpAnyH_take (i := 42) (oi := { dst := some 139, op := Go.Op.pick (Go.Operand.tmp 124) (Go.Operand.const (Go.Value.bool true)) (Go.Operand.tmp 138), type := 4, pos := "laws.go:249", after := #[{ on := 27, ground := Go.Ground.data }, { on := 41, ground := Go.Ground.data }], guard := none }) (v := ?_) rfl (by kernel_rfl) (by kernel_rfl) (by kernel_rfl) (fun _ _ _ h => h) (Or.inl ⟨by rfl, ?_⟩) (by assumption) ?_
              rotate_left
              · (intro w hSw; (try dsimp only at hSw); go_simp); (try with_reducible rfl)
              try simp only [Act.put, List.setIfInBounds_toArray, List.set_cons_zero, List.set_cons_succ]
              refine wpAnyH_done (by kernel_rfl) ?_ _
              (go_wp2_with fail; go_meet)
              exact ⟨rfl, b4⟩
            · have hpp := HPR.out (by omega)
              have hlt2 := HUP.out (by omega)
              rw [HTE.out] at hlt2
              have hpb := hpp
              replace hpp := ((hb3.cell (p := ⟨lg, k - 1, none⟩) (cell_block hpb)).trans hpb)
              clear hpb
              generalize L.getD (k - 1) 0 = sv at *
              have HPX := Lib.hid (fun W (hW : Below w3.heap.size w3 W) => (hW.cell (p := ⟨lg, k - 1, none⟩) (cell_block hpp)).trans hpp)
              have d0 : decide ((0 : Int) < (k : Int)) = true := by simp; omega
              have d1 : decide ((t : Int) ≤ sv) = false := by simp; omega
              have d8 : decide (0 < k) = true := by simp; omega
              have d2 : IntKind.i64.wrap ((k : Int) - 1) = (k : Int) - 1 := IntWalk.i64_in _ (by omega)
              have d3 : (0 : Int) ≤ (k : Int) - 1 := by omega
              have d4 : (k : Int) - 1 < (L.length : Int) := by omega
              have d5 : ((k : Int) - 1).toNat = k - 1 := by omega
              have d6 : 0 < k := by omega
              have d7 : (1 : Int) ≤ (k : Int) := by omega
              clear hk0 hpp
              refine wp_region_held_drew (S := (fun W => Below w3.heap.size w3 W ∧ (W.cell? ⟨wd1.heap.size, 0, none⟩ = some (.int .i64 h) ∧ W.cell? ⟨wd1.heap.size, 1, none⟩ = some (.int .i64 m) ∧ W.cell? ⟨lg, k, none⟩ = some (.int .i64 t) ∧ W.cell? ⟨nb, 0, none⟩ = some (.int .i64 h)) ∧ W.cell? ⟨lg, k - 1, none⟩ = some (.int .i64 sv))) (by kernel_rfl) ?_ (fun hHeld => ?_)
              · (try dsimp only); (refine ⟨?_, HCE3.out _ ?_, HPX.out _ ?_⟩ <;> (repeat (first | assumption | exact Below.refl _ _ | refine Below.drew ?_ | refine below_drewN ?_ _)))
              refine wpAnyH_take (i := 0) (oi := { dst := some 97, op := Go.Op.move (Go.Operand.tmp 14), type := 2, pos := "laws.go:249", after := #[], guard := none }) (v := ?_) rfl (by kernel_rfl) (by kernel_rfl) (by kernel_rfl) (fun _ _ _ h => h) (Or.inl ⟨by rfl, ?_⟩) (by assumption) ?_
              rotate_left
              · (intro w hSw; (try dsimp only at hSw); go_simp); (try with_reducible rfl)
              try simp only [Act.put, List.setIfInBounds_toArray, List.set_cons_zero, List.set_cons_succ]
              refine wpAnyH_take (i := 1) (oi := { dst := some 98, op := Go.Op.binOp Go.BinOp.neq 2 (Go.Operand.tmp 97) (Go.Operand.const (Go.Value.int Go.IntKind.i64 0)) 2, type := 4, pos := "laws.go:249", after := #[{ on := 0, ground := Go.Ground.data }], guard := none }) (v := ?_) rfl (by kernel_rfl) (by kernel_rfl) (by kernel_rfl) (fun _ _ _ h => h) (Or.inl ⟨by rfl, ?_⟩) (by assumption) ?_
              rotate_left
              · (intro w hSw; (try dsimp only at hSw); go_simp); (try with_reducible rfl)
              try simp only [Act.put, List.setIfInBounds_toArray, List.set_cons_zero, List.set_cons_succ]
              refine wpAnyH_take (i := 2) (oi := { dst := some 99, op := Go.Op.move (Go.Operand.tmp 98), type := 4, pos := "laws.go:249", after := #[{ on := 1, ground := Go.Ground.data }], guard := none }) (v := ?_) rfl (by kernel_rfl) (by kernel_rfl) (by kernel_rfl) (fun _ _ _ h => h) (Or.inl ⟨by rfl, ?_⟩) (by assumption) ?_
              rotate_left
              · (intro w hSw; (try dsimp only at hSw); go_simp); (try with_reducible rfl)
              try simp only [Act.put, List.setIfInBounds_toArray, List.set_cons_zero, List.set_cons_succ]
              refine wpAnyH_take (i := 3) (oi := { dst := some 100, op := Go.Op.move (Go.Operand.tmp 16), type := 2, pos := "laws.go:249", after := #[{ on := 2, ground := Go.Ground.guard }], guard := some (2, false) }) (v := ?_) rfl (by kernel_rfl) (by kernel_rfl) (by kernel_rfl) (fun _ _ _ h => h) (Or.inl ⟨by rfl, ?_⟩) (by assumption) ?_
              rotate_left
              · (intro w hSw; (try dsimp only at hSw); go_simp); (try with_reducible rfl)
              try simp only [Act.put, List.setIfInBounds_toArray, List.set_cons_zero, List.set_cons_succ]
              refine wpAnyH_take (i := 4) (oi := { dst := some 101, op := Go.Op.binOp Go.BinOp.neq 2 (Go.Operand.tmp 100) (Go.Operand.const (Go.Value.int Go.IntKind.i64 0)) 2, type := 4, pos := "laws.go:249", after := #[{ on := 3, ground := Go.Ground.data }, { on := 2, ground := Go.Ground.guard }], guard := some (2, false) }) (v := ?_) rfl (by kernel_rfl) (by kernel_rfl) (by kernel_rfl) (fun _ _ _ h => h) (Or.inl ⟨by rfl, ?_⟩) (by assumption) ?_
              rotate_left
              · (intro w hSw; (try dsimp only at hSw); go_simp); (try with_reducible rfl)
              try simp only [Act.put, List.setIfInBounds_toArray, List.set_cons_zero, List.set_cons_succ]
              refine wpAnyH_take (i := 5) (oi := { dst := some 102, op := Go.Op.pick (Go.Operand.tmp 99) (Go.Operand.const (Go.Value.bool true)) (Go.Operand.tmp 101), type := 4, pos := "laws.go:249", after := #[{ on := 2, ground := Go.Ground.data }, { on := 4, ground := Go.Ground.data }], guard := none }) (v := ?_) rfl (by kernel_rfl) (by kernel_rfl) (by kernel_rfl) (fun _ _ _ h => h) (Or.inl ⟨by rfl, ?_⟩) (by assumption) ?_
              rotate_left
              · (intro w hSw; (try dsimp only at hSw); go_simp); (try with_reducible rfl)
              try simp only [Act.put, List.setIfInBounds_toArray, List.set_cons_zero, List.set_cons_succ]
              refine wpAnyH_take (i := 6) (oi := { dst := some 103, op := Go.Op.move (Go.Operand.tmp 102), type := 4, pos := "laws.go:249", after := #[{ on := 5, ground := Go.Ground.data }, { on := 2, ground := Go.Ground.chain }], guard := none }) (v := ?_) rfl (by kernel_rfl) (by kernel_rfl) (by kernel_rfl) (fun _ _ _ h => h) (Or.inl ⟨by rfl, ?_⟩) (by assumption) ?_
              rotate_left
              · (intro w hSw; (try dsimp only at hSw); go_simp); (try with_reducible rfl)
              try simp only [Act.put, List.setIfInBounds_toArray, List.set_cons_zero, List.set_cons_succ]
              refine wpAnyH_take (i := 7) (oi := { dst := some 104, op := Go.Op.move (Go.Operand.tmp 15), type := 2, pos := "laws.go:249", after := #[{ on := 6, ground := Go.Ground.guard }], guard := some (6, false) }) (v := ?_) rfl (by kernel_rfl) (by kernel_rfl) (by kernel_rfl) (fun _ _ _ h => h) (Or.inl ⟨by rfl, ?_⟩) (by assumption) ?_
              rotate_left
              · (intro w hSw; (try dsimp only at hSw); go_simp); (try with_reducible rfl)
              try simp only [Act.put, List.setIfInBounds_toArray, List.set_cons_zero, List.set_cons_succ]
              refine wpAnyH_take (i := 8) (oi := { dst := some 105, op := Go.Op.move (Go.Operand.tmp 6), type := 2, pos := "laws.go:249", after := #[{ on := 6, ground := Go.Ground.guard }], guard := some (6, false) }) (v := ?_) rfl (by kernel_rfl) (by kernel_rfl) (by kernel_rfl) (fun _ _ _ h => h) (Or.inl ⟨by rfl, ?_⟩) (by assumption) ?_
              rotate_left
              · (intro w hSw; (try dsimp only at hSw); go_simp); (try with_reducible rfl)
              try simp only [Act.put, List.setIfInBounds_toArray, List.set_cons_zero, List.set_cons_succ]
              refine wpAnyH_take (i := 9) (oi := { dst := some 106, op := Go.Op.binOp Go.BinOp.neq 2 (Go.Operand.tmp 104) (Go.Operand.tmp 105) 2, type := 4, pos := "laws.go:249", after := #[{ on := 7, ground := Go.Ground.data }, { on := 8, ground := Go.Ground.data }, { on := 6, ground := Go.Ground.guard }], guard := some (6, false) }) (v := ?_) rfl (by kernel_rfl) (by kernel_rfl) (by kernel_rfl) (fun _ _ _ h => h) (Or.inl ⟨by rfl, ?_⟩) (by assumption) ?_
              rotate_left
              · (intro w hSw; (try dsimp only at hSw); go_simp); (try with_reducible rfl)
              try simp only [Act.put, List.setIfInBounds_toArray, List.set_cons_zero, List.set_cons_succ]
              refine wpAnyH_take (i := 10) (oi := { dst := some 107, op := Go.Op.pick (Go.Operand.tmp 103) (Go.Operand.const (Go.Value.bool true)) (Go.Operand.tmp 106), type := 4, pos := "laws.go:249", after := #[{ on := 6, ground := Go.Ground.data }, { on := 9, ground := Go.Ground.data }], guard := none }) (v := ?_) rfl (by kernel_rfl) (by kernel_rfl) (by kernel_rfl) (fun _ _ _ h => h) (Or.inl ⟨by rfl, ?_⟩) (by assumption) ?_
              rotate_left
              · (intro w hSw; (try dsimp only at hSw); go_simp); (try with_reducible rfl)
              try simp only [Act.put, List.setIfInBounds_toArray, List.set_cons_zero, List.set_cons_succ]
              refine wpAnyH_take (i := 11) (oi := { dst := some 108, op := Go.Op.move (Go.Operand.tmp 107), type := 4, pos := "laws.go:249", after := #[{ on := 10, ground := Go.Ground.data }, { on := 6, ground := Go.Ground.chain }], guard := none }) (v := ?_) rfl (by kernel_rfl) (by kernel_rfl) (by kernel_rfl) (fun _ _ _ h => h) (Or.inl ⟨by rfl, ?_⟩) (by assumption) ?_
              rotate_left
              · (intro w hSw; (try dsimp only at hSw); go_simp); (try with_reducible rfl)
              try simp only [Act.put, List.setIfInBounds_toArray, List.set_cons_zero, List.set_cons_succ]
              refine wpAnyH_take (i := 12) (oi := { dst := some 109, op := Go.Op.fieldAddr 25 (Go.Operand.tmp 13) 0, type := 0, pos := "laws.go:249", after := #[{ on := 11, ground := Go.Ground.guard }], guard := some (11, false) }) (v := ?_) rfl (by kernel_rfl) (by kernel_rfl) (by kernel_rfl) (fun _ _ _ h => h) (Or.inl ⟨by rfl, ?_⟩) (by assumption) ?_
              rotate_left
              · (intro w hSw; (try dsimp only at hSw); go_simp); (try with_reducible rfl)
              try simp only [Act.put, List.setIfInBounds_toArray, List.set_cons_zero, List.set_cons_succ]
              refine wpAnyH_take (i := 13) (oi := { dst := some 110, op := Go.Op.load 2 (Go.Operand.tmp 109), type := 2, pos := "laws.go:249", after := #[{ on := 12, ground := Go.Ground.data }, { on := 11, ground := Go.Ground.guard }], guard := some (11, false) }) (v := ?_) rfl (by kernel_rfl) (by kernel_rfl) (by kernel_rfl) (fun _ _ _ h => h) (Or.inl ⟨by rfl, ?_⟩) (by assumption) ?_
              rotate_left
              · (intro w hSw; (try dsimp only at hSw); go_simp); (try with_reducible rfl)
              try simp only [Act.put, List.setIfInBounds_toArray, List.set_cons_zero, List.set_cons_succ]
              refine wpAnyH_take (i := 14) (oi := { dst := some 111, op := Go.Op.fieldAddr 25 (Go.Operand.tmp 5) 0, type := 0, pos := "laws.go:249", after := #[{ on := 11, ground := Go.Ground.guard }], guard := some (11, false) }) (v := ?_) rfl (by kernel_rfl) (by kernel_rfl) (by kernel_rfl) (fun _ _ _ h => h) (Or.inl ⟨by rfl, ?_⟩) (by assumption) ?_
              rotate_left
              · (intro w hSw; (try dsimp only at hSw); go_simp); (try with_reducible rfl)
              try simp only [Act.put, List.setIfInBounds_toArray, List.set_cons_zero, List.set_cons_succ]
              refine wpAnyH_take (i := 15) (oi := { dst := some 112, op := Go.Op.load 2 (Go.Operand.tmp 111), type := 2, pos := "laws.go:249", after := #[{ on := 14, ground := Go.Ground.data }, { on := 11, ground := Go.Ground.guard }], guard := some (11, false) }) (v := ?_) rfl (by kernel_rfl) (by kernel_rfl) (by kernel_rfl) (fun _ _ _ h => h) (Or.inl ⟨by rfl, ?_⟩) (by assumption) ?_
              rotate_left
              · (intro w hSw; (try dsimp only at hSw); go_simp); (try with_reducible rfl)
              try simp only [Act.put, List.setIfInBounds_toArray, List.set_cons_zero, List.set_cons_succ]
              refine wpAnyH_take (i := 16) (oi := { dst := some 113, op := Go.Op.binOp Go.BinOp.neq 2 (Go.Operand.tmp 110) (Go.Operand.tmp 112) 2, type := 4, pos := "laws.go:249", after := #[{ on := 13, ground := Go.Ground.data }, { on := 15, ground := Go.Ground.data }, { on := 11, ground := Go.Ground.guard }], guard := some (11, false) }) (v := ?_) rfl (by kernel_rfl) (by kernel_rfl) (by kernel_rfl) (fun _ _ _ h => h) (Or.inl ⟨by rfl, ?_⟩) (by assumption) ?_
              rotate_left
              · (intro w hSw; (try dsimp only at hSw); go_simp); (try with_reducible rfl)
              try simp only [Act.put, List.setIfInBounds_toArray, List.set_cons_zero, List.set_cons_succ]
              refine wpAnyH_take (i := 17) (oi := { dst := some 114, op := Go.Op.pick (Go.Operand.tmp 108) (Go.Operand.const (Go.Value.bool true)) (Go.Operand.tmp 113), type := 4, pos := "laws.go:249", after := #[{ on := 11, ground := Go.Ground.data }, { on := 16, ground := Go.Ground.data }], guard := none }) (v := ?_) rfl (by kernel_rfl) (by kernel_rfl) (by kernel_rfl) (fun _ _ _ h => h) (Or.inl ⟨by rfl, ?_⟩) (by assumption) ?_
              rotate_left
              · (intro w hSw; (try dsimp only at hSw); go_simp); (try with_reducible rfl)
              try simp only [Act.put, List.setIfInBounds_toArray, List.set_cons_zero, List.set_cons_succ]
              refine wpAnyH_take (i := 18) (oi := { dst := some 115, op := Go.Op.move (Go.Operand.tmp 114), type := 4, pos := "laws.go:249", after := #[{ on := 17, ground := Go.Ground.data }, { on := 11, ground := Go.Ground.chain }], guard := none }) (v := ?_) rfl (by kernel_rfl) (by kernel_rfl) (by kernel_rfl) (fun _ _ _ h => h) (Or.inl ⟨by rfl, ?_⟩) (by assumption) ?_
              rotate_left
              · (intro w hSw; (try dsimp only at hSw); go_simp); (try with_reducible rfl)
              try simp only [Act.put, List.setIfInBounds_toArray, List.set_cons_zero, List.set_cons_succ]
              refine wpAnyH_take (i := 19) (oi := { dst := some 116, op := Go.Op.load 25 (Go.Operand.tmp 5), type := 25, pos := "laws.go:249", after := #[{ on := 18, ground := Go.Ground.guard }], guard := some (18, false) }) (v := ?_) rfl (by kernel_rfl) (by kernel_rfl) (by kernel_rfl) (fun _ _ _ h => h) (Or.inl ⟨by rfl, ?_⟩) (by assumption) ?_
              rotate_left
              · (intro w hSw; (try dsimp only at hSw); go_simp); (try with_reducible rfl)
              try simp only [Act.put, List.setIfInBounds_toArray, List.set_cons_zero, List.set_cons_succ]
              refine wpAnyH_take (i := 20) (oi := { dst := some 117, op := Go.Op.move (Go.Operand.tmp 8), type := 29, pos := "laws.go:249", after := #[{ on := 18, ground := Go.Ground.guard }], guard := some (18, false) }) (v := ?_) rfl (by kernel_rfl) (by kernel_rfl) (by kernel_rfl) (fun _ _ _ h => h) (Or.inl ⟨by rfl, ?_⟩) (by assumption) ?_
              rotate_left
              · (intro w hSw; (try dsimp only at hSw); go_simp); (try with_reducible rfl)
              try simp only [Act.put, List.setIfInBounds_toArray, List.set_cons_zero, List.set_cons_succ]
              refine wpAnyH_take (i := 21) (oi := { dst := some 118, op := Go.Op.move (Go.Operand.tmp 12), type := 3, pos := "laws.go:249", after := #[{ on := 18, ground := Go.Ground.guard }], guard := some (18, false) }) (v := ?_) rfl (by kernel_rfl) (by kernel_rfl) (by kernel_rfl) (fun _ _ _ h => h) (Or.inl ⟨by rfl, ?_⟩) (by assumption) ?_
              rotate_left
              · (intro w hSw; (try dsimp only at hSw); go_simp); (try with_reducible rfl)
              try simp only [Act.put, List.setIfInBounds_toArray, List.set_cons_zero, List.set_cons_succ]
              refine wpAnyH_take (i := 22) (oi := { dst := some 119, op := Go.Op.indexAddr 29 (Go.Operand.tmp 117) (Go.Operand.tmp 118), type := 0, pos := "laws.go:249", after := #[{ on := 20, ground := Go.Ground.data }, { on := 21, ground := Go.Ground.data }, { on := 18, ground := Go.Ground.guard }], guard := some (18, false) }) (v := ?_) rfl (by kernel_rfl) (by kernel_rfl) (by kernel_rfl) (fun _ _ _ h => h) (Or.inl ⟨by rfl, ?_⟩) (by assumption) ?_
              rotate_left
              · (intro w hSw; (try dsimp only at hSw); go_simp); (try with_reducible rfl)
              try simp only [Act.put, List.setIfInBounds_toArray, List.set_cons_zero, List.set_cons_succ]
              refine wpAnyH_take (i := 23) (oi := { dst := some 120, op := Go.Op.load 2 (Go.Operand.tmp 119), type := 2, pos := "laws.go:249", after := #[{ on := 22, ground := Go.Ground.data }, { on := 18, ground := Go.Ground.guard }], guard := some (18, false) }) (v := ?_) rfl (by kernel_rfl) (by kernel_rfl) (by kernel_rfl) (fun _ _ _ h => h) (Or.inl ⟨by rfl, ?_⟩) (by assumption) ?_
              rotate_left
              · (intro w hSw; (try dsimp only at hSw); go_simp); (try with_reducible rfl)
              try simp only [Act.put, List.setIfInBounds_toArray, List.set_cons_zero, List.set_cons_succ]
              refine wpAnyH_ready (rs := [24]) (by kernel_rfl) (by simp) ?_
              refine AllReadyH.cons (o := { dst := some 121, op := Go.Op.call { callee := Go.Callee.value (Go.Operand.func 19), args := #[Go.Operand.tmp 116, Go.Operand.tmp 120], argTypes := #[25, 2] }, type := 4, pos := "laws.go:249", after := #[{ on := 19, ground := Go.Ground.data }, { on := 23, ground := Go.Ground.data }, { on := 18, ground := Go.Ground.chain }, { on := 18, ground := Go.Ground.guard }], guard := some (18, false) }) rfl (fun K hK => ?_) AllReadyH.nil
              go_simp
              (go_at_call 19; (with_reducible refine (HCT3.out _ ?_).mono ?_); (repeat (first | assumption | exact Below.refl _ _ | refine Below.drew ?_ | refine below_drewN ?_ _)); rintro e w4 ⟨rfl, b4⟩)
              refine hK.out _ _ ?_ (fun hHeld2 => ?_)
              · (try dsimp only); (refine ⟨?_, HCE3.out _ ?_, HPX.out _ ?_⟩ <;> (repeat (first | assumption | exact Below.refl _ _ | refine Below.drew ?_ | refine below_drewN ?_ _)))
              clear hK K hHeld
              have hHeld := hHeld2
              clear hHeld2
              try simp only [Act.put, List.setIfInBounds_toArray, List.set_cons_zero, List.set_cons_succ]
              refine wpAnyH_take (i := 25) (oi := { dst := some 122, op := Go.Op.unOp Go.UnOp.not 4 (Go.Operand.tmp 121), type := 4, pos := "laws.go:249", after := #[{ on := 24, ground := Go.Ground.data }, { on := 18, ground := Go.Ground.guard }], guard := some (18, false) }) (v := ?_) rfl (by kernel_rfl) (by kernel_rfl) (by kernel_rfl) (fun _ _ _ h => h) (Or.inl ⟨by rfl, ?_⟩) (by assumption) ?_
              rotate_left
              · (intro w hSw; (try dsimp only at hSw); go_simp); (try with_reducible rfl)
              try simp only [Act.put, List.setIfInBounds_toArray, List.set_cons_zero, List.set_cons_succ]
              refine wpAnyH_take (i := 26) (oi := { dst := some 123, op := Go.Op.pick (Go.Operand.tmp 115) (Go.Operand.const (Go.Value.bool true)) (Go.Operand.tmp 122), type := 4, pos := "laws.go:249", after := #[{ on := 18, ground := Go.Ground.data }, { on := 25, ground := Go.Ground.data }], guard := none }) (v := ?_) rfl (by kernel_rfl) (by kernel_rfl) (by kernel_rfl) (fun _ _ _ h => h) (Or.inl ⟨by rfl, ?_⟩) (by assumption) ?_
              rotate_left
              · (intro w hSw; (try dsimp only at hSw); go_simp); (try with_reducible rfl)
              try simp only [Act.put, List.setIfInBounds_toArray, List.set_cons_zero, List.set_cons_succ]
              refine wpAnyH_take (i := 27) (oi := { dst := some 124, op := Go.Op.move (Go.Operand.tmp 123), type := 4, pos := "laws.go:249", after := #[{ on := 26, ground := Go.Ground.data }, { on := 24, ground := Go.Ground.chain }], guard := none }) (v := ?_) rfl (by kernel_rfl) (by kernel_rfl) (by kernel_rfl) (fun _ _ _ h => h) (Or.inl ⟨by rfl, ?_⟩) (by assumption) ?_
              rotate_left
              · (intro w hSw; (try dsimp only at hSw); go_simp); (try with_reducible rfl)
              try simp only [Act.put, List.setIfInBounds_toArray, List.set_cons_zero, List.set_cons_succ]
              refine wpAnyH_take (i := 28) (oi := { dst := some 125, op := Go.Op.move (Go.Operand.tmp 12), type := 3, pos := "laws.go:249", after := #[{ on := 27, ground := Go.Ground.guard }], guard := some (27, false) }) (v := ?_) rfl (by kernel_rfl) (by kernel_rfl) (by kernel_rfl) (fun _ _ _ h => h) (Or.inl ⟨by rfl, ?_⟩) (by assumption) ?_
              rotate_left
              · (intro w hSw; (try dsimp only at hSw); go_simp); (try with_reducible rfl)
              try simp only [Act.put, List.setIfInBounds_toArray, List.set_cons_zero, List.set_cons_succ]
              refine wpAnyH_take (i := 29) (oi := { dst := some 126, op := Go.Op.binOp Go.BinOp.gtr 3 (Go.Operand.tmp 125) (Go.Operand.const (Go.Value.int Go.IntKind.i64 0)) 3, type := 4, pos := "laws.go:249", after := #[{ on := 28, ground := Go.Ground.data }, { on := 27, ground := Go.Ground.guard }], guard := some (27, false) }) (v := ?_) rfl (by kernel_rfl) (by kernel_rfl) (by kernel_rfl) (fun _ _ _ h => h) (Or.inl ⟨by rfl, ?_⟩) (by assumption) ?_
              rotate_left
              · (intro w hSw; (try dsimp only at hSw); go_simp); (try with_reducible rfl)
              try simp only [Act.put, List.setIfInBounds_toArray, List.set_cons_zero, List.set_cons_succ]
              refine wpAnyH_take (i := 30) (oi := { dst := some 127, op := Go.Op.move (Go.Operand.tmp 126), type := 4, pos := "laws.go:249", after := #[{ on := 29, ground := Go.Ground.data }, { on := 27, ground := Go.Ground.chain }, { on := 27, ground := Go.Ground.guard }], guard := some (27, false) }) (v := ?_) rfl (by kernel_rfl) (by kernel_rfl) (by kernel_rfl) (fun _ _ _ h => h) (Or.inl ⟨by rfl, ?_⟩) (by assumption) ?_
              rotate_left
              · (intro w hSw; (try dsimp only at hSw); go_simp); (try with_reducible rfl)
              try simp only [Act.put, List.setIfInBounds_toArray, List.set_cons_zero, List.set_cons_succ]
              refine wpAnyH_take (i := 31) (oi := { dst := some 128, op := Go.Op.move (Go.Operand.tmp 8), type := 29, pos := "laws.go:249", after := #[{ on := 30, ground := Go.Ground.guard }], guard := some (30, true) }) (v := ?_) rfl (by kernel_rfl) (by kernel_rfl) (by kernel_rfl) (fun _ _ _ h => h) (Or.inl ⟨by rfl, ?_⟩) (by assumption) ?_
              rotate_left
              · (intro w hSw; (try dsimp only at hSw); go_simp); (try with_reducible rfl)
              try simp only [Act.put, List.setIfInBounds_toArray, List.set_cons_zero, List.set_cons_succ]
              refine wpAnyH_take (i := 32) (oi := { dst := some 129, op := Go.Op.move (Go.Operand.tmp 12), type := 3, pos := "laws.go:249", after := #[{ on := 30, ground := Go.Ground.guard }], guard := some (30, true) }) (v := ?_) rfl (by kernel_rfl) (by kernel_rfl) (by kernel_rfl) (fun _ _ _ h => h) (Or.inl ⟨by rfl, ?_⟩) (by assumption) ?_
              rotate_left
              · (intro w hSw; (try dsimp only at hSw); go_simp); (try with_reducible rfl)
              try simp only [Act.put, List.setIfInBounds_toArray, List.set_cons_zero, List.set_cons_succ]
              refine wpAnyH_take (i := 33) (oi := { dst := some 130, op := Go.Op.indexAddr 29 (Go.Operand.tmp 128) (Go.Operand.tmp 129), type := 0, pos := "laws.go:249", after := #[{ on := 31, ground := Go.Ground.data }, { on := 32, ground := Go.Ground.data }, { on := 30, ground := Go.Ground.guard }], guard := some (30, true) }) (v := ?_) rfl (by kernel_rfl) (by kernel_rfl) (by kernel_rfl) (fun _ _ _ h => h) (Or.inl ⟨by rfl, ?_⟩) (by assumption) ?_
              rotate_left
              · (intro w hSw; (try dsimp only at hSw); go_simp); (try with_reducible rfl)
              try simp only [Act.put, List.setIfInBounds_toArray, List.set_cons_zero, List.set_cons_succ]
              refine wpAnyH_take (i := 34) (oi := { dst := some 131, op := Go.Op.load 2 (Go.Operand.tmp 130), type := 2, pos := "laws.go:249", after := #[{ on := 33, ground := Go.Ground.data }, { on := 30, ground := Go.Ground.guard }], guard := some (30, true) }) (v := ?_) rfl (by kernel_rfl) (by kernel_rfl) (by kernel_rfl) (fun _ _ _ h => h) (Or.inl ⟨by rfl, ?_⟩) (by assumption) ?_
              rotate_left
              · (intro w hSw; (try dsimp only at hSw); go_simp); (try with_reducible rfl)
              try simp only [Act.put, List.setIfInBounds_toArray, List.set_cons_zero, List.set_cons_succ]
              refine wpAnyH_take (i := 35) (oi := { dst := some 132, op := Go.Op.move (Go.Operand.tmp 8), type := 29, pos := "laws.go:249", after := #[{ on := 30, ground := Go.Ground.guard }], guard := some (30, true) }) (v := ?_) rfl (by kernel_rfl) (by kernel_rfl) (by kernel_rfl) (fun _ _ _ h => h) (Or.inl ⟨by rfl, ?_⟩) (by assumption) ?_
              rotate_left
              · (intro w hSw; (try dsimp only at hSw); go_simp); (try with_reducible rfl)
              try simp only [Act.put, List.setIfInBounds_toArray, List.set_cons_zero, List.set_cons_succ]
              refine wpAnyH_take (i := 36) (oi := { dst := some 133, op := Go.Op.move (Go.Operand.tmp 12), type := 3, pos := "laws.go:249", after := #[{ on := 30, ground := Go.Ground.guard }], guard := some (30, true) }) (v := ?_) rfl (by kernel_rfl) (by kernel_rfl) (by kernel_rfl) (fun _ _ _ h => h) (Or.inl ⟨by rfl, ?_⟩) (by assumption) ?_
              rotate_left
              · (intro w hSw; (try dsimp only at hSw); go_simp); (try with_reducible rfl)
              try simp only [Act.put, List.setIfInBounds_toArray, List.set_cons_zero, List.set_cons_succ]
              refine wpAnyH_take (i := 37) (oi := { dst := some 134, op := Go.Op.binOp Go.BinOp.sub 3 (Go.Operand.tmp 133) (Go.Operand.const (Go.Value.int Go.IntKind.i64 1)) 3, type := 3, pos := "laws.go:249", after := #[{ on := 36, ground := Go.Ground.data }, { on := 30, ground := Go.Ground.guard }], guard := some (30, true) }) (v := ?_) rfl (by kernel_rfl) (by kernel_rfl) (by kernel_rfl) (fun _ _ _ h => h) (Or.inl ⟨by rfl, ?_⟩) (by assumption) ?_
              rotate_left
              · (intro w hSw; (try dsimp only at hSw); go_simp); (try with_reducible rfl)
              try simp only [Act.put, List.setIfInBounds_toArray, List.set_cons_zero, List.set_cons_succ]
              refine wpAnyH_take (i := 38) (oi := { dst := some 135, op := Go.Op.indexAddr 29 (Go.Operand.tmp 132) (Go.Operand.tmp 134), type := 0, pos := "laws.go:249", after := #[{ on := 35, ground := Go.Ground.data }, { on := 37, ground := Go.Ground.data }, { on := 30, ground := Go.Ground.guard }], guard := some (30, true) }) (v := ?_) rfl (by kernel_rfl) (by kernel_rfl) (by kernel_rfl) (fun _ _ _ h => h) (Or.inl ⟨by rfl, ?_⟩) (by assumption) ?_
              rotate_left
              · (intro w hSw; (try dsimp only at hSw); go_simp); (try with_reducible rfl)
              try simp only [Act.put, List.setIfInBounds_toArray, List.set_cons_zero, List.set_cons_succ]
              refine wpAnyH_take (i := 39) (oi := { dst := some 136, op := Go.Op.load 2 (Go.Operand.tmp 135), type := 2, pos := "laws.go:249", after := #[{ on := 38, ground := Go.Ground.data }, { on := 30, ground := Go.Ground.guard }], guard := some (30, true) }) (v := ?_) rfl (by kernel_rfl) (by kernel_rfl) (by kernel_rfl) (fun _ _ _ h => h) (Or.inl ⟨by rfl, ?_⟩) (by assumption) ?_
              rotate_left
              · (intro w hSw; (try dsimp only at hSw); go_simp); (try with_reducible rfl)
              try simp only [Act.put, List.setIfInBounds_toArray, List.set_cons_zero, List.set_cons_succ]
              refine wpAnyH_take (i := 40) (oi := { dst := some 137, op := Go.Op.binOp Go.BinOp.leq 2 (Go.Operand.tmp 131) (Go.Operand.tmp 136) 2, type := 4, pos := "laws.go:249", after := #[{ on := 34, ground := Go.Ground.data }, { on := 39, ground := Go.Ground.data }, { on := 30, ground := Go.Ground.guard }], guard := some (30, true) }) (v := ?_) rfl (by kernel_rfl) (by kernel_rfl) (by kernel_rfl) (fun _ _ _ h => h) (Or.inl ⟨by rfl, ?_⟩) (by assumption) ?_
              rotate_left
              · (intro w hSw; (try dsimp only at hSw); go_simp); (try with_reducible rfl)
              try simp only [Act.put, List.setIfInBounds_toArray, List.set_cons_zero, List.set_cons_succ]
              refine wpAnyH_take (i := 41) (oi := { dst := some 138, op := Go.Op.pick (Go.Operand.tmp 127) (Go.Operand.tmp 137) (Go.Operand.const (Go.Value.bool false)), type := 4, pos := "laws.go:249", after := #[{ on := 30, ground := Go.Ground.data }, { on := 40, ground := Go.Ground.data }, { on := 27, ground := Go.Ground.guard }], guard := some (27, false) }) (v := ?_) rfl (by kernel_rfl) (by kernel_rfl) (by kernel_rfl) (fun _ _ _ h => h) (Or.inl ⟨by rfl, ?_⟩) (by assumption) ?_
              rotate_left
              · (intro w hSw; (try dsimp only at hSw); go_simp); (try with_reducible rfl)
              try simp only [Act.put, List.setIfInBounds_toArray, List.set_cons_zero, List.set_cons_succ]
              refine wpAnyH_take (i := 42) (oi := { dst := some 139, op := Go.Op.pick (Go.Operand.tmp 124) (Go.Operand.const (Go.Value.bool true)) (Go.Operand.tmp 138), type := 4, pos := "laws.go:249", after := #[{ on := 27, ground := Go.Ground.data }, { on := 41, ground := Go.Ground.data }], guard := none }) (v := ?_) rfl (by kernel_rfl) (by kernel_rfl) (by kernel_rfl) (fun _ _ _ h => h) (Or.inl ⟨by rfl, ?_⟩) (by assumption) ?_
              rotate_left
              · (intro w hSw; (try dsimp only at hSw); go_simp); (try with_reducible rfl)
              try simp only [Act.put, List.setIfInBounds_toArray, List.set_cons_zero, List.set_cons_succ]
              refine wpAnyH_done (by kernel_rfl) ?_ _
              (go_wp2_with fail; go_meet)
              exact ⟨rfl, b4⟩
          case rest =>
            obtain ⟨rfl, b4⟩ := hcut
            have hb5 := hb3.trans (b4.mono hb3.size)
            clear HCE HCE3 HCT3 HPR HUP HTE HU1 NX3 hb3 b4 e0 e1 e2
            have hV5 := V.below hb5
            have hI5 := HLI.out.below hb5
            have hR5 := hr1.below hb5
            have hB5 := hb.trans (hb5.mono hb.size)
            clear V HLI hr1 hb c0 c1 cx hb5
            go_wp2
            go_roundw
            case rel => exact ⟨k + 1, by omega, by go_num, hV5, hI5, hR5, hB5⟩
            case measure => simp [intOf]; omega
      · obtain rfl : k = L.length := by omega
        have hok := HOK.out
        have HNX := Lib.hid (fun (t : Nat) W (ht : t ≤ 20) => show Calls Tryd.prog 17 #[.agg #[.int .i64 h, .int .i64 m], .int .i64 t] W fun e w' => ∃ x y, e = .returned (.tuple #[.agg #[.int .i64 x, .int .i64 y], .int .i64 (if canI h m (t : Int) then 0 else 6)]) ∧ Below W.heap.size W w' from by
          have := nextState_impl h m t W (by omega) (by omega) (by omega) (by omega)
          rw [nxtC, if_pos hok, Int.toNat_natCast, Int.toNat_natCast] at this
          exact this.mono fun e w' ⟨h1, h2⟩ => ⟨_, _, h1, h2⟩)
        have HCX := Lib.hid (fun (t : Nat) W (ht : t ≤ 20) => show Calls Tryd.prog 19 #[.agg #[.int .i64 h, .int .i64 m], .int .i64 t] W fun e w' => e = .returned (.bool (canI h m (t : Int))) ∧ Below W.heap.size W w' from by
          have := canThrow_impl h m t W (by omega) (by omega) (by omega) (by omega)
          rwa [canS, hok, Bool.true_and, Int.toNat_natCast, Int.toNat_natCast] at this)
        clear HC HU HCL HTX HRD HTF hl hz0 hok HPI HOK HM hk hlt
        go_wp2
        go_loopw [17] (fun i wr2 => ∃ t : Nat, t ≤ h + 2 ∧ i = .int .i64 t ∧ StTwo wr2 wd1.heap.size (.int .i64 h) (.int .i64 m) ∧ IsRow .u8 wr2 a1 len1 cap1 z1 ∧ Below w'.heap.size w' wr2) (fun i _ => h + 2 - (intOf i).toNat)
        case atStart => exact ⟨0, Nat.zero_le _, rfl, V, hr1, hb⟩
        case round =>
          clear V hr1 hb c0 c1
          obtain ⟨t, ht, rfl, V, hr1, hb⟩ := hrel
          have c0 := V.1
          have c1 := V.2
          by_cases hlt : t ≤ h + 1
          · have HN := HNX.out t wr (by omega)
            have HC := fun W => HCX.out t W (by omega)
            clear HNX HCX
            cases hcan : canI h m (t : Int) with
            | true =>
              rw [hcan] at HN HC
              simp only [if_true] at HN
              clear hcan
              go_wp2_with fail
              refine HN.mono ?_
              rintro e w2 ⟨x, y, rfl, b2⟩
              have hb2 := hb.trans (b2.mono hb.size)
              have V2 := V.below b2
              have r2 := hr1.below b2
              have al := alT w2 (.int .i64 x) (.int .i64 y) 25
              have V3 := V2.below al
              have r3 := r2.below al
              have hb3 := hb2.trans (al.mono hb2.size)
              clear HN b2 V V2 r2 hr1 hb hb2 al c0 c1
              have c0 := V3.1
              have c1 := V3.2
              go_wp2_with fail
              refine (HC _).mono ?_
              rintro e w4 ⟨rfl, b4⟩
              have V4 := V3.below b4
              have r4 := r3.below b4
              have hb4 := hb3.trans (b4.mono hb3.size)
              clear HC V3 r3 hb3 b4 c0 c1
              go_wp2
              go_roundw
              case rel => exact ⟨t + 1, by omega, by go_num, V4, r4, hb4⟩
              case measure => simp [intOf]; omega
            | false =>
              rw [hcan] at HN HC
              simp only [Bool.false_eq_true, if_false] at HN
              clear hcan
              go_wp2_with fail
              refine HN.mono ?_
              rintro e w2 ⟨x, y, rfl, b2⟩
              have hb2 := hb.trans (b2.mono hb.size)
              have V2 := V.below b2
              have r2 := hr1.below b2
              have al := alT w2 (.int .i64 x) (.int .i64 y) 25
              have V3 := V2.below al
              have r3 := r2.below al
              have hb3 := hb2.trans (al.mono hb2.size)
              clear HN b2 V V2 r2 hr1 hb hb2 al c0 c1
              have c0 := V3.1
              have c1 := V3.2
              go_wp2_with fail
              refine (HC _).mono ?_
              rintro e w4 ⟨rfl, b4⟩
              have V4 := V3.below b4
              have r4 := r3.below b4
              have hb4 := hb3.trans (b4.mono hb3.size)
              clear HC V3 r3 hb3 b4 c0 c1
              go_wp2
              go_roundw
              case rel => exact ⟨t + 1, by omega, by go_num, V4, r4, hb4⟩
              case measure => simp [intOf]; omega
          · have hgt : ¬ ((t : Int) ≤ (h : Int) + 1) := by omega
            clear HNX HCX
            go_wp2_with fail
            refine (a2Low_any a1 len1 cap1 z1 _ hr1 hb1).mono ?_
            rintro e w3 ⟨v, p, rfl, ip, hokp, hhi, b3⟩
            have hb3 := hb.trans (b3.mono hb.size)
            clear V hr1 hb c0 c1 b3 hgt hlt ht
            obtain ⟨l1, l2⟩ := okPat_len hokp
            have hab := highA_bound hokp
            obtain ⟨a, ha⟩ : ∃ a : Nat, highA p = a := ⟨(highA p).toNat, by omega⟩
            obtain ⟨e0, e1, e2⟩ := low_all hokp ha (by omega)
            obtain ⟨pg, pc, rfl, q1, q2, q3, q4⟩ := ip.shape2 l1
            clear q1 q3 q4
            have hokS : okSt ((a + 1 : Nat) : Int) (lowM p a 0 : Nat) = true := okSt_mk (by omega) (by omega) (e1 0 (by omega)).2.2.2.2.2
            have hfit : Fit p := fun x hx => by
              obtain ⟨i, hi, rfl⟩ := List.getElem_of_mem hx
              have := e1 i hi
              rw [getD_in hi] at this
              omega
            have hM0 : lowM p a 0 < 1024 := Nat.lt_of_lt_of_le (e1 0 (by omega)).2.2.2.2.2 (pow_lt_1024 (by omega))
            have HOF := Lib.hid (fun W (hW : Below w3.heap.size w3 W) => show Calls Tryd.prog 22 #[.slice (some ⟨pg, 0, none⟩) p.length pc, .int .i64 ((a : Int) + 1)] W fun e w' => ∃ u, e = .returned (.tuple #[u, .int .i64 0]) ∧ Sts w' W.heap.size u (ofL p (a + 1)) ∧ Below W.heap.size W w' from by
              have := statesOf_impl _ _ p ((a : Int) + 1) W (ip.below hW)
              rw [e0, ofLA, if_pos e0, show ((a : Int) + 1).toNat = a + 1 from by omega] at this
              exact this)
            have HHI := Lib.hid (fun W (hW : Below w3.heap.size w3 W) => show Calls Tryd.prog 21 #[.slice (some ⟨pg, 0, none⟩) p.length pc] W fun e w' => e = .returned (.tuple #[.int .i64 a, .int .i64 0]) ∧ Below W.heap.size W w' from by
              have := highestOf_spec _ _ p W (ip.below hW)
              rwa [okC_true hokp, ha] at this)
            have HPO := Lib.hid (fun W (hW : Below w3.heap.size w3 W) => show Calls Tryd.prog 23 #[.slice (some ⟨pg, 0, none⟩) p.length pc] W fun e w' => e = .returned (.tuple #[.int .i64 (propsA p), .int .i64 0]) ∧ Below W.heap.size W w' from by
              have := propsOf_spec _ _ p W (ip.below hW)
              rwa [okC_true hokp] at this)
            have HRT := Lib.hid (fun W (hW : Below w3.heap.size w3 W) => show Calls Tryd.prog 25 #[.agg #[.int .i64 ((a + 1 : Nat) : Int), .int .i64 (lowM p a 0 : Nat)], .slice (some ⟨pg, 0, none⟩) p.length pc] W fun e w' => e = .returned (.tuple #[.agg #[.int .i64 ((a + 1 : Nat) : Int), .int .i64 (lowM p a 0 : Nat)], .int .i64 p.length, .int .i64 0]) ∧ Below W.heap.size W w' from by
              have := runThrows_impl ((a + 1 : Nat) : Int) (lowM p a 0 : Nat) _ _ p W (by omega) (by omega) (ip.below hW) hfit (by omega)
              rw [runH, runM, runN, runC, if_pos hokS, if_pos hokS, if_pos hokS, if_pos hokS, Int.toNat_natCast, Int.toNat_natCast, e2] at this
              exact this)
            have HCP := fun W (hW : Below w3.heap.size w3 W) i (hi : i < p.length) => (ip.below hW).cell i hi
            have hsl := ofL_len p (a + 1)
            have HAT := fun k (hk : k < p.length) => ofL_at p (a + 1) k hk
            have ha7 : a ≤ 7 := by omega
            clear hokS hfit hM0 hokp e0 e2 hab hhi ip ha
            have E1 := Lib.hid e1
            have HCP := Lib.hid HCP
            have HAT := Lib.hid HAT
            clear e1
            go_wp2_with fail
            with_reducible refine (HHI.out _ (Below.refl _ _)).mono ?_
            rintro e w4 ⟨rfl, b4⟩
            clear HHI
            go_wp2_with fail
            with_reducible refine (HOF.out _ b4).mono ?_
            rintro e w5 ⟨u, rfl, is, b5⟩
            have b5 := b4.trans (b5.mono b4.size)
            clear HOF b4
            obtain ⟨sg, sc, hu, x1, x2, x3, x4⟩ := is.shape2 (by omega)
            rw [hsl] at hu
            subst hu
            go_wp2_with fail
            with_reducible refine (HPO.out _ b5).mono ?_
            rintro e w6 ⟨rfl, b6⟩
            have is6 := is.below b6
            have b6 := b5.trans (b6.mono b5.size)
            have hb6 := hb3.trans (b6.mono hb3.size)
            clear HPO b5 is x1 x3 x4
            have HCS := Lib.hid (fun W (hW : Below w6.heap.size w6 W) i (hi : i < p.length) => show W.cell? ⟨sg, i * 2, none⟩ = some (.int .i64 ((a + 1 : Nat) : Int)) ∧ W.cell? ⟨sg, i * 2 + 1, none⟩ = some (.int .i64 (lowM p a i : Nat)) from by
              have := (is6.below hW).twoS i (by rw [hsl]; exact hi)
              rw [HAT.out i hi] at this
              exact this)
            have HCP6 := Lib.hid (fun W (hW : Below w6.heap.size w6 W) i (hi : i < p.length) => HCP.out W (b6.trans (hW.mono b6.size)) i hi)
            have HRT6 := Lib.hid (fun W (hW : Below w6.heap.size w6 W) => (HRT.out W (b6.trans (hW.mono b6.size))))
            have BB6 := Below.refl w6.heap.size w6
            clear HCP HRT HAT is6 hsl b6 hb3
            generalize propsA p = P at *
            have hPn : ((p.length : Int) == 0) = false := beq_eq_false_iff_ne.2 (by omega)
            generalize lowM p a = M at *
            generalize hbb : a + 1 = b at E1 HCS HRT6
            have hb1 : 1 ≤ b := by omega
            have hb8 : b ≤ 8 := by omega
            have hn0 : (p.length : Int) ≠ 0 := by omega
            clear hbb
            generalize p.length = n at *
            go_wp2
            go_loopw [28] (fun i wr => ∃ k : Nat, k ≤ n ∧ i = .int .i64 k ∧ Below w6.heap.size w6 wr) (fun i _ => n - (intOf i).toNat)
            case atStart => exact ⟨0, Nat.zero_le _, rfl, BB6⟩
            case round =>
              obtain ⟨k, hk, rfl, hb⟩ := hrel
              by_cases hlt : k < n
              · obtain ⟨f1, f2, f3, f4, f5, f6⟩ := E1.out k hlt
                obtain ⟨t, ht⟩ : ∃ t : Nat, p.getD k 0 = t := ⟨(p.getD k 0).toNat, by omega⟩
                obtain ⟨j, hj⟩ : ∃ j, (k + 1) % n = j := ⟨_, rfl⟩
                have hjn : j < n := by rw [← hj]; exact Nat.mod_lt _ (by omega)
                rw [ht] at f1 f2 f5
                rw [hj, Int.toNat_natCast] at f2
                have cp := HCP6.out wr hb k hlt
                rw [ht] at cp
                obtain ⟨cs0, cs1⟩ := HCS.out wr hb k hlt
                have hMk : M k < 1024 := Nat.lt_of_lt_of_le f6 (pow_lt_1024 (by omega))
                have hMj : M j < 1024 := Nat.lt_of_lt_of_le (E1.out j hjn).2.2.2.2.2 (pow_lt_1024 (by omega))
                have hokk : okSt (b : Int) (M k : Nat) = true := okSt_mk hb1 (by omega) f6
                have hcs : canS (b : Int) (M k : Nat) (t : Int) = true := by rw [canS, hokk, Int.toNat_natCast, Int.toNat_natCast, f1]; rfl
                have HN0 : ∀ W : World, Calls Tryd.prog 24 #[.agg #[.int .i64 b, .int .i64 (M k : Nat)], .int .i64 t] W fun e w' => e = .returned (.tuple #[.agg #[.int .i64 b, .int .i64 (M j : Nat)], .int .i64 0]) ∧ Below W.heap.size W w' := fun W => by
                  have := nextState_spec b (M k : Nat) t W (by omega) (by omega)
                  rw [nxtH, nxtM, nxtC, if_pos hcs, if_pos hcs, if_pos hokk] at this
                  simp only [Int.toNat_natCast] at this
                  rwa [if_pos f1, f2] at this
                have HN := Lib.hid (fun W (hW : Below wr.heap.size wr W) => (HN0 W).mono fun e w' (h : e = Ending.returned (.tuple #[.agg #[.int .i64 b, .int .i64 (M j : Nat)], .int .i64 0]) ∧ Below W.heap.size W w') => (⟨h.1, hW.trans (h.2.mono hW.size)⟩ : e = Ending.returned (.tuple #[.agg #[.int .i64 b, .int .i64 (M j : Nat)], .int .i64 0]) ∧ Below wr.heap.size wr w'))
                have HNA := Lib.hid (fun W (hW : Below wr.heap.size wr W) (hB : Blk W wr.heap.size [.int .i64 0, .int .i64 0] 25) => (HN0 W).mono fun e w' (h : e = Ending.returned (.tuple #[.agg #[.int .i64 b, .int .i64 (M j : Nat)], .int .i64 0]) ∧ Below W.heap.size W w') => (⟨h.1, hW.trans (h.2.mono hW.size), (hB.below h.2 hB.lt).cell 0, (hB.below h.2 hB.lt).cell 1, (hB.below h.2 hB.lt).free 0, (hB.below h.2 hB.lt).free 1⟩ : e = Ending.returned (.tuple #[.agg #[.int .i64 b, .int .i64 (M j : Nat)], .int .i64 0]) ∧ Below wr.heap.size wr w' ∧ w'.cell? ⟨wr.heap.size, 0, none⟩ = some (.int .i64 0) ∧ w'.cell? ⟨wr.heap.size, 1, none⟩ = some (.int .i64 0) ∧ w'.frozen? ⟨wr.heap.size, 0, none⟩ = false ∧ w'.frozen? ⟨wr.heap.size, 1, none⟩ = false))
                have HPS : ∀ W : World, Calls Tryd.prog 18 #[.agg #[.int .i64 b, .int .i64 (M k : Nat)]] W fun e w' => e = .returned (.tuple #[.int .i64 P, .int .i64 0]) ∧ Below W.heap.size W w' := fun W => by
                  have := propsIn_spec b (M k : Nat) W
                  rwa [if_pos hokk, stC_true hokk, Int.toNat_natCast, f3] at this
                have HCE := Lib.hid (fun W (hW : Below wr.heap.size wr W) => show W.cell? ⟨sg, k * 2, none⟩ = some (.int .i64 b) ∧ W.cell? ⟨sg, k * 2 + 1, none⟩ = some (.int .i64 (M k : Nat)) ∧ W.cell? ⟨pg, k, none⟩ = some (.int .i64 t) from
                  ⟨(hW.cell (p := ⟨_, _, none⟩) (cell_block cs0)).trans cs0, (hW.cell (p := ⟨_, _, none⟩) (cell_block cs1)).trans cs1, (hW.cell (p := ⟨_, _, none⟩) (cell_block cp)).trans cp⟩)
                have HJ := Lib.hid hj
                have BW := Below.refl wr.heap.size wr
                clear f1 f2 f3 f4 f5 f6 hokk hcs HN0 ht hj
                have HZ := Lib.hid (fun W (hW : Below w6.heap.size w6 W) => HCS.out W hW j hjn)
                generalize M k = mk at *
                generalize M j = mj at *
                go_upto_region 32 with fail
                go_cut [29, 30] (fun p e wx => ∃ nb : Nat, p = .pointer (some ⟨nb, 0, none⟩) ∧ e = .int .i64 0 ∧ wr.heap.size ≤ nb ∧ StTwo wx nb (.int .i64 b) (.int .i64 mj) ∧ Below wr.heap.size wr wx)
                case first =>
                  go_region_held3 (fun W => Below wr.heap.size wr W ∧ W.cell? ⟨sg, k * 2, none⟩ = some (.int .i64 b) ∧ W.cell? ⟨sg, k * 2 + 1, none⟩ = some (.int .i64 mk) ∧ W.cell? ⟨pg, k, none⟩ = some (.int .i64 t)) (refine ⟨?_, HCE.out _ ?_⟩ <;> (repeat (first | assumption | exact Below.refl _ _ | refine Below.drew ?_ | refine below_drewN ?_ _ | refine bel_alSt ?_ _ | refine Below.setCell ?_ (by simp) _))) (first | (go_at_call 24; (with_reducible refine (HNA.out _ ?_ ?hB).mono ?_); (case hB => exact Blk.made _ _ _); (repeat (first | assumption | exact Below.refl _ _ | refine Below.drew ?_ | refine below_drewN ?_ _ | refine bel_alSt ?_ _ | refine Below.setCell ?_ (by simp) _)); rintro e w2 ⟨rfl, b2, e0, e1, f0, f1⟩) | (go_at_call 24; (with_reducible refine (HN.out _ ?_).mono ?_); (repeat (first | assumption | exact Below.refl _ _ | refine Below.drew ?_ | refine below_drewN ?_ _ | refine bel_alSt ?_ _ | refine Below.setCell ?_ (by simp) _)); rintro e w2 ⟨rfl, b2⟩))
                  all_goals (go_wp2_with fail; go_meet)
                  · exact ⟨_, rfl, rfl, b2.size, StTwo.made _ _ _ _, bel_alSt b2 _⟩
                  · exact ⟨_, rfl, rfl, Nat.le_refl _, stc_set _ _ e0 e1, two_below b2 (Nat.le_refl _) _ _⟩
                case rest =>
                  obtain ⟨nb, rfl, rfl, hnb, NX, hbx⟩ := hcut
                  have n0 := NX.1
                  have n1 := NX.2
                  obtain ⟨y0, y1, y2⟩ := HCE.out _ hbx
                  clear HN HNA
                  go_wp2_with fail
                  with_reducible refine (HPS _).mono ?_
                  rintro e w7 ⟨rfl, b7⟩
                  have hb7 := hbx.trans (b7.mono hbx.size)
                  have hb8' := hb.trans (hb7.mono hb.size)
                  have NX3 := NX.below b7
                  clear n0 n1 NX hbx b7 HPS y0 y1 y2 HCE cs0 cs1 cp
                  have n0 := NX3.1
                  have n1 := NX3.2
                  obtain ⟨z0, z1⟩ := HZ.out _ hb8'
                  clear HZ
                  clear NX3 hb hb7
                  obtain ⟨jj, hjj⟩ : ∃ jj : Int, jj = (j : Int) := ⟨_, rfl⟩
                  have hjt : jj.toNat = j := by omega
                  rw [← hjt] at z0 z1
                  have m1 : ((k : Int) + 1) % (n : Int) = jj := by rw [hjj, ← HJ.out]; simp
                  have m2 : ((k : Int) + 1).tmod (n : Int) = jj := by rw [Int.tmod_eq_emod_of_nonneg (by omega)]; exact m1
                  have m3 : IntKind.i64.wrap ((k : Int) + 1) = (k : Int) + 1 := IntWalk.i64_in _ (by omega)
                  have m4 : (0 : Int) ≤ jj := by omega
                  have m5 : jj < (n : Int) := by omega
                  have m6 : IntKind.i64.wrap jj = jj := IntWalk.i64_in _ (by omega)
                  have m7 : n ≠ 0 := by omega
                  have m8 : 0 < n := by omega
                  clear hjj hjt HJ
                  have hb9 := Lib.hid hb8'
                  clear hb8'
                  go_wp2
                  refine wp_region_held_drew (S := (fun W => W.cell? ⟨nb, 0, none⟩ = some (.int .i64 b) ∧ W.cell? ⟨nb, 1, none⟩ = some (.int .i64 mj) ∧ W.cell? ⟨sg, jj.toNat * 2, none⟩ = some (.int .i64 b) ∧ W.cell? ⟨sg, jj.toNat * 2 + 1, none⟩ = some (.int .i64 mj))) (by kernel_rfl) ?_ (fun hHeld => ?_)
                  · (try dsimp only); exact ⟨n0, n1, z0, z1⟩
                  refine wpAnyH_take (i := 0) (oi := { dst := some 214, op := Go.Op.move (Go.Operand.tmp 30), type := 2, pos := "laws.go:270", after := #[], guard := none }) (v := ?_) rfl (by kernel_rfl) (by kernel_rfl) (by kernel_rfl) (fun _ _ _ h => h) (Or.inl ⟨by rfl, ?_⟩) (by assumption) ?_
                  rotate_left
                  · (intro w hSw; (try dsimp only at hSw); go_simp); (try with_reducible rfl)
                  try simp only [Act.put, List.setIfInBounds_toArray, List.set_cons_zero, List.set_cons_succ]
                  refine wpAnyH_take (i := 1) (oi := { dst := some 215, op := Go.Op.binOp Go.BinOp.neq 2 (Go.Operand.tmp 214) (Go.Operand.const (Go.Value.int Go.IntKind.i64 0)) 2, type := 4, pos := "laws.go:270", after := #[{ on := 0, ground := Go.Ground.data }], guard := none }) (v := ?_) rfl (by kernel_rfl) (by kernel_rfl) (by kernel_rfl) (fun _ _ _ h => h) (Or.inl ⟨by rfl, ?_⟩) (by assumption) ?_
                  rotate_left
                  · (intro w hSw; (try dsimp only at hSw); go_simp); (try with_reducible rfl)
                  try simp only [Act.put, List.setIfInBounds_toArray, List.set_cons_zero, List.set_cons_succ]
                  refine wpAnyH_take (i := 2) (oi := { dst := some 216, op := Go.Op.move (Go.Operand.tmp 215), type := 4, pos := "laws.go:270", after := #[{ on := 1, ground := Go.Ground.data }], guard := none }) (v := ?_) rfl (by kernel_rfl) (by kernel_rfl) (by kernel_rfl) (fun _ _ _ h => h) (Or.inl ⟨by rfl, ?_⟩) (by assumption) ?_
                  rotate_left
                  · (intro w hSw; (try dsimp only at hSw); go_simp); (try with_reducible rfl)
                  try simp only [Act.put, List.setIfInBounds_toArray, List.set_cons_zero, List.set_cons_succ]
                  refine wpAnyH_take (i := 3) (oi := { dst := some 217, op := Go.Op.move (Go.Operand.tmp 32), type := 2, pos := "laws.go:270", after := #[{ on := 2, ground := Go.Ground.guard }], guard := some (2, false) }) (v := ?_) rfl (by kernel_rfl) (by kernel_rfl) (by kernel_rfl) (fun _ _ _ h => h) (Or.inl ⟨by rfl, ?_⟩) (by assumption) ?_
                  rotate_left
                  · (intro w hSw; (try dsimp only at hSw); go_simp); (try with_reducible rfl)
                  try simp only [Act.put, List.setIfInBounds_toArray, List.set_cons_zero, List.set_cons_succ]
                  refine wpAnyH_take (i := 4) (oi := { dst := some 218, op := Go.Op.binOp Go.BinOp.neq 2 (Go.Operand.tmp 217) (Go.Operand.const (Go.Value.int Go.IntKind.i64 0)) 2, type := 4, pos := "laws.go:270", after := #[{ on := 3, ground := Go.Ground.data }, { on := 2, ground := Go.Ground.guard }], guard := some (2, false) }) (v := ?_) rfl (by kernel_rfl) (by kernel_rfl) (by kernel_rfl) (fun _ _ _ h => h) (Or.inl ⟨by rfl, ?_⟩) (by assumption) ?_
                  rotate_left
                  · (intro w hSw; (try dsimp only at hSw); go_simp); (try with_reducible rfl)
                  try simp only [Act.put, List.setIfInBounds_toArray, List.set_cons_zero, List.set_cons_succ]
                  refine wpAnyH_take (i := 5) (oi := { dst := some 219, op := Go.Op.pick (Go.Operand.tmp 216) (Go.Operand.const (Go.Value.bool true)) (Go.Operand.tmp 218), type := 4, pos := "laws.go:270", after := #[{ on := 2, ground := Go.Ground.data }, { on := 4, ground := Go.Ground.data }], guard := none }) (v := ?_) rfl (by kernel_rfl) (by kernel_rfl) (by kernel_rfl) (fun _ _ _ h => h) (Or.inl ⟨by rfl, ?_⟩) (by assumption) ?_
                  rotate_left
                  · (intro w hSw; (try dsimp only at hSw); go_simp); (try with_reducible rfl)
                  try simp only [Act.put, List.setIfInBounds_toArray, List.set_cons_zero, List.set_cons_succ]
                  refine wpAnyH_take (i := 6) (oi := { dst := some 220, op := Go.Op.move (Go.Operand.tmp 219), type := 4, pos := "laws.go:270", after := #[{ on := 5, ground := Go.Ground.data }, { on := 2, ground := Go.Ground.chain }], guard := none }) (v := ?_) rfl (by kernel_rfl) (by kernel_rfl) (by kernel_rfl) (fun _ _ _ h => h) (Or.inl ⟨by rfl, ?_⟩) (by assumption) ?_
                  rotate_left
                  · (intro w hSw; (try dsimp only at hSw); go_simp); (try with_reducible rfl)
                  try simp only [Act.put, List.setIfInBounds_toArray, List.set_cons_zero, List.set_cons_succ]
                  refine wpAnyH_take (i := 7) (oi := { dst := some 221, op := Go.Op.move (Go.Operand.tmp 31), type := 2, pos := "laws.go:270", after := #[{ on := 6, ground := Go.Ground.guard }], guard := some (6, false) }) (v := ?_) rfl (by kernel_rfl) (by kernel_rfl) (by kernel_rfl) (fun _ _ _ h => h) (Or.inl ⟨by rfl, ?_⟩) (by assumption) ?_
                  rotate_left
                  · (intro w hSw; (try dsimp only at hSw); go_simp); (try with_reducible rfl)
                  try simp only [Act.put, List.setIfInBounds_toArray, List.set_cons_zero, List.set_cons_succ]
                  refine wpAnyH_take (i := 8) (oi := { dst := some 222, op := Go.Op.move (Go.Operand.tmp 26), type := 2, pos := "laws.go:270", after := #[{ on := 6, ground := Go.Ground.guard }], guard := some (6, false) }) (v := ?_) rfl (by kernel_rfl) (by kernel_rfl) (by kernel_rfl) (fun _ _ _ h => h) (Or.inl ⟨by rfl, ?_⟩) (by assumption) ?_
                  rotate_left
                  · (intro w hSw; (try dsimp only at hSw); go_simp); (try with_reducible rfl)
                  try simp only [Act.put, List.setIfInBounds_toArray, List.set_cons_zero, List.set_cons_succ]
                  refine wpAnyH_take (i := 9) (oi := { dst := some 223, op := Go.Op.binOp Go.BinOp.neq 2 (Go.Operand.tmp 221) (Go.Operand.tmp 222) 2, type := 4, pos := "laws.go:270", after := #[{ on := 7, ground := Go.Ground.data }, { on := 8, ground := Go.Ground.data }, { on := 6, ground := Go.Ground.guard }], guard := some (6, false) }) (v := ?_) rfl (by kernel_rfl) (by kernel_rfl) (by kernel_rfl) (fun _ _ _ h => h) (Or.inl ⟨by rfl, ?_⟩) (by assumption) ?_
                  rotate_left
                  · (intro w hSw; (try dsimp only at hSw); go_simp); (try with_reducible rfl)
                  try simp only [Act.put, List.setIfInBounds_toArray, List.set_cons_zero, List.set_cons_succ]
                  refine wpAnyH_take (i := 10) (oi := { dst := some 224, op := Go.Op.pick (Go.Operand.tmp 220) (Go.Operand.const (Go.Value.bool true)) (Go.Operand.tmp 223), type := 4, pos := "laws.go:270", after := #[{ on := 6, ground := Go.Ground.data }, { on := 9, ground := Go.Ground.data }], guard := none }) (v := ?_) rfl (by kernel_rfl) (by kernel_rfl) (by kernel_rfl) (fun _ _ _ h => h) (Or.inl ⟨by rfl, ?_⟩) (by assumption) ?_
                  rotate_left
                  · (intro w hSw; (try dsimp only at hSw); go_simp); (try with_reducible rfl)
                  try simp only [Act.put, List.setIfInBounds_toArray, List.set_cons_zero, List.set_cons_succ]
                  refine wpAnyH_take (i := 11) (oi := { dst := some 225, op := Go.Op.move (Go.Operand.tmp 224), type := 4, pos := "laws.go:270", after := #[{ on := 10, ground := Go.Ground.data }, { on := 6, ground := Go.Ground.chain }], guard := none }) (v := ?_) rfl (by kernel_rfl) (by kernel_rfl) (by kernel_rfl) (fun _ _ _ h => h) (Or.inl ⟨by rfl, ?_⟩) (by assumption) ?_
                  rotate_left
                  · (intro w hSw; (try dsimp only at hSw); go_simp); (try with_reducible rfl)
                  try simp only [Act.put, List.setIfInBounds_toArray, List.set_cons_zero, List.set_cons_succ]
                  refine wpAnyH_take (i := 12) (oi := { dst := some 226, op := Go.Op.load 25 (Go.Operand.tmp 29), type := 25, pos := "laws.go:270", after := #[{ on := 11, ground := Go.Ground.guard }], guard := some (11, false) }) (v := ?_) rfl (by kernel_rfl) (by kernel_rfl) (by kernel_rfl) (fun _ _ _ h => h) (Or.inl ⟨by rfl, ?_⟩) (by assumption) ?_
                  rotate_left
                  · (intro w hSw; (try dsimp only at hSw); go_simp); (try with_reducible rfl)
                  try simp only [Act.put, List.setIfInBounds_toArray, List.set_cons_zero, List.set_cons_succ]
                  refine wpAnyH_take (i := 13) (oi := { dst := some 227, op := Go.Op.move (Go.Operand.tmp 24), type := 40, pos := "laws.go:270", after := #[{ on := 11, ground := Go.Ground.guard }], guard := some (11, false) }) (v := ?_) rfl (by kernel_rfl) (by kernel_rfl) (by kernel_rfl) (fun _ _ _ h => h) (Or.inl ⟨by rfl, ?_⟩) (by assumption) ?_
                  rotate_left
                  · (intro w hSw; (try dsimp only at hSw); go_simp); (try with_reducible rfl)
                  try simp only [Act.put, List.setIfInBounds_toArray, List.set_cons_zero, List.set_cons_succ]
                  refine wpAnyH_take (i := 14) (oi := { dst := some 228, op := Go.Op.move (Go.Operand.tmp 28), type := 3, pos := "laws.go:270", after := #[{ on := 11, ground := Go.Ground.guard }], guard := some (11, false) }) (v := ?_) rfl (by kernel_rfl) (by kernel_rfl) (by kernel_rfl) (fun _ _ _ h => h) (Or.inl ⟨by rfl, ?_⟩) (by assumption) ?_
                  rotate_left
                  · (intro w hSw; (try dsimp only at hSw); go_simp); (try with_reducible rfl)
                  try simp only [Act.put, List.setIfInBounds_toArray, List.set_cons_zero, List.set_cons_succ]
                  refine wpAnyH_take (i := 15) (oi := { dst := some 229, op := Go.Op.binOp Go.BinOp.add 3 (Go.Operand.tmp 228) (Go.Operand.const (Go.Value.int Go.IntKind.i64 1)) 3, type := 3, pos := "laws.go:270", after := #[{ on := 14, ground := Go.Ground.data }, { on := 11, ground := Go.Ground.guard }], guard := some (11, false) }) (v := ?_) rfl (by kernel_rfl) (by kernel_rfl) (by kernel_rfl) (fun _ _ _ h => h) (Or.inl ⟨by rfl, ?_⟩) (by assumption) ?_
                  rotate_left
                  · (intro w hSw; (try dsimp only at hSw); go_simp); (try with_reducible rfl)
                  try simp only [Act.put, List.setIfInBounds_toArray, List.set_cons_zero, List.set_cons_succ]
                  refine wpAnyH_take (i := 16) (oi := { dst := some 230, op := Go.Op.move (Go.Operand.tmp 20), type := 29, pos := "laws.go:270", after := #[{ on := 11, ground := Go.Ground.guard }], guard := some (11, false) }) (v := ?_) rfl (by kernel_rfl) (by kernel_rfl) (by kernel_rfl) (fun _ _ _ h => h) (Or.inl ⟨by rfl, ?_⟩) (by assumption) ?_
                  rotate_left
                  · (intro w hSw; (try dsimp only at hSw); go_simp); (try with_reducible rfl)
                  try simp only [Act.put, List.setIfInBounds_toArray, List.set_cons_zero, List.set_cons_succ]
                  refine wpAnyH_ready (rs := [17]) (by kernel_rfl) (by simp) ?_
                  refine AllReadyH.cons (o := { dst := some 231, op := Go.Op.call { callee := Go.Callee.builtin Go.Builtin.len, args := #[Go.Operand.tmp 230], argTypes := #[29] }, type := 3, pos := "laws.go:270", after := #[{ on := 16, ground := Go.Ground.data }, { on := 11, ground := Go.Ground.guard }], guard := some (11, false) }) rfl (fun K hK => ?_) AllReadyH.nil
                  go_simp
                  refine hK.out _ _ ?_ (fun hHeld2 => ?_)
                  · (try dsimp only); exact ⟨n0, n1, z0, z1⟩
                  clear hK K hHeld
                  have hHeld := hHeld2
                  clear hHeld2
                  try simp only [Act.put, List.setIfInBounds_toArray, List.set_cons_zero, List.set_cons_succ]
                  refine wpAnyH_take (i := 18) (oi := { dst := some 232, op := Go.Op.binOp Go.BinOp.rem 3 (Go.Operand.tmp 229) (Go.Operand.tmp 231) 3, type := 3, pos := "laws.go:270", after := #[{ on := 15, ground := Go.Ground.data }, { on := 17, ground := Go.Ground.data }, { on := 11, ground := Go.Ground.guard }], guard := some (11, false) }) (v := ?_) rfl (by kernel_rfl) (by kernel_rfl) (by kernel_rfl) (fun _ _ _ h => h) (Or.inl ⟨by rfl, ?_⟩) (by assumption) ?_
                  rotate_left
                  · (intro w hSw; (try dsimp only at hSw); go_simp); (try with_reducible rfl)
                  try simp only [Act.put, List.setIfInBounds_toArray, List.set_cons_zero, List.set_cons_succ]
                  refine wpAnyH_take (i := 19) (oi := { dst := some 233, op := Go.Op.indexAddr 40 (Go.Operand.tmp 227) (Go.Operand.tmp 232), type := 0, pos := "laws.go:270", after := #[{ on := 13, ground := Go.Ground.data }, { on := 18, ground := Go.Ground.data }, { on := 11, ground := Go.Ground.guard }], guard := some (11, false) }) (v := ?_) rfl (by kernel_rfl) (by kernel_rfl) (by kernel_rfl) (fun _ _ _ h => h) (Or.inl ⟨by rfl, ?_⟩) (by assumption) ?_
                  rotate_left
                  · (intro w hSw; (try dsimp only at hSw); go_simp); (try with_reducible rfl)
                  try simp only [Act.put, List.setIfInBounds_toArray, List.set_cons_zero, List.set_cons_succ]
                  refine wpAnyH_take (i := 20) (oi := { dst := some 234, op := Go.Op.load 25 (Go.Operand.tmp 233), type := 25, pos := "laws.go:270", after := #[{ on := 19, ground := Go.Ground.data }, { on := 11, ground := Go.Ground.guard }], guard := some (11, false) }) (v := ?_) rfl (by kernel_rfl) (by kernel_rfl) (by kernel_rfl) (fun _ _ _ h => h) (Or.inl ⟨by rfl, ?_⟩) (by assumption) ?_
                  rotate_left
                  · (intro w hSw; (try dsimp only at hSw); go_simp); (try with_reducible rfl)
                  try simp only [Act.put, List.setIfInBounds_toArray, List.set_cons_zero, List.set_cons_succ]
                  refine wpAnyH_take (i := 21) (oi := { dst := some 235, op := Go.Op.binOp Go.BinOp.neq 25 (Go.Operand.tmp 226) (Go.Operand.tmp 234) 25, type := 4, pos := "laws.go:270", after := #[{ on := 12, ground := Go.Ground.data }, { on := 20, ground := Go.Ground.data }, { on := 11, ground := Go.Ground.guard }], guard := some (11, false) }) (v := ?_) rfl (by kernel_rfl) (by kernel_rfl) (by kernel_rfl) (fun _ _ _ h => h) (Or.inl ⟨by rfl, ?_⟩) (by assumption) ?_
                  rotate_left
                  · (intro w hSw; (try dsimp only at hSw); go_simp); (try with_reducible rfl)
                  try simp only [Act.put, List.setIfInBounds_toArray, List.set_cons_zero, List.set_cons_succ]
                  refine wpAnyH_take (i := 22) (oi := { dst := some 236, op := Go.Op.pick (Go.Operand.tmp 225) (Go.Operand.const (Go.Value.bool true)) (Go.Operand.tmp 235), type := 4, pos := "laws.go:270", after := #[{ on := 11, ground := Go.Ground.data }, { on := 21, ground := Go.Ground.data }], guard := none }) (v := ?_) rfl (by kernel_rfl) (by kernel_rfl) (by kernel_rfl) (fun _ _ _ h => h) (Or.inl ⟨by rfl, ?_⟩) (by assumption) ?_
                  rotate_left
                  · (intro w hSw; (try dsimp only at hSw); go_simp); (try with_reducible rfl)
                  try simp only [Act.put, List.setIfInBounds_toArray, List.set_cons_zero, List.set_cons_succ]
                  refine wpAnyH_done (by kernel_rfl) ?_ _
                  go_wp2
                  go_roundw
                  case rel => exact ⟨k + 1, by omega, by go_num, Below.drew hb9.out⟩
                  case measure => simp [intOf]; omega
              · obtain rfl : k = n := by omega
                obtain ⟨z0, z1⟩ := HCS.out wr hb 0 (by omega)
                rw [Nat.zero_mul] at z0 z1
                have HR := HRT6.out wr hb
                have h0n := Nat.lt_of_lt_of_le Nat.zero_lt_one l1
                have h1n : (0 : Int) < (k : Int) := by omega
                clear E1 HCP6 HCS HRT6 BB6
                generalize M 0 = m0 at *
                go_wp2_with fail
                with_reducible refine HR.mono ?_
                rintro e w7 ⟨rfl, b7⟩
                have hb7 := hb.trans (b7.mono hb.size)
                have y0 := (b7.cell (p := ⟨sg, 0, none⟩) (cell_block z0)).trans z0
                have y1 := (b7.cell (p := ⟨sg, 0 + 1, none⟩) (cell_block z1)).trans z1
                have hfin := hb6.trans (hb7.mono hb6.size)
                have HF := Lib.hid (bel_alSt hfin (.cells #[.int .i64 b, .int .i64 m0] 25))
                have hsz : w7.heap.size ≠ sg := by have := cell_block y0; simp at this; omega
                clear HR b7 hb7 z0 z1 hb hb6 hfin
                have y0' : (w7.alloc (.cells #[.int .i64 b, .int .i64 m0] 25)).cell? ⟨sg, 0, none⟩ = some (.int .i64 b) := ((bel_alSt (Below.refl _ w7) _).cell (p := ⟨sg, 0, none⟩) (cell_block y0)).trans y0
                have y1' : (w7.alloc (.cells #[.int .i64 b, .int .i64 m0] 25)).cell? ⟨sg, 1, none⟩ = some (.int .i64 m0) := ((bel_alSt (Below.refl _ w7) _).cell (p := ⟨sg, 1, none⟩) (cell_block y1)).trans y1
                go_wp2
                refine wp_region_held_drew (S := (fun W => W.cell? ⟨w7.heap.size, 0, none⟩ = some (.int .i64 b) ∧ W.cell? ⟨w7.heap.size, 1, none⟩ = some (.int .i64 m0) ∧ W.cell? ⟨sg, 0, none⟩ = some (.int .i64 b) ∧ W.cell? ⟨sg, 1, none⟩ = some (.int .i64 m0))) (by kernel_rfl) ?_ (fun hHeld => ?_)
                · (try dsimp only); exact ⟨by simp, by simp, y0', y1'⟩
                refine wpAnyH_take (i := 0) (oi := { dst := some 246, op := Go.Op.move (Go.Operand.tmp 35), type := 2, pos := "laws.go:275", after := #[], guard := none }) (v := ?_) rfl (by kernel_rfl) (by kernel_rfl) (by kernel_rfl) (fun _ _ _ h => h) (Or.inl ⟨by rfl, ?_⟩) (by assumption) ?_
                rotate_left
                · (intro w hSw; (try dsimp only at hSw); go_simp); (try with_reducible rfl)
                try simp only [Act.put, List.setIfInBounds_toArray, List.set_cons_zero, List.set_cons_succ]
                refine wpAnyH_take (i := 1) (oi := { dst := some 247, op := Go.Op.binOp Go.BinOp.eql 2 (Go.Operand.tmp 246) (Go.Operand.const (Go.Value.int Go.IntKind.i64 0)) 2, type := 4, pos := "laws.go:275", after := #[{ on := 0, ground := Go.Ground.data }], guard := none }) (v := ?_) rfl (by kernel_rfl) (by kernel_rfl) (by kernel_rfl) (fun _ _ _ h => h) (Or.inl ⟨by rfl, ?_⟩) (by assumption) ?_
                rotate_left
                · (intro w hSw; (try dsimp only at hSw); go_simp); (try with_reducible rfl)
                try simp only [Act.put, List.setIfInBounds_toArray, List.set_cons_zero, List.set_cons_succ]
                refine wpAnyH_take (i := 2) (oi := { dst := some 248, op := Go.Op.move (Go.Operand.tmp 247), type := 4, pos := "laws.go:275", after := #[{ on := 1, ground := Go.Ground.data }], guard := none }) (v := ?_) rfl (by kernel_rfl) (by kernel_rfl) (by kernel_rfl) (fun _ _ _ h => h) (Or.inl ⟨by rfl, ?_⟩) (by assumption) ?_
                rotate_left
                · (intro w hSw; (try dsimp only at hSw); go_simp); (try with_reducible rfl)
                try simp only [Act.put, List.setIfInBounds_toArray, List.set_cons_zero, List.set_cons_succ]
                refine wpAnyH_take (i := 3) (oi := { dst := some 249, op := Go.Op.move (Go.Operand.tmp 34), type := 2, pos := "laws.go:275", after := #[{ on := 2, ground := Go.Ground.guard }], guard := some (2, true) }) (v := ?_) rfl (by kernel_rfl) (by kernel_rfl) (by kernel_rfl) (fun _ _ _ h => h) (Or.inl ⟨by rfl, ?_⟩) (by assumption) ?_
                rotate_left
                · (intro w hSw; (try dsimp only at hSw); go_simp); (try with_reducible rfl)
                try simp only [Act.put, List.setIfInBounds_toArray, List.set_cons_zero, List.set_cons_succ]
                refine wpAnyH_take (i := 4) (oi := { dst := some 250, op := Go.Op.move (Go.Operand.tmp 20), type := 29, pos := "laws.go:275", after := #[{ on := 2, ground := Go.Ground.guard }], guard := some (2, true) }) (v := ?_) rfl (by kernel_rfl) (by kernel_rfl) (by kernel_rfl) (fun _ _ _ h => h) (Or.inl ⟨by rfl, ?_⟩) (by assumption) ?_
                rotate_left
                · (intro w hSw; (try dsimp only at hSw); go_simp); (try with_reducible rfl)
                try simp only [Act.put, List.setIfInBounds_toArray, List.set_cons_zero, List.set_cons_succ]
                refine wpAnyH_ready (rs := [5]) (by kernel_rfl) (by simp) ?_
                refine AllReadyH.cons (o := { dst := some 251, op := Go.Op.call { callee := Go.Callee.builtin Go.Builtin.len, args := #[Go.Operand.tmp 250], argTypes := #[29] }, type := 3, pos := "laws.go:275", after := #[{ on := 4, ground := Go.Ground.data }, { on := 2, ground := Go.Ground.guard }], guard := some (2, true) }) rfl (fun K hK => ?_) AllReadyH.nil
                go_simp
                refine hK.out _ _ ?_ (fun hHeld2 => ?_)
                · (try dsimp only); exact ⟨by simp, by simp, y0', y1'⟩
                clear hK K hHeld
                have hHeld := hHeld2
                clear hHeld2
                try simp only [Act.put, List.setIfInBounds_toArray, List.set_cons_zero, List.set_cons_succ]
                refine wpAnyH_take (i := 6) (oi := { dst := some 252, op := Go.Op.binOp Go.BinOp.eql 2 (Go.Operand.tmp 249) (Go.Operand.tmp 251) 2, type := 4, pos := "laws.go:275", after := #[{ on := 3, ground := Go.Ground.data }, { on := 5, ground := Go.Ground.data }, { on := 2, ground := Go.Ground.guard }], guard := some (2, true) }) (v := ?_) rfl (by kernel_rfl) (by kernel_rfl) (by kernel_rfl) (fun _ _ _ h => h) (Or.inl ⟨by rfl, ?_⟩) (by assumption) ?_
                rotate_left
                · (intro w hSw; (try dsimp only at hSw); go_simp); (try with_reducible rfl)
                try simp only [Act.put, List.setIfInBounds_toArray, List.set_cons_zero, List.set_cons_succ]
                refine wpAnyH_take (i := 7) (oi := { dst := some 253, op := Go.Op.pick (Go.Operand.tmp 248) (Go.Operand.tmp 252) (Go.Operand.const (Go.Value.bool false)), type := 4, pos := "laws.go:275", after := #[{ on := 2, ground := Go.Ground.data }, { on := 6, ground := Go.Ground.data }], guard := none }) (v := ?_) rfl (by kernel_rfl) (by kernel_rfl) (by kernel_rfl) (fun _ _ _ h => h) (Or.inl ⟨by rfl, ?_⟩) (by assumption) ?_
                rotate_left
                · (intro w hSw; (try dsimp only at hSw); go_simp); (try with_reducible rfl)
                try simp only [Act.put, List.setIfInBounds_toArray, List.set_cons_zero, List.set_cons_succ]
                refine wpAnyH_take (i := 8) (oi := { dst := some 254, op := Go.Op.move (Go.Operand.tmp 253), type := 4, pos := "laws.go:275", after := #[{ on := 7, ground := Go.Ground.data }, { on := 2, ground := Go.Ground.chain }], guard := none }) (v := ?_) rfl (by kernel_rfl) (by kernel_rfl) (by kernel_rfl) (fun _ _ _ h => h) (Or.inl ⟨by rfl, ?_⟩) (by assumption) ?_
                rotate_left
                · (intro w hSw; (try dsimp only at hSw); go_simp); (try with_reducible rfl)
                try simp only [Act.put, List.setIfInBounds_toArray, List.set_cons_zero, List.set_cons_succ]
                refine wpAnyH_take (i := 9) (oi := { dst := some 255, op := Go.Op.load 25 (Go.Operand.tmp 33), type := 25, pos := "laws.go:275", after := #[{ on := 8, ground := Go.Ground.guard }], guard := some (8, true) }) (v := ?_) rfl (by kernel_rfl) (by kernel_rfl) (by kernel_rfl) (fun _ _ _ h => h) (Or.inl ⟨by rfl, ?_⟩) (by assumption) ?_
                rotate_left
                · (intro w hSw; (try dsimp only at hSw); go_simp); (try with_reducible rfl)
                try simp only [Act.put, List.setIfInBounds_toArray, List.set_cons_zero, List.set_cons_succ]
                refine wpAnyH_take (i := 10) (oi := { dst := some 256, op := Go.Op.move (Go.Operand.tmp 24), type := 40, pos := "laws.go:275", after := #[{ on := 8, ground := Go.Ground.guard }], guard := some (8, true) }) (v := ?_) rfl (by kernel_rfl) (by kernel_rfl) (by kernel_rfl) (fun _ _ _ h => h) (Or.inl ⟨by rfl, ?_⟩) (by assumption) ?_
                rotate_left
                · (intro w hSw; (try dsimp only at hSw); go_simp); (try with_reducible rfl)
                try simp only [Act.put, List.setIfInBounds_toArray, List.set_cons_zero, List.set_cons_succ]
                refine wpAnyH_take (i := 11) (oi := { dst := some 257, op := Go.Op.indexAddr 40 (Go.Operand.tmp 256) (Go.Operand.const (Go.Value.int Go.IntKind.i64 0)), type := 0, pos := "laws.go:275", after := #[{ on := 10, ground := Go.Ground.data }, { on := 8, ground := Go.Ground.guard }], guard := some (8, true) }) (v := ?_) rfl (by kernel_rfl) (by kernel_rfl) (by kernel_rfl) (fun _ _ _ h => h) (Or.inl ⟨by rfl, ?_⟩) (by assumption) ?_
                rotate_left
                · (intro w hSw; (try dsimp only at hSw); go_simp); (try with_reducible rfl)
                try simp only [Act.put, List.setIfInBounds_toArray, List.set_cons_zero, List.set_cons_succ]
                refine wpAnyH_take (i := 12) (oi := { dst := some 258, op := Go.Op.load 25 (Go.Operand.tmp 257), type := 25, pos := "laws.go:275", after := #[{ on := 11, ground := Go.Ground.data }, { on := 8, ground := Go.Ground.guard }], guard := some (8, true) }) (v := ?_) rfl (by kernel_rfl) (by kernel_rfl) (by kernel_rfl) (fun _ _ _ h => h) (Or.inl ⟨by rfl, ?_⟩) (by assumption) ?_
                rotate_left
                · (intro w hSw; (try dsimp only at hSw); go_simp); (try with_reducible rfl)
                try simp only [Act.put, List.setIfInBounds_toArray, List.set_cons_zero, List.set_cons_succ]
                refine wpAnyH_take (i := 13) (oi := { dst := some 259, op := Go.Op.binOp Go.BinOp.eql 25 (Go.Operand.tmp 255) (Go.Operand.tmp 258) 25, type := 4, pos := "laws.go:275", after := #[{ on := 9, ground := Go.Ground.data }, { on := 12, ground := Go.Ground.data }, { on := 8, ground := Go.Ground.guard }], guard := some (8, true) }) (v := ?_) rfl (by kernel_rfl) (by kernel_rfl) (by kernel_rfl) (fun _ _ _ h => h) (Or.inl ⟨by rfl, ?_⟩) (by assumption) ?_
                rotate_left
                · (intro w hSw; (try dsimp only at hSw); go_simp); (try with_reducible rfl)
                try simp only [Act.put, List.setIfInBounds_toArray, List.set_cons_zero, List.set_cons_succ]
                refine wpAnyH_take (i := 14) (oi := { dst := some 260, op := Go.Op.pick (Go.Operand.tmp 254) (Go.Operand.tmp 259) (Go.Operand.const (Go.Value.bool false)), type := 4, pos := "laws.go:275", after := #[{ on := 8, ground := Go.Ground.data }, { on := 13, ground := Go.Ground.data }], guard := none }) (v := ?_) rfl (by kernel_rfl) (by kernel_rfl) (by kernel_rfl) (fun _ _ _ h => h) (Or.inl ⟨by rfl, ?_⟩) (by assumption) ?_
                rotate_left
                · (intro w hSw; (try dsimp only at hSw); go_simp); (try with_reducible rfl)
                try simp only [Act.put, List.setIfInBounds_toArray, List.set_cons_zero, List.set_cons_succ]
                refine wpAnyH_take (i := 15) (oi := { dst := some 4, op := Go.Op.assign (Go.Operand.tmp 260), type := 4, pos := "laws.go:275", after := #[{ on := 14, ground := Go.Ground.data }, { on := 8, ground := Go.Ground.chain }, { on := 0, ground := Go.Ground.phase }, { on := 1, ground := Go.Ground.phase }, { on := 2, ground := Go.Ground.phase }, { on := 3, ground := Go.Ground.phase }, { on := 4, ground := Go.Ground.phase }, { on := 5, ground := Go.Ground.phase }, { on := 6, ground := Go.Ground.phase }, { on := 7, ground := Go.Ground.phase }, { on := 8, ground := Go.Ground.phase }, { on := 9, ground := Go.Ground.phase }, { on := 10, ground := Go.Ground.phase }, { on := 11, ground := Go.Ground.phase }, { on := 12, ground := Go.Ground.phase }, { on := 13, ground := Go.Ground.phase }, { on := 14, ground := Go.Ground.phase }], guard := none }) (v := ?_) rfl (by kernel_rfl) (by kernel_rfl) (by kernel_rfl) (fun _ _ _ h => h) (Or.inl ⟨by rfl, ?_⟩) (by assumption) ?_
                rotate_left
                · (intro w hSw; (try dsimp only at hSw); go_simp); (try with_reducible rfl)
                try simp only [Act.put, List.setIfInBounds_toArray, List.set_cons_zero, List.set_cons_succ]
                refine wpAnyH_done (by kernel_rfl) ?_ _
                go_wp2
                go_ret
                exact ⟨rfl, Below.drew HF.out⟩
end Go.Proofs.YtjndiaefcmjbmaaDoor

namespace Go.Proofs.YtjndiaefcmjbmaaDoor.fnStates
open Go.ChangeShapes Go.WideShapes Go.ChangeAt Go.RowKit
open Go.ChangeMaps (open_string shut_string)
set_option linter.unusedVariables false

theorem own : ownKnob Tryd.prog.godebug = none := by kernel_rfl
theorem laidOut : laidOutB Tryd.prog = true := by kernel_rfl
theorem gTab : Tryd.prog.globalNamed "math/bits.deBruijn64tab" = some 0 := by kernel_rfl
theorem tTab : (Tryd.prog.globals[0]?).map (·.type) = some 132 := by kernel_rfl
theorem cellsE : Tryd.prog.cellsOf 5 = 1 := by kernel_rfl
theorem cellsT : Tryd.prog.cellsOf 132 = 64 := by kernel_rfl

theorem door_met (os : Os) (args : Array Value) : laidMetH Tryd.prog Rows.fnStatesRow.laid ((World.doorLaid Tryd.prog 400 os).forCall (fun _ _ => 0) ⟨#[], args, []⟩).memory :=
  laidMetH_of_parts3 (fuel := 8) (laidMet_of_run' 8 (by kernel_rfl) (by kernel_rfl)) (by kernel_rfl) (by kernel_rfl)

theorem map_at (l : List Nat) (j : Nat) : (l.map Int.ofNat).getD j 0 = ((l.getD j 0 : Nat) : Int) := by
  simp only [List.getD, List.getElem?_map]
  cases l[j]? <;> rfl

theorem of_laid {W : World} (h : laidMetH Tryd.prog Rows.fnStatesRow.laid W) : CtzTab W := by
  rw [MakeChecks.laidMetH_plain _ _ _ (by kernel_rfl)] at h
  obtain ⟨ps, ⟨g0, t0, cs0, f0, p0, q0, hg0, ht0, hv0, hd0, _, _⟩, _, _⟩ := h
  obtain rfl := Option.some.inj (gTab.symm.trans hg0)
  obtain rfl := Option.some.inj (tTab.symm.trans ht0)
  have e : (Rows.laid_math_bits_deBruijn64tab : DataW Unit) = Lib.tabData .u8 (Lib.deBruijn64tab.map Int.ofNat) := rfl
  rw [e] at hd0
  have ht : Lib.TabIs Tryd.prog W "math/bits.deBruijn64tab" .u8 (Lib.deBruijn64tab.map Int.ofNat) := by
    unfold Lib.TabIs
    rw [hv0, ← Lib.cells_of_tab Tryd.underlying132 Tryd.underlying5 cellsE cellsT hd0]
  intro j hj
  have := ht.cell gTab j (by simpa [Lib.deBruijn64tab] using hj)
  rw [this, map_at]

theorem walk (a0 : Option Addr) (len0 cap0 : Nat) (z0 : List Int) (a1 : Option Addr) (len1 cap1 : Nat) (z1 : List Int) (w : World) (w0 : IsRow .u8 w a0 len0 cap0 z0) (w1 : IsRow .u8 w a1 len1 cap1 z1) (hT : CtzTab w) :
    Calls Tryd.prog 3 #[.slice a0 len0 cap0, .slice a1 len1 cap1] w fun e w' => e = .returned (.bool true) ∧ Below w.heap.size w w' :=
  walk_FnStates a0 len0 cap0 z0 a1 len1 cap1 z1 w w0 w1 hT

set_option maxRecDepth 100000 in
theorem lifted (os : Os) (started : os.Started) (H : Type) (enc : TypeId × Value → H) :
    ReturnsInHanded {} Tryd.checked os 3 .any (fun w args => (Rows.fnStatesSpec.pre enc Tryd.prog Tryd.f3 [] false w args ∧ laidMetH Tryd.prog Rows.fnStatesRow.laid w) ∧ sizedMet enc Tryd.prog Tryd.f3 (OpenSpec.ofChange Rows.fnStatesSpec) false w args)
      (Rows.fnStatesSpec.post enc Tryd.prog Tryd.f3 false true false false) := by
  refine returnsInHanded_of_change_and (C := Tryd.checked) (X := fun w _ => laidMetH Tryd.prog Rows.fnStatesRow.laid w) (fun _ _ _ hh h => h.of_heap hh) own started (by kernel_rfl) Tryd.func3
    (ChangeSpec.witness_shaped (enc := enc) (C := Tryd.checked) (os := os) (X := fun w _ => laidMetH Tryd.prog Rows.fnStatesRow.laid w) false (World.doorLaid Tryd.prog 400 os) #[.slice none 0 0, .slice none 0 0] 8 rfl (World.shaped_of_RefB (by kernel_rfl) (by kernel_rfl)) (by kernel_rfl) (by kernel_rfl) (by kernel_rfl) (door_met os _)) ?_
  intro W base args ds gs before hval0 hW _ _ hL _
  have hval : ∀ (j : Nat) t v, Tryd.f3.params[j]? = some t → args[j]? = some v → Value.okWide Tryd.prog W .any base t v := hval0
  have hW' := hW
  obtain ⟨p, q, hA0, hV, rfl, hfz, hnd⟩ := hW
  have hA : DataW.TrodAll enc Tryd.prog W 0 (fun _ => true) true Tryd.f3.params.toList args.toList ds p := hA0
  rw [Tryd.params3] at hA hval
  obtain ⟨v0, vs0, d0, ds0, p0, q0, hargs, rfl, rfl, h0, r0⟩ := trodAll_cons hA
  obtain ⟨v1, vs1, d1, ds1, p1, q1, rfl, rfl, rfl, h1, r1⟩ := trodAll_cons r0
  obtain ⟨rfl, rfl, rfl⟩ := trodAll_nil r1
  obtain rfl : args = #[v0, v1] := by cases args; simp_all
  obtain ⟨rfl, rfl⟩ := trodVars_none hV
  have k0 := h0
  have lt0 : ∀ x ∈ p0, x.block < W.heap.size := by obtain ⟨m, hm⟩ := k0; exact DataW.trod_lt m _ _ _ hm
  have k1 := h1
  have lt1 : ∀ x ∈ p1, x.block < W.heap.size := by obtain ⟨m, hm⟩ := k1; exact DataW.trod_lt m _ _ _ hm
  obtain ⟨a0, len0, cap0, rfl⟩ := okWide_slice Tryd.underlying22 (hval 0 22 v0 rfl rfl)
  obtain ⟨z0, w0⟩ : ∃ zs, IsRow .u8 W a0 len0 cap0 zs := by
    obtain ⟨fuel, hf⟩ := h0
    rcases open_ints Tryd.underlying22 Tryd.underlying5 (by kernel_rfl) hf with ⟨hcs, _⟩ | ⟨x, l, c, zs, hcs, _, hl, hm, hz, _, hcell, hwz⟩
    · simp [Value.cells] at hcs
      obtain ⟨rfl, rfl, rfl⟩ := hcs
      exact ⟨[], .inl ⟨rfl, rfl, rfl, rfl⟩⟩
    · simp [Value.cells] at hcs
      obtain ⟨rfl, rfl, rfl⟩ := hcs
      exact ⟨zs, .inr ⟨_, rfl, hl, hm, by simpa using hz, hcell, hwz⟩⟩
  obtain ⟨a1, len1, cap1, rfl⟩ := okWide_slice Tryd.underlying22 (hval 1 22 v1 rfl rfl)
  obtain ⟨z1, w1⟩ : ∃ zs, IsRow .u8 W a1 len1 cap1 zs := by
    obtain ⟨fuel, hf⟩ := h1
    rcases open_ints Tryd.underlying22 Tryd.underlying5 (by kernel_rfl) hf with ⟨hcs, _⟩ | ⟨x, l, c, zs, hcs, _, hl, hm, hz, _, hcell, hwz⟩
    · simp [Value.cells] at hcs
      obtain ⟨rfl, rfl, rfl⟩ := hcs
      exact ⟨[], .inl ⟨rfl, rfl, rfl, rfl⟩⟩
    · simp [Value.cells] at hcs
      obtain ⟨rfl, rfl, rfl⟩ := hcs
      exact ⟨zs, .inr ⟨_, rfl, hl, hm, by simpa using hz, hcell, hwz⟩⟩
  clear hA0 hval0
  refine (walk a0 len0 cap0 z0 a1 len1 cap1 z1 W w0 w1 (of_laid hL)).mono fun e W' ⟨he, bel⟩ => ?_
  subst he
  exact ⟨_, rfl, _, _, _, [], _, [], hW', trodAll_mk1 (shut_bool Tryd.underlying4 _), (trodAll_cons_mk (Below.trod laidOut (by kernel_rfl) (of_decide_eq_true (by kernel_rfl)) k0 bel lt0) (trodAll_cons_mk (Below.trod laidOut (by kernel_rfl) (of_decide_eq_true (by kernel_rfl)) k1 bel lt1) trodAll_mk0)), rfl, bel.frame _, fun h => by cases h⟩

theorem row_holds : Rows.FnStatesSaid :=
  OpenClaim.holds_of_wide 3 Tryd.f3 rfl rfl rfl rfl rfl rfl rfl ⟨rfl, rfl, rfl, rfl, rfl⟩ rfl rfl rfl rfl rfl (by kernel_rfl) Tryd.func3 (by kernel_rfl)
    (of_decide_eq_true (by kernel_rfl)) (by unfold Func.isWrapper; first | (rw [if_pos (by decide +kernel)]; kernel_rfl) | (rw [if_neg (by decide +kernel)]; exact ⟨rfl, rfl⟩))
    (fun os started H enc _ => lifted os started H enc)

theorem proved : Rows.FnStatesCardSaid :=
  Claim7.holds_tied_plain_at .later [] [.data] true Rows.fnStatesCard.stood.harness Rows.fnStatesCard.stood.looks
    row_holds (fun _ h => by cases h) (by kernel_rfl) (fun _ h => by cases h) fnStates_row_tie rfl ⟨rfl, rfl⟩ (by kernel_rfl) rfl
    (fun f fn hf hfn => by
      obtain rfl : f = 3 := Option.some.inj ((show Tryd.prog.funcNamed "loop.example/g00927/laws.FnStates" = some 3 by kernel_rfl).symm.trans hf) |>.symm
      obtain rfl : fn = Tryd.f3 := (Option.some.inj (Tryd.func3.symm.trans hfn)).symm
      exact ⟨by kernel_rfl, fun j t ht => by
        rw [Tryd.params3] at ht
        have hm : t ∈ [22, 22] := by simpa using Array.mem_of_getElem? ht
        have hall : ([22, 22].all fun u => !Tryd.prog.wantsStandIn u) = true := by kernel_rfl
        exact (show Tryd.prog.wantsStandIn t = false by simpa using List.all_eq_true.1 hall t hm)⟩)
    (by kernel_rfl)
#print axioms proved
end Go.Proofs.YtjndiaefcmjbmaaDoor.fnStates
