/- The walk of the law FnProps: it returns true. No conditions. -/
import Derived.Test.YtmmkeihcjpnpjaaOdM
import Derived.Test.YtmmkeihcjpnpjaaOdI
import Derived.Test.YtmmkeihcjpnpjaaDrawD
import Derived.Test.YtmmkeihcjpnpjaaAid
import Derived.Test.YtmmkeihcjpnpjaaSpec02b
import Derived.Test.YtmmkeihcjpnpjaaImpl02b
import Derived.Test.YtmmkeihcjpnpjaaSame
import Derived.Deep.RegionHeld3
import Derived.OrdersIn
namespace Go.Proofs.Ytmmkeihcjpnpjaa
open Go.RowKit
set_option linter.unusedSimpArgs false
set_option linter.unusedVariables false

theorem Ints.atSl2 {w : World} {B : Nat} {a : Option Addr} {n c : Nat} {xs : List Int} (h : Ints w B (.slice a n c) xs) (k : Nat) (hk : k < xs.length) : ∃ g, a = some ⟨g, 0, none⟩ ∧ w.cell? ⟨g, k, none⟩ = some (.int .i64 (xs.getD k 0)) := by
  rcases h.shape with ⟨_, rfl⟩ | ⟨g, c', e, _⟩
  · simp at hk
  · cases e
    exact ⟨g, rfl, h.cell k hk⟩
theorem Below.drewW {B : Nat} {w w' : World} (h : Below B w w') (m : Nat) : Below B w (w'.drewN m) := below_drewN h m
set_option maxRecDepth 100000 in
set_option maxHeartbeats 4000000 in
theorem walk_FnProps (a0 : Option Addr) (len0 cap0 : Nat) (z0 : List Int) (a1 : Option Addr) (len1 cap1 : Nat) (z1 : List Int) (w : World) (r0 : IsRow .u8 w a0 len0 cap0 z0) (r1 : IsRow .u8 w a1 len1 cap1 z1) :
    Calls Try.prog 4 #[.slice a0 len0 cap0, .slice a1 len1 cap1] w fun e w' => e = .returned (.bool true) ∧ Below w.heap.size w w' := by
  have hm0 : len0 ≤ 9223372036854775807 := by have := r0.bytes.2.1; unfold maxLen at this; omega
  have hm1 : len1 ≤ 9223372036854775807 := by have := r1.bytes.2.1; unfold maxLen at this; omega
  have HL := a2Long_any a0 a1 len0 cap0 len1 cap1 w hm0 hm1
  cases hL : longL len0 len1 with
  | true =>
    rw [hL] at HL
    go_enter Try.func4, Try.ntmps4
    go_wp2_with fail
    refine HL.mono ?_
    rintro e w' ⟨rfl, rfl⟩
    go_wp2
    go_ret
    exact ⟨rfl, Below.refl _ _⟩
  | false =>
    rw [hL] at HL
    have hb0 : len0 ≤ 3000 := by simp [longL] at hL; omega
    have hb1 : len1 ≤ 3000 := by simp [longL] at hL; omega
    clear hL hm0 hm1
    have BB := Below.refl w.heap.size w
    go_enter Try.func4, Try.ntmps4
    go_wp2_with fail
    refine HL.mono ?_
    rintro e w' ⟨rfl, rfl⟩
    clear HL
    go_wp2_with fail
    refine (a2Pattern_any a0 len0 cap0 z0 _ r0 hb0).mono ?_
    rintro e w1 ⟨v, p, rfl, ip, hok, bb⟩
    replace r1 := r1.below bb
    replace BB := BB.trans (bb.mono BB.size)
    clear bb r0
    obtain ⟨l1, l2⟩ := okPat_len hok
    obtain ⟨va, vc, rfl⟩ := ints_slOd ip
    have HTA := Lib.hid (fun (b : Nat) W (hW : Below w1.heap.size w1 W) => throwAt_spec _ _ p (b : Int) W (ip.below hW))
    have HPA := Lib.hid (fun (b : Nat) W (hW : Below w1.heap.size w1 W) => propAt_impl _ _ p (b : Int) W (ip.below hW))
    have HTP := Lib.hid (fun (k : Nat) (n : Nat) W (hW : Below w1.heap.size w1 W) => throwsOfProp_impl _ _ p (k : Int) (n : Int) W (ip.below hW))
    have HIO := Lib.hid (fun (n : Nat) W (hW : Below w1.heap.size w1 W) => propsInOrder_impl _ _ p (n : Int) W (ip.below hW))
    have HPO := propsOf_spec _ _ p _ ip
    rw [okC_true hok] at HPO
    have HST := Lib.hid (fun b => ordO_step hok b)
    have HLD := Lib.hid (fun b t ht h0 => ordO_land hok b t ht h0)
    have HNA := Lib.hid (fun k hk => ordN_all hok k hk)
    have HNP := Lib.hid (fun k => ordN_props hok k)
    have HAL := Lib.hid (fun (b : Nat) => at_low hok (b : Int))
    have hP0 : 0 ≤ propsA p := by have := ordN_props hok 0; omega
    have hP1 : propsA p ≤ 59 := by have := ordN_all hok 16 (Nat.le_refl _); have := ordN_le p 16; omega
    have HBC := Lib.hid (fun (b : Nat) (hb : b < 60) => show beatCode p (b : Int) = 0 ∧ beatA p (b : Int) (atL p (b : Int)) = atL p (b : Int) from by
      have h1 := beatCode_ok (p := p) (b : Int) hok (inB_true (by omega))
      exact ⟨h1, beatA_ok _ _ h1⟩)
    have HPC := Lib.hid (fun (b : Nat) (hb : b < 60) => show orC p (b : Int) 199 = 0 ∧ paA p (b : Int) = ordO p b from by
      have h1 := orC_ok (p := p) (n := (b : Int)) (hi := 199) hok (inB_true (by omega))
      exact ⟨h1, by rw [paA, if_pos h1, Int.toNat_natCast]; rfl⟩)
    have HIC := Lib.hid (fun (n : Nat) (hn : n < 60) => show orC p (n : Int) 200 = 0 ∧ orA p (n : Int) = ordA p n from by
      have h1 := orC_ok (p := p) (n := (n : Int)) (hi := 200) hok (inB_true (by omega))
      exact ⟨h1, by rw [orA, if_pos h1, Int.toNat_natCast]⟩)
    have HTC := Lib.hid (fun (k n : Nat) (hk : (k : Int) < propsA p) (hn : n < 60) => show thC p (k : Int) (n : Int) = 0 ∧ thA p (k : Int) (n : Int) = thF (k : Int) (ordA p n) n from by
      have h1 : thC p (k : Int) (n : Int) = 0 := by unfold thC; rw [if_pos hok, inB_true (by omega), inB_true (by omega)]; rfl
      exact ⟨h1, by rw [thA, if_pos h1, Int.toNat_natCast]⟩)
    clear ip hok
    generalize propsA p = P at *
    go_wp2_with fail
    refine HPO.mono ?_
    rintro e w2 ⟨rfl, b2⟩
    replace r1 := r1.below b2
    clear HPO
    go_wp2_with fail
    refine (a2At_any a1 len1 cap1 z1 0 40 _ r1 hb1 (by omega) (by omega) (by omega)).mono ?_
    rintro e w3 ⟨x, rfl, hx, rfl⟩
    obtain ⟨hx1, hx2⟩ := hx
    obtain ⟨n, hn⟩ : ∃ n : Nat, 20 + x = (n : Int) := ⟨(20 + x).toNat, by omega⟩
    have hn1 : 20 ≤ n := by omega
    have hn2 : n < 60 := by omega
    have HNE := Lib.hid hn
    have hwr : IntKind.i64.wrap (20 + x) = (n : Int) := by rw [IntWalk.i64_in _ (by omega)]; exact hn
    have hwr2 : wrap64 (20 + x) = (n : Int) := by rw [← IntWalk.i64_left]; exact hwr
    obtain ⟨c1, c2⟩ := HIC.out n hn2
    have HII := HIO.out n w2 b2
    rw [c1, c2] at HII
    clear HIC HIO c1 c2 hn
    go_wp2_with fail
    try rw [HNE.out]
    refine HII.mono ?_
    rintro e w4 ⟨u, rfl, io, b4⟩
    clear HII hwr hwr2
    have B4 := b2.trans (b4.mono b2.size)
    have hlo := ordA_len p n
    obtain ⟨g, cap, rfl, _, hg, _, _⟩ := io.shape2 (by omega)
    rw [hlo]
    rw [hlo] at io
    have HCL := Lib.hid (fun W (hW : Below w4.heap.size w4 W) b (hb : b < n) => show W.cell? ⟨g, b, none⟩ = some (.int .i64 (ordO p b)) from by
      have := (io.below hW).cell b (by omega)
      rwa [ordO_at p hb] at this)
    have HLO := Lib.hid hlo
    have HOA := Lib.hid (fun b (hb : b < n) => ordO_at p hb)
    clear io b2 b4 hlo r1
    have hs4 := B4.size
    generalize hLE : ordA p n = L at *
    have HLE := Lib.hid hLE
    clear hLE
    go_wp2
    try rw [HNE.out]
    go_loopw [11, 12] (fun c i wr => ∃ b : Nat, b ≤ n ∧ i = .int .i64 b ∧ c = .int .i64 (ordN p b : Nat) ∧ Below w4.heap.size w4 wr) (fun _ i _ => n - (intOf i).toNat)
    case atStart => exact ⟨0, Nat.zero_le _, rfl, rfl, Below.refl _ _⟩
    case round =>
      obtain ⟨b, hb, rfl, rfl, hw⟩ := hrel
      by_cases hlt : b < n
      · have HT := HTA.out b wr (B4.trans (hw.mono hs4))
        obtain ⟨q1, q2⟩ := HBC.out b (by omega)
        rw [q1, q2] at HT
        obtain ⟨q3, q4⟩ := HPC.out b (by omega)
        have HPB := Lib.hid (fun (W : World) (hW : Below w1.heap.size w1 W) => by
          have := HPA.out b W hW
          rw [q3, q4] at this
          exact this)
        have cO := Lib.hid (fun (W : World) (hW : Below w4.heap.size w4 W) => HCL.out W hW b hlt)
        have hal := HAL.out b
        have hst := HST.out b
        have hnp := HNP.out b
        have hnp2 := HNP.out (b + 1)
        have HLL := Lib.hid (fun (t : Nat) (ht : atL p (b : Int) = t) (h0 : 0 < t) (hlt : b + t < n) (W : World) (hW : Below w4.heap.size w4 W) => show W.cell? ⟨g, b + t, none⟩ = some (.int .i64 (ordO p b)) from by
          rw [← HLD.out b t ht h0]
          exact HCL.out W hW (b + t) hlt)
        have hws := hw.size
        clear HTA HPA HTP HST HLD HNA HNP HAL HBC HPC HTC HCL HLO HOA q1 q2 q3 q4
        have hno := ordN_le p b
        generalize hN2 : ordN p (b + 1) = N2 at *
        have HN2 := Lib.hid hN2
        clear hN2
        generalize hT : atL p (b : Int) = T at *
        generalize ordO p b = O at *
        generalize ordN p b = N1 at *
        go_wp2_with fail
        refine HT.mono ?_
        rintro e w5 ⟨rfl, b5⟩
        have hw5 := hw.trans (b5.mono hws)
        have B5 := B4.trans (hw5.mono hs4)
        have HPB5 := HPB.out w5 B5
        clear HT hw b5 HPB
        go_wp2_with fail
        refine HPB5.mono ?_
        rintro e w6 ⟨rfl, b6⟩
        have hw6 := hw5.trans (b6.mono hw5.size)
        have c6 := cO.out w6 hw6
        clear HPB5 hw5 B5 b6 cO
        rcases hst with ⟨h1, h2, h3⟩ | ⟨h1, h2, h3⟩ | ⟨h1, h2, h3, h4⟩
        · subst h1 h2 h3
          clear HLL hT
          go_wp2
          go_roundw
          case rel => exact ⟨b + 1, by omega, by go_num, (by rw [HN2.out] <;> (first | rfl | go_num)), hw6⟩
          case measure => simp [intOf]; omega
        · obtain ⟨t, rfl⟩ : ∃ t : Nat, T = t := ⟨T.toNat, by omega⟩
          subst h2 h3
          have g1 : decide ((N1 : Int) < 0) = false := decide_eq_false (by omega)
          have g2 : ((t : Int) == 0) = false := by simp; omega
          by_cases hin : b + t < n
          · have c7 := HLL.out t rfl (by omega) hin w6 hw6
            clear HLL hT
            go_wp2
            go_roundw
            case rel => exact ⟨b + 1, by omega, by go_num, (by rw [HN2.out] <;> (first | rfl | go_num)), hw6⟩
            case measure => simp [intOf]; omega
          · clear HLL hT
            go_wp2
            go_roundw
            case rel => exact ⟨b + 1, by omega, by go_num, (by rw [HN2.out] <;> (first | rfl | go_num)), hw6⟩
            case measure => simp [intOf]; omega
        · obtain ⟨t, rfl⟩ : ∃ t : Nat, T = t := ⟨T.toNat, by omega⟩
          obtain ⟨O, rfl⟩ : ∃ o : Nat, O = o := ⟨O.toNat, by omega⟩
          have hne : ((O : Int) == (N1 : Int)) = false := by simp; omega
          subst h4
          have g1 : decide ((O : Int) < 0) = false := decide_eq_false (by omega)
          have g2 : ((t : Int) == 0) = false := by simp; omega
          by_cases hin : b + t < n
          · have c7 := HLL.out t rfl (by omega) hin w6 hw6
            clear HLL hT
            go_wp2
            go_roundw
            case rel => exact ⟨b + 1, by omega, by go_num, (by rw [HN2.out] <;> (first | rfl | go_num)), hw6⟩
            case measure => simp [intOf]; omega
          · clear HLL hT
            go_wp2
            go_roundw
            case rel => exact ⟨b + 1, by omega, by go_num, (by rw [HN2.out] <;> (first | rfl | go_num)), hw6⟩
            case measure => simp [intOf]; omega
      · obtain rfl : b = n := by omega
        have hna := HNA.out b (by omega)
        rw [hna]
        clear HTA HPA HST HLD HNA HNP HAL HBC HPC hna
        go_wp2
        go_loopw [17, 18, 19, 20] (fun i _ _ _ wr => ∃ k : Nat, (k : Int) ≤ P ∧ i = .int .i64 k ∧ Below w4.heap.size w4 wr) (fun i _ _ _ _ => P.toNat - (intOf i).toNat)
        case atStart => exact ⟨0, hP0, rfl, hw⟩
        case round =>
          clear hw
          obtain ⟨k, hk, rfl, hw⟩ := hrel
          have hws := hw.size
          by_cases hlt : (k : Int) < P
          · have HT := HTP.out k b wr (B4.trans (hw.mono hs4))
            obtain ⟨q1, q2⟩ := HTC.out k b hlt hn2
            rw [HLE.out] at q2
            rw [q1, q2] at HT
            have hml := thF_len (k : Int) L b
            have HMM := Lib.hid (fun i (hi : i < (thF (k : Int) L b).length) => thF_mem b i hi)
            have HMU := Lib.hid (fun i (hi : i + 1 < (thF (k : Int) L b).length) => thF_up b i hi)
            clear HTP HTC q1 q2
            generalize thF (k : Int) L b = M at *
            go_wp2_with fail
            refine HT.mono ?_
            rintro e w5 ⟨y, rfl, iy, b5⟩
            have hw5 := hw.trans (b5.mono hws)
            obtain ⟨ya, yc, rfl⟩ := ints_slOd iy
            have HY := Lib.hid (fun W (hW : Below w5.heap.size w5 W) i (hi : i < M.length) => (iy.below hW).atSl2 i hi)
            clear HT hw b5 iy
            go_wp2
            go_loopw [20] (fun i wr => ∃ j : Nat, j ≤ M.length ∧ i = .int .i64 j ∧ Below w5.heap.size w5 wr) (fun i _ => M.length - (intOf i).toNat)
            case atStart => exact ⟨0, Nat.zero_le _, rfl, Below.refl _ _⟩
            case round =>
              obtain ⟨j, hj, rfl, hv⟩ := hrel
              have hs5 := hw5.size
              by_cases hjt : j < M.length
              · obtain ⟨gy, rfl, cy⟩ := HY.out wr hv j hjt
                obtain ⟨m1, m2, m3⟩ := HMM.out j hjt
                obtain ⟨z, hz⟩ : ∃ z : Nat, M.getD j 0 = z := ⟨(M.getD j 0).toNat, by omega⟩
                rw [hz] at cy m1 m2 m3
                rw [Int.toNat_natCast] at m3
                have hzn : z < b := by omega
                have cz := HCL.out wr (hw5.trans (hv.mono hs5)) z hzn
                rw [← HOA.out z hzn, m3] at cz
                have HCE0 := Lib.hid (fun W (hW : Below w5.heap.size w5 W) => show W.cell? ⟨gy, j, none⟩ = some (.int .i64 (z : Nat)) ∧ W.cell? ⟨g, z, none⟩ = some (.int .i64 (k : Nat)) from by
                  obtain ⟨_, e9, c9⟩ := HY.out W hW j hjt
                  cases e9
                  rw [hz] at c9
                  have c8 := HCL.out W (hw5.trans (hW.mono hs5)) z hzn
                  rw [← HOA.out z hzn, m3] at c8
                  exact ⟨c9, c8⟩)
                by_cases hj0 : j = 0
                · subst hj0
                  have HCE := HCE0
                  have g1 : decide ((z : Int) < 0) = false := decide_eq_false (by omega)
                  have g2 : decide ((b : Int) ≤ (z : Int)) = false := decide_eq_false (by omega)
                  have g4 : decide (b ≤ z) = false := decide_eq_false (by omega)
                  have g5 : decide ((z : Int) ≥ (b : Int)) = false := decide_eq_false (by omega)
                  have g6 : ¬ b ≤ z := by omega
                  clear HY HMM HMU HCL HLO HOA hz m1 m2 m3 HCE0
                  go_wp2
                  refine wp_region_held_drew (S := (fun W => Below w5.heap.size w5 W ∧ W.cell? ⟨gy, 0, none⟩ = some (.int .i64 (z : Nat)) ∧ W.cell? ⟨g, z, none⟩ = some (.int .i64 (k : Nat)))) (by kernel_rfl) ?_ (fun hHeld => ?_)
                  · (try dsimp only); (refine ⟨?_, HCE.out _ ?_⟩ <;> (repeat (first | assumption | exact Below.refl _ _ | refine Below.drew ?_ | refine below_drewN ?_ _)))
                  refine wpAnyH_take (i := 0) (oi := { dst := some 140, op := Go.Op.move (Go.Operand.tmp 18), type := 24, pos := "laws.go:678", after := #[], guard := none }) (v := ?_) rfl (by kernel_rfl) (by kernel_rfl) (by kernel_rfl) (fun _ _ _ h => h) (Or.inl ⟨by rfl, ?_⟩) (by assumption) ?_
                  rotate_left
                  · (intro w hSw; (try dsimp only at hSw); go_simp); (try with_reducible rfl)
                  try simp only [Act.put, List.setIfInBounds_toArray, List.set_cons_zero, List.set_cons_succ]
                  refine wpAnyH_take (i := 1) (oi := { dst := some 141, op := Go.Op.move (Go.Operand.tmp 20), type := 3, pos := "laws.go:678", after := #[], guard := none }) (v := ?_) rfl (by kernel_rfl) (by kernel_rfl) (by kernel_rfl) (fun _ _ _ h => h) (Or.inl ⟨by rfl, ?_⟩) (by assumption) ?_
                  rotate_left
                  · (intro w hSw; (try dsimp only at hSw); go_simp); (try with_reducible rfl)
                  try simp only [Act.put, List.setIfInBounds_toArray, List.set_cons_zero, List.set_cons_succ]
                  refine wpAnyH_take (i := 2) (oi := { dst := some 142, op := Go.Op.indexAddr 24 (Go.Operand.tmp 140) (Go.Operand.tmp 141), type := 0, pos := "laws.go:678", after := #[{ on := 0, ground := Go.Ground.data }, { on := 1, ground := Go.Ground.data }], guard := none }) (v := ?_) rfl (by kernel_rfl) (by kernel_rfl) (by kernel_rfl) (fun _ _ _ h => h) (Or.inl ⟨by rfl, ?_⟩) (by assumption) ?_
                  rotate_left
                  · (intro w hSw; (try dsimp only at hSw); go_simp); (try with_reducible rfl)
                  try simp only [Act.put, List.setIfInBounds_toArray, List.set_cons_zero, List.set_cons_succ]
                  refine wpAnyH_take (i := 3) (oi := { dst := some 143, op := Go.Op.load 2 (Go.Operand.tmp 142), type := 2, pos := "laws.go:678", after := #[{ on := 2, ground := Go.Ground.data }], guard := none }) (v := ?_) rfl (by kernel_rfl) (by kernel_rfl) (by kernel_rfl) (fun _ _ _ h => h) (Or.inl ⟨by rfl, ?_⟩) (by assumption) ?_
                  rotate_left
                  · (intro w hSw; (try dsimp only at hSw); go_simp); (try with_reducible rfl)
                  try simp only [Act.put, List.setIfInBounds_toArray, List.set_cons_zero, List.set_cons_succ]
                  refine wpAnyH_take (i := 4) (oi := { dst := some 144, op := Go.Op.binOp Go.BinOp.lss 2 (Go.Operand.tmp 143) (Go.Operand.const (Go.Value.int Go.IntKind.i64 0)) 2, type := 4, pos := "laws.go:678", after := #[{ on := 3, ground := Go.Ground.data }], guard := none }) (v := ?_) rfl (by kernel_rfl) (by kernel_rfl) (by kernel_rfl) (fun _ _ _ h => h) (Or.inl ⟨by rfl, ?_⟩) (by assumption) ?_
                  rotate_left
                  · (intro w hSw; (try dsimp only at hSw); go_simp); (try with_reducible rfl)
                  try simp only [Act.put, List.setIfInBounds_toArray, List.set_cons_zero, List.set_cons_succ]
                  refine wpAnyH_take (i := 5) (oi := { dst := some 145, op := Go.Op.move (Go.Operand.tmp 144), type := 4, pos := "laws.go:678", after := #[{ on := 4, ground := Go.Ground.data }], guard := none }) (v := ?_) rfl (by kernel_rfl) (by kernel_rfl) (by kernel_rfl) (fun _ _ _ h => h) (Or.inl ⟨by rfl, ?_⟩) (by assumption) ?_
                  rotate_left
                  · (intro w hSw; (try dsimp only at hSw); go_simp); (try with_reducible rfl)
                  try simp only [Act.put, List.setIfInBounds_toArray, List.set_cons_zero, List.set_cons_succ]
                  refine wpAnyH_take (i := 6) (oi := { dst := some 146, op := Go.Op.move (Go.Operand.tmp 18), type := 24, pos := "laws.go:678", after := #[{ on := 5, ground := Go.Ground.guard }], guard := some (5, false) }) (v := ?_) rfl (by kernel_rfl) (by kernel_rfl) (by kernel_rfl) (fun _ _ _ h => h) (Or.inl ⟨by rfl, ?_⟩) (by assumption) ?_
                  rotate_left
                  · (intro w hSw; (try dsimp only at hSw); go_simp); (try with_reducible rfl)
                  try simp only [Act.put, List.setIfInBounds_toArray, List.set_cons_zero, List.set_cons_succ]
                  refine wpAnyH_take (i := 7) (oi := { dst := some 147, op := Go.Op.move (Go.Operand.tmp 20), type := 3, pos := "laws.go:678", after := #[{ on := 5, ground := Go.Ground.guard }], guard := some (5, false) }) (v := ?_) rfl (by kernel_rfl) (by kernel_rfl) (by kernel_rfl) (fun _ _ _ h => h) (Or.inl ⟨by rfl, ?_⟩) (by assumption) ?_
                  rotate_left
                  · (intro w hSw; (try dsimp only at hSw); go_simp); (try with_reducible rfl)
                  try simp only [Act.put, List.setIfInBounds_toArray, List.set_cons_zero, List.set_cons_succ]
                  refine wpAnyH_take (i := 8) (oi := { dst := some 148, op := Go.Op.indexAddr 24 (Go.Operand.tmp 146) (Go.Operand.tmp 147), type := 0, pos := "laws.go:678", after := #[{ on := 6, ground := Go.Ground.data }, { on := 7, ground := Go.Ground.data }, { on := 5, ground := Go.Ground.guard }], guard := some (5, false) }) (v := ?_) rfl (by kernel_rfl) (by kernel_rfl) (by kernel_rfl) (fun _ _ _ h => h) (Or.inl ⟨by rfl, ?_⟩) (by assumption) ?_
                  rotate_left
                  · (intro w hSw; (try dsimp only at hSw); go_simp); (try with_reducible rfl)
                  try simp only [Act.put, List.setIfInBounds_toArray, List.set_cons_zero, List.set_cons_succ]
                  refine wpAnyH_take (i := 9) (oi := { dst := some 149, op := Go.Op.load 2 (Go.Operand.tmp 148), type := 2, pos := "laws.go:678", after := #[{ on := 8, ground := Go.Ground.data }, { on := 5, ground := Go.Ground.guard }], guard := some (5, false) }) (v := ?_) rfl (by kernel_rfl) (by kernel_rfl) (by kernel_rfl) (fun _ _ _ h => h) (Or.inl ⟨by rfl, ?_⟩) (by assumption) ?_
                  rotate_left
                  · (intro w hSw; (try dsimp only at hSw); go_simp); (try with_reducible rfl)
                  try simp only [Act.put, List.setIfInBounds_toArray, List.set_cons_zero, List.set_cons_succ]
                  refine wpAnyH_take (i := 10) (oi := { dst := some 150, op := Go.Op.move (Go.Operand.tmp 8), type := 2, pos := "laws.go:678", after := #[{ on := 5, ground := Go.Ground.guard }], guard := some (5, false) }) (v := ?_) rfl (by kernel_rfl) (by kernel_rfl) (by kernel_rfl) (fun _ _ _ h => h) (Or.inl ⟨by rfl, ?_⟩) (by assumption) ?_
                  rotate_left
                  · (intro w hSw; (try dsimp only at hSw); go_simp); (try with_reducible rfl)
                  try simp only [Act.put, List.setIfInBounds_toArray, List.set_cons_zero, List.set_cons_succ]
                  refine wpAnyH_take (i := 11) (oi := { dst := some 151, op := Go.Op.binOp Go.BinOp.geq 2 (Go.Operand.tmp 149) (Go.Operand.tmp 150) 2, type := 4, pos := "laws.go:678", after := #[{ on := 9, ground := Go.Ground.data }, { on := 10, ground := Go.Ground.data }, { on := 5, ground := Go.Ground.guard }], guard := some (5, false) }) (v := ?_) rfl (by kernel_rfl) (by kernel_rfl) (by kernel_rfl) (fun _ _ _ h => h) (Or.inl ⟨by rfl, ?_⟩) (by assumption) ?_
                  rotate_left
                  · (intro w hSw; (try dsimp only at hSw); go_simp); (try with_reducible rfl)
                  try simp only [Act.put, List.setIfInBounds_toArray, List.set_cons_zero, List.set_cons_succ]
                  refine wpAnyH_take (i := 12) (oi := { dst := some 152, op := Go.Op.pick (Go.Operand.tmp 145) (Go.Operand.const (Go.Value.bool true)) (Go.Operand.tmp 151), type := 4, pos := "laws.go:678", after := #[{ on := 5, ground := Go.Ground.data }, { on := 11, ground := Go.Ground.data }], guard := none }) (v := ?_) rfl (by kernel_rfl) (by kernel_rfl) (by kernel_rfl) (fun _ _ _ h => h) (Or.inl ⟨by rfl, ?_⟩) (by assumption) ?_
                  rotate_left
                  · (intro w hSw; (try dsimp only at hSw); go_simp); (try with_reducible rfl)
                  try simp only [Act.put, List.setIfInBounds_toArray, List.set_cons_zero, List.set_cons_succ]
                  refine wpAnyH_take (i := 13) (oi := { dst := some 153, op := Go.Op.move (Go.Operand.tmp 152), type := 4, pos := "laws.go:678", after := #[{ on := 12, ground := Go.Ground.data }, { on := 5, ground := Go.Ground.chain }], guard := none }) (v := ?_) rfl (by kernel_rfl) (by kernel_rfl) (by kernel_rfl) (fun _ _ _ h => h) (Or.inl ⟨by rfl, ?_⟩) (by assumption) ?_
                  rotate_left
                  · (intro w hSw; (try dsimp only at hSw); go_simp); (try with_reducible rfl)
                  try simp only [Act.put, List.setIfInBounds_toArray, List.set_cons_zero, List.set_cons_succ]
                  refine wpAnyH_take (i := 14) (oi := { dst := some 154, op := Go.Op.move (Go.Operand.tmp 9), type := 24, pos := "laws.go:678", after := #[{ on := 13, ground := Go.Ground.guard }], guard := some (13, false) }) (v := ?_) rfl (by kernel_rfl) (by kernel_rfl) (by kernel_rfl) (fun _ _ _ h => h) (Or.inl ⟨by rfl, ?_⟩) (by assumption) ?_
                  rotate_left
                  · (intro w hSw; (try dsimp only at hSw); go_simp); (try with_reducible rfl)
                  try simp only [Act.put, List.setIfInBounds_toArray, List.set_cons_zero, List.set_cons_succ]
                  refine wpAnyH_take (i := 15) (oi := { dst := some 155, op := Go.Op.move (Go.Operand.tmp 18), type := 24, pos := "laws.go:678", after := #[{ on := 13, ground := Go.Ground.guard }], guard := some (13, false) }) (v := ?_) rfl (by kernel_rfl) (by kernel_rfl) (by kernel_rfl) (fun _ _ _ h => h) (Or.inl ⟨by rfl, ?_⟩) (by assumption) ?_
                  rotate_left
                  · (intro w hSw; (try dsimp only at hSw); go_simp); (try with_reducible rfl)
                  try simp only [Act.put, List.setIfInBounds_toArray, List.set_cons_zero, List.set_cons_succ]
                  refine wpAnyH_take (i := 16) (oi := { dst := some 156, op := Go.Op.move (Go.Operand.tmp 20), type := 3, pos := "laws.go:678", after := #[{ on := 13, ground := Go.Ground.guard }], guard := some (13, false) }) (v := ?_) rfl (by kernel_rfl) (by kernel_rfl) (by kernel_rfl) (fun _ _ _ h => h) (Or.inl ⟨by rfl, ?_⟩) (by assumption) ?_
                  rotate_left
                  · (intro w hSw; (try dsimp only at hSw); go_simp); (try with_reducible rfl)
                  try simp only [Act.put, List.setIfInBounds_toArray, List.set_cons_zero, List.set_cons_succ]
                  refine wpAnyH_take (i := 17) (oi := { dst := some 157, op := Go.Op.indexAddr 24 (Go.Operand.tmp 155) (Go.Operand.tmp 156), type := 0, pos := "laws.go:678", after := #[{ on := 15, ground := Go.Ground.data }, { on := 16, ground := Go.Ground.data }, { on := 13, ground := Go.Ground.guard }], guard := some (13, false) }) (v := ?_) rfl (by kernel_rfl) (by kernel_rfl) (by kernel_rfl) (fun _ _ _ h => h) (Or.inl ⟨by rfl, ?_⟩) (by assumption) ?_
                  rotate_left
                  · (intro w hSw; (try dsimp only at hSw); go_simp); (try with_reducible rfl)
                  try simp only [Act.put, List.setIfInBounds_toArray, List.set_cons_zero, List.set_cons_succ]
                  refine wpAnyH_take (i := 18) (oi := { dst := some 158, op := Go.Op.load 2 (Go.Operand.tmp 157), type := 2, pos := "laws.go:678", after := #[{ on := 17, ground := Go.Ground.data }, { on := 13, ground := Go.Ground.guard }], guard := some (13, false) }) (v := ?_) rfl (by kernel_rfl) (by kernel_rfl) (by kernel_rfl) (fun _ _ _ h => h) (Or.inl ⟨by rfl, ?_⟩) (by assumption) ?_
                  rotate_left
                  · (intro w hSw; (try dsimp only at hSw); go_simp); (try with_reducible rfl)
                  try simp only [Act.put, List.setIfInBounds_toArray, List.set_cons_zero, List.set_cons_succ]
                  refine wpAnyH_take (i := 19) (oi := { dst := some 159, op := Go.Op.indexAddr 24 (Go.Operand.tmp 154) (Go.Operand.tmp 158), type := 0, pos := "laws.go:678", after := #[{ on := 14, ground := Go.Ground.data }, { on := 18, ground := Go.Ground.data }, { on := 13, ground := Go.Ground.guard }], guard := some (13, false) }) (v := ?_) rfl (by kernel_rfl) (by kernel_rfl) (by kernel_rfl) (fun _ _ _ h => h) (Or.inl ⟨by rfl, ?_⟩) (by assumption) ?_
                  rotate_left
                  · (intro w hSw; (try dsimp only at hSw); go_simp); (try with_reducible rfl)
                  try simp only [Act.put, List.setIfInBounds_toArray, List.set_cons_zero, List.set_cons_succ]
                  refine wpAnyH_take (i := 20) (oi := { dst := some 160, op := Go.Op.load 2 (Go.Operand.tmp 159), type := 2, pos := "laws.go:678", after := #[{ on := 19, ground := Go.Ground.data }, { on := 13, ground := Go.Ground.guard }], guard := some (13, false) }) (v := ?_) rfl (by kernel_rfl) (by kernel_rfl) (by kernel_rfl) (fun _ _ _ h => h) (Or.inl ⟨by rfl, ?_⟩) (by assumption) ?_
                  rotate_left
                  · (intro w hSw; (try dsimp only at hSw); go_simp); (try with_reducible rfl)
                  try simp only [Act.put, List.setIfInBounds_toArray, List.set_cons_zero, List.set_cons_succ]
                  refine wpAnyH_take (i := 21) (oi := { dst := some 161, op := Go.Op.move (Go.Operand.tmp 17), type := 2, pos := "laws.go:678", after := #[{ on := 13, ground := Go.Ground.guard }], guard := some (13, false) }) (v := ?_) rfl (by kernel_rfl) (by kernel_rfl) (by kernel_rfl) (fun _ _ _ h => h) (Or.inl ⟨by rfl, ?_⟩) (by assumption) ?_
                  rotate_left
                  · (intro w hSw; (try dsimp only at hSw); go_simp); (try with_reducible rfl)
                  try simp only [Act.put, List.setIfInBounds_toArray, List.set_cons_zero, List.set_cons_succ]
                  refine wpAnyH_take (i := 22) (oi := { dst := some 162, op := Go.Op.binOp Go.BinOp.neq 2 (Go.Operand.tmp 160) (Go.Operand.tmp 161) 2, type := 4, pos := "laws.go:678", after := #[{ on := 20, ground := Go.Ground.data }, { on := 21, ground := Go.Ground.data }, { on := 13, ground := Go.Ground.guard }], guard := some (13, false) }) (v := ?_) rfl (by kernel_rfl) (by kernel_rfl) (by kernel_rfl) (fun _ _ _ h => h) (Or.inl ⟨by rfl, ?_⟩) (by assumption) ?_
                  rotate_left
                  · (intro w hSw; (try dsimp only at hSw); go_simp); (try with_reducible rfl)
                  try simp only [Act.put, List.setIfInBounds_toArray, List.set_cons_zero, List.set_cons_succ]
                  refine wpAnyH_take (i := 23) (oi := { dst := some 163, op := Go.Op.pick (Go.Operand.tmp 153) (Go.Operand.const (Go.Value.bool true)) (Go.Operand.tmp 162), type := 4, pos := "laws.go:678", after := #[{ on := 13, ground := Go.Ground.data }, { on := 22, ground := Go.Ground.data }], guard := none }) (v := ?_) rfl (by kernel_rfl) (by kernel_rfl) (by kernel_rfl) (fun _ _ _ h => h) (Or.inl ⟨by rfl, ?_⟩) (by assumption) ?_
                  rotate_left
                  · (intro w hSw; (try dsimp only at hSw); go_simp); (try with_reducible rfl)
                  try simp only [Act.put, List.setIfInBounds_toArray, List.set_cons_zero, List.set_cons_succ]
                  refine wpAnyH_take (i := 24) (oi := { dst := some 164, op := Go.Op.move (Go.Operand.tmp 163), type := 4, pos := "laws.go:678", after := #[{ on := 23, ground := Go.Ground.data }, { on := 13, ground := Go.Ground.chain }], guard := none }) (v := ?_) rfl (by kernel_rfl) (by kernel_rfl) (by kernel_rfl) (fun _ _ _ h => h) (Or.inl ⟨by rfl, ?_⟩) (by assumption) ?_
                  rotate_left
                  · (intro w hSw; (try dsimp only at hSw); go_simp); (try with_reducible rfl)
                  try simp only [Act.put, List.setIfInBounds_toArray, List.set_cons_zero, List.set_cons_succ]
                  refine wpAnyH_take (i := 25) (oi := { dst := some 165, op := Go.Op.move (Go.Operand.tmp 20), type := 3, pos := "laws.go:678", after := #[{ on := 24, ground := Go.Ground.guard }], guard := some (24, false) }) (v := ?_) rfl (by kernel_rfl) (by kernel_rfl) (by kernel_rfl) (fun _ _ _ h => h) (Or.inl ⟨by rfl, ?_⟩) (by assumption) ?_
                  rotate_left
                  · (intro w hSw; (try dsimp only at hSw); go_simp); (try with_reducible rfl)
                  try simp only [Act.put, List.setIfInBounds_toArray, List.set_cons_zero, List.set_cons_succ]
                  refine wpAnyH_take (i := 26) (oi := { dst := some 166, op := Go.Op.binOp Go.BinOp.gtr 3 (Go.Operand.tmp 165) (Go.Operand.const (Go.Value.int Go.IntKind.i64 0)) 3, type := 4, pos := "laws.go:678", after := #[{ on := 25, ground := Go.Ground.data }, { on := 24, ground := Go.Ground.guard }], guard := some (24, false) }) (v := ?_) rfl (by kernel_rfl) (by kernel_rfl) (by kernel_rfl) (fun _ _ _ h => h) (Or.inl ⟨by rfl, ?_⟩) (by assumption) ?_
                  rotate_left
                  · (intro w hSw; (try dsimp only at hSw); go_simp); (try with_reducible rfl)
                  try simp only [Act.put, List.setIfInBounds_toArray, List.set_cons_zero, List.set_cons_succ]
                  refine wpAnyH_take (i := 27) (oi := { dst := some 167, op := Go.Op.move (Go.Operand.tmp 166), type := 4, pos := "laws.go:678", after := #[{ on := 26, ground := Go.Ground.data }, { on := 24, ground := Go.Ground.chain }, { on := 24, ground := Go.Ground.guard }], guard := some (24, false) }) (v := ?_) rfl (by kernel_rfl) (by kernel_rfl) (by kernel_rfl) (fun _ _ _ h => h) (Or.inl ⟨by rfl, ?_⟩) (by assumption) ?_
                  rotate_left
                  · (intro w hSw; (try dsimp only at hSw); go_simp); (try with_reducible rfl)
                  try simp only [Act.put, List.setIfInBounds_toArray, List.set_cons_zero, List.set_cons_succ]
                  refine wpAnyH_take (i := 28) (oi := { dst := some 168, op := Go.Op.move (Go.Operand.tmp 18), type := 24, pos := "laws.go:678", after := #[{ on := 27, ground := Go.Ground.guard }], guard := some (27, true) }) (v := undef) rfl (by kernel_rfl) (by kernel_rfl) (by kernel_rfl) (fun _ _ _ h => h) (Or.inr ⟨by rfl, rfl⟩) (by assumption) ?_
                  try simp only [Act.put, List.setIfInBounds_toArray, List.set_cons_zero, List.set_cons_succ]
                  refine wpAnyH_take (i := 29) (oi := { dst := some 169, op := Go.Op.move (Go.Operand.tmp 20), type := 3, pos := "laws.go:678", after := #[{ on := 27, ground := Go.Ground.guard }], guard := some (27, true) }) (v := undef) rfl (by kernel_rfl) (by kernel_rfl) (by kernel_rfl) (fun _ _ _ h => h) (Or.inr ⟨by rfl, rfl⟩) (by assumption) ?_
                  try simp only [Act.put, List.setIfInBounds_toArray, List.set_cons_zero, List.set_cons_succ]
                  refine wpAnyH_take (i := 30) (oi := { dst := some 170, op := Go.Op.indexAddr 24 (Go.Operand.tmp 168) (Go.Operand.tmp 169), type := 0, pos := "laws.go:678", after := #[{ on := 28, ground := Go.Ground.data }, { on := 29, ground := Go.Ground.data }, { on := 27, ground := Go.Ground.guard }], guard := some (27, true) }) (v := undef) rfl (by kernel_rfl) (by kernel_rfl) (by kernel_rfl) (fun _ _ _ h => h) (Or.inr ⟨by rfl, rfl⟩) (by assumption) ?_
                  try simp only [Act.put, List.setIfInBounds_toArray, List.set_cons_zero, List.set_cons_succ]
                  refine wpAnyH_take (i := 31) (oi := { dst := some 171, op := Go.Op.load 2 (Go.Operand.tmp 170), type := 2, pos := "laws.go:678", after := #[{ on := 30, ground := Go.Ground.data }, { on := 27, ground := Go.Ground.guard }], guard := some (27, true) }) (v := undef) rfl (by kernel_rfl) (by kernel_rfl) (by kernel_rfl) (fun _ _ _ h => h) (Or.inr ⟨by rfl, rfl⟩) (by assumption) ?_
                  try simp only [Act.put, List.setIfInBounds_toArray, List.set_cons_zero, List.set_cons_succ]
                  refine wpAnyH_take (i := 32) (oi := { dst := some 172, op := Go.Op.move (Go.Operand.tmp 18), type := 24, pos := "laws.go:678", after := #[{ on := 27, ground := Go.Ground.guard }], guard := some (27, true) }) (v := undef) rfl (by kernel_rfl) (by kernel_rfl) (by kernel_rfl) (fun _ _ _ h => h) (Or.inr ⟨by rfl, rfl⟩) (by assumption) ?_
                  try simp only [Act.put, List.setIfInBounds_toArray, List.set_cons_zero, List.set_cons_succ]
                  refine wpAnyH_take (i := 33) (oi := { dst := some 173, op := Go.Op.move (Go.Operand.tmp 20), type := 3, pos := "laws.go:678", after := #[{ on := 27, ground := Go.Ground.guard }], guard := some (27, true) }) (v := undef) rfl (by kernel_rfl) (by kernel_rfl) (by kernel_rfl) (fun _ _ _ h => h) (Or.inr ⟨by rfl, rfl⟩) (by assumption) ?_
                  try simp only [Act.put, List.setIfInBounds_toArray, List.set_cons_zero, List.set_cons_succ]
                  refine wpAnyH_take (i := 34) (oi := { dst := some 174, op := Go.Op.binOp Go.BinOp.sub 3 (Go.Operand.tmp 173) (Go.Operand.const (Go.Value.int Go.IntKind.i64 1)) 3, type := 3, pos := "laws.go:678", after := #[{ on := 33, ground := Go.Ground.data }, { on := 27, ground := Go.Ground.guard }], guard := some (27, true) }) (v := undef) rfl (by kernel_rfl) (by kernel_rfl) (by kernel_rfl) (fun _ _ _ h => h) (Or.inr ⟨by rfl, rfl⟩) (by assumption) ?_
                  try simp only [Act.put, List.setIfInBounds_toArray, List.set_cons_zero, List.set_cons_succ]
                  refine wpAnyH_take (i := 35) (oi := { dst := some 175, op := Go.Op.indexAddr 24 (Go.Operand.tmp 172) (Go.Operand.tmp 174), type := 0, pos := "laws.go:678", after := #[{ on := 32, ground := Go.Ground.data }, { on := 34, ground := Go.Ground.data }, { on := 27, ground := Go.Ground.guard }], guard := some (27, true) }) (v := undef) rfl (by kernel_rfl) (by kernel_rfl) (by kernel_rfl) (fun _ _ _ h => h) (Or.inr ⟨by rfl, rfl⟩) (by assumption) ?_
                  try simp only [Act.put, List.setIfInBounds_toArray, List.set_cons_zero, List.set_cons_succ]
                  refine wpAnyH_take (i := 36) (oi := { dst := some 176, op := Go.Op.load 2 (Go.Operand.tmp 175), type := 2, pos := "laws.go:678", after := #[{ on := 35, ground := Go.Ground.data }, { on := 27, ground := Go.Ground.guard }], guard := some (27, true) }) (v := undef) rfl (by kernel_rfl) (by kernel_rfl) (by kernel_rfl) (fun _ _ _ h => h) (Or.inr ⟨by rfl, rfl⟩) (by assumption) ?_
                  try simp only [Act.put, List.setIfInBounds_toArray, List.set_cons_zero, List.set_cons_succ]
                  refine wpAnyH_take (i := 37) (oi := { dst := some 177, op := Go.Op.binOp Go.BinOp.leq 2 (Go.Operand.tmp 171) (Go.Operand.tmp 176) 2, type := 4, pos := "laws.go:678", after := #[{ on := 31, ground := Go.Ground.data }, { on := 36, ground := Go.Ground.data }, { on := 27, ground := Go.Ground.guard }], guard := some (27, true) }) (v := undef) rfl (by kernel_rfl) (by kernel_rfl) (by kernel_rfl) (fun _ _ _ h => h) (Or.inr ⟨by rfl, rfl⟩) (by assumption) ?_
                  try simp only [Act.put, List.setIfInBounds_toArray, List.set_cons_zero, List.set_cons_succ]
                  refine wpAnyH_take (i := 38) (oi := { dst := some 178, op := Go.Op.pick (Go.Operand.tmp 167) (Go.Operand.tmp 177) (Go.Operand.const (Go.Value.bool false)), type := 4, pos := "laws.go:678", after := #[{ on := 27, ground := Go.Ground.data }, { on := 37, ground := Go.Ground.data }, { on := 24, ground := Go.Ground.guard }], guard := some (24, false) }) (v := ?_) rfl (by kernel_rfl) (by kernel_rfl) (by kernel_rfl) (fun _ _ _ h => h) (Or.inl ⟨by rfl, ?_⟩) (by assumption) ?_
                  rotate_left
                  · (intro w hSw; (try dsimp only at hSw); go_simp); (try with_reducible rfl)
                  try simp only [Act.put, List.setIfInBounds_toArray, List.set_cons_zero, List.set_cons_succ]
                  refine wpAnyH_take (i := 39) (oi := { dst := some 179, op := Go.Op.pick (Go.Operand.tmp 164) (Go.Operand.const (Go.Value.bool true)) (Go.Operand.tmp 178), type := 4, pos := "laws.go:678", after := #[{ on := 24, ground := Go.Ground.data }, { on := 38, ground := Go.Ground.data }], guard := none }) (v := ?_) rfl (by kernel_rfl) (by kernel_rfl) (by kernel_rfl) (fun _ _ _ h => h) (Or.inl ⟨by rfl, ?_⟩) (by assumption) ?_
                  rotate_left
                  · (intro w hSw; (try dsimp only at hSw); go_simp); (try with_reducible rfl)
                  try simp only [Act.put, List.setIfInBounds_toArray, List.set_cons_zero, List.set_cons_succ]
                  refine wpAnyH_done (by kernel_rfl) ?_ _
                  go_wp2
                  go_roundw
                  case rel => exact ⟨0 + 1, by omega, by go_num, by first | exact hHeld.1 | exact hHeld.1.drew | exact below_drewN hHeld.1 _⟩
                  case measure => simp [intOf]; omega
                · obtain ⟨_, e2, cv⟩ := HY.out wr hv (j - 1) (by omega)
                  cases e2
                  have hup := HMU.out (j - 1) (by omega)
                  rw [show j - 1 + 1 = j by omega, hz] at hup
                  obtain ⟨x2, hx2e⟩ : ∃ x2, M.getD (j - 1) 0 = x2 := ⟨_, rfl⟩
                  rw [hx2e] at cv hup
                  have HX2 := Lib.hid hx2e
                  clear hx2e
                  have HCE := Lib.hid (fun W (hW : Below w5.heap.size w5 W) => show W.cell? ⟨gy, j, none⟩ = some (.int .i64 (z : Nat)) ∧ W.cell? ⟨g, z, none⟩ = some (.int .i64 (k : Nat)) ∧ W.cell? ⟨gy, j - 1, none⟩ = some (.int .i64 x2) from by
                    obtain ⟨_, e9, c9⟩ := HY.out W hW (j - 1) (by omega)
                    cases e9
                    rw [HX2.out] at c9
                    exact ⟨(HCE0.out W hW).1, (HCE0.out W hW).2, c9⟩)
                  have g1 : decide ((z : Int) < 0) = false := decide_eq_false (by omega)
                  have g2 : decide ((b : Int) ≤ (z : Int)) = false := decide_eq_false (by omega)
                  have g4 : decide (b ≤ z) = false := decide_eq_false (by omega)
                  have g5 : decide ((z : Int) ≥ (b : Int)) = false := decide_eq_false (by omega)
                  have g6 : ¬ b ≤ z := by omega
                  have g3 : decide ((z : Int) ≤ x2) = false := decide_eq_false (by omega)
                  have g7 : decide ((0 : Int) < (j : Int)) = true := decide_eq_true (by omega)
                  have g8 : decide ((j : Int) > 0) = true := decide_eq_true (by omega)
                  have g9 : decide (0 < j) = true := decide_eq_true (by omega)
                  have g10 : 0 < j := by omega
                  have d2 : IntKind.i64.wrap ((j : Int) - 1) = (j : Int) - 1 := IntWalk.i64_in _ (by omega)
                  have d3 : (0 : Int) ≤ (j : Int) - 1 := by omega
                  have d6 : (1 : Int) ≤ (j : Int) := by omega
                  have d7 : 1 ≤ j := by omega
                  have d4 : (j : Int) - 1 < (M.length : Int) := by omega
                  have d5 : ((j : Int) - 1).toNat = j - 1 := by omega
                  clear HY HMM HMU HCL HLO HOA hz m1 m2 m3 HCE0 HX2
                  go_wp2
                  refine wp_region_held_drew (S := (fun W => Below w5.heap.size w5 W ∧ W.cell? ⟨gy, j, none⟩ = some (.int .i64 (z : Nat)) ∧ W.cell? ⟨g, z, none⟩ = some (.int .i64 (k : Nat)) ∧ W.cell? ⟨gy, j - 1, none⟩ = some (.int .i64 x2))) (by kernel_rfl) ?_ (fun hHeld => ?_)
                  · (try dsimp only); (refine ⟨?_, HCE.out _ ?_⟩ <;> (repeat (first | assumption | exact Below.refl _ _ | refine Below.drew ?_ | refine below_drewN ?_ _)))
                  refine wpAnyH_take (i := 0) (oi := { dst := some 140, op := Go.Op.move (Go.Operand.tmp 18), type := 24, pos := "laws.go:678", after := #[], guard := none }) (v := ?_) rfl (by kernel_rfl) (by kernel_rfl) (by kernel_rfl) (fun _ _ _ h => h) (Or.inl ⟨by rfl, ?_⟩) (by assumption) ?_
                  rotate_left
                  · (intro w hSw; (try dsimp only at hSw); go_simp); (try with_reducible rfl)
                  try simp only [Act.put, List.setIfInBounds_toArray, List.set_cons_zero, List.set_cons_succ]
                  refine wpAnyH_take (i := 1) (oi := { dst := some 141, op := Go.Op.move (Go.Operand.tmp 20), type := 3, pos := "laws.go:678", after := #[], guard := none }) (v := ?_) rfl (by kernel_rfl) (by kernel_rfl) (by kernel_rfl) (fun _ _ _ h => h) (Or.inl ⟨by rfl, ?_⟩) (by assumption) ?_
                  rotate_left
                  · (intro w hSw; (try dsimp only at hSw); go_simp); (try with_reducible rfl)
                  try simp only [Act.put, List.setIfInBounds_toArray, List.set_cons_zero, List.set_cons_succ]
                  refine wpAnyH_take (i := 2) (oi := { dst := some 142, op := Go.Op.indexAddr 24 (Go.Operand.tmp 140) (Go.Operand.tmp 141), type := 0, pos := "laws.go:678", after := #[{ on := 0, ground := Go.Ground.data }, { on := 1, ground := Go.Ground.data }], guard := none }) (v := ?_) rfl (by kernel_rfl) (by kernel_rfl) (by kernel_rfl) (fun _ _ _ h => h) (Or.inl ⟨by rfl, ?_⟩) (by assumption) ?_
                  rotate_left
                  · (intro w hSw; (try dsimp only at hSw); go_simp); (try with_reducible rfl)
                  try simp only [Act.put, List.setIfInBounds_toArray, List.set_cons_zero, List.set_cons_succ]
                  refine wpAnyH_take (i := 3) (oi := { dst := some 143, op := Go.Op.load 2 (Go.Operand.tmp 142), type := 2, pos := "laws.go:678", after := #[{ on := 2, ground := Go.Ground.data }], guard := none }) (v := ?_) rfl (by kernel_rfl) (by kernel_rfl) (by kernel_rfl) (fun _ _ _ h => h) (Or.inl ⟨by rfl, ?_⟩) (by assumption) ?_
                  rotate_left
                  · (intro w hSw; (try dsimp only at hSw); go_simp); (try with_reducible rfl)
                  try simp only [Act.put, List.setIfInBounds_toArray, List.set_cons_zero, List.set_cons_succ]
                  refine wpAnyH_take (i := 4) (oi := { dst := some 144, op := Go.Op.binOp Go.BinOp.lss 2 (Go.Operand.tmp 143) (Go.Operand.const (Go.Value.int Go.IntKind.i64 0)) 2, type := 4, pos := "laws.go:678", after := #[{ on := 3, ground := Go.Ground.data }], guard := none }) (v := ?_) rfl (by kernel_rfl) (by kernel_rfl) (by kernel_rfl) (fun _ _ _ h => h) (Or.inl ⟨by rfl, ?_⟩) (by assumption) ?_
                  rotate_left
                  · (intro w hSw; (try dsimp only at hSw); go_simp); (try with_reducible rfl)
                  try simp only [Act.put, List.setIfInBounds_toArray, List.set_cons_zero, List.set_cons_succ]
                  refine wpAnyH_take (i := 5) (oi := { dst := some 145, op := Go.Op.move (Go.Operand.tmp 144), type := 4, pos := "laws.go:678", after := #[{ on := 4, ground := Go.Ground.data }], guard := none }) (v := ?_) rfl (by kernel_rfl) (by kernel_rfl) (by kernel_rfl) (fun _ _ _ h => h) (Or.inl ⟨by rfl, ?_⟩) (by assumption) ?_
                  rotate_left
                  · (intro w hSw; (try dsimp only at hSw); go_simp); (try with_reducible rfl)
                  try simp only [Act.put, List.setIfInBounds_toArray, List.set_cons_zero, List.set_cons_succ]
                  refine wpAnyH_take (i := 6) (oi := { dst := some 146, op := Go.Op.move (Go.Operand.tmp 18), type := 24, pos := "laws.go:678", after := #[{ on := 5, ground := Go.Ground.guard }], guard := some (5, false) }) (v := ?_) rfl (by kernel_rfl) (by kernel_rfl) (by kernel_rfl) (fun _ _ _ h => h) (Or.inl ⟨by rfl, ?_⟩) (by assumption) ?_
                  rotate_left
                  · (intro w hSw; (try dsimp only at hSw); go_simp); (try with_reducible rfl)
                  try simp only [Act.put, List.setIfInBounds_toArray, List.set_cons_zero, List.set_cons_succ]
                  refine wpAnyH_take (i := 7) (oi := { dst := some 147, op := Go.Op.move (Go.Operand.tmp 20), type := 3, pos := "laws.go:678", after := #[{ on := 5, ground := Go.Ground.guard }], guard := some (5, false) }) (v := ?_) rfl (by kernel_rfl) (by kernel_rfl) (by kernel_rfl) (fun _ _ _ h => h) (Or.inl ⟨by rfl, ?_⟩) (by assumption) ?_
                  rotate_left
                  · (intro w hSw; (try dsimp only at hSw); go_simp); (try with_reducible rfl)
                  try simp only [Act.put, List.setIfInBounds_toArray, List.set_cons_zero, List.set_cons_succ]
                  refine wpAnyH_take (i := 8) (oi := { dst := some 148, op := Go.Op.indexAddr 24 (Go.Operand.tmp 146) (Go.Operand.tmp 147), type := 0, pos := "laws.go:678", after := #[{ on := 6, ground := Go.Ground.data }, { on := 7, ground := Go.Ground.data }, { on := 5, ground := Go.Ground.guard }], guard := some (5, false) }) (v := ?_) rfl (by kernel_rfl) (by kernel_rfl) (by kernel_rfl) (fun _ _ _ h => h) (Or.inl ⟨by rfl, ?_⟩) (by assumption) ?_
                  rotate_left
                  · (intro w hSw; (try dsimp only at hSw); go_simp); (try with_reducible rfl)
                  try simp only [Act.put, List.setIfInBounds_toArray, List.set_cons_zero, List.set_cons_succ]
                  refine wpAnyH_take (i := 9) (oi := { dst := some 149, op := Go.Op.load 2 (Go.Operand.tmp 148), type := 2, pos := "laws.go:678", after := #[{ on := 8, ground := Go.Ground.data }, { on := 5, ground := Go.Ground.guard }], guard := some (5, false) }) (v := ?_) rfl (by kernel_rfl) (by kernel_rfl) (by kernel_rfl) (fun _ _ _ h => h) (Or.inl ⟨by rfl, ?_⟩) (by assumption) ?_
                  rotate_left
                  · (intro w hSw; (try dsimp only at hSw); go_simp); (try with_reducible rfl)
                  try simp only [Act.put, List.setIfInBounds_toArray, List.set_cons_zero, List.set_cons_succ]
                  refine wpAnyH_take (i := 10) (oi := { dst := some 150, op := Go.Op.move (Go.Operand.tmp 8), type := 2, pos := "laws.go:678", after := #[{ on := 5, ground := Go.Ground.guard }], guard := some (5, false) }) (v := ?_) rfl (by kernel_rfl) (by kernel_rfl) (by kernel_rfl) (fun _ _ _ h => h) (Or.inl ⟨by rfl, ?_⟩) (by assumption) ?_
                  rotate_left
                  · (intro w hSw; (try dsimp only at hSw); go_simp); (try with_reducible rfl)
                  try simp only [Act.put, List.setIfInBounds_toArray, List.set_cons_zero, List.set_cons_succ]
                  refine wpAnyH_take (i := 11) (oi := { dst := some 151, op := Go.Op.binOp Go.BinOp.geq 2 (Go.Operand.tmp 149) (Go.Operand.tmp 150) 2, type := 4, pos := "laws.go:678", after := #[{ on := 9, ground := Go.Ground.data }, { on := 10, ground := Go.Ground.data }, { on := 5, ground := Go.Ground.guard }], guard := some (5, false) }) (v := ?_) rfl (by kernel_rfl) (by kernel_rfl) (by kernel_rfl) (fun _ _ _ h => h) (Or.inl ⟨by rfl, ?_⟩) (by assumption) ?_
                  rotate_left
                  · (intro w hSw; (try dsimp only at hSw); go_simp); (try with_reducible rfl)
                  try simp only [Act.put, List.setIfInBounds_toArray, List.set_cons_zero, List.set_cons_succ]
                  refine wpAnyH_take (i := 12) (oi := { dst := some 152, op := Go.Op.pick (Go.Operand.tmp 145) (Go.Operand.const (Go.Value.bool true)) (Go.Operand.tmp 151), type := 4, pos := "laws.go:678", after := #[{ on := 5, ground := Go.Ground.data }, { on := 11, ground := Go.Ground.data }], guard := none }) (v := ?_) rfl (by kernel_rfl) (by kernel_rfl) (by kernel_rfl) (fun _ _ _ h => h) (Or.inl ⟨by rfl, ?_⟩) (by assumption) ?_
                  rotate_left
                  · (intro w hSw; (try dsimp only at hSw); go_simp); (try with_reducible rfl)
                  try simp only [Act.put, List.setIfInBounds_toArray, List.set_cons_zero, List.set_cons_succ]
                  refine wpAnyH_take (i := 13) (oi := { dst := some 153, op := Go.Op.move (Go.Operand.tmp 152), type := 4, pos := "laws.go:678", after := #[{ on := 12, ground := Go.Ground.data }, { on := 5, ground := Go.Ground.chain }], guard := none }) (v := ?_) rfl (by kernel_rfl) (by kernel_rfl) (by kernel_rfl) (fun _ _ _ h => h) (Or.inl ⟨by rfl, ?_⟩) (by assumption) ?_
                  rotate_left
                  · (intro w hSw; (try dsimp only at hSw); go_simp); (try with_reducible rfl)
                  try simp only [Act.put, List.setIfInBounds_toArray, List.set_cons_zero, List.set_cons_succ]
                  refine wpAnyH_take (i := 14) (oi := { dst := some 154, op := Go.Op.move (Go.Operand.tmp 9), type := 24, pos := "laws.go:678", after := #[{ on := 13, ground := Go.Ground.guard }], guard := some (13, false) }) (v := ?_) rfl (by kernel_rfl) (by kernel_rfl) (by kernel_rfl) (fun _ _ _ h => h) (Or.inl ⟨by rfl, ?_⟩) (by assumption) ?_
                  rotate_left
                  · (intro w hSw; (try dsimp only at hSw); go_simp); (try with_reducible rfl)
                  try simp only [Act.put, List.setIfInBounds_toArray, List.set_cons_zero, List.set_cons_succ]
                  refine wpAnyH_take (i := 15) (oi := { dst := some 155, op := Go.Op.move (Go.Operand.tmp 18), type := 24, pos := "laws.go:678", after := #[{ on := 13, ground := Go.Ground.guard }], guard := some (13, false) }) (v := ?_) rfl (by kernel_rfl) (by kernel_rfl) (by kernel_rfl) (fun _ _ _ h => h) (Or.inl ⟨by rfl, ?_⟩) (by assumption) ?_
                  rotate_left
                  · (intro w hSw; (try dsimp only at hSw); go_simp); (try with_reducible rfl)
                  try simp only [Act.put, List.setIfInBounds_toArray, List.set_cons_zero, List.set_cons_succ]
                  refine wpAnyH_take (i := 16) (oi := { dst := some 156, op := Go.Op.move (Go.Operand.tmp 20), type := 3, pos := "laws.go:678", after := #[{ on := 13, ground := Go.Ground.guard }], guard := some (13, false) }) (v := ?_) rfl (by kernel_rfl) (by kernel_rfl) (by kernel_rfl) (fun _ _ _ h => h) (Or.inl ⟨by rfl, ?_⟩) (by assumption) ?_
                  rotate_left
                  · (intro w hSw; (try dsimp only at hSw); go_simp); (try with_reducible rfl)
                  try simp only [Act.put, List.setIfInBounds_toArray, List.set_cons_zero, List.set_cons_succ]
                  refine wpAnyH_take (i := 17) (oi := { dst := some 157, op := Go.Op.indexAddr 24 (Go.Operand.tmp 155) (Go.Operand.tmp 156), type := 0, pos := "laws.go:678", after := #[{ on := 15, ground := Go.Ground.data }, { on := 16, ground := Go.Ground.data }, { on := 13, ground := Go.Ground.guard }], guard := some (13, false) }) (v := ?_) rfl (by kernel_rfl) (by kernel_rfl) (by kernel_rfl) (fun _ _ _ h => h) (Or.inl ⟨by rfl, ?_⟩) (by assumption) ?_
                  rotate_left
                  · (intro w hSw; (try dsimp only at hSw); go_simp); (try with_reducible rfl)
                  try simp only [Act.put, List.setIfInBounds_toArray, List.set_cons_zero, List.set_cons_succ]
                  refine wpAnyH_take (i := 18) (oi := { dst := some 158, op := Go.Op.load 2 (Go.Operand.tmp 157), type := 2, pos := "laws.go:678", after := #[{ on := 17, ground := Go.Ground.data }, { on := 13, ground := Go.Ground.guard }], guard := some (13, false) }) (v := ?_) rfl (by kernel_rfl) (by kernel_rfl) (by kernel_rfl) (fun _ _ _ h => h) (Or.inl ⟨by rfl, ?_⟩) (by assumption) ?_
                  rotate_left
                  · (intro w hSw; (try dsimp only at hSw); go_simp); (try with_reducible rfl)
                  try simp only [Act.put, List.setIfInBounds_toArray, List.set_cons_zero, List.set_cons_succ]
                  refine wpAnyH_take (i := 19) (oi := { dst := some 159, op := Go.Op.indexAddr 24 (Go.Operand.tmp 154) (Go.Operand.tmp 158), type := 0, pos := "laws.go:678", after := #[{ on := 14, ground := Go.Ground.data }, { on := 18, ground := Go.Ground.data }, { on := 13, ground := Go.Ground.guard }], guard := some (13, false) }) (v := ?_) rfl (by kernel_rfl) (by kernel_rfl) (by kernel_rfl) (fun _ _ _ h => h) (Or.inl ⟨by rfl, ?_⟩) (by assumption) ?_
                  rotate_left
                  · (intro w hSw; (try dsimp only at hSw); go_simp); (try with_reducible rfl)
                  try simp only [Act.put, List.setIfInBounds_toArray, List.set_cons_zero, List.set_cons_succ]
                  refine wpAnyH_take (i := 20) (oi := { dst := some 160, op := Go.Op.load 2 (Go.Operand.tmp 159), type := 2, pos := "laws.go:678", after := #[{ on := 19, ground := Go.Ground.data }, { on := 13, ground := Go.Ground.guard }], guard := some (13, false) }) (v := ?_) rfl (by kernel_rfl) (by kernel_rfl) (by kernel_rfl) (fun _ _ _ h => h) (Or.inl ⟨by rfl, ?_⟩) (by assumption) ?_
                  rotate_left
                  · (intro w hSw; (try dsimp only at hSw); go_simp); (try with_reducible rfl)
                  try simp only [Act.put, List.setIfInBounds_toArray, List.set_cons_zero, List.set_cons_succ]
                  refine wpAnyH_take (i := 21) (oi := { dst := some 161, op := Go.Op.move (Go.Operand.tmp 17), type := 2, pos := "laws.go:678", after := #[{ on := 13, ground := Go.Ground.guard }], guard := some (13, false) }) (v := ?_) rfl (by kernel_rfl) (by kernel_rfl) (by kernel_rfl) (fun _ _ _ h => h) (Or.inl ⟨by rfl, ?_⟩) (by assumption) ?_
                  rotate_left
                  · (intro w hSw; (try dsimp only at hSw); go_simp); (try with_reducible rfl)
                  try simp only [Act.put, List.setIfInBounds_toArray, List.set_cons_zero, List.set_cons_succ]
                  refine wpAnyH_take (i := 22) (oi := { dst := some 162, op := Go.Op.binOp Go.BinOp.neq 2 (Go.Operand.tmp 160) (Go.Operand.tmp 161) 2, type := 4, pos := "laws.go:678", after := #[{ on := 20, ground := Go.Ground.data }, { on := 21, ground := Go.Ground.data }, { on := 13, ground := Go.Ground.guard }], guard := some (13, false) }) (v := ?_) rfl (by kernel_rfl) (by kernel_rfl) (by kernel_rfl) (fun _ _ _ h => h) (Or.inl ⟨by rfl, ?_⟩) (by assumption) ?_
                  rotate_left
                  · (intro w hSw; (try dsimp only at hSw); go_simp); (try with_reducible rfl)
                  try simp only [Act.put, List.setIfInBounds_toArray, List.set_cons_zero, List.set_cons_succ]
                  refine wpAnyH_take (i := 23) (oi := { dst := some 163, op := Go.Op.pick (Go.Operand.tmp 153) (Go.Operand.const (Go.Value.bool true)) (Go.Operand.tmp 162), type := 4, pos := "laws.go:678", after := #[{ on := 13, ground := Go.Ground.data }, { on := 22, ground := Go.Ground.data }], guard := none }) (v := ?_) rfl (by kernel_rfl) (by kernel_rfl) (by kernel_rfl) (fun _ _ _ h => h) (Or.inl ⟨by rfl, ?_⟩) (by assumption) ?_
                  rotate_left
                  · (intro w hSw; (try dsimp only at hSw); go_simp); (try with_reducible rfl)
                  try simp only [Act.put, List.setIfInBounds_toArray, List.set_cons_zero, List.set_cons_succ]
                  refine wpAnyH_take (i := 24) (oi := { dst := some 164, op := Go.Op.move (Go.Operand.tmp 163), type := 4, pos := "laws.go:678", after := #[{ on := 23, ground := Go.Ground.data }, { on := 13, ground := Go.Ground.chain }], guard := none }) (v := ?_) rfl (by kernel_rfl) (by kernel_rfl) (by kernel_rfl) (fun _ _ _ h => h) (Or.inl ⟨by rfl, ?_⟩) (by assumption) ?_
                  rotate_left
                  · (intro w hSw; (try dsimp only at hSw); go_simp); (try with_reducible rfl)
                  try simp only [Act.put, List.setIfInBounds_toArray, List.set_cons_zero, List.set_cons_succ]
                  refine wpAnyH_take (i := 25) (oi := { dst := some 165, op := Go.Op.move (Go.Operand.tmp 20), type := 3, pos := "laws.go:678", after := #[{ on := 24, ground := Go.Ground.guard }], guard := some (24, false) }) (v := ?_) rfl (by kernel_rfl) (by kernel_rfl) (by kernel_rfl) (fun _ _ _ h => h) (Or.inl ⟨by rfl, ?_⟩) (by assumption) ?_
                  rotate_left
                  · (intro w hSw; (try dsimp only at hSw); go_simp); (try with_reducible rfl)
                  try simp only [Act.put, List.setIfInBounds_toArray, List.set_cons_zero, List.set_cons_succ]
                  refine wpAnyH_take (i := 26) (oi := { dst := some 166, op := Go.Op.binOp Go.BinOp.gtr 3 (Go.Operand.tmp 165) (Go.Operand.const (Go.Value.int Go.IntKind.i64 0)) 3, type := 4, pos := "laws.go:678", after := #[{ on := 25, ground := Go.Ground.data }, { on := 24, ground := Go.Ground.guard }], guard := some (24, false) }) (v := ?_) rfl (by kernel_rfl) (by kernel_rfl) (by kernel_rfl) (fun _ _ _ h => h) (Or.inl ⟨by rfl, ?_⟩) (by assumption) ?_
                  rotate_left
                  · (intro w hSw; (try dsimp only at hSw); go_simp); (try with_reducible rfl)
                  try simp only [Act.put, List.setIfInBounds_toArray, List.set_cons_zero, List.set_cons_succ]
                  refine wpAnyH_take (i := 27) (oi := { dst := some 167, op := Go.Op.move (Go.Operand.tmp 166), type := 4, pos := "laws.go:678", after := #[{ on := 26, ground := Go.Ground.data }, { on := 24, ground := Go.Ground.chain }, { on := 24, ground := Go.Ground.guard }], guard := some (24, false) }) (v := ?_) rfl (by kernel_rfl) (by kernel_rfl) (by kernel_rfl) (fun _ _ _ h => h) (Or.inl ⟨by rfl, ?_⟩) (by assumption) ?_
                  rotate_left
                  · (intro w hSw; (try dsimp only at hSw); go_simp); (try with_reducible rfl)
                  try simp only [Act.put, List.setIfInBounds_toArray, List.set_cons_zero, List.set_cons_succ]
                  refine wpAnyH_take (i := 28) (oi := { dst := some 168, op := Go.Op.move (Go.Operand.tmp 18), type := 24, pos := "laws.go:678", after := #[{ on := 27, ground := Go.Ground.guard }], guard := some (27, true) }) (v := ?_) rfl (by kernel_rfl) (by kernel_rfl) (by kernel_rfl) (fun _ _ _ h => h) (Or.inl ⟨by rfl, ?_⟩) (by assumption) ?_
                  rotate_left
                  · (intro w hSw; (try dsimp only at hSw); go_simp); (try with_reducible rfl)
                  try simp only [Act.put, List.setIfInBounds_toArray, List.set_cons_zero, List.set_cons_succ]
                  refine wpAnyH_take (i := 29) (oi := { dst := some 169, op := Go.Op.move (Go.Operand.tmp 20), type := 3, pos := "laws.go:678", after := #[{ on := 27, ground := Go.Ground.guard }], guard := some (27, true) }) (v := ?_) rfl (by kernel_rfl) (by kernel_rfl) (by kernel_rfl) (fun _ _ _ h => h) (Or.inl ⟨by rfl, ?_⟩) (by assumption) ?_
                  rotate_left
                  · (intro w hSw; (try dsimp only at hSw); go_simp); (try with_reducible rfl)
                  try simp only [Act.put, List.setIfInBounds_toArray, List.set_cons_zero, List.set_cons_succ]
                  refine wpAnyH_take (i := 30) (oi := { dst := some 170, op := Go.Op.indexAddr 24 (Go.Operand.tmp 168) (Go.Operand.tmp 169), type := 0, pos := "laws.go:678", after := #[{ on := 28, ground := Go.Ground.data }, { on := 29, ground := Go.Ground.data }, { on := 27, ground := Go.Ground.guard }], guard := some (27, true) }) (v := ?_) rfl (by kernel_rfl) (by kernel_rfl) (by kernel_rfl) (fun _ _ _ h => h) (Or.inl ⟨by rfl, ?_⟩) (by assumption) ?_
                  rotate_left
                  · (intro w hSw; (try dsimp only at hSw); go_simp); (try with_reducible rfl)
                  try simp only [Act.put, List.setIfInBounds_toArray, List.set_cons_zero, List.set_cons_succ]
                  refine wpAnyH_take (i := 31) (oi := { dst := some 171, op := Go.Op.load 2 (Go.Operand.tmp 170), type := 2, pos := "laws.go:678", after := #[{ on := 30, ground := Go.Ground.data }, { on := 27, ground := Go.Ground.guard }], guard := some (27, true) }) (v := ?_) rfl (by kernel_rfl) (by kernel_rfl) (by kernel_rfl) (fun _ _ _ h => h) (Or.inl ⟨by rfl, ?_⟩) (by assumption) ?_
                  rotate_left
                  · (intro w hSw; (try dsimp only at hSw); go_simp); (try with_reducible rfl)
                  try simp only [Act.put, List.setIfInBounds_toArray, List.set_cons_zero, List.set_cons_succ]
                  refine wpAnyH_take (i := 32) (oi := { dst := some 172, op := Go.Op.move (Go.Operand.tmp 18), type := 24, pos := "laws.go:678", after := #[{ on := 27, ground := Go.Ground.guard }], guard := some (27, true) }) (v := ?_) rfl (by kernel_rfl) (by kernel_rfl) (by kernel_rfl) (fun _ _ _ h => h) (Or.inl ⟨by rfl, ?_⟩) (by assumption) ?_
                  rotate_left
                  · (intro w hSw; (try dsimp only at hSw); go_simp); (try with_reducible rfl)
                  try simp only [Act.put, List.setIfInBounds_toArray, List.set_cons_zero, List.set_cons_succ]
                  refine wpAnyH_take (i := 33) (oi := { dst := some 173, op := Go.Op.move (Go.Operand.tmp 20), type := 3, pos := "laws.go:678", after := #[{ on := 27, ground := Go.Ground.guard }], guard := some (27, true) }) (v := ?_) rfl (by kernel_rfl) (by kernel_rfl) (by kernel_rfl) (fun _ _ _ h => h) (Or.inl ⟨by rfl, ?_⟩) (by assumption) ?_
                  rotate_left
                  · (intro w hSw; (try dsimp only at hSw); go_simp); (try with_reducible rfl)
                  try simp only [Act.put, List.setIfInBounds_toArray, List.set_cons_zero, List.set_cons_succ]
                  refine wpAnyH_take (i := 34) (oi := { dst := some 174, op := Go.Op.binOp Go.BinOp.sub 3 (Go.Operand.tmp 173) (Go.Operand.const (Go.Value.int Go.IntKind.i64 1)) 3, type := 3, pos := "laws.go:678", after := #[{ on := 33, ground := Go.Ground.data }, { on := 27, ground := Go.Ground.guard }], guard := some (27, true) }) (v := ?_) rfl (by kernel_rfl) (by kernel_rfl) (by kernel_rfl) (fun _ _ _ h => h) (Or.inl ⟨by rfl, ?_⟩) (by assumption) ?_
                  rotate_left
                  · (intro w hSw; (try dsimp only at hSw); go_simp); (try with_reducible rfl)
                  try simp only [Act.put, List.setIfInBounds_toArray, List.set_cons_zero, List.set_cons_succ]
                  refine wpAnyH_take (i := 35) (oi := { dst := some 175, op := Go.Op.indexAddr 24 (Go.Operand.tmp 172) (Go.Operand.tmp 174), type := 0, pos := "laws.go:678", after := #[{ on := 32, ground := Go.Ground.data }, { on := 34, ground := Go.Ground.data }, { on := 27, ground := Go.Ground.guard }], guard := some (27, true) }) (v := ?_) rfl (by kernel_rfl) (by kernel_rfl) (by kernel_rfl) (fun _ _ _ h => h) (Or.inl ⟨by rfl, ?_⟩) (by assumption) ?_
                  rotate_left
                  · (intro w hSw; (try dsimp only at hSw); go_simp); (try with_reducible rfl)
                  try simp only [Act.put, List.setIfInBounds_toArray, List.set_cons_zero, List.set_cons_succ]
                  refine wpAnyH_take (i := 36) (oi := { dst := some 176, op := Go.Op.load 2 (Go.Operand.tmp 175), type := 2, pos := "laws.go:678", after := #[{ on := 35, ground := Go.Ground.data }, { on := 27, ground := Go.Ground.guard }], guard := some (27, true) }) (v := ?_) rfl (by kernel_rfl) (by kernel_rfl) (by kernel_rfl) (fun _ _ _ h => h) (Or.inl ⟨by rfl, ?_⟩) (by assumption) ?_
                  rotate_left
                  · (intro w hSw; (try dsimp only at hSw); go_simp); (try with_reducible rfl)
                  try simp only [Act.put, List.setIfInBounds_toArray, List.set_cons_zero, List.set_cons_succ]
                  refine wpAnyH_take (i := 37) (oi := { dst := some 177, op := Go.Op.binOp Go.BinOp.leq 2 (Go.Operand.tmp 171) (Go.Operand.tmp 176) 2, type := 4, pos := "laws.go:678", after := #[{ on := 31, ground := Go.Ground.data }, { on := 36, ground := Go.Ground.data }, { on := 27, ground := Go.Ground.guard }], guard := some (27, true) }) (v := ?_) rfl (by kernel_rfl) (by kernel_rfl) (by kernel_rfl) (fun _ _ _ h => h) (Or.inl ⟨by rfl, ?_⟩) (by assumption) ?_
                  rotate_left
                  · (intro w hSw; (try dsimp only at hSw); go_simp); (try with_reducible rfl)
                  try simp only [Act.put, List.setIfInBounds_toArray, List.set_cons_zero, List.set_cons_succ]
                  refine wpAnyH_take (i := 38) (oi := { dst := some 178, op := Go.Op.pick (Go.Operand.tmp 167) (Go.Operand.tmp 177) (Go.Operand.const (Go.Value.bool false)), type := 4, pos := "laws.go:678", after := #[{ on := 27, ground := Go.Ground.data }, { on := 37, ground := Go.Ground.data }, { on := 24, ground := Go.Ground.guard }], guard := some (24, false) }) (v := ?_) rfl (by kernel_rfl) (by kernel_rfl) (by kernel_rfl) (fun _ _ _ h => h) (Or.inl ⟨by rfl, ?_⟩) (by assumption) ?_
                  rotate_left
                  · (intro w hSw; (try dsimp only at hSw); go_simp); (try with_reducible rfl)
                  try simp only [Act.put, List.setIfInBounds_toArray, List.set_cons_zero, List.set_cons_succ]
                  refine wpAnyH_take (i := 39) (oi := { dst := some 179, op := Go.Op.pick (Go.Operand.tmp 164) (Go.Operand.const (Go.Value.bool true)) (Go.Operand.tmp 178), type := 4, pos := "laws.go:678", after := #[{ on := 24, ground := Go.Ground.data }, { on := 38, ground := Go.Ground.data }], guard := none }) (v := ?_) rfl (by kernel_rfl) (by kernel_rfl) (by kernel_rfl) (fun _ _ _ h => h) (Or.inl ⟨by rfl, ?_⟩) (by assumption) ?_
                  rotate_left
                  · (intro w hSw; (try dsimp only at hSw); go_simp); (try with_reducible rfl)
                  try simp only [Act.put, List.setIfInBounds_toArray, List.set_cons_zero, List.set_cons_succ]
                  refine wpAnyH_done (by kernel_rfl) ?_ _
                  go_wp2
                  go_roundw
                  case rel => exact ⟨j + 1, by omega, by go_num, by first | exact hHeld.1 | exact hHeld.1.drew | exact below_drewN hHeld.1 _⟩
                  case measure => simp [intOf]; omega
              · obtain rfl : j = M.length := by omega
                clear HY HMM HMU HCL HLO HOA
                go_wp2
                go_roundw
                case rel => exact ⟨k + 1, by omega, by go_num, hw5.trans (hv.mono hs5)⟩
                case measure => simp [intOf]; omega
          · obtain rfl : (k : Int) = P := by omega
            clear HTP HTC HCL HLO HOA
            go_wp2
            go_ret
            exact ⟨rfl, BB.trans ((B4.trans (hw.mono hs4)).mono BB.size)⟩
end Go.Proofs.Ytmmkeihcjpnpjaa
