/- The walk of the law FnLoads: it returns true. No conditions. -/
import Derived.Test.YtlpeigeadjojnaaHdP
import Derived.Test.YtlpeigeadjojnaaHdQ
import Derived.Test.YtlpeigeadjojnaaHdF
import Derived.Test.YtlpeigeadjojnaaHdH
import Derived.Test.YtlpeigeadjojnaaHdY
import Derived.IntWalk
namespace Go.Proofs.Ytlpeigeadjojnaa
open Go.RowKit
set_option linter.unusedSimpArgs false
set_option linter.unusedVariables false

theorem ren_zero {o names : List Int} (h : renC o names = 0) : okH o = true ∧ nmH o names = true := by
  cases h1 : okH o with
  | false => rw [renC_bad names h1] at h; cases h
  | true =>
    cases h2 : nmH o names with
    | false => rw [renC_far h1 h2] at h; cases h
    | true => exact ⟨rfl, rfl⟩
theorem same_self (p : List Int) : sameL p p = true := by simp [sameL]

set_option maxRecDepth 10000 in
set_option maxHeartbeats 4000000 in
theorem walk_FnLoads (a0 : Option Addr) (len0 cap0 : Nat) (z0 : List Int) (w : World) (r0 : IsRow .u8 w a0 len0 cap0 z0) :
    Calls Try.prog 4 #[.slice a0 len0 cap0] w fun e w' => e = .returned (.bool true) ∧ Below w.heap.size w w' := by
  have hm0 : len0 ≤ 9223372036854775807 := by have := r0.bytes.2.1; unfold maxLen at this; omega
  have HF := f6bigH_any a0 len0 cap0 w hm0
  by_cases hbig : 4096 < (len0 : Int)
  · rw [decide_eq_true hbig] at HF
    clear r0
    go_enter Try.func4, Try.ntmps4
    go_wp2_with fail
    refine HF.mono ?_
    rintro e w' ⟨rfl, rfl⟩
    go_wp2
    go_ret
    exact ⟨rfl, Below.refl _ _⟩
  · rw [decide_eq_false hbig] at HF
    have hl0 : len0 ≤ 1000000000 := by omega
    clear hbig hm0
    have BB := Below.refl w.heap.size w
    go_enter Try.func4, Try.ntmps4
    go_wp2_with fail
    refine HF.mono ?_
    rintro e w' ⟨rfl, rfl⟩
    clear HF
    go_wp2_with fail
    refine (drawLoadsOf_any a0 len0 cap0 z0 _ r0 hl0).mono ?_
    rintro e w1 ⟨v, p, u, o, rfl, ip, io, bb⟩
    replace r0 := r0.below bb
    replace BB := BB.trans (bb.mono BB.size)
    clear bb
    go_wp2_with fail
    refine (loadsOf_impl _ _ _ _ p o _ ip io).mono ?_
    rintro e w2 ⟨x1, rfl, j1, bb⟩
    replace r0 := r0.below bb
    replace ip := ip.below bb
    replace io := io.below bb
    replace BB := BB.trans (bb.mono BB.size)
    clear bb
    go_wp2_with fail
    refine (loadsOf_spec _ _ _ _ p o _ ip io).mono ?_
    rintro e w3 ⟨x2, rfl, j2, bb⟩
    replace r0 := r0.below bb
    replace ip := ip.below bb
    replace io := io.below bb
    replace j1 := j1.below bb
    replace BB := BB.trans (bb.mono BB.size)
    clear bb
    go_wp2_with fail
    refine (restsOf_impl _ _ _ _ p o _ ip io).mono ?_
    rintro e w4 ⟨x3, rfl, j3, bb⟩
    replace r0 := r0.below bb
    replace ip := ip.below bb
    replace io := io.below bb
    replace j1 := j1.below bb
    replace j2 := j2.below bb
    replace BB := BB.trans (bb.mono BB.size)
    clear bb
    go_wp2_with fail
    refine (restsOf_spec _ _ _ _ p o _ ip io).mono ?_
    rintro e w5 ⟨x4, rfl, j4, bb⟩
    replace r0 := r0.below bb
    replace ip := ip.below bb
    replace io := io.below bb
    replace j1 := j1.below bb
    replace j2 := j2.below bb
    replace j3 := j3.below bb
    replace BB := BB.trans (bb.mono BB.size)
    clear bb
    go_wp2_with fail
    refine (drawRenameHands_any a0 len0 cap0 z0 _ r0 hl0).mono ?_
    rintro e w6 ⟨v5, q, u5, nm, rfl, iq, inm, bb⟩
    replace r0 := r0.below bb
    replace ip := ip.below bb
    replace io := io.below bb
    replace j1 := j1.below bb
    replace j2 := j2.below bb
    replace j3 := j3.below bb
    replace j4 := j4.below bb
    replace BB := BB.trans (bb.mono BB.size)
    clear bb
    clear r0
    go_wp2_with fail
    refine (renameHands_impl _ _ _ _ q nm _ iq inm).mono ?_
    rintro e w7 ⟨x6, rfl, j6, bb⟩
    replace ip := ip.below bb
    replace io := io.below bb
    replace j1 := j1.below bb
    replace j2 := j2.below bb
    replace j3 := j3.below bb
    replace j4 := j4.below bb
    replace iq := iq.below bb
    replace inm := inm.below bb
    replace BB := BB.trans (bb.mono BB.size)
    clear bb
    go_wp2_with fail
    refine (renameHands_spec _ _ _ _ q nm _ iq inm).mono ?_
    rintro e w8 ⟨x7, rfl, j7, bb⟩
    replace ip := ip.below bb
    replace io := io.below bb
    replace j1 := j1.below bb
    replace j2 := j2.below bb
    replace j3 := j3.below bb
    replace j4 := j4.below bb
    replace iq := iq.below bb
    replace inm := inm.below bb
    replace j6 := j6.below bb
    replace BB := BB.trans (bb.mono BB.size)
    clear bb
    have n1 : (poC p o != poC p o) = false := by simp
    have n2 : (renC q nm != renC q nm) = false := by simp
    have HS := f6ints_any _ _ _ _ _ _ _ j1 j2
    rw [same_self] at HS
    go_wp2_with fail
    refine (HS).mono ?_
    rintro e w9 ⟨rfl, bb⟩
    replace ip := ip.below bb
    replace io := io.below bb
    replace j1 := j1.below bb
    replace j2 := j2.below bb
    replace j3 := j3.below bb
    replace j4 := j4.below bb
    replace iq := iq.below bb
    replace inm := inm.below bb
    replace j6 := j6.below bb
    replace j7 := j7.below bb
    replace BB := BB.trans (bb.mono BB.size)
    clear bb
    clear HS
    clear j2
    have HS := f6ints_any _ _ _ _ _ _ _ j3 j4
    rw [same_self] at HS
    go_wp2_with fail
    refine (HS).mono ?_
    rintro e w10 ⟨rfl, bb⟩
    replace ip := ip.below bb
    replace io := io.below bb
    replace j1 := j1.below bb
    replace j3 := j3.below bb
    replace j4 := j4.below bb
    replace iq := iq.below bb
    replace inm := inm.below bb
    replace j6 := j6.below bb
    replace j7 := j7.below bb
    replace BB := BB.trans (bb.mono BB.size)
    clear bb
    clear HS
    clear j4
    have HS := f6ints_any _ _ _ _ _ _ _ j6 j7
    rw [same_self] at HS
    go_wp2_with fail
    refine (HS).mono ?_
    rintro e w11 ⟨rfl, bb⟩
    replace ip := ip.below bb
    replace io := io.below bb
    replace j1 := j1.below bb
    replace j3 := j3.below bb
    replace iq := iq.below bb
    replace inm := inm.below bb
    replace j6 := j6.below bb
    replace j7 := j7.below bb
    replace BB := BB.trans (bb.mono BB.size)
    clear bb
    clear HS
    clear j7 n1 n2
    by_cases h3 : renC q nm = 0
    · skip
      obtain ⟨hqo, hqn⟩ := ren_zero h3
      obtain ⟨hro, hrc⟩ := ren_ok hqo hqn
      have hqc := okH_cnt hqo
      rw [renA_ok hqo hqn] at j6
      rw [h3]
      have hla := ld_len hqo
      have hlb := ld_len hro
      rw [hrc] at hlb
      have hnl : nm.length = (cntH q).toNat := by
        simp only [nmH, Bool.and_eq_true, decide_eq_true_eq] at hqn
        omega
      have HLD := Lib.hid (fun (k : Nat) (hk : (k : Int) < cntH q) => load_ren hqo hqn hk)
      clear h3 hrc hqn
      have i3 : Ints (w11.alloc (.cells #[.int .i64 3] 2)) w11.heap.size (.slice (some ⟨w11.heap.size, 0, none⟩) 1 1) [3] := World.ownsRow_lit w11 #[.int .i64 3] 1 (Nat.le_refl _) (by simp [maxLen]) rfl
      have bb : Below w11.heap.size w11 (w11.alloc (.cells #[.int .i64 3] 2)) := (Below.refl _ _).alloc (Nat.le_refl _) _
      replace ip := ip.below bb
      replace io := io.below bb
      replace j1 := j1.below bb
      replace j3 := j3.below bb
      replace iq := iq.below bb
      replace inm := inm.below bb
      replace j6 := j6.below bb
      replace BB := BB.trans (bb.mono BB.size)
      clear bb
      have HA := loadsOf_impl _ _ _ _ [3] q _ i3 iq
      rw [poC_true (okPO3 hqo)] at HA
      go_wp2_with fail
      refine (HA).mono ?_
      rintro e w13 ⟨xa, rfl, ja, bb⟩
      replace ip := ip.below bb
      replace io := io.below bb
      replace j1 := j1.below bb
      replace j3 := j3.below bb
      replace iq := iq.below bb
      replace inm := inm.below bb
      replace j6 := j6.below bb
      replace BB := BB.trans (bb.mono BB.size)
      clear bb
      clear HA i3
      have i3 : Ints (w13.alloc (.cells #[.int .i64 3] 2)) w13.heap.size (.slice (some ⟨w13.heap.size, 0, none⟩) 1 1) [3] := World.ownsRow_lit w13 #[.int .i64 3] 1 (Nat.le_refl _) (by simp [maxLen]) rfl
      have bb : Below w13.heap.size w13 (w13.alloc (.cells #[.int .i64 3] 2)) := (Below.refl _ _).alloc (Nat.le_refl _) _
      replace ip := ip.below bb
      replace io := io.below bb
      replace j1 := j1.below bb
      replace j3 := j3.below bb
      replace iq := iq.below bb
      replace inm := inm.below bb
      replace j6 := j6.below bb
      replace ja := ja.below bb
      replace BB := BB.trans (bb.mono BB.size)
      clear bb
      have HA := loadsOf_impl _ _ _ _ [3] (renL q nm) _ i3 j6
      rw [poC_true (okPO3 hro)] at HA
      go_wp2_with fail
      refine (HA).mono ?_
      rintro e w15 ⟨xb, rfl, jb, bb⟩
      replace ip := ip.below bb
      replace io := io.below bb
      replace j1 := j1.below bb
      replace j3 := j3.below bb
      replace iq := iq.below bb
      replace inm := inm.below bb
      replace j6 := j6.below bb
      replace ja := ja.below bb
      replace BB := BB.trans (bb.mono BB.size)
      clear bb
      clear HA i3
      obtain ⟨ga, ca, rfl, _, _, _, _⟩ := ja.shape2 (by omega)
      obtain ⟨gb, cb, rfl, _, _, _, _⟩ := jb.shape2 (by omega)
      obtain ⟨gn, cn, rfl, _, _, _, _⟩ := inm.shape2 (by omega)
      have HCA := Lib.hid (fun (W : World) (hW : Below w15.heap.size w15 W) k (hk : k < (cntH q).toNat) => (ja.below hW).cell k (by omega))
      have HCB := Lib.hid (fun (W : World) (hW : Below w15.heap.size w15 W) k (hk : k < (cntH q).toNat) => (jb.below hW).cell k (by omega))
      have HCN := Lib.hid (fun (W : World) (hW : Below w15.heap.size w15 W) k (hk : k < (cntH q).toNat) => (inm.below hW).cell k (by omega))
      rw [hla, hlb, hnl]
      obtain ⟨d, hd⟩ : ∃ d : Nat, cntH q = (d : Int) := ⟨(cntH q).toNat, by omega⟩
      rw [hd] at HCA HCB HCN HLD ⊢
      rw [Int.toNat_natCast] at HCA HCB HCN ⊢
      have hd4 : d ≤ 4 := by omega
      have hd1 : ((d : Int) != (d : Int)) = false := by simp
      clear ja jb inm iq j6 hla hlb hnl hqo hro hqc hd
      generalize ldA [3] q = LA at *
      generalize ldA [3] (renL q nm) = LB at *
      go_wp2
      go_loopw [23] (fun i wr => ∃ k : Nat, k ≤ d ∧ i = .int .i64 k ∧ Below w15.heap.size w15 wr) (fun i _ => d - (intOf i).toNat)
      case atStart => exact ⟨0, Nat.zero_le _, rfl, Below.refl _ _⟩
      case round =>
        obtain ⟨k, hk, rfl, hb⟩ := hrel
        by_cases hlt : k < d
        · obtain ⟨e1, e2, e3⟩ := HLD.out k (by omega)
          have k1 := HCA.out wr hb k hlt
          have k2 := HCN.out wr hb k hlt
          have k3 := HCB.out wr hb (nm.getD k 0).toNat (by omega)
          rw [e1] at k3
          generalize LA.getD k 0 = y at *
          obtain ⟨t, ht⟩ : ∃ t : Nat, nm.getD k 0 = (t : Int) := ⟨(nm.getD k 0).toNat, by omega⟩
          rw [ht] at k2 k3 e3
          rw [Int.toNat_natCast] at k3
          have e3' : t < d := by omega
          have ny : (y != y) = false := by simp
          clear HLD HCA HCB HCN e1 e2 ht ip io j1 j3
          go_wp2
          go_quiet (fail)
          go_wp2
          go_roundw
          case rel => first | exact ⟨k + 1, by omega, by go_num, hb⟩ | exact ⟨k + 1, by omega, by go_num, Below.drew hb⟩ | exact ⟨k + 1, by omega, by go_num, below_drewN hb _⟩
          case measure => simp [intOf]; omega
        · obtain rfl : k = d := by omega
          clear HLD HCA HCB HCN hd1
          have bb := hb
          clear hb
          replace ip := ip.below bb
          replace io := io.below bb
          replace j1 := j1.below bb
          replace j3 := j3.below bb
          replace BB := BB.trans (bb.mono BB.size)
          clear bb
          cases hq : okPO p o with
          | false =>
            rw [poC_false hq] at *
            clear ip io j1 j3
            go_wp2
            go_ret
            exact ⟨rfl, BB⟩
          | true =>
            rw [poC_true hq, ldA_true hq, rsA_true hq] at *
            have HH := handThrows_impl _ _ _ _ p o _ ip io
            rw [poC_true hq, thA_true hq] at HH
            go_wp2_with fail
            refine (HH).mono ?_
            rintro e w16 ⟨x8, rfl, j8, bb⟩
            replace ip := ip.below bb
            replace io := io.below bb
            replace j1 := j1.below bb
            replace j3 := j3.below bb
            replace BB := BB.trans (bb.mono BB.size)
            clear bb
            clear HH
            have HC := commonPeriod_impl _ _ _ _ p o _ ip io
            rw [poC_true hq, cpA_true hq] at HC
            go_wp2_with fail
            refine (HC).mono ?_
            rintro e w17 ⟨rfl, bb⟩
            replace ip := ip.below bb
            replace io := io.below bb
            replace j1 := j1.below bb
            replace j3 := j3.below bb
            replace j8 := j8.below bb
            replace BB := BB.trans (bb.mono BB.size)
            clear bb
            clear HC
            obtain ⟨hp, ho⟩ := okPO_parts hq
            obtain ⟨c1, c4⟩ := okH_cnt ho
            obtain ⟨cp1, cp2⟩ := cpN_bound hq
            have hll := ldL_len (cntH o).toNat (thH p o)
            have hrl := rsL_len p o (cntH o).toNat
            have hsm := smK_all (p := p) ho (cpN p o)
            have hln := thH_len hq
            obtain ⟨g1, cc1, rfl, _, _, _, _⟩ := j1.shape2 (by omega)
            obtain ⟨g3, cc3, rfl, _, _, _, _⟩ := j3.shape2 (by omega)
            obtain ⟨g8, cc8, rfl, _⟩ := hth_sl j8
            obtain ⟨c, hc⟩ : ∃ c : Nat, (cntH o).toNat = c := ⟨_, rfl⟩
            obtain ⟨n, hn⟩ : ∃ n : Nat, cpN p o = n := ⟨_, rfl⟩
            obtain ⟨L, hL⟩ : ∃ L : List HthT, thH p o = L := ⟨_, rfl⟩
            have hc4 : c ≤ 4 := by omega
            have hn1 : 1 ≤ n := by omega
            have hn2 : n ≤ 144 := by omega
            rw [hc] at j1 j3 hll hrl hsm ⊢
            have hsm2 : smK L c = L.length := by rw [← hL]; exact hsm
            have hl144 : L.length ≤ 144 := by rw [← hL]; omega
            have HL := Lib.hid (fun (W : World) (hW : Below w17.heap.size w17 W) k (hk : k < c) => ((j1.below hW).cell k (by omega)).trans (show _ = some (Value.int .i64 ((cntF L (k : Int) : Nat) : Int)) from by rw [ldL_at _ _ k hk, hL]))
            have HR := Lib.hid (fun (W : World) (hW : Below w17.heap.size w17 W) k (hk : k < c) => ((j3.below hW).cell k (by omega)).trans (show _ = some (Value.int .i64 (restG (btF L (k : Int)) (n : Int))) from by rw [rsL_at _ _ _ k hk, hL, hn]))
            have HX : Hid (∀ k : Nat, (cntF L (k : Int) = 0 ↔ restG (btF L (k : Int)) (n : Int) = 0) ∧ (cntF L (k : Int) = 1 → restG (btF L (k : Int)) (n : Int) = (n : Int)) ∧ (1 ≤ cntF L (k : Int) → (n : Int) ≤ ((cntF L (k : Int) : Nat) : Int) * restG (btF L (k : Int)) (n : Int)) ∧ 0 ≤ restG (btF L (k : Int)) (n : Int) ∧ restG (btF L (k : Int)) (n : Int) ≤ 2 * (n : Int)) := Lib.hid (fun k : Nat => by
              have := rest_load (btF_in (p := p) (o := o) (k : Int)) (show (1 : Int) ≤ (cpN p o : Nat) by omega)
              rw [btF_cnt, hn, hL] at this
              exact this)
            have HSM := Lib.hid (fun k : Nat => smK_step L k)
            have HLE := Lib.hid (fun k (hk : k ≤ c) => smK_le L c hl144 k hk)
            have HCL := Lib.hid (fun k : Nat => Nat.le_trans (cntF_le L (k : Int)) hl144)
            have HEND := Lib.hid hsm2
            have HZ : Hid (smK L 0 = 0) := Lib.hid rfl
            rw [hll, hrl, hL, hn]
            clear ip io j1 j3 j8 hll hrl hsm hsm2 hc hn hL hln cp1 cp2 c1 c4 hp ho hq
            have ncc : ((c : Int) != (c : Int)) = false := by simp
            go_wp2
            go_loopw [28, 29] (fun sm i wr => ∃ k : Nat, k ≤ c ∧ i = .int .i64 k ∧ sm = .int .i64 ((smK L k : Nat) : Int) ∧ Below w17.heap.size w17 wr) (fun _ i _ => c - (intOf i).toNat)
            case atStart => exact ⟨0, Nat.zero_le _, rfl, by rw [HZ.out]; rfl, Below.refl _ _⟩
            case round =>
              obtain ⟨k, hk, rfl, rfl, hb⟩ := hrel
              by_cases hlt : k < c
              · have c1 := HL.out wr hb k hlt
                have c3 := HR.out wr hb k hlt
                obtain ⟨x1, x2, x3, x4, x5⟩ := HX.out k
                have hst := HSM.out k
                have hle := HLE.out k hk
                have hcl := HCL.out k
                generalize restG (btF L (k : Int)) (n : Int) = r at *
                generalize cntF L (k : Int) = l at *
                have HST := Lib.hid (show ((smK L k : Nat) : Int) + (l : Int) = ((smK L (k + 1) : Nat) : Int) by omega)
                generalize smK L k = m at *
                clear HL HR HX HSM HLE HCL HEND HZ hst
                rcases (show l = 0 ∨ l = 1 ∨ 2 ≤ l by omega) with rfl | rfl | h2
                · obtain rfl : r = 0 := x1.1 rfl
                  replace c1 : wr.cell? ⟨g1, k, none⟩ = some (.int .i64 0) := c1
                  have y4b : IntKind.i64.wrap 0 = 0 := by decide
                  have y3 : (0 : Int) < (n : Int) := by omega
                  have y3a : decide ((0 : Int) < (n : Int)) = true := decide_eq_true y3
                  have y3c : 0 < n := by omega
                  have y4 : IntKind.i64.wrap ((0 : Int) * (0 : Int)) = 0 := by decide
                  clear x1 x2 x3 x4 x5
                  go_upto_region 34 with fail
                  refine wp_region_calm (S := (fun W' => W'.cell? ⟨g1, k, none⟩ = some (.int .i64 0) ∧ W'.cell? ⟨g3, k, none⟩ = some (.int .i64 0))) (by kernel_rfl) ?_ (fun hHeld => ?_)
                  · (try dsimp only); exact ⟨c1, c3⟩
                  refine wpAnyH_take (i := 0) (oi := { dst := some 200, op := Go.Op.move (Go.Operand.tmp 5), type := 24, pos := "laws.go:1456", after := #[], guard := none }) (v := ?_) rfl (by kernel_rfl) (by kernel_rfl) (by kernel_rfl) (fun _ _ _ h => h.no (by intro q; cases q)) (Or.inl ⟨by rfl, ?_⟩) (by assumption) ?_
                  rotate_left
                  · (intro w hSw; (try dsimp only at hSw); go_simp); (try with_reducible rfl)
                  try simp only [Act.put, List.setIfInBounds_toArray, List.set_cons_zero, List.set_cons_succ]
                  refine wpAnyH_take (i := 1) (oi := { dst := some 201, op := Go.Op.move (Go.Operand.tmp 29), type := 3, pos := "laws.go:1456", after := #[], guard := none }) (v := ?_) rfl (by kernel_rfl) (by kernel_rfl) (by kernel_rfl) (fun _ _ _ h => h.no (by intro q; cases q)) (Or.inl ⟨by rfl, ?_⟩) (by assumption) ?_
                  rotate_left
                  · (intro w hSw; (try dsimp only at hSw); go_simp); (try with_reducible rfl)
                  try simp only [Act.put, List.setIfInBounds_toArray, List.set_cons_zero, List.set_cons_succ]
                  refine wpAnyH_take (i := 2) (oi := { dst := some 202, op := Go.Op.indexAddr 24 (Go.Operand.tmp 200) (Go.Operand.tmp 201), type := 0, pos := "laws.go:1456", after := #[{ on := 0, ground := Go.Ground.data }, { on := 1, ground := Go.Ground.data }], guard := none }) (v := ?_) rfl (by kernel_rfl) (by kernel_rfl) (by kernel_rfl) (fun _ _ _ h => h.no (by intro q; cases q)) (Or.inl ⟨by rfl, ?_⟩) (by assumption) ?_
                  rotate_left
                  · (intro w hSw; (try dsimp only at hSw); go_simp); (try with_reducible rfl)
                  try simp only [Act.put, List.setIfInBounds_toArray, List.set_cons_zero, List.set_cons_succ]
                  refine wpAnyH_take (i := 3) (oi := { dst := some 203, op := Go.Op.load 2 (Go.Operand.tmp 202), type := 2, pos := "laws.go:1456", after := #[{ on := 2, ground := Go.Ground.data }], guard := none }) (v := ?_) rfl (by kernel_rfl) (by kernel_rfl) (by kernel_rfl) (fun _ _ _ h => h.no (by intro q; cases q)) (Or.inl ⟨by rfl, ?_⟩) (by assumption) ?_
                  rotate_left
                  · (intro w hSw; (try dsimp only at hSw); go_simp); (try with_reducible rfl)
                  try simp only [Act.put, List.setIfInBounds_toArray, List.set_cons_zero, List.set_cons_succ]
                  refine wpAnyH_take (i := 4) (oi := { dst := some 204, op := Go.Op.binOp Go.BinOp.eql 2 (Go.Operand.tmp 203) (Go.Operand.const (Go.Value.int Go.IntKind.i64 0)) 2, type := 4, pos := "laws.go:1456", after := #[{ on := 3, ground := Go.Ground.data }], guard := none }) (v := ?_) rfl (by kernel_rfl) (by kernel_rfl) (by kernel_rfl) (fun _ _ _ h => h.no (by intro q; cases q)) (Or.inl ⟨by rfl, ?_⟩) (by assumption) ?_
                  rotate_left
                  · (intro w hSw; (try dsimp only at hSw); go_simp); (try with_reducible rfl)
                  try simp only [Act.put, List.setIfInBounds_toArray, List.set_cons_zero, List.set_cons_succ]
                  refine wpAnyH_take (i := 5) (oi := { dst := some 205, op := Go.Op.move (Go.Operand.tmp 9), type := 24, pos := "laws.go:1456", after := #[], guard := none }) (v := ?_) rfl (by kernel_rfl) (by kernel_rfl) (by kernel_rfl) (fun _ _ _ h => h.no (by intro q; cases q)) (Or.inl ⟨by rfl, ?_⟩) (by assumption) ?_
                  rotate_left
                  · (intro w hSw; (try dsimp only at hSw); go_simp); (try with_reducible rfl)
                  try simp only [Act.put, List.setIfInBounds_toArray, List.set_cons_zero, List.set_cons_succ]
                  refine wpAnyH_take (i := 6) (oi := { dst := some 206, op := Go.Op.move (Go.Operand.tmp 29), type := 3, pos := "laws.go:1456", after := #[], guard := none }) (v := ?_) rfl (by kernel_rfl) (by kernel_rfl) (by kernel_rfl) (fun _ _ _ h => h.no (by intro q; cases q)) (Or.inl ⟨by rfl, ?_⟩) (by assumption) ?_
                  rotate_left
                  · (intro w hSw; (try dsimp only at hSw); go_simp); (try with_reducible rfl)
                  try simp only [Act.put, List.setIfInBounds_toArray, List.set_cons_zero, List.set_cons_succ]
                  refine wpAnyH_take (i := 7) (oi := { dst := some 207, op := Go.Op.indexAddr 24 (Go.Operand.tmp 205) (Go.Operand.tmp 206), type := 0, pos := "laws.go:1456", after := #[{ on := 5, ground := Go.Ground.data }, { on := 6, ground := Go.Ground.data }], guard := none }) (v := ?_) rfl (by kernel_rfl) (by kernel_rfl) (by kernel_rfl) (fun _ _ _ h => h.no (by intro q; cases q)) (Or.inl ⟨by rfl, ?_⟩) (by assumption) ?_
                  rotate_left
                  · (intro w hSw; (try dsimp only at hSw); go_simp); (try with_reducible rfl)
                  try simp only [Act.put, List.setIfInBounds_toArray, List.set_cons_zero, List.set_cons_succ]
                  refine wpAnyH_take (i := 8) (oi := { dst := some 208, op := Go.Op.load 2 (Go.Operand.tmp 207), type := 2, pos := "laws.go:1456", after := #[{ on := 7, ground := Go.Ground.data }], guard := none }) (v := ?_) rfl (by kernel_rfl) (by kernel_rfl) (by kernel_rfl) (fun _ _ _ h => h.no (by intro q; cases q)) (Or.inl ⟨by rfl, ?_⟩) (by assumption) ?_
                  rotate_left
                  · (intro w hSw; (try dsimp only at hSw); go_simp); (try with_reducible rfl)
                  try simp only [Act.put, List.setIfInBounds_toArray, List.set_cons_zero, List.set_cons_succ]
                  refine wpAnyH_take (i := 9) (oi := { dst := some 209, op := Go.Op.binOp Go.BinOp.eql 2 (Go.Operand.tmp 208) (Go.Operand.const (Go.Value.int Go.IntKind.i64 0)) 2, type := 4, pos := "laws.go:1456", after := #[{ on := 8, ground := Go.Ground.data }], guard := none }) (v := ?_) rfl (by kernel_rfl) (by kernel_rfl) (by kernel_rfl) (fun _ _ _ h => h.no (by intro q; cases q)) (Or.inl ⟨by rfl, ?_⟩) (by assumption) ?_
                  rotate_left
                  · (intro w hSw; (try dsimp only at hSw); go_simp); (try with_reducible rfl)
                  try simp only [Act.put, List.setIfInBounds_toArray, List.set_cons_zero, List.set_cons_succ]
                  refine wpAnyH_take (i := 10) (oi := { dst := some 210, op := Go.Op.binOp Go.BinOp.neq 4 (Go.Operand.tmp 204) (Go.Operand.tmp 209) 4, type := 4, pos := "laws.go:1456", after := #[{ on := 4, ground := Go.Ground.data }, { on := 9, ground := Go.Ground.data }], guard := none }) (v := ?_) rfl (by kernel_rfl) (by kernel_rfl) (by kernel_rfl) (fun _ _ _ h => h.no (by intro q; cases q)) (Or.inl ⟨by rfl, ?_⟩) (by assumption) ?_
                  rotate_left
                  · (intro w hSw; (try dsimp only at hSw); go_simp); (try with_reducible rfl)
                  try simp only [Act.put, List.setIfInBounds_toArray, List.set_cons_zero, List.set_cons_succ]
                  refine wpAnyH_take (i := 11) (oi := { dst := some 211, op := Go.Op.move (Go.Operand.tmp 210), type := 4, pos := "laws.go:1456", after := #[{ on := 10, ground := Go.Ground.data }], guard := none }) (v := ?_) rfl (by kernel_rfl) (by kernel_rfl) (by kernel_rfl) (fun _ _ _ h => h.no (by intro q; cases q)) (Or.inl ⟨by rfl, ?_⟩) (by assumption) ?_
                  rotate_left
                  · (intro w hSw; (try dsimp only at hSw); go_simp); (try with_reducible rfl)
                  try simp only [Act.put, List.setIfInBounds_toArray, List.set_cons_zero, List.set_cons_succ]
                  refine wpAnyH_take (i := 12) (oi := { dst := some 212, op := Go.Op.move (Go.Operand.tmp 5), type := 24, pos := "laws.go:1456", after := #[{ on := 11, ground := Go.Ground.guard }], guard := some (11, false) }) (v := ?_) rfl (by kernel_rfl) (by kernel_rfl) (by kernel_rfl) (fun _ _ _ h => h.no (by intro q; cases q)) (Or.inl ⟨by rfl, ?_⟩) (by assumption) ?_
                  rotate_left
                  · (intro w hSw; (try dsimp only at hSw); go_simp); (try with_reducible rfl)
                  try simp only [Act.put, List.setIfInBounds_toArray, List.set_cons_zero, List.set_cons_succ]
                  refine wpAnyH_take (i := 13) (oi := { dst := some 213, op := Go.Op.move (Go.Operand.tmp 29), type := 3, pos := "laws.go:1456", after := #[{ on := 11, ground := Go.Ground.guard }], guard := some (11, false) }) (v := ?_) rfl (by kernel_rfl) (by kernel_rfl) (by kernel_rfl) (fun _ _ _ h => h.no (by intro q; cases q)) (Or.inl ⟨by rfl, ?_⟩) (by assumption) ?_
                  rotate_left
                  · (intro w hSw; (try dsimp only at hSw); go_simp); (try with_reducible rfl)
                  try simp only [Act.put, List.setIfInBounds_toArray, List.set_cons_zero, List.set_cons_succ]
                  refine wpAnyH_take (i := 14) (oi := { dst := some 214, op := Go.Op.indexAddr 24 (Go.Operand.tmp 212) (Go.Operand.tmp 213), type := 0, pos := "laws.go:1456", after := #[{ on := 12, ground := Go.Ground.data }, { on := 13, ground := Go.Ground.data }, { on := 11, ground := Go.Ground.guard }], guard := some (11, false) }) (v := ?_) rfl (by kernel_rfl) (by kernel_rfl) (by kernel_rfl) (fun _ _ _ h => h.no (by intro q; cases q)) (Or.inl ⟨by rfl, ?_⟩) (by assumption) ?_
                  rotate_left
                  · (intro w hSw; (try dsimp only at hSw); go_simp); (try with_reducible rfl)
                  try simp only [Act.put, List.setIfInBounds_toArray, List.set_cons_zero, List.set_cons_succ]
                  refine wpAnyH_take (i := 15) (oi := { dst := some 215, op := Go.Op.load 2 (Go.Operand.tmp 214), type := 2, pos := "laws.go:1456", after := #[{ on := 14, ground := Go.Ground.data }, { on := 11, ground := Go.Ground.guard }], guard := some (11, false) }) (v := ?_) rfl (by kernel_rfl) (by kernel_rfl) (by kernel_rfl) (fun _ _ _ h => h.no (by intro q; cases q)) (Or.inl ⟨by rfl, ?_⟩) (by assumption) ?_
                  rotate_left
                  · (intro w hSw; (try dsimp only at hSw); go_simp); (try with_reducible rfl)
                  try simp only [Act.put, List.setIfInBounds_toArray, List.set_cons_zero, List.set_cons_succ]
                  refine wpAnyH_take (i := 16) (oi := { dst := some 216, op := Go.Op.binOp Go.BinOp.eql 2 (Go.Operand.tmp 215) (Go.Operand.const (Go.Value.int Go.IntKind.i64 1)) 2, type := 4, pos := "laws.go:1456", after := #[{ on := 15, ground := Go.Ground.data }, { on := 11, ground := Go.Ground.guard }], guard := some (11, false) }) (v := ?_) rfl (by kernel_rfl) (by kernel_rfl) (by kernel_rfl) (fun _ _ _ h => h.no (by intro q; cases q)) (Or.inl ⟨by rfl, ?_⟩) (by assumption) ?_
                  rotate_left
                  · (intro w hSw; (try dsimp only at hSw); go_simp); (try with_reducible rfl)
                  try simp only [Act.put, List.setIfInBounds_toArray, List.set_cons_zero, List.set_cons_succ]
                  refine wpAnyH_take (i := 17) (oi := { dst := some 217, op := Go.Op.move (Go.Operand.tmp 216), type := 4, pos := "laws.go:1456", after := #[{ on := 16, ground := Go.Ground.data }, { on := 11, ground := Go.Ground.chain }, { on := 11, ground := Go.Ground.guard }], guard := some (11, false) }) (v := ?_) rfl (by kernel_rfl) (by kernel_rfl) (by kernel_rfl) (fun _ _ _ h => h.no (by intro q; cases q)) (Or.inl ⟨by rfl, ?_⟩) (by assumption) ?_
                  rotate_left
                  · (intro w hSw; (try dsimp only at hSw); go_simp); (try with_reducible rfl)
                  try simp only [Act.put, List.setIfInBounds_toArray, List.set_cons_zero, List.set_cons_succ]
                  refine wpAnyH_take (i := 18) (oi := { dst := some 218, op := Go.Op.move (Go.Operand.tmp 9), type := 24, pos := "laws.go:1456", after := #[{ on := 17, ground := Go.Ground.guard }], guard := some (17, true) }) (v := undef) rfl (by kernel_rfl) (by kernel_rfl) (by kernel_rfl) (fun _ _ _ h => h.no (by intro q; cases q)) (Or.inr ⟨by rfl, rfl⟩) (by assumption) ?_
                  try simp only [Act.put, List.setIfInBounds_toArray, List.set_cons_zero, List.set_cons_succ]
                  refine wpAnyH_take (i := 19) (oi := { dst := some 219, op := Go.Op.move (Go.Operand.tmp 29), type := 3, pos := "laws.go:1456", after := #[{ on := 17, ground := Go.Ground.guard }], guard := some (17, true) }) (v := undef) rfl (by kernel_rfl) (by kernel_rfl) (by kernel_rfl) (fun _ _ _ h => h.no (by intro q; cases q)) (Or.inr ⟨by rfl, rfl⟩) (by assumption) ?_
                  try simp only [Act.put, List.setIfInBounds_toArray, List.set_cons_zero, List.set_cons_succ]
                  refine wpAnyH_take (i := 20) (oi := { dst := some 220, op := Go.Op.indexAddr 24 (Go.Operand.tmp 218) (Go.Operand.tmp 219), type := 0, pos := "laws.go:1456", after := #[{ on := 18, ground := Go.Ground.data }, { on := 19, ground := Go.Ground.data }, { on := 17, ground := Go.Ground.guard }], guard := some (17, true) }) (v := undef) rfl (by kernel_rfl) (by kernel_rfl) (by kernel_rfl) (fun _ _ _ h => h.no (by intro q; cases q)) (Or.inr ⟨by rfl, rfl⟩) (by assumption) ?_
                  try simp only [Act.put, List.setIfInBounds_toArray, List.set_cons_zero, List.set_cons_succ]
                  refine wpAnyH_take (i := 21) (oi := { dst := some 221, op := Go.Op.load 2 (Go.Operand.tmp 220), type := 2, pos := "laws.go:1456", after := #[{ on := 20, ground := Go.Ground.data }, { on := 17, ground := Go.Ground.guard }], guard := some (17, true) }) (v := undef) rfl (by kernel_rfl) (by kernel_rfl) (by kernel_rfl) (fun _ _ _ h => h.no (by intro q; cases q)) (Or.inr ⟨by rfl, rfl⟩) (by assumption) ?_
                  try simp only [Act.put, List.setIfInBounds_toArray, List.set_cons_zero, List.set_cons_succ]
                  refine wpAnyH_take (i := 22) (oi := { dst := some 222, op := Go.Op.move (Go.Operand.tmp 26), type := 2, pos := "laws.go:1456", after := #[{ on := 17, ground := Go.Ground.guard }], guard := some (17, true) }) (v := undef) rfl (by kernel_rfl) (by kernel_rfl) (by kernel_rfl) (fun _ _ _ h => h.no (by intro q; cases q)) (Or.inr ⟨by rfl, rfl⟩) (by assumption) ?_
                  try simp only [Act.put, List.setIfInBounds_toArray, List.set_cons_zero, List.set_cons_succ]
                  refine wpAnyH_take (i := 23) (oi := { dst := some 223, op := Go.Op.binOp Go.BinOp.neq 2 (Go.Operand.tmp 221) (Go.Operand.tmp 222) 2, type := 4, pos := "laws.go:1456", after := #[{ on := 21, ground := Go.Ground.data }, { on := 22, ground := Go.Ground.data }, { on := 17, ground := Go.Ground.guard }], guard := some (17, true) }) (v := undef) rfl (by kernel_rfl) (by kernel_rfl) (by kernel_rfl) (fun _ _ _ h => h.no (by intro q; cases q)) (Or.inr ⟨by rfl, rfl⟩) (by assumption) ?_
                  try simp only [Act.put, List.setIfInBounds_toArray, List.set_cons_zero, List.set_cons_succ]
                  refine wpAnyH_take (i := 24) (oi := { dst := some 224, op := Go.Op.pick (Go.Operand.tmp 217) (Go.Operand.tmp 223) (Go.Operand.const (Go.Value.bool false)), type := 4, pos := "laws.go:1456", after := #[{ on := 17, ground := Go.Ground.data }, { on := 23, ground := Go.Ground.data }, { on := 11, ground := Go.Ground.guard }], guard := some (11, false) }) (v := ?_) rfl (by kernel_rfl) (by kernel_rfl) (by kernel_rfl) (fun _ _ _ h => h.no (by intro q; cases q)) (Or.inl ⟨by rfl, ?_⟩) (by assumption) ?_
                  rotate_left
                  · (intro w hSw; (try dsimp only at hSw); go_simp); (try with_reducible rfl)
                  try simp only [Act.put, List.setIfInBounds_toArray, List.set_cons_zero, List.set_cons_succ]
                  refine wpAnyH_take (i := 25) (oi := { dst := some 225, op := Go.Op.pick (Go.Operand.tmp 211) (Go.Operand.const (Go.Value.bool true)) (Go.Operand.tmp 224), type := 4, pos := "laws.go:1456", after := #[{ on := 11, ground := Go.Ground.data }, { on := 24, ground := Go.Ground.data }], guard := none }) (v := ?_) rfl (by kernel_rfl) (by kernel_rfl) (by kernel_rfl) (fun _ _ _ h => h.no (by intro q; cases q)) (Or.inl ⟨by rfl, ?_⟩) (by assumption) ?_
                  rotate_left
                  · (intro w hSw; (try dsimp only at hSw); go_simp); (try with_reducible rfl)
                  try simp only [Act.put, List.setIfInBounds_toArray, List.set_cons_zero, List.set_cons_succ]
                  refine wpAnyH_take (i := 26) (oi := { dst := some 226, op := Go.Op.move (Go.Operand.tmp 225), type := 4, pos := "laws.go:1456", after := #[{ on := 25, ground := Go.Ground.data }, { on := 17, ground := Go.Ground.chain }], guard := none }) (v := ?_) rfl (by kernel_rfl) (by kernel_rfl) (by kernel_rfl) (fun _ _ _ h => h.no (by intro q; cases q)) (Or.inl ⟨by rfl, ?_⟩) (by assumption) ?_
                  rotate_left
                  · (intro w hSw; (try dsimp only at hSw); go_simp); (try with_reducible rfl)
                  try simp only [Act.put, List.setIfInBounds_toArray, List.set_cons_zero, List.set_cons_succ]
                  refine wpAnyH_take (i := 27) (oi := { dst := some 227, op := Go.Op.move (Go.Operand.tmp 5), type := 24, pos := "laws.go:1456", after := #[{ on := 26, ground := Go.Ground.guard }], guard := some (26, false) }) (v := ?_) rfl (by kernel_rfl) (by kernel_rfl) (by kernel_rfl) (fun _ _ _ h => h.no (by intro q; cases q)) (Or.inl ⟨by rfl, ?_⟩) (by assumption) ?_
                  rotate_left
                  · (intro w hSw; (try dsimp only at hSw); go_simp); (try with_reducible rfl)
                  try simp only [Act.put, List.setIfInBounds_toArray, List.set_cons_zero, List.set_cons_succ]
                  refine wpAnyH_take (i := 28) (oi := { dst := some 228, op := Go.Op.move (Go.Operand.tmp 29), type := 3, pos := "laws.go:1456", after := #[{ on := 26, ground := Go.Ground.guard }], guard := some (26, false) }) (v := ?_) rfl (by kernel_rfl) (by kernel_rfl) (by kernel_rfl) (fun _ _ _ h => h.no (by intro q; cases q)) (Or.inl ⟨by rfl, ?_⟩) (by assumption) ?_
                  rotate_left
                  · (intro w hSw; (try dsimp only at hSw); go_simp); (try with_reducible rfl)
                  try simp only [Act.put, List.setIfInBounds_toArray, List.set_cons_zero, List.set_cons_succ]
                  refine wpAnyH_take (i := 29) (oi := { dst := some 229, op := Go.Op.indexAddr 24 (Go.Operand.tmp 227) (Go.Operand.tmp 228), type := 0, pos := "laws.go:1456", after := #[{ on := 27, ground := Go.Ground.data }, { on := 28, ground := Go.Ground.data }, { on := 26, ground := Go.Ground.guard }], guard := some (26, false) }) (v := ?_) rfl (by kernel_rfl) (by kernel_rfl) (by kernel_rfl) (fun _ _ _ h => h.no (by intro q; cases q)) (Or.inl ⟨by rfl, ?_⟩) (by assumption) ?_
                  rotate_left
                  · (intro w hSw; (try dsimp only at hSw); go_simp); (try with_reducible rfl)
                  try simp only [Act.put, List.setIfInBounds_toArray, List.set_cons_zero, List.set_cons_succ]
                  refine wpAnyH_take (i := 30) (oi := { dst := some 230, op := Go.Op.load 2 (Go.Operand.tmp 229), type := 2, pos := "laws.go:1456", after := #[{ on := 29, ground := Go.Ground.data }, { on := 26, ground := Go.Ground.guard }], guard := some (26, false) }) (v := ?_) rfl (by kernel_rfl) (by kernel_rfl) (by kernel_rfl) (fun _ _ _ h => h.no (by intro q; cases q)) (Or.inl ⟨by rfl, ?_⟩) (by assumption) ?_
                  rotate_left
                  · (intro w hSw; (try dsimp only at hSw); go_simp); (try with_reducible rfl)
                  try simp only [Act.put, List.setIfInBounds_toArray, List.set_cons_zero, List.set_cons_succ]
                  refine wpAnyH_take (i := 31) (oi := { dst := some 231, op := Go.Op.move (Go.Operand.tmp 9), type := 24, pos := "laws.go:1456", after := #[{ on := 26, ground := Go.Ground.guard }], guard := some (26, false) }) (v := ?_) rfl (by kernel_rfl) (by kernel_rfl) (by kernel_rfl) (fun _ _ _ h => h.no (by intro q; cases q)) (Or.inl ⟨by rfl, ?_⟩) (by assumption) ?_
                  rotate_left
                  · (intro w hSw; (try dsimp only at hSw); go_simp); (try with_reducible rfl)
                  try simp only [Act.put, List.setIfInBounds_toArray, List.set_cons_zero, List.set_cons_succ]
                  refine wpAnyH_take (i := 32) (oi := { dst := some 232, op := Go.Op.move (Go.Operand.tmp 29), type := 3, pos := "laws.go:1456", after := #[{ on := 26, ground := Go.Ground.guard }], guard := some (26, false) }) (v := ?_) rfl (by kernel_rfl) (by kernel_rfl) (by kernel_rfl) (fun _ _ _ h => h.no (by intro q; cases q)) (Or.inl ⟨by rfl, ?_⟩) (by assumption) ?_
                  rotate_left
                  · (intro w hSw; (try dsimp only at hSw); go_simp); (try with_reducible rfl)
                  try simp only [Act.put, List.setIfInBounds_toArray, List.set_cons_zero, List.set_cons_succ]
                  refine wpAnyH_take (i := 33) (oi := { dst := some 233, op := Go.Op.indexAddr 24 (Go.Operand.tmp 231) (Go.Operand.tmp 232), type := 0, pos := "laws.go:1456", after := #[{ on := 31, ground := Go.Ground.data }, { on := 32, ground := Go.Ground.data }, { on := 26, ground := Go.Ground.guard }], guard := some (26, false) }) (v := ?_) rfl (by kernel_rfl) (by kernel_rfl) (by kernel_rfl) (fun _ _ _ h => h.no (by intro q; cases q)) (Or.inl ⟨by rfl, ?_⟩) (by assumption) ?_
                  rotate_left
                  · (intro w hSw; (try dsimp only at hSw); go_simp); (try with_reducible rfl)
                  try simp only [Act.put, List.setIfInBounds_toArray, List.set_cons_zero, List.set_cons_succ]
                  refine wpAnyH_take (i := 34) (oi := { dst := some 234, op := Go.Op.load 2 (Go.Operand.tmp 233), type := 2, pos := "laws.go:1456", after := #[{ on := 33, ground := Go.Ground.data }, { on := 26, ground := Go.Ground.guard }], guard := some (26, false) }) (v := ?_) rfl (by kernel_rfl) (by kernel_rfl) (by kernel_rfl) (fun _ _ _ h => h.no (by intro q; cases q)) (Or.inl ⟨by rfl, ?_⟩) (by assumption) ?_
                  rotate_left
                  · (intro w hSw; (try dsimp only at hSw); go_simp); (try with_reducible rfl)
                  try simp only [Act.put, List.setIfInBounds_toArray, List.set_cons_zero, List.set_cons_succ]
                  refine wpAnyH_take (i := 35) (oi := { dst := some 235, op := Go.Op.binOp Go.BinOp.mul 2 (Go.Operand.tmp 230) (Go.Operand.tmp 234) 2, type := 2, pos := "laws.go:1456", after := #[{ on := 30, ground := Go.Ground.data }, { on := 34, ground := Go.Ground.data }, { on := 26, ground := Go.Ground.guard }], guard := some (26, false) }) (v := .int .i64 0) rfl (by kernel_rfl) (by kernel_rfl) (by kernel_rfl) (fun _ _ _ h => h.no (by intro q; cases q)) (Or.inl ⟨by rfl, ?_⟩) (by assumption) ?_
                  · (intro w hSw; (try dsimp only at hSw); go_simp); (first | done | with_reducible rfl | rfl | (simp [y4, y4b, y3a]; done) | (simp [y4, y4b]; omega) | simp_all | omega)
                  try simp only [Act.put, List.setIfInBounds_toArray, List.set_cons_zero, List.set_cons_succ]
                  refine wpAnyH_take (i := 36) (oi := { dst := some 236, op := Go.Op.move (Go.Operand.tmp 26), type := 2, pos := "laws.go:1456", after := #[{ on := 26, ground := Go.Ground.guard }], guard := some (26, false) }) (v := ?_) rfl (by kernel_rfl) (by kernel_rfl) (by kernel_rfl) (fun _ _ _ h => h.no (by intro q; cases q)) (Or.inl ⟨by rfl, ?_⟩) (by assumption) ?_
                  rotate_left
                  · (intro w hSw; (try dsimp only at hSw); go_simp); (try with_reducible rfl)
                  try simp only [Act.put, List.setIfInBounds_toArray, List.set_cons_zero, List.set_cons_succ]
                  refine wpAnyH_take (i := 37) (oi := { dst := some 237, op := Go.Op.binOp Go.BinOp.lss 2 (Go.Operand.tmp 235) (Go.Operand.tmp 236) 2, type := 4, pos := "laws.go:1456", after := #[{ on := 35, ground := Go.Ground.data }, { on := 36, ground := Go.Ground.data }, { on := 26, ground := Go.Ground.guard }], guard := some (26, false) }) (v := .bool true) rfl (by kernel_rfl) (by kernel_rfl) (by kernel_rfl) (fun _ _ _ h => h.no (by intro q; cases q)) (Or.inl ⟨by rfl, ?_⟩) (by assumption) ?_
                  · (intro w hSw; (try dsimp only at hSw); go_simp); (first | done | with_reducible rfl | rfl | (simp [y4, y4b, y3a]; done) | (simp [y4, y4b]; omega) | simp_all | omega)
                  try simp only [Act.put, List.setIfInBounds_toArray, List.set_cons_zero, List.set_cons_succ]
                  refine wpAnyH_take (i := 38) (oi := { dst := some 238, op := Go.Op.move (Go.Operand.tmp 237), type := 4, pos := "laws.go:1456", after := #[{ on := 37, ground := Go.Ground.data }, { on := 26, ground := Go.Ground.chain }, { on := 26, ground := Go.Ground.guard }], guard := some (26, false) }) (v := ?_) rfl (by kernel_rfl) (by kernel_rfl) (by kernel_rfl) (fun _ _ _ h => h.no (by intro q; cases q)) (Or.inl ⟨by rfl, ?_⟩) (by assumption) ?_
                  rotate_left
                  · (intro w hSw; (try dsimp only at hSw); go_simp); (try with_reducible rfl)
                  try simp only [Act.put, List.setIfInBounds_toArray, List.set_cons_zero, List.set_cons_succ]
                  refine wpAnyH_take (i := 39) (oi := { dst := some 239, op := Go.Op.move (Go.Operand.tmp 5), type := 24, pos := "laws.go:1456", after := #[{ on := 38, ground := Go.Ground.guard }], guard := some (38, true) }) (v := ?_) rfl (by kernel_rfl) (by kernel_rfl) (by kernel_rfl) (fun _ _ _ h => h.no (by intro q; cases q)) (Or.inl ⟨by rfl, ?_⟩) (by assumption) ?_
                  rotate_left
                  · (intro w hSw; (try dsimp only at hSw); go_simp); (try with_reducible rfl)
                  try simp only [Act.put, List.setIfInBounds_toArray, List.set_cons_zero, List.set_cons_succ]
                  refine wpAnyH_take (i := 40) (oi := { dst := some 240, op := Go.Op.move (Go.Operand.tmp 29), type := 3, pos := "laws.go:1456", after := #[{ on := 38, ground := Go.Ground.guard }], guard := some (38, true) }) (v := ?_) rfl (by kernel_rfl) (by kernel_rfl) (by kernel_rfl) (fun _ _ _ h => h.no (by intro q; cases q)) (Or.inl ⟨by rfl, ?_⟩) (by assumption) ?_
                  rotate_left
                  · (intro w hSw; (try dsimp only at hSw); go_simp); (try with_reducible rfl)
                  try simp only [Act.put, List.setIfInBounds_toArray, List.set_cons_zero, List.set_cons_succ]
                  refine wpAnyH_take (i := 41) (oi := { dst := some 241, op := Go.Op.indexAddr 24 (Go.Operand.tmp 239) (Go.Operand.tmp 240), type := 0, pos := "laws.go:1456", after := #[{ on := 39, ground := Go.Ground.data }, { on := 40, ground := Go.Ground.data }, { on := 38, ground := Go.Ground.guard }], guard := some (38, true) }) (v := ?_) rfl (by kernel_rfl) (by kernel_rfl) (by kernel_rfl) (fun _ _ _ h => h.no (by intro q; cases q)) (Or.inl ⟨by rfl, ?_⟩) (by assumption) ?_
                  rotate_left
                  · (intro w hSw; (try dsimp only at hSw); go_simp); (try with_reducible rfl)
                  try simp only [Act.put, List.setIfInBounds_toArray, List.set_cons_zero, List.set_cons_succ]
                  refine wpAnyH_take (i := 42) (oi := { dst := some 242, op := Go.Op.load 2 (Go.Operand.tmp 241), type := 2, pos := "laws.go:1456", after := #[{ on := 41, ground := Go.Ground.data }, { on := 38, ground := Go.Ground.guard }], guard := some (38, true) }) (v := ?_) rfl (by kernel_rfl) (by kernel_rfl) (by kernel_rfl) (fun _ _ _ h => h.no (by intro q; cases q)) (Or.inl ⟨by rfl, ?_⟩) (by assumption) ?_
                  rotate_left
                  · (intro w hSw; (try dsimp only at hSw); go_simp); (try with_reducible rfl)
                  try simp only [Act.put, List.setIfInBounds_toArray, List.set_cons_zero, List.set_cons_succ]
                  refine wpAnyH_take (i := 43) (oi := { dst := some 243, op := Go.Op.binOp Go.BinOp.gtr 2 (Go.Operand.tmp 242) (Go.Operand.const (Go.Value.int Go.IntKind.i64 0)) 2, type := 4, pos := "laws.go:1456", after := #[{ on := 42, ground := Go.Ground.data }, { on := 38, ground := Go.Ground.guard }], guard := some (38, true) }) (v := ?_) rfl (by kernel_rfl) (by kernel_rfl) (by kernel_rfl) (fun _ _ _ h => h.no (by intro q; cases q)) (Or.inl ⟨by rfl, ?_⟩) (by assumption) ?_
                  rotate_left
                  · (intro w hSw; (try dsimp only at hSw); go_simp); (try with_reducible rfl)
                  try simp only [Act.put, List.setIfInBounds_toArray, List.set_cons_zero, List.set_cons_succ]
                  refine wpAnyH_take (i := 44) (oi := { dst := some 244, op := Go.Op.pick (Go.Operand.tmp 238) (Go.Operand.tmp 243) (Go.Operand.const (Go.Value.bool false)), type := 4, pos := "laws.go:1456", after := #[{ on := 38, ground := Go.Ground.data }, { on := 43, ground := Go.Ground.data }, { on := 26, ground := Go.Ground.guard }], guard := some (26, false) }) (v := ?_) rfl (by kernel_rfl) (by kernel_rfl) (by kernel_rfl) (fun _ _ _ h => h.no (by intro q; cases q)) (Or.inl ⟨by rfl, ?_⟩) (by assumption) ?_
                  rotate_left
                  · (intro w hSw; (try dsimp only at hSw); go_simp); (try with_reducible rfl)
                  try simp only [Act.put, List.setIfInBounds_toArray, List.set_cons_zero, List.set_cons_succ]
                  refine wpAnyH_take (i := 45) (oi := { dst := some 245, op := Go.Op.pick (Go.Operand.tmp 226) (Go.Operand.const (Go.Value.bool true)) (Go.Operand.tmp 244), type := 4, pos := "laws.go:1456", after := #[{ on := 26, ground := Go.Ground.data }, { on := 44, ground := Go.Ground.data }], guard := none }) (v := ?_) rfl (by kernel_rfl) (by kernel_rfl) (by kernel_rfl) (fun _ _ _ h => h.no (by intro q; cases q)) (Or.inl ⟨by rfl, ?_⟩) (by assumption) ?_
                  rotate_left
                  · (intro w hSw; (try dsimp only at hSw); go_simp); (try with_reducible rfl)
                  try simp only [Act.put, List.setIfInBounds_toArray, List.set_cons_zero, List.set_cons_succ]
                  refine wpAnyH_done (by kernel_rfl) ⟨rfl, ?_⟩ _
                  go_wp2
                  go_roundw
                  case rel => exact ⟨k + 1, by omega, by go_num, by rw [← HST.out]; first | done | go_num, by first | exact Below.drew hb | exact hb⟩
                  case measure => simp [intOf]; omega
                · obtain rfl : r = (n : Int) := x2 rfl
                  replace c1 : wr.cell? ⟨g1, k, none⟩ = some (.int .i64 1) := c1
                  have y1 : ((n : Int) == 0) = false := by simp; omega
                  have y2 : ((n : Int) != (n : Int)) = false := by simp
                  have y3 : decide ((n : Int) < (n : Int)) = false := decide_eq_false (by omega)
                  have y4b : IntKind.i64.wrap (n : Int) = (n : Int) := IntWalk.i64_in _ (by omega)
                  have y4 : IntKind.i64.wrap ((1 : Int) * (n : Int)) = (n : Int) := by rw [Int.one_mul]; exact IntWalk.i64_in _ (by omega)
                  clear x1 x2 x3 x4 x5
                  go_upto_region 34 with fail
                  refine wp_region_calm (S := (fun W' => W'.cell? ⟨g1, k, none⟩ = some (.int .i64 1) ∧ W'.cell? ⟨g3, k, none⟩ = some (.int .i64 (n : Int)))) (by kernel_rfl) ?_ (fun hHeld => ?_)
                  · (try dsimp only); exact ⟨c1, c3⟩
                  refine wpAnyH_take (i := 0) (oi := { dst := some 200, op := Go.Op.move (Go.Operand.tmp 5), type := 24, pos := "laws.go:1456", after := #[], guard := none }) (v := ?_) rfl (by kernel_rfl) (by kernel_rfl) (by kernel_rfl) (fun _ _ _ h => h.no (by intro q; cases q)) (Or.inl ⟨by rfl, ?_⟩) (by assumption) ?_
                  rotate_left
                  · (intro w hSw; (try dsimp only at hSw); go_simp); (try with_reducible rfl)
                  try simp only [Act.put, List.setIfInBounds_toArray, List.set_cons_zero, List.set_cons_succ]
                  refine wpAnyH_take (i := 1) (oi := { dst := some 201, op := Go.Op.move (Go.Operand.tmp 29), type := 3, pos := "laws.go:1456", after := #[], guard := none }) (v := ?_) rfl (by kernel_rfl) (by kernel_rfl) (by kernel_rfl) (fun _ _ _ h => h.no (by intro q; cases q)) (Or.inl ⟨by rfl, ?_⟩) (by assumption) ?_
                  rotate_left
                  · (intro w hSw; (try dsimp only at hSw); go_simp); (try with_reducible rfl)
                  try simp only [Act.put, List.setIfInBounds_toArray, List.set_cons_zero, List.set_cons_succ]
                  refine wpAnyH_take (i := 2) (oi := { dst := some 202, op := Go.Op.indexAddr 24 (Go.Operand.tmp 200) (Go.Operand.tmp 201), type := 0, pos := "laws.go:1456", after := #[{ on := 0, ground := Go.Ground.data }, { on := 1, ground := Go.Ground.data }], guard := none }) (v := ?_) rfl (by kernel_rfl) (by kernel_rfl) (by kernel_rfl) (fun _ _ _ h => h.no (by intro q; cases q)) (Or.inl ⟨by rfl, ?_⟩) (by assumption) ?_
                  rotate_left
                  · (intro w hSw; (try dsimp only at hSw); go_simp); (try with_reducible rfl)
                  try simp only [Act.put, List.setIfInBounds_toArray, List.set_cons_zero, List.set_cons_succ]
                  refine wpAnyH_take (i := 3) (oi := { dst := some 203, op := Go.Op.load 2 (Go.Operand.tmp 202), type := 2, pos := "laws.go:1456", after := #[{ on := 2, ground := Go.Ground.data }], guard := none }) (v := ?_) rfl (by kernel_rfl) (by kernel_rfl) (by kernel_rfl) (fun _ _ _ h => h.no (by intro q; cases q)) (Or.inl ⟨by rfl, ?_⟩) (by assumption) ?_
                  rotate_left
                  · (intro w hSw; (try dsimp only at hSw); go_simp); (try with_reducible rfl)
                  try simp only [Act.put, List.setIfInBounds_toArray, List.set_cons_zero, List.set_cons_succ]
                  refine wpAnyH_take (i := 4) (oi := { dst := some 204, op := Go.Op.binOp Go.BinOp.eql 2 (Go.Operand.tmp 203) (Go.Operand.const (Go.Value.int Go.IntKind.i64 0)) 2, type := 4, pos := "laws.go:1456", after := #[{ on := 3, ground := Go.Ground.data }], guard := none }) (v := ?_) rfl (by kernel_rfl) (by kernel_rfl) (by kernel_rfl) (fun _ _ _ h => h.no (by intro q; cases q)) (Or.inl ⟨by rfl, ?_⟩) (by assumption) ?_
                  rotate_left
                  · (intro w hSw; (try dsimp only at hSw); go_simp); (try with_reducible rfl)
                  try simp only [Act.put, List.setIfInBounds_toArray, List.set_cons_zero, List.set_cons_succ]
                  refine wpAnyH_take (i := 5) (oi := { dst := some 205, op := Go.Op.move (Go.Operand.tmp 9), type := 24, pos := "laws.go:1456", after := #[], guard := none }) (v := ?_) rfl (by kernel_rfl) (by kernel_rfl) (by kernel_rfl) (fun _ _ _ h => h.no (by intro q; cases q)) (Or.inl ⟨by rfl, ?_⟩) (by assumption) ?_
                  rotate_left
                  · (intro w hSw; (try dsimp only at hSw); go_simp); (try with_reducible rfl)
                  try simp only [Act.put, List.setIfInBounds_toArray, List.set_cons_zero, List.set_cons_succ]
                  refine wpAnyH_take (i := 6) (oi := { dst := some 206, op := Go.Op.move (Go.Operand.tmp 29), type := 3, pos := "laws.go:1456", after := #[], guard := none }) (v := ?_) rfl (by kernel_rfl) (by kernel_rfl) (by kernel_rfl) (fun _ _ _ h => h.no (by intro q; cases q)) (Or.inl ⟨by rfl, ?_⟩) (by assumption) ?_
                  rotate_left
                  · (intro w hSw; (try dsimp only at hSw); go_simp); (try with_reducible rfl)
                  try simp only [Act.put, List.setIfInBounds_toArray, List.set_cons_zero, List.set_cons_succ]
                  refine wpAnyH_take (i := 7) (oi := { dst := some 207, op := Go.Op.indexAddr 24 (Go.Operand.tmp 205) (Go.Operand.tmp 206), type := 0, pos := "laws.go:1456", after := #[{ on := 5, ground := Go.Ground.data }, { on := 6, ground := Go.Ground.data }], guard := none }) (v := ?_) rfl (by kernel_rfl) (by kernel_rfl) (by kernel_rfl) (fun _ _ _ h => h.no (by intro q; cases q)) (Or.inl ⟨by rfl, ?_⟩) (by assumption) ?_
                  rotate_left
                  · (intro w hSw; (try dsimp only at hSw); go_simp); (try with_reducible rfl)
                  try simp only [Act.put, List.setIfInBounds_toArray, List.set_cons_zero, List.set_cons_succ]
                  refine wpAnyH_take (i := 8) (oi := { dst := some 208, op := Go.Op.load 2 (Go.Operand.tmp 207), type := 2, pos := "laws.go:1456", after := #[{ on := 7, ground := Go.Ground.data }], guard := none }) (v := ?_) rfl (by kernel_rfl) (by kernel_rfl) (by kernel_rfl) (fun _ _ _ h => h.no (by intro q; cases q)) (Or.inl ⟨by rfl, ?_⟩) (by assumption) ?_
                  rotate_left
                  · (intro w hSw; (try dsimp only at hSw); go_simp); (try with_reducible rfl)
                  try simp only [Act.put, List.setIfInBounds_toArray, List.set_cons_zero, List.set_cons_succ]
                  refine wpAnyH_take (i := 9) (oi := { dst := some 209, op := Go.Op.binOp Go.BinOp.eql 2 (Go.Operand.tmp 208) (Go.Operand.const (Go.Value.int Go.IntKind.i64 0)) 2, type := 4, pos := "laws.go:1456", after := #[{ on := 8, ground := Go.Ground.data }], guard := none }) (v := ?_) rfl (by kernel_rfl) (by kernel_rfl) (by kernel_rfl) (fun _ _ _ h => h.no (by intro q; cases q)) (Or.inl ⟨by rfl, ?_⟩) (by assumption) ?_
                  rotate_left
                  · (intro w hSw; (try dsimp only at hSw); go_simp); (try with_reducible rfl)
                  try simp only [Act.put, List.setIfInBounds_toArray, List.set_cons_zero, List.set_cons_succ]
                  refine wpAnyH_take (i := 10) (oi := { dst := some 210, op := Go.Op.binOp Go.BinOp.neq 4 (Go.Operand.tmp 204) (Go.Operand.tmp 209) 4, type := 4, pos := "laws.go:1456", after := #[{ on := 4, ground := Go.Ground.data }, { on := 9, ground := Go.Ground.data }], guard := none }) (v := ?_) rfl (by kernel_rfl) (by kernel_rfl) (by kernel_rfl) (fun _ _ _ h => h.no (by intro q; cases q)) (Or.inl ⟨by rfl, ?_⟩) (by assumption) ?_
                  rotate_left
                  · (intro w hSw; (try dsimp only at hSw); go_simp); (try with_reducible rfl)
                  try simp only [Act.put, List.setIfInBounds_toArray, List.set_cons_zero, List.set_cons_succ]
                  refine wpAnyH_take (i := 11) (oi := { dst := some 211, op := Go.Op.move (Go.Operand.tmp 210), type := 4, pos := "laws.go:1456", after := #[{ on := 10, ground := Go.Ground.data }], guard := none }) (v := ?_) rfl (by kernel_rfl) (by kernel_rfl) (by kernel_rfl) (fun _ _ _ h => h.no (by intro q; cases q)) (Or.inl ⟨by rfl, ?_⟩) (by assumption) ?_
                  rotate_left
                  · (intro w hSw; (try dsimp only at hSw); go_simp); (try with_reducible rfl)
                  try simp only [Act.put, List.setIfInBounds_toArray, List.set_cons_zero, List.set_cons_succ]
                  refine wpAnyH_take (i := 12) (oi := { dst := some 212, op := Go.Op.move (Go.Operand.tmp 5), type := 24, pos := "laws.go:1456", after := #[{ on := 11, ground := Go.Ground.guard }], guard := some (11, false) }) (v := ?_) rfl (by kernel_rfl) (by kernel_rfl) (by kernel_rfl) (fun _ _ _ h => h.no (by intro q; cases q)) (Or.inl ⟨by rfl, ?_⟩) (by assumption) ?_
                  rotate_left
                  · (intro w hSw; (try dsimp only at hSw); go_simp); (try with_reducible rfl)
                  try simp only [Act.put, List.setIfInBounds_toArray, List.set_cons_zero, List.set_cons_succ]
                  refine wpAnyH_take (i := 13) (oi := { dst := some 213, op := Go.Op.move (Go.Operand.tmp 29), type := 3, pos := "laws.go:1456", after := #[{ on := 11, ground := Go.Ground.guard }], guard := some (11, false) }) (v := ?_) rfl (by kernel_rfl) (by kernel_rfl) (by kernel_rfl) (fun _ _ _ h => h.no (by intro q; cases q)) (Or.inl ⟨by rfl, ?_⟩) (by assumption) ?_
                  rotate_left
                  · (intro w hSw; (try dsimp only at hSw); go_simp); (try with_reducible rfl)
                  try simp only [Act.put, List.setIfInBounds_toArray, List.set_cons_zero, List.set_cons_succ]
                  refine wpAnyH_take (i := 14) (oi := { dst := some 214, op := Go.Op.indexAddr 24 (Go.Operand.tmp 212) (Go.Operand.tmp 213), type := 0, pos := "laws.go:1456", after := #[{ on := 12, ground := Go.Ground.data }, { on := 13, ground := Go.Ground.data }, { on := 11, ground := Go.Ground.guard }], guard := some (11, false) }) (v := ?_) rfl (by kernel_rfl) (by kernel_rfl) (by kernel_rfl) (fun _ _ _ h => h.no (by intro q; cases q)) (Or.inl ⟨by rfl, ?_⟩) (by assumption) ?_
                  rotate_left
                  · (intro w hSw; (try dsimp only at hSw); go_simp); (try with_reducible rfl)
                  try simp only [Act.put, List.setIfInBounds_toArray, List.set_cons_zero, List.set_cons_succ]
                  refine wpAnyH_take (i := 15) (oi := { dst := some 215, op := Go.Op.load 2 (Go.Operand.tmp 214), type := 2, pos := "laws.go:1456", after := #[{ on := 14, ground := Go.Ground.data }, { on := 11, ground := Go.Ground.guard }], guard := some (11, false) }) (v := ?_) rfl (by kernel_rfl) (by kernel_rfl) (by kernel_rfl) (fun _ _ _ h => h.no (by intro q; cases q)) (Or.inl ⟨by rfl, ?_⟩) (by assumption) ?_
                  rotate_left
                  · (intro w hSw; (try dsimp only at hSw); go_simp); (try with_reducible rfl)
                  try simp only [Act.put, List.setIfInBounds_toArray, List.set_cons_zero, List.set_cons_succ]
                  refine wpAnyH_take (i := 16) (oi := { dst := some 216, op := Go.Op.binOp Go.BinOp.eql 2 (Go.Operand.tmp 215) (Go.Operand.const (Go.Value.int Go.IntKind.i64 1)) 2, type := 4, pos := "laws.go:1456", after := #[{ on := 15, ground := Go.Ground.data }, { on := 11, ground := Go.Ground.guard }], guard := some (11, false) }) (v := ?_) rfl (by kernel_rfl) (by kernel_rfl) (by kernel_rfl) (fun _ _ _ h => h.no (by intro q; cases q)) (Or.inl ⟨by rfl, ?_⟩) (by assumption) ?_
                  rotate_left
                  · (intro w hSw; (try dsimp only at hSw); go_simp); (try with_reducible rfl)
                  try simp only [Act.put, List.setIfInBounds_toArray, List.set_cons_zero, List.set_cons_succ]
                  refine wpAnyH_take (i := 17) (oi := { dst := some 217, op := Go.Op.move (Go.Operand.tmp 216), type := 4, pos := "laws.go:1456", after := #[{ on := 16, ground := Go.Ground.data }, { on := 11, ground := Go.Ground.chain }, { on := 11, ground := Go.Ground.guard }], guard := some (11, false) }) (v := ?_) rfl (by kernel_rfl) (by kernel_rfl) (by kernel_rfl) (fun _ _ _ h => h.no (by intro q; cases q)) (Or.inl ⟨by rfl, ?_⟩) (by assumption) ?_
                  rotate_left
                  · (intro w hSw; (try dsimp only at hSw); go_simp); (try with_reducible rfl)
                  try simp only [Act.put, List.setIfInBounds_toArray, List.set_cons_zero, List.set_cons_succ]
                  refine wpAnyH_take (i := 18) (oi := { dst := some 218, op := Go.Op.move (Go.Operand.tmp 9), type := 24, pos := "laws.go:1456", after := #[{ on := 17, ground := Go.Ground.guard }], guard := some (17, true) }) (v := ?_) rfl (by kernel_rfl) (by kernel_rfl) (by kernel_rfl) (fun _ _ _ h => h.no (by intro q; cases q)) (Or.inl ⟨by rfl, ?_⟩) (by assumption) ?_
                  rotate_left
                  · (intro w hSw; (try dsimp only at hSw); go_simp); (try with_reducible rfl)
                  try simp only [Act.put, List.setIfInBounds_toArray, List.set_cons_zero, List.set_cons_succ]
                  refine wpAnyH_take (i := 19) (oi := { dst := some 219, op := Go.Op.move (Go.Operand.tmp 29), type := 3, pos := "laws.go:1456", after := #[{ on := 17, ground := Go.Ground.guard }], guard := some (17, true) }) (v := ?_) rfl (by kernel_rfl) (by kernel_rfl) (by kernel_rfl) (fun _ _ _ h => h.no (by intro q; cases q)) (Or.inl ⟨by rfl, ?_⟩) (by assumption) ?_
                  rotate_left
                  · (intro w hSw; (try dsimp only at hSw); go_simp); (try with_reducible rfl)
                  try simp only [Act.put, List.setIfInBounds_toArray, List.set_cons_zero, List.set_cons_succ]
                  refine wpAnyH_take (i := 20) (oi := { dst := some 220, op := Go.Op.indexAddr 24 (Go.Operand.tmp 218) (Go.Operand.tmp 219), type := 0, pos := "laws.go:1456", after := #[{ on := 18, ground := Go.Ground.data }, { on := 19, ground := Go.Ground.data }, { on := 17, ground := Go.Ground.guard }], guard := some (17, true) }) (v := ?_) rfl (by kernel_rfl) (by kernel_rfl) (by kernel_rfl) (fun _ _ _ h => h.no (by intro q; cases q)) (Or.inl ⟨by rfl, ?_⟩) (by assumption) ?_
                  rotate_left
                  · (intro w hSw; (try dsimp only at hSw); go_simp); (try with_reducible rfl)
                  try simp only [Act.put, List.setIfInBounds_toArray, List.set_cons_zero, List.set_cons_succ]
                  refine wpAnyH_take (i := 21) (oi := { dst := some 221, op := Go.Op.load 2 (Go.Operand.tmp 220), type := 2, pos := "laws.go:1456", after := #[{ on := 20, ground := Go.Ground.data }, { on := 17, ground := Go.Ground.guard }], guard := some (17, true) }) (v := ?_) rfl (by kernel_rfl) (by kernel_rfl) (by kernel_rfl) (fun _ _ _ h => h.no (by intro q; cases q)) (Or.inl ⟨by rfl, ?_⟩) (by assumption) ?_
                  rotate_left
                  · (intro w hSw; (try dsimp only at hSw); go_simp); (try with_reducible rfl)
                  try simp only [Act.put, List.setIfInBounds_toArray, List.set_cons_zero, List.set_cons_succ]
                  refine wpAnyH_take (i := 22) (oi := { dst := some 222, op := Go.Op.move (Go.Operand.tmp 26), type := 2, pos := "laws.go:1456", after := #[{ on := 17, ground := Go.Ground.guard }], guard := some (17, true) }) (v := ?_) rfl (by kernel_rfl) (by kernel_rfl) (by kernel_rfl) (fun _ _ _ h => h.no (by intro q; cases q)) (Or.inl ⟨by rfl, ?_⟩) (by assumption) ?_
                  rotate_left
                  · (intro w hSw; (try dsimp only at hSw); go_simp); (try with_reducible rfl)
                  try simp only [Act.put, List.setIfInBounds_toArray, List.set_cons_zero, List.set_cons_succ]
                  refine wpAnyH_take (i := 23) (oi := { dst := some 223, op := Go.Op.binOp Go.BinOp.neq 2 (Go.Operand.tmp 221) (Go.Operand.tmp 222) 2, type := 4, pos := "laws.go:1456", after := #[{ on := 21, ground := Go.Ground.data }, { on := 22, ground := Go.Ground.data }, { on := 17, ground := Go.Ground.guard }], guard := some (17, true) }) (v := ?_) rfl (by kernel_rfl) (by kernel_rfl) (by kernel_rfl) (fun _ _ _ h => h.no (by intro q; cases q)) (Or.inl ⟨by rfl, ?_⟩) (by assumption) ?_
                  rotate_left
                  · (intro w hSw; (try dsimp only at hSw); go_simp); (try with_reducible rfl)
                  try simp only [Act.put, List.setIfInBounds_toArray, List.set_cons_zero, List.set_cons_succ]
                  refine wpAnyH_take (i := 24) (oi := { dst := some 224, op := Go.Op.pick (Go.Operand.tmp 217) (Go.Operand.tmp 223) (Go.Operand.const (Go.Value.bool false)), type := 4, pos := "laws.go:1456", after := #[{ on := 17, ground := Go.Ground.data }, { on := 23, ground := Go.Ground.data }, { on := 11, ground := Go.Ground.guard }], guard := some (11, false) }) (v := ?_) rfl (by kernel_rfl) (by kernel_rfl) (by kernel_rfl) (fun _ _ _ h => h.no (by intro q; cases q)) (Or.inl ⟨by rfl, ?_⟩) (by assumption) ?_
                  rotate_left
                  · (intro w hSw; (try dsimp only at hSw); go_simp); (try with_reducible rfl)
                  try simp only [Act.put, List.setIfInBounds_toArray, List.set_cons_zero, List.set_cons_succ]
                  refine wpAnyH_take (i := 25) (oi := { dst := some 225, op := Go.Op.pick (Go.Operand.tmp 211) (Go.Operand.const (Go.Value.bool true)) (Go.Operand.tmp 224), type := 4, pos := "laws.go:1456", after := #[{ on := 11, ground := Go.Ground.data }, { on := 24, ground := Go.Ground.data }], guard := none }) (v := ?_) rfl (by kernel_rfl) (by kernel_rfl) (by kernel_rfl) (fun _ _ _ h => h.no (by intro q; cases q)) (Or.inl ⟨by rfl, ?_⟩) (by assumption) ?_
                  rotate_left
                  · (intro w hSw; (try dsimp only at hSw); go_simp); (try with_reducible rfl)
                  try simp only [Act.put, List.setIfInBounds_toArray, List.set_cons_zero, List.set_cons_succ]
                  refine wpAnyH_take (i := 26) (oi := { dst := some 226, op := Go.Op.move (Go.Operand.tmp 225), type := 4, pos := "laws.go:1456", after := #[{ on := 25, ground := Go.Ground.data }, { on := 17, ground := Go.Ground.chain }], guard := none }) (v := ?_) rfl (by kernel_rfl) (by kernel_rfl) (by kernel_rfl) (fun _ _ _ h => h.no (by intro q; cases q)) (Or.inl ⟨by rfl, ?_⟩) (by assumption) ?_
                  rotate_left
                  · (intro w hSw; (try dsimp only at hSw); go_simp); (try with_reducible rfl)
                  try simp only [Act.put, List.setIfInBounds_toArray, List.set_cons_zero, List.set_cons_succ]
                  refine wpAnyH_take (i := 27) (oi := { dst := some 227, op := Go.Op.move (Go.Operand.tmp 5), type := 24, pos := "laws.go:1456", after := #[{ on := 26, ground := Go.Ground.guard }], guard := some (26, false) }) (v := ?_) rfl (by kernel_rfl) (by kernel_rfl) (by kernel_rfl) (fun _ _ _ h => h.no (by intro q; cases q)) (Or.inl ⟨by rfl, ?_⟩) (by assumption) ?_
                  rotate_left
                  · (intro w hSw; (try dsimp only at hSw); go_simp); (try with_reducible rfl)
                  try simp only [Act.put, List.setIfInBounds_toArray, List.set_cons_zero, List.set_cons_succ]
                  refine wpAnyH_take (i := 28) (oi := { dst := some 228, op := Go.Op.move (Go.Operand.tmp 29), type := 3, pos := "laws.go:1456", after := #[{ on := 26, ground := Go.Ground.guard }], guard := some (26, false) }) (v := ?_) rfl (by kernel_rfl) (by kernel_rfl) (by kernel_rfl) (fun _ _ _ h => h.no (by intro q; cases q)) (Or.inl ⟨by rfl, ?_⟩) (by assumption) ?_
                  rotate_left
                  · (intro w hSw; (try dsimp only at hSw); go_simp); (try with_reducible rfl)
                  try simp only [Act.put, List.setIfInBounds_toArray, List.set_cons_zero, List.set_cons_succ]
                  refine wpAnyH_take (i := 29) (oi := { dst := some 229, op := Go.Op.indexAddr 24 (Go.Operand.tmp 227) (Go.Operand.tmp 228), type := 0, pos := "laws.go:1456", after := #[{ on := 27, ground := Go.Ground.data }, { on := 28, ground := Go.Ground.data }, { on := 26, ground := Go.Ground.guard }], guard := some (26, false) }) (v := ?_) rfl (by kernel_rfl) (by kernel_rfl) (by kernel_rfl) (fun _ _ _ h => h.no (by intro q; cases q)) (Or.inl ⟨by rfl, ?_⟩) (by assumption) ?_
                  rotate_left
                  · (intro w hSw; (try dsimp only at hSw); go_simp); (try with_reducible rfl)
                  try simp only [Act.put, List.setIfInBounds_toArray, List.set_cons_zero, List.set_cons_succ]
                  refine wpAnyH_take (i := 30) (oi := { dst := some 230, op := Go.Op.load 2 (Go.Operand.tmp 229), type := 2, pos := "laws.go:1456", after := #[{ on := 29, ground := Go.Ground.data }, { on := 26, ground := Go.Ground.guard }], guard := some (26, false) }) (v := ?_) rfl (by kernel_rfl) (by kernel_rfl) (by kernel_rfl) (fun _ _ _ h => h.no (by intro q; cases q)) (Or.inl ⟨by rfl, ?_⟩) (by assumption) ?_
                  rotate_left
                  · (intro w hSw; (try dsimp only at hSw); go_simp); (try with_reducible rfl)
                  try simp only [Act.put, List.setIfInBounds_toArray, List.set_cons_zero, List.set_cons_succ]
                  refine wpAnyH_take (i := 31) (oi := { dst := some 231, op := Go.Op.move (Go.Operand.tmp 9), type := 24, pos := "laws.go:1456", after := #[{ on := 26, ground := Go.Ground.guard }], guard := some (26, false) }) (v := ?_) rfl (by kernel_rfl) (by kernel_rfl) (by kernel_rfl) (fun _ _ _ h => h.no (by intro q; cases q)) (Or.inl ⟨by rfl, ?_⟩) (by assumption) ?_
                  rotate_left
                  · (intro w hSw; (try dsimp only at hSw); go_simp); (try with_reducible rfl)
                  try simp only [Act.put, List.setIfInBounds_toArray, List.set_cons_zero, List.set_cons_succ]
                  refine wpAnyH_take (i := 32) (oi := { dst := some 232, op := Go.Op.move (Go.Operand.tmp 29), type := 3, pos := "laws.go:1456", after := #[{ on := 26, ground := Go.Ground.guard }], guard := some (26, false) }) (v := ?_) rfl (by kernel_rfl) (by kernel_rfl) (by kernel_rfl) (fun _ _ _ h => h.no (by intro q; cases q)) (Or.inl ⟨by rfl, ?_⟩) (by assumption) ?_
                  rotate_left
                  · (intro w hSw; (try dsimp only at hSw); go_simp); (try with_reducible rfl)
                  try simp only [Act.put, List.setIfInBounds_toArray, List.set_cons_zero, List.set_cons_succ]
                  refine wpAnyH_take (i := 33) (oi := { dst := some 233, op := Go.Op.indexAddr 24 (Go.Operand.tmp 231) (Go.Operand.tmp 232), type := 0, pos := "laws.go:1456", after := #[{ on := 31, ground := Go.Ground.data }, { on := 32, ground := Go.Ground.data }, { on := 26, ground := Go.Ground.guard }], guard := some (26, false) }) (v := ?_) rfl (by kernel_rfl) (by kernel_rfl) (by kernel_rfl) (fun _ _ _ h => h.no (by intro q; cases q)) (Or.inl ⟨by rfl, ?_⟩) (by assumption) ?_
                  rotate_left
                  · (intro w hSw; (try dsimp only at hSw); go_simp); (try with_reducible rfl)
                  try simp only [Act.put, List.setIfInBounds_toArray, List.set_cons_zero, List.set_cons_succ]
                  refine wpAnyH_take (i := 34) (oi := { dst := some 234, op := Go.Op.load 2 (Go.Operand.tmp 233), type := 2, pos := "laws.go:1456", after := #[{ on := 33, ground := Go.Ground.data }, { on := 26, ground := Go.Ground.guard }], guard := some (26, false) }) (v := ?_) rfl (by kernel_rfl) (by kernel_rfl) (by kernel_rfl) (fun _ _ _ h => h.no (by intro q; cases q)) (Or.inl ⟨by rfl, ?_⟩) (by assumption) ?_
                  rotate_left
                  · (intro w hSw; (try dsimp only at hSw); go_simp); (try with_reducible rfl)
                  try simp only [Act.put, List.setIfInBounds_toArray, List.set_cons_zero, List.set_cons_succ]
                  refine wpAnyH_take (i := 35) (oi := { dst := some 235, op := Go.Op.binOp Go.BinOp.mul 2 (Go.Operand.tmp 230) (Go.Operand.tmp 234) 2, type := 2, pos := "laws.go:1456", after := #[{ on := 30, ground := Go.Ground.data }, { on := 34, ground := Go.Ground.data }, { on := 26, ground := Go.Ground.guard }], guard := some (26, false) }) (v := ?_) rfl (by kernel_rfl) (by kernel_rfl) (by kernel_rfl) (fun _ _ _ h => h.no (by intro q; cases q)) (Or.inl ⟨by rfl, ?_⟩) (by assumption) ?_
                  rotate_left
                  · (intro w hSw; (try dsimp only at hSw); go_simp); (try with_reducible rfl)
                  try simp only [Act.put, List.setIfInBounds_toArray, List.set_cons_zero, List.set_cons_succ]
                  refine wpAnyH_take (i := 36) (oi := { dst := some 236, op := Go.Op.move (Go.Operand.tmp 26), type := 2, pos := "laws.go:1456", after := #[{ on := 26, ground := Go.Ground.guard }], guard := some (26, false) }) (v := ?_) rfl (by kernel_rfl) (by kernel_rfl) (by kernel_rfl) (fun _ _ _ h => h.no (by intro q; cases q)) (Or.inl ⟨by rfl, ?_⟩) (by assumption) ?_
                  rotate_left
                  · (intro w hSw; (try dsimp only at hSw); go_simp); (try with_reducible rfl)
                  try simp only [Act.put, List.setIfInBounds_toArray, List.set_cons_zero, List.set_cons_succ]
                  refine wpAnyH_take (i := 37) (oi := { dst := some 237, op := Go.Op.binOp Go.BinOp.lss 2 (Go.Operand.tmp 235) (Go.Operand.tmp 236) 2, type := 4, pos := "laws.go:1456", after := #[{ on := 35, ground := Go.Ground.data }, { on := 36, ground := Go.Ground.data }, { on := 26, ground := Go.Ground.guard }], guard := some (26, false) }) (v := ?_) rfl (by kernel_rfl) (by kernel_rfl) (by kernel_rfl) (fun _ _ _ h => h.no (by intro q; cases q)) (Or.inl ⟨by rfl, ?_⟩) (by assumption) ?_
                  rotate_left
                  · (intro w hSw; (try dsimp only at hSw); go_simp); (try with_reducible rfl)
                  try simp only [Act.put, List.setIfInBounds_toArray, List.set_cons_zero, List.set_cons_succ]
                  refine wpAnyH_take (i := 38) (oi := { dst := some 238, op := Go.Op.move (Go.Operand.tmp 237), type := 4, pos := "laws.go:1456", after := #[{ on := 37, ground := Go.Ground.data }, { on := 26, ground := Go.Ground.chain }, { on := 26, ground := Go.Ground.guard }], guard := some (26, false) }) (v := ?_) rfl (by kernel_rfl) (by kernel_rfl) (by kernel_rfl) (fun _ _ _ h => h.no (by intro q; cases q)) (Or.inl ⟨by rfl, ?_⟩) (by assumption) ?_
                  rotate_left
                  · (intro w hSw; (try dsimp only at hSw); go_simp); (try with_reducible rfl)
                  try simp only [Act.put, List.setIfInBounds_toArray, List.set_cons_zero, List.set_cons_succ]
                  refine wpAnyH_take (i := 39) (oi := { dst := some 239, op := Go.Op.move (Go.Operand.tmp 5), type := 24, pos := "laws.go:1456", after := #[{ on := 38, ground := Go.Ground.guard }], guard := some (38, true) }) (v := undef) rfl (by kernel_rfl) (by kernel_rfl) (by kernel_rfl) (fun _ _ _ h => h.no (by intro q; cases q)) (Or.inr ⟨by rfl, rfl⟩) (by assumption) ?_
                  try simp only [Act.put, List.setIfInBounds_toArray, List.set_cons_zero, List.set_cons_succ]
                  refine wpAnyH_take (i := 40) (oi := { dst := some 240, op := Go.Op.move (Go.Operand.tmp 29), type := 3, pos := "laws.go:1456", after := #[{ on := 38, ground := Go.Ground.guard }], guard := some (38, true) }) (v := undef) rfl (by kernel_rfl) (by kernel_rfl) (by kernel_rfl) (fun _ _ _ h => h.no (by intro q; cases q)) (Or.inr ⟨by rfl, rfl⟩) (by assumption) ?_
                  try simp only [Act.put, List.setIfInBounds_toArray, List.set_cons_zero, List.set_cons_succ]
                  refine wpAnyH_take (i := 41) (oi := { dst := some 241, op := Go.Op.indexAddr 24 (Go.Operand.tmp 239) (Go.Operand.tmp 240), type := 0, pos := "laws.go:1456", after := #[{ on := 39, ground := Go.Ground.data }, { on := 40, ground := Go.Ground.data }, { on := 38, ground := Go.Ground.guard }], guard := some (38, true) }) (v := undef) rfl (by kernel_rfl) (by kernel_rfl) (by kernel_rfl) (fun _ _ _ h => h.no (by intro q; cases q)) (Or.inr ⟨by rfl, rfl⟩) (by assumption) ?_
                  try simp only [Act.put, List.setIfInBounds_toArray, List.set_cons_zero, List.set_cons_succ]
                  refine wpAnyH_take (i := 42) (oi := { dst := some 242, op := Go.Op.load 2 (Go.Operand.tmp 241), type := 2, pos := "laws.go:1456", after := #[{ on := 41, ground := Go.Ground.data }, { on := 38, ground := Go.Ground.guard }], guard := some (38, true) }) (v := undef) rfl (by kernel_rfl) (by kernel_rfl) (by kernel_rfl) (fun _ _ _ h => h.no (by intro q; cases q)) (Or.inr ⟨by rfl, rfl⟩) (by assumption) ?_
                  try simp only [Act.put, List.setIfInBounds_toArray, List.set_cons_zero, List.set_cons_succ]
                  refine wpAnyH_take (i := 43) (oi := { dst := some 243, op := Go.Op.binOp Go.BinOp.gtr 2 (Go.Operand.tmp 242) (Go.Operand.const (Go.Value.int Go.IntKind.i64 0)) 2, type := 4, pos := "laws.go:1456", after := #[{ on := 42, ground := Go.Ground.data }, { on := 38, ground := Go.Ground.guard }], guard := some (38, true) }) (v := undef) rfl (by kernel_rfl) (by kernel_rfl) (by kernel_rfl) (fun _ _ _ h => h.no (by intro q; cases q)) (Or.inr ⟨by rfl, rfl⟩) (by assumption) ?_
                  try simp only [Act.put, List.setIfInBounds_toArray, List.set_cons_zero, List.set_cons_succ]
                  refine wpAnyH_take (i := 44) (oi := { dst := some 244, op := Go.Op.pick (Go.Operand.tmp 238) (Go.Operand.tmp 243) (Go.Operand.const (Go.Value.bool false)), type := 4, pos := "laws.go:1456", after := #[{ on := 38, ground := Go.Ground.data }, { on := 43, ground := Go.Ground.data }, { on := 26, ground := Go.Ground.guard }], guard := some (26, false) }) (v := ?_) rfl (by kernel_rfl) (by kernel_rfl) (by kernel_rfl) (fun _ _ _ h => h.no (by intro q; cases q)) (Or.inl ⟨by rfl, ?_⟩) (by assumption) ?_
                  rotate_left
                  · (intro w hSw; (try dsimp only at hSw); go_simp); (try with_reducible rfl)
                  try simp only [Act.put, List.setIfInBounds_toArray, List.set_cons_zero, List.set_cons_succ]
                  refine wpAnyH_take (i := 45) (oi := { dst := some 245, op := Go.Op.pick (Go.Operand.tmp 226) (Go.Operand.const (Go.Value.bool true)) (Go.Operand.tmp 244), type := 4, pos := "laws.go:1456", after := #[{ on := 26, ground := Go.Ground.data }, { on := 44, ground := Go.Ground.data }], guard := none }) (v := ?_) rfl (by kernel_rfl) (by kernel_rfl) (by kernel_rfl) (fun _ _ _ h => h.no (by intro q; cases q)) (Or.inl ⟨by rfl, ?_⟩) (by assumption) ?_
                  rotate_left
                  · (intro w hSw; (try dsimp only at hSw); go_simp); (try with_reducible rfl)
                  try simp only [Act.put, List.setIfInBounds_toArray, List.set_cons_zero, List.set_cons_succ]
                  refine wpAnyH_done (by kernel_rfl) ⟨rfl, ?_⟩ _
                  go_wp2
                  go_roundw
                  case rel => exact ⟨k + 1, by omega, by go_num, by rw [← HST.out]; first | done | go_num, by first | exact Below.drew hb | exact hb⟩
                  case measure => simp [intOf]; omega
                · have y0 : ¬ r = 0 := fun e => by have := x1.2 e; omega
                  have y1 : (r == 0) = false := by simpa using y0
                  have y4 : ((l : Int) == 0) = false := by simp; omega
                  have y5 : ((l : Int) == 1) = false := by simp; omega
                  have y6 := x3 (by omega)
                  have hbm : (l : Int) * r ≤ 144 * 288 := Int.mul_le_mul (show (l : Int) ≤ 144 by omega) (show r ≤ 288 by omega) x4 (by omega)
                  have hb0 : 0 ≤ (l : Int) * r := by omega
                  have y7 : IntKind.i64.wrap ((l : Int) * r) = (l : Int) * r := IntWalk.i64_in _ (by omega)
                  have y8 : ¬ (l : Int) * r < (n : Int) := by omega
                  clear x1 x2 x3 x4 x5 y0 y6 hbm hb0
                  go_upto_region 34 with fail
                  refine wp_region_calm (S := (fun W' => W'.cell? ⟨g1, k, none⟩ = some (.int .i64 (l : Int)) ∧ W'.cell? ⟨g3, k, none⟩ = some (.int .i64 r))) (by kernel_rfl) ?_ (fun hHeld => ?_)
                  · (try dsimp only); exact ⟨c1, c3⟩
                  refine wpAnyH_take (i := 0) (oi := { dst := some 200, op := Go.Op.move (Go.Operand.tmp 5), type := 24, pos := "laws.go:1456", after := #[], guard := none }) (v := ?_) rfl (by kernel_rfl) (by kernel_rfl) (by kernel_rfl) (fun _ _ _ h => h.no (by intro q; cases q)) (Or.inl ⟨by rfl, ?_⟩) (by assumption) ?_
                  rotate_left
                  · (intro w hSw; (try dsimp only at hSw); go_simp); (try with_reducible rfl)
                  try simp only [Act.put, List.setIfInBounds_toArray, List.set_cons_zero, List.set_cons_succ]
                  refine wpAnyH_take (i := 1) (oi := { dst := some 201, op := Go.Op.move (Go.Operand.tmp 29), type := 3, pos := "laws.go:1456", after := #[], guard := none }) (v := ?_) rfl (by kernel_rfl) (by kernel_rfl) (by kernel_rfl) (fun _ _ _ h => h.no (by intro q; cases q)) (Or.inl ⟨by rfl, ?_⟩) (by assumption) ?_
                  rotate_left
                  · (intro w hSw; (try dsimp only at hSw); go_simp); (try with_reducible rfl)
                  try simp only [Act.put, List.setIfInBounds_toArray, List.set_cons_zero, List.set_cons_succ]
                  refine wpAnyH_take (i := 2) (oi := { dst := some 202, op := Go.Op.indexAddr 24 (Go.Operand.tmp 200) (Go.Operand.tmp 201), type := 0, pos := "laws.go:1456", after := #[{ on := 0, ground := Go.Ground.data }, { on := 1, ground := Go.Ground.data }], guard := none }) (v := ?_) rfl (by kernel_rfl) (by kernel_rfl) (by kernel_rfl) (fun _ _ _ h => h.no (by intro q; cases q)) (Or.inl ⟨by rfl, ?_⟩) (by assumption) ?_
                  rotate_left
                  · (intro w hSw; (try dsimp only at hSw); go_simp); (try with_reducible rfl)
                  try simp only [Act.put, List.setIfInBounds_toArray, List.set_cons_zero, List.set_cons_succ]
                  refine wpAnyH_take (i := 3) (oi := { dst := some 203, op := Go.Op.load 2 (Go.Operand.tmp 202), type := 2, pos := "laws.go:1456", after := #[{ on := 2, ground := Go.Ground.data }], guard := none }) (v := ?_) rfl (by kernel_rfl) (by kernel_rfl) (by kernel_rfl) (fun _ _ _ h => h.no (by intro q; cases q)) (Or.inl ⟨by rfl, ?_⟩) (by assumption) ?_
                  rotate_left
                  · (intro w hSw; (try dsimp only at hSw); go_simp); (try with_reducible rfl)
                  try simp only [Act.put, List.setIfInBounds_toArray, List.set_cons_zero, List.set_cons_succ]
                  refine wpAnyH_take (i := 4) (oi := { dst := some 204, op := Go.Op.binOp Go.BinOp.eql 2 (Go.Operand.tmp 203) (Go.Operand.const (Go.Value.int Go.IntKind.i64 0)) 2, type := 4, pos := "laws.go:1456", after := #[{ on := 3, ground := Go.Ground.data }], guard := none }) (v := ?_) rfl (by kernel_rfl) (by kernel_rfl) (by kernel_rfl) (fun _ _ _ h => h.no (by intro q; cases q)) (Or.inl ⟨by rfl, ?_⟩) (by assumption) ?_
                  rotate_left
                  · (intro w hSw; (try dsimp only at hSw); go_simp); (try with_reducible rfl)
                  try simp only [Act.put, List.setIfInBounds_toArray, List.set_cons_zero, List.set_cons_succ]
                  refine wpAnyH_take (i := 5) (oi := { dst := some 205, op := Go.Op.move (Go.Operand.tmp 9), type := 24, pos := "laws.go:1456", after := #[], guard := none }) (v := ?_) rfl (by kernel_rfl) (by kernel_rfl) (by kernel_rfl) (fun _ _ _ h => h.no (by intro q; cases q)) (Or.inl ⟨by rfl, ?_⟩) (by assumption) ?_
                  rotate_left
                  · (intro w hSw; (try dsimp only at hSw); go_simp); (try with_reducible rfl)
                  try simp only [Act.put, List.setIfInBounds_toArray, List.set_cons_zero, List.set_cons_succ]
                  refine wpAnyH_take (i := 6) (oi := { dst := some 206, op := Go.Op.move (Go.Operand.tmp 29), type := 3, pos := "laws.go:1456", after := #[], guard := none }) (v := ?_) rfl (by kernel_rfl) (by kernel_rfl) (by kernel_rfl) (fun _ _ _ h => h.no (by intro q; cases q)) (Or.inl ⟨by rfl, ?_⟩) (by assumption) ?_
                  rotate_left
                  · (intro w hSw; (try dsimp only at hSw); go_simp); (try with_reducible rfl)
                  try simp only [Act.put, List.setIfInBounds_toArray, List.set_cons_zero, List.set_cons_succ]
                  refine wpAnyH_take (i := 7) (oi := { dst := some 207, op := Go.Op.indexAddr 24 (Go.Operand.tmp 205) (Go.Operand.tmp 206), type := 0, pos := "laws.go:1456", after := #[{ on := 5, ground := Go.Ground.data }, { on := 6, ground := Go.Ground.data }], guard := none }) (v := ?_) rfl (by kernel_rfl) (by kernel_rfl) (by kernel_rfl) (fun _ _ _ h => h.no (by intro q; cases q)) (Or.inl ⟨by rfl, ?_⟩) (by assumption) ?_
                  rotate_left
                  · (intro w hSw; (try dsimp only at hSw); go_simp); (try with_reducible rfl)
                  try simp only [Act.put, List.setIfInBounds_toArray, List.set_cons_zero, List.set_cons_succ]
                  refine wpAnyH_take (i := 8) (oi := { dst := some 208, op := Go.Op.load 2 (Go.Operand.tmp 207), type := 2, pos := "laws.go:1456", after := #[{ on := 7, ground := Go.Ground.data }], guard := none }) (v := ?_) rfl (by kernel_rfl) (by kernel_rfl) (by kernel_rfl) (fun _ _ _ h => h.no (by intro q; cases q)) (Or.inl ⟨by rfl, ?_⟩) (by assumption) ?_
                  rotate_left
                  · (intro w hSw; (try dsimp only at hSw); go_simp); (try with_reducible rfl)
                  try simp only [Act.put, List.setIfInBounds_toArray, List.set_cons_zero, List.set_cons_succ]
                  refine wpAnyH_take (i := 9) (oi := { dst := some 209, op := Go.Op.binOp Go.BinOp.eql 2 (Go.Operand.tmp 208) (Go.Operand.const (Go.Value.int Go.IntKind.i64 0)) 2, type := 4, pos := "laws.go:1456", after := #[{ on := 8, ground := Go.Ground.data }], guard := none }) (v := ?_) rfl (by kernel_rfl) (by kernel_rfl) (by kernel_rfl) (fun _ _ _ h => h.no (by intro q; cases q)) (Or.inl ⟨by rfl, ?_⟩) (by assumption) ?_
                  rotate_left
                  · (intro w hSw; (try dsimp only at hSw); go_simp); (try with_reducible rfl)
                  try simp only [Act.put, List.setIfInBounds_toArray, List.set_cons_zero, List.set_cons_succ]
                  refine wpAnyH_take (i := 10) (oi := { dst := some 210, op := Go.Op.binOp Go.BinOp.neq 4 (Go.Operand.tmp 204) (Go.Operand.tmp 209) 4, type := 4, pos := "laws.go:1456", after := #[{ on := 4, ground := Go.Ground.data }, { on := 9, ground := Go.Ground.data }], guard := none }) (v := ?_) rfl (by kernel_rfl) (by kernel_rfl) (by kernel_rfl) (fun _ _ _ h => h.no (by intro q; cases q)) (Or.inl ⟨by rfl, ?_⟩) (by assumption) ?_
                  rotate_left
                  · (intro w hSw; (try dsimp only at hSw); go_simp); (try with_reducible rfl)
                  try simp only [Act.put, List.setIfInBounds_toArray, List.set_cons_zero, List.set_cons_succ]
                  refine wpAnyH_take (i := 11) (oi := { dst := some 211, op := Go.Op.move (Go.Operand.tmp 210), type := 4, pos := "laws.go:1456", after := #[{ on := 10, ground := Go.Ground.data }], guard := none }) (v := ?_) rfl (by kernel_rfl) (by kernel_rfl) (by kernel_rfl) (fun _ _ _ h => h.no (by intro q; cases q)) (Or.inl ⟨by rfl, ?_⟩) (by assumption) ?_
                  rotate_left
                  · (intro w hSw; (try dsimp only at hSw); go_simp); (try with_reducible rfl)
                  try simp only [Act.put, List.setIfInBounds_toArray, List.set_cons_zero, List.set_cons_succ]
                  refine wpAnyH_take (i := 12) (oi := { dst := some 212, op := Go.Op.move (Go.Operand.tmp 5), type := 24, pos := "laws.go:1456", after := #[{ on := 11, ground := Go.Ground.guard }], guard := some (11, false) }) (v := ?_) rfl (by kernel_rfl) (by kernel_rfl) (by kernel_rfl) (fun _ _ _ h => h.no (by intro q; cases q)) (Or.inl ⟨by rfl, ?_⟩) (by assumption) ?_
                  rotate_left
                  · (intro w hSw; (try dsimp only at hSw); go_simp); (try with_reducible rfl)
                  try simp only [Act.put, List.setIfInBounds_toArray, List.set_cons_zero, List.set_cons_succ]
                  refine wpAnyH_take (i := 13) (oi := { dst := some 213, op := Go.Op.move (Go.Operand.tmp 29), type := 3, pos := "laws.go:1456", after := #[{ on := 11, ground := Go.Ground.guard }], guard := some (11, false) }) (v := ?_) rfl (by kernel_rfl) (by kernel_rfl) (by kernel_rfl) (fun _ _ _ h => h.no (by intro q; cases q)) (Or.inl ⟨by rfl, ?_⟩) (by assumption) ?_
                  rotate_left
                  · (intro w hSw; (try dsimp only at hSw); go_simp); (try with_reducible rfl)
                  try simp only [Act.put, List.setIfInBounds_toArray, List.set_cons_zero, List.set_cons_succ]
                  refine wpAnyH_take (i := 14) (oi := { dst := some 214, op := Go.Op.indexAddr 24 (Go.Operand.tmp 212) (Go.Operand.tmp 213), type := 0, pos := "laws.go:1456", after := #[{ on := 12, ground := Go.Ground.data }, { on := 13, ground := Go.Ground.data }, { on := 11, ground := Go.Ground.guard }], guard := some (11, false) }) (v := ?_) rfl (by kernel_rfl) (by kernel_rfl) (by kernel_rfl) (fun _ _ _ h => h.no (by intro q; cases q)) (Or.inl ⟨by rfl, ?_⟩) (by assumption) ?_
                  rotate_left
                  · (intro w hSw; (try dsimp only at hSw); go_simp); (try with_reducible rfl)
                  try simp only [Act.put, List.setIfInBounds_toArray, List.set_cons_zero, List.set_cons_succ]
                  refine wpAnyH_take (i := 15) (oi := { dst := some 215, op := Go.Op.load 2 (Go.Operand.tmp 214), type := 2, pos := "laws.go:1456", after := #[{ on := 14, ground := Go.Ground.data }, { on := 11, ground := Go.Ground.guard }], guard := some (11, false) }) (v := ?_) rfl (by kernel_rfl) (by kernel_rfl) (by kernel_rfl) (fun _ _ _ h => h.no (by intro q; cases q)) (Or.inl ⟨by rfl, ?_⟩) (by assumption) ?_
                  rotate_left
                  · (intro w hSw; (try dsimp only at hSw); go_simp); (try with_reducible rfl)
                  try simp only [Act.put, List.setIfInBounds_toArray, List.set_cons_zero, List.set_cons_succ]
                  refine wpAnyH_take (i := 16) (oi := { dst := some 216, op := Go.Op.binOp Go.BinOp.eql 2 (Go.Operand.tmp 215) (Go.Operand.const (Go.Value.int Go.IntKind.i64 1)) 2, type := 4, pos := "laws.go:1456", after := #[{ on := 15, ground := Go.Ground.data }, { on := 11, ground := Go.Ground.guard }], guard := some (11, false) }) (v := ?_) rfl (by kernel_rfl) (by kernel_rfl) (by kernel_rfl) (fun _ _ _ h => h.no (by intro q; cases q)) (Or.inl ⟨by rfl, ?_⟩) (by assumption) ?_
                  rotate_left
                  · (intro w hSw; (try dsimp only at hSw); go_simp); (try with_reducible rfl)
                  try simp only [Act.put, List.setIfInBounds_toArray, List.set_cons_zero, List.set_cons_succ]
                  refine wpAnyH_take (i := 17) (oi := { dst := some 217, op := Go.Op.move (Go.Operand.tmp 216), type := 4, pos := "laws.go:1456", after := #[{ on := 16, ground := Go.Ground.data }, { on := 11, ground := Go.Ground.chain }, { on := 11, ground := Go.Ground.guard }], guard := some (11, false) }) (v := ?_) rfl (by kernel_rfl) (by kernel_rfl) (by kernel_rfl) (fun _ _ _ h => h.no (by intro q; cases q)) (Or.inl ⟨by rfl, ?_⟩) (by assumption) ?_
                  rotate_left
                  · (intro w hSw; (try dsimp only at hSw); go_simp); (try with_reducible rfl)
                  try simp only [Act.put, List.setIfInBounds_toArray, List.set_cons_zero, List.set_cons_succ]
                  refine wpAnyH_take (i := 18) (oi := { dst := some 218, op := Go.Op.move (Go.Operand.tmp 9), type := 24, pos := "laws.go:1456", after := #[{ on := 17, ground := Go.Ground.guard }], guard := some (17, true) }) (v := undef) rfl (by kernel_rfl) (by kernel_rfl) (by kernel_rfl) (fun _ _ _ h => h.no (by intro q; cases q)) (Or.inr ⟨by rfl, rfl⟩) (by assumption) ?_
                  try simp only [Act.put, List.setIfInBounds_toArray, List.set_cons_zero, List.set_cons_succ]
                  refine wpAnyH_take (i := 19) (oi := { dst := some 219, op := Go.Op.move (Go.Operand.tmp 29), type := 3, pos := "laws.go:1456", after := #[{ on := 17, ground := Go.Ground.guard }], guard := some (17, true) }) (v := undef) rfl (by kernel_rfl) (by kernel_rfl) (by kernel_rfl) (fun _ _ _ h => h.no (by intro q; cases q)) (Or.inr ⟨by rfl, rfl⟩) (by assumption) ?_
                  try simp only [Act.put, List.setIfInBounds_toArray, List.set_cons_zero, List.set_cons_succ]
                  refine wpAnyH_take (i := 20) (oi := { dst := some 220, op := Go.Op.indexAddr 24 (Go.Operand.tmp 218) (Go.Operand.tmp 219), type := 0, pos := "laws.go:1456", after := #[{ on := 18, ground := Go.Ground.data }, { on := 19, ground := Go.Ground.data }, { on := 17, ground := Go.Ground.guard }], guard := some (17, true) }) (v := undef) rfl (by kernel_rfl) (by kernel_rfl) (by kernel_rfl) (fun _ _ _ h => h.no (by intro q; cases q)) (Or.inr ⟨by rfl, rfl⟩) (by assumption) ?_
                  try simp only [Act.put, List.setIfInBounds_toArray, List.set_cons_zero, List.set_cons_succ]
                  refine wpAnyH_take (i := 21) (oi := { dst := some 221, op := Go.Op.load 2 (Go.Operand.tmp 220), type := 2, pos := "laws.go:1456", after := #[{ on := 20, ground := Go.Ground.data }, { on := 17, ground := Go.Ground.guard }], guard := some (17, true) }) (v := undef) rfl (by kernel_rfl) (by kernel_rfl) (by kernel_rfl) (fun _ _ _ h => h.no (by intro q; cases q)) (Or.inr ⟨by rfl, rfl⟩) (by assumption) ?_
                  try simp only [Act.put, List.setIfInBounds_toArray, List.set_cons_zero, List.set_cons_succ]
                  refine wpAnyH_take (i := 22) (oi := { dst := some 222, op := Go.Op.move (Go.Operand.tmp 26), type := 2, pos := "laws.go:1456", after := #[{ on := 17, ground := Go.Ground.guard }], guard := some (17, true) }) (v := undef) rfl (by kernel_rfl) (by kernel_rfl) (by kernel_rfl) (fun _ _ _ h => h.no (by intro q; cases q)) (Or.inr ⟨by rfl, rfl⟩) (by assumption) ?_
                  try simp only [Act.put, List.setIfInBounds_toArray, List.set_cons_zero, List.set_cons_succ]
                  refine wpAnyH_take (i := 23) (oi := { dst := some 223, op := Go.Op.binOp Go.BinOp.neq 2 (Go.Operand.tmp 221) (Go.Operand.tmp 222) 2, type := 4, pos := "laws.go:1456", after := #[{ on := 21, ground := Go.Ground.data }, { on := 22, ground := Go.Ground.data }, { on := 17, ground := Go.Ground.guard }], guard := some (17, true) }) (v := undef) rfl (by kernel_rfl) (by kernel_rfl) (by kernel_rfl) (fun _ _ _ h => h.no (by intro q; cases q)) (Or.inr ⟨by rfl, rfl⟩) (by assumption) ?_
                  try simp only [Act.put, List.setIfInBounds_toArray, List.set_cons_zero, List.set_cons_succ]
                  refine wpAnyH_take (i := 24) (oi := { dst := some 224, op := Go.Op.pick (Go.Operand.tmp 217) (Go.Operand.tmp 223) (Go.Operand.const (Go.Value.bool false)), type := 4, pos := "laws.go:1456", after := #[{ on := 17, ground := Go.Ground.data }, { on := 23, ground := Go.Ground.data }, { on := 11, ground := Go.Ground.guard }], guard := some (11, false) }) (v := ?_) rfl (by kernel_rfl) (by kernel_rfl) (by kernel_rfl) (fun _ _ _ h => h.no (by intro q; cases q)) (Or.inl ⟨by rfl, ?_⟩) (by assumption) ?_
                  rotate_left
                  · (intro w hSw; (try dsimp only at hSw); go_simp); (try with_reducible rfl)
                  try simp only [Act.put, List.setIfInBounds_toArray, List.set_cons_zero, List.set_cons_succ]
                  refine wpAnyH_take (i := 25) (oi := { dst := some 225, op := Go.Op.pick (Go.Operand.tmp 211) (Go.Operand.const (Go.Value.bool true)) (Go.Operand.tmp 224), type := 4, pos := "laws.go:1456", after := #[{ on := 11, ground := Go.Ground.data }, { on := 24, ground := Go.Ground.data }], guard := none }) (v := ?_) rfl (by kernel_rfl) (by kernel_rfl) (by kernel_rfl) (fun _ _ _ h => h.no (by intro q; cases q)) (Or.inl ⟨by rfl, ?_⟩) (by assumption) ?_
                  rotate_left
                  · (intro w hSw; (try dsimp only at hSw); go_simp); (try with_reducible rfl)
                  try simp only [Act.put, List.setIfInBounds_toArray, List.set_cons_zero, List.set_cons_succ]
                  refine wpAnyH_take (i := 26) (oi := { dst := some 226, op := Go.Op.move (Go.Operand.tmp 225), type := 4, pos := "laws.go:1456", after := #[{ on := 25, ground := Go.Ground.data }, { on := 17, ground := Go.Ground.chain }], guard := none }) (v := ?_) rfl (by kernel_rfl) (by kernel_rfl) (by kernel_rfl) (fun _ _ _ h => h.no (by intro q; cases q)) (Or.inl ⟨by rfl, ?_⟩) (by assumption) ?_
                  rotate_left
                  · (intro w hSw; (try dsimp only at hSw); go_simp); (try with_reducible rfl)
                  try simp only [Act.put, List.setIfInBounds_toArray, List.set_cons_zero, List.set_cons_succ]
                  refine wpAnyH_take (i := 27) (oi := { dst := some 227, op := Go.Op.move (Go.Operand.tmp 5), type := 24, pos := "laws.go:1456", after := #[{ on := 26, ground := Go.Ground.guard }], guard := some (26, false) }) (v := ?_) rfl (by kernel_rfl) (by kernel_rfl) (by kernel_rfl) (fun _ _ _ h => h.no (by intro q; cases q)) (Or.inl ⟨by rfl, ?_⟩) (by assumption) ?_
                  rotate_left
                  · (intro w hSw; (try dsimp only at hSw); go_simp); (try with_reducible rfl)
                  try simp only [Act.put, List.setIfInBounds_toArray, List.set_cons_zero, List.set_cons_succ]
                  refine wpAnyH_take (i := 28) (oi := { dst := some 228, op := Go.Op.move (Go.Operand.tmp 29), type := 3, pos := "laws.go:1456", after := #[{ on := 26, ground := Go.Ground.guard }], guard := some (26, false) }) (v := ?_) rfl (by kernel_rfl) (by kernel_rfl) (by kernel_rfl) (fun _ _ _ h => h.no (by intro q; cases q)) (Or.inl ⟨by rfl, ?_⟩) (by assumption) ?_
                  rotate_left
                  · (intro w hSw; (try dsimp only at hSw); go_simp); (try with_reducible rfl)
                  try simp only [Act.put, List.setIfInBounds_toArray, List.set_cons_zero, List.set_cons_succ]
                  refine wpAnyH_take (i := 29) (oi := { dst := some 229, op := Go.Op.indexAddr 24 (Go.Operand.tmp 227) (Go.Operand.tmp 228), type := 0, pos := "laws.go:1456", after := #[{ on := 27, ground := Go.Ground.data }, { on := 28, ground := Go.Ground.data }, { on := 26, ground := Go.Ground.guard }], guard := some (26, false) }) (v := ?_) rfl (by kernel_rfl) (by kernel_rfl) (by kernel_rfl) (fun _ _ _ h => h.no (by intro q; cases q)) (Or.inl ⟨by rfl, ?_⟩) (by assumption) ?_
                  rotate_left
                  · (intro w hSw; (try dsimp only at hSw); go_simp); (try with_reducible rfl)
                  try simp only [Act.put, List.setIfInBounds_toArray, List.set_cons_zero, List.set_cons_succ]
                  refine wpAnyH_take (i := 30) (oi := { dst := some 230, op := Go.Op.load 2 (Go.Operand.tmp 229), type := 2, pos := "laws.go:1456", after := #[{ on := 29, ground := Go.Ground.data }, { on := 26, ground := Go.Ground.guard }], guard := some (26, false) }) (v := ?_) rfl (by kernel_rfl) (by kernel_rfl) (by kernel_rfl) (fun _ _ _ h => h.no (by intro q; cases q)) (Or.inl ⟨by rfl, ?_⟩) (by assumption) ?_
                  rotate_left
                  · (intro w hSw; (try dsimp only at hSw); go_simp); (try with_reducible rfl)
                  try simp only [Act.put, List.setIfInBounds_toArray, List.set_cons_zero, List.set_cons_succ]
                  refine wpAnyH_take (i := 31) (oi := { dst := some 231, op := Go.Op.move (Go.Operand.tmp 9), type := 24, pos := "laws.go:1456", after := #[{ on := 26, ground := Go.Ground.guard }], guard := some (26, false) }) (v := ?_) rfl (by kernel_rfl) (by kernel_rfl) (by kernel_rfl) (fun _ _ _ h => h.no (by intro q; cases q)) (Or.inl ⟨by rfl, ?_⟩) (by assumption) ?_
                  rotate_left
                  · (intro w hSw; (try dsimp only at hSw); go_simp); (try with_reducible rfl)
                  try simp only [Act.put, List.setIfInBounds_toArray, List.set_cons_zero, List.set_cons_succ]
                  refine wpAnyH_take (i := 32) (oi := { dst := some 232, op := Go.Op.move (Go.Operand.tmp 29), type := 3, pos := "laws.go:1456", after := #[{ on := 26, ground := Go.Ground.guard }], guard := some (26, false) }) (v := ?_) rfl (by kernel_rfl) (by kernel_rfl) (by kernel_rfl) (fun _ _ _ h => h.no (by intro q; cases q)) (Or.inl ⟨by rfl, ?_⟩) (by assumption) ?_
                  rotate_left
                  · (intro w hSw; (try dsimp only at hSw); go_simp); (try with_reducible rfl)
                  try simp only [Act.put, List.setIfInBounds_toArray, List.set_cons_zero, List.set_cons_succ]
                  refine wpAnyH_take (i := 33) (oi := { dst := some 233, op := Go.Op.indexAddr 24 (Go.Operand.tmp 231) (Go.Operand.tmp 232), type := 0, pos := "laws.go:1456", after := #[{ on := 31, ground := Go.Ground.data }, { on := 32, ground := Go.Ground.data }, { on := 26, ground := Go.Ground.guard }], guard := some (26, false) }) (v := ?_) rfl (by kernel_rfl) (by kernel_rfl) (by kernel_rfl) (fun _ _ _ h => h.no (by intro q; cases q)) (Or.inl ⟨by rfl, ?_⟩) (by assumption) ?_
                  rotate_left
                  · (intro w hSw; (try dsimp only at hSw); go_simp); (try with_reducible rfl)
                  try simp only [Act.put, List.setIfInBounds_toArray, List.set_cons_zero, List.set_cons_succ]
                  refine wpAnyH_take (i := 34) (oi := { dst := some 234, op := Go.Op.load 2 (Go.Operand.tmp 233), type := 2, pos := "laws.go:1456", after := #[{ on := 33, ground := Go.Ground.data }, { on := 26, ground := Go.Ground.guard }], guard := some (26, false) }) (v := ?_) rfl (by kernel_rfl) (by kernel_rfl) (by kernel_rfl) (fun _ _ _ h => h.no (by intro q; cases q)) (Or.inl ⟨by rfl, ?_⟩) (by assumption) ?_
                  rotate_left
                  · (intro w hSw; (try dsimp only at hSw); go_simp); (try with_reducible rfl)
                  try simp only [Act.put, List.setIfInBounds_toArray, List.set_cons_zero, List.set_cons_succ]
                  refine wpAnyH_take (i := 35) (oi := { dst := some 235, op := Go.Op.binOp Go.BinOp.mul 2 (Go.Operand.tmp 230) (Go.Operand.tmp 234) 2, type := 2, pos := "laws.go:1456", after := #[{ on := 30, ground := Go.Ground.data }, { on := 34, ground := Go.Ground.data }, { on := 26, ground := Go.Ground.guard }], guard := some (26, false) }) (v := ?_) rfl (by kernel_rfl) (by kernel_rfl) (by kernel_rfl) (fun _ _ _ h => h.no (by intro q; cases q)) (Or.inl ⟨by rfl, ?_⟩) (by assumption) ?_
                  rotate_left
                  · (intro w hSw; (try dsimp only at hSw); go_simp); (try with_reducible rfl)
                  try simp only [Act.put, List.setIfInBounds_toArray, List.set_cons_zero, List.set_cons_succ]
                  refine wpAnyH_take (i := 36) (oi := { dst := some 236, op := Go.Op.move (Go.Operand.tmp 26), type := 2, pos := "laws.go:1456", after := #[{ on := 26, ground := Go.Ground.guard }], guard := some (26, false) }) (v := ?_) rfl (by kernel_rfl) (by kernel_rfl) (by kernel_rfl) (fun _ _ _ h => h.no (by intro q; cases q)) (Or.inl ⟨by rfl, ?_⟩) (by assumption) ?_
                  rotate_left
                  · (intro w hSw; (try dsimp only at hSw); go_simp); (try with_reducible rfl)
                  try simp only [Act.put, List.setIfInBounds_toArray, List.set_cons_zero, List.set_cons_succ]
                  refine wpAnyH_take (i := 37) (oi := { dst := some 237, op := Go.Op.binOp Go.BinOp.lss 2 (Go.Operand.tmp 235) (Go.Operand.tmp 236) 2, type := 4, pos := "laws.go:1456", after := #[{ on := 35, ground := Go.Ground.data }, { on := 36, ground := Go.Ground.data }, { on := 26, ground := Go.Ground.guard }], guard := some (26, false) }) (v := ?_) rfl (by kernel_rfl) (by kernel_rfl) (by kernel_rfl) (fun _ _ _ h => h.no (by intro q; cases q)) (Or.inl ⟨by rfl, ?_⟩) (by assumption) ?_
                  rotate_left
                  · (intro w hSw; (try dsimp only at hSw); go_simp); (try with_reducible rfl)
                  try simp only [Act.put, List.setIfInBounds_toArray, List.set_cons_zero, List.set_cons_succ]
                  refine wpAnyH_take (i := 38) (oi := { dst := some 238, op := Go.Op.move (Go.Operand.tmp 237), type := 4, pos := "laws.go:1456", after := #[{ on := 37, ground := Go.Ground.data }, { on := 26, ground := Go.Ground.chain }, { on := 26, ground := Go.Ground.guard }], guard := some (26, false) }) (v := ?_) rfl (by kernel_rfl) (by kernel_rfl) (by kernel_rfl) (fun _ _ _ h => h.no (by intro q; cases q)) (Or.inl ⟨by rfl, ?_⟩) (by assumption) ?_
                  rotate_left
                  · (intro w hSw; (try dsimp only at hSw); go_simp); (try with_reducible rfl)
                  try simp only [Act.put, List.setIfInBounds_toArray, List.set_cons_zero, List.set_cons_succ]
                  refine wpAnyH_take (i := 39) (oi := { dst := some 239, op := Go.Op.move (Go.Operand.tmp 5), type := 24, pos := "laws.go:1456", after := #[{ on := 38, ground := Go.Ground.guard }], guard := some (38, true) }) (v := undef) rfl (by kernel_rfl) (by kernel_rfl) (by kernel_rfl) (fun _ _ _ h => h.no (by intro q; cases q)) (Or.inr ⟨by rfl, rfl⟩) (by assumption) ?_
                  try simp only [Act.put, List.setIfInBounds_toArray, List.set_cons_zero, List.set_cons_succ]
                  refine wpAnyH_take (i := 40) (oi := { dst := some 240, op := Go.Op.move (Go.Operand.tmp 29), type := 3, pos := "laws.go:1456", after := #[{ on := 38, ground := Go.Ground.guard }], guard := some (38, true) }) (v := undef) rfl (by kernel_rfl) (by kernel_rfl) (by kernel_rfl) (fun _ _ _ h => h.no (by intro q; cases q)) (Or.inr ⟨by rfl, rfl⟩) (by assumption) ?_
                  try simp only [Act.put, List.setIfInBounds_toArray, List.set_cons_zero, List.set_cons_succ]
                  refine wpAnyH_take (i := 41) (oi := { dst := some 241, op := Go.Op.indexAddr 24 (Go.Operand.tmp 239) (Go.Operand.tmp 240), type := 0, pos := "laws.go:1456", after := #[{ on := 39, ground := Go.Ground.data }, { on := 40, ground := Go.Ground.data }, { on := 38, ground := Go.Ground.guard }], guard := some (38, true) }) (v := undef) rfl (by kernel_rfl) (by kernel_rfl) (by kernel_rfl) (fun _ _ _ h => h.no (by intro q; cases q)) (Or.inr ⟨by rfl, rfl⟩) (by assumption) ?_
                  try simp only [Act.put, List.setIfInBounds_toArray, List.set_cons_zero, List.set_cons_succ]
                  refine wpAnyH_take (i := 42) (oi := { dst := some 242, op := Go.Op.load 2 (Go.Operand.tmp 241), type := 2, pos := "laws.go:1456", after := #[{ on := 41, ground := Go.Ground.data }, { on := 38, ground := Go.Ground.guard }], guard := some (38, true) }) (v := undef) rfl (by kernel_rfl) (by kernel_rfl) (by kernel_rfl) (fun _ _ _ h => h.no (by intro q; cases q)) (Or.inr ⟨by rfl, rfl⟩) (by assumption) ?_
                  try simp only [Act.put, List.setIfInBounds_toArray, List.set_cons_zero, List.set_cons_succ]
                  refine wpAnyH_take (i := 43) (oi := { dst := some 243, op := Go.Op.binOp Go.BinOp.gtr 2 (Go.Operand.tmp 242) (Go.Operand.const (Go.Value.int Go.IntKind.i64 0)) 2, type := 4, pos := "laws.go:1456", after := #[{ on := 42, ground := Go.Ground.data }, { on := 38, ground := Go.Ground.guard }], guard := some (38, true) }) (v := undef) rfl (by kernel_rfl) (by kernel_rfl) (by kernel_rfl) (fun _ _ _ h => h.no (by intro q; cases q)) (Or.inr ⟨by rfl, rfl⟩) (by assumption) ?_
                  try simp only [Act.put, List.setIfInBounds_toArray, List.set_cons_zero, List.set_cons_succ]
                  refine wpAnyH_take (i := 44) (oi := { dst := some 244, op := Go.Op.pick (Go.Operand.tmp 238) (Go.Operand.tmp 243) (Go.Operand.const (Go.Value.bool false)), type := 4, pos := "laws.go:1456", after := #[{ on := 38, ground := Go.Ground.data }, { on := 43, ground := Go.Ground.data }, { on := 26, ground := Go.Ground.guard }], guard := some (26, false) }) (v := ?_) rfl (by kernel_rfl) (by kernel_rfl) (by kernel_rfl) (fun _ _ _ h => h.no (by intro q; cases q)) (Or.inl ⟨by rfl, ?_⟩) (by assumption) ?_
                  rotate_left
                  · (intro w hSw; (try dsimp only at hSw); go_simp); (try with_reducible rfl)
                  try simp only [Act.put, List.setIfInBounds_toArray, List.set_cons_zero, List.set_cons_succ]
                  refine wpAnyH_take (i := 45) (oi := { dst := some 245, op := Go.Op.pick (Go.Operand.tmp 226) (Go.Operand.const (Go.Value.bool true)) (Go.Operand.tmp 244), type := 4, pos := "laws.go:1456", after := #[{ on := 26, ground := Go.Ground.data }, { on := 44, ground := Go.Ground.data }], guard := none }) (v := ?_) rfl (by kernel_rfl) (by kernel_rfl) (by kernel_rfl) (fun _ _ _ h => h.no (by intro q; cases q)) (Or.inl ⟨by rfl, ?_⟩) (by assumption) ?_
                  rotate_left
                  · (intro w hSw; (try dsimp only at hSw); go_simp); (try with_reducible rfl)
                  try simp only [Act.put, List.setIfInBounds_toArray, List.set_cons_zero, List.set_cons_succ]
                  refine wpAnyH_done (by kernel_rfl) ⟨rfl, ?_⟩ _
                  go_wp2
                  go_roundw
                  case rel => exact ⟨k + 1, by omega, by go_num, by rw [← HST.out]; first | done | go_num, by first | exact Below.drew hb | exact hb⟩
                  case measure => simp [intOf]; omega
              · obtain rfl : k = c := by omega
                clear HL HR HX HSM HLE HCL HZ
                rw [HEND.out]
                have nn : ((L.length : Int) == (L.length : Int)) = true := by simp
                have BF := BB.trans (hb.mono BB.size)
                go_wp2
                go_ret
                exact ⟨by first | rfl | simp, BF⟩
    · skip
      have h3' : (renC q nm == 0) = false := by simpa using h3
      clear iq inm j6
      cases hq : okPO p o with
      | false =>
        rw [poC_false hq] at *
        clear ip io j1 j3
        go_wp2
        go_ret
        exact ⟨rfl, BB⟩
      | true =>
        rw [poC_true hq, ldA_true hq, rsA_true hq] at *
        have HH := handThrows_impl _ _ _ _ p o _ ip io
        rw [poC_true hq, thA_true hq] at HH
        go_wp2_with fail
        refine (HH).mono ?_
        rintro e w12 ⟨x8, rfl, j8, bb⟩
        replace ip := ip.below bb
        replace io := io.below bb
        replace j1 := j1.below bb
        replace j3 := j3.below bb
        replace BB := BB.trans (bb.mono BB.size)
        clear bb
        clear HH
        have HC := commonPeriod_impl _ _ _ _ p o _ ip io
        rw [poC_true hq, cpA_true hq] at HC
        go_wp2_with fail
        refine (HC).mono ?_
        rintro e w13 ⟨rfl, bb⟩
        replace ip := ip.below bb
        replace io := io.below bb
        replace j1 := j1.below bb
        replace j3 := j3.below bb
        replace j8 := j8.below bb
        replace BB := BB.trans (bb.mono BB.size)
        clear bb
        clear HC
        obtain ⟨hp, ho⟩ := okPO_parts hq
        obtain ⟨c1, c4⟩ := okH_cnt ho
        obtain ⟨cp1, cp2⟩ := cpN_bound hq
        have hll := ldL_len (cntH o).toNat (thH p o)
        have hrl := rsL_len p o (cntH o).toNat
        have hsm := smK_all (p := p) ho (cpN p o)
        have hln := thH_len hq
        obtain ⟨g1, cc1, rfl, _, _, _, _⟩ := j1.shape2 (by omega)
        obtain ⟨g3, cc3, rfl, _, _, _, _⟩ := j3.shape2 (by omega)
        obtain ⟨g8, cc8, rfl, _⟩ := hth_sl j8
        obtain ⟨c, hc⟩ : ∃ c : Nat, (cntH o).toNat = c := ⟨_, rfl⟩
        obtain ⟨n, hn⟩ : ∃ n : Nat, cpN p o = n := ⟨_, rfl⟩
        obtain ⟨L, hL⟩ : ∃ L : List HthT, thH p o = L := ⟨_, rfl⟩
        have hc4 : c ≤ 4 := by omega
        have hn1 : 1 ≤ n := by omega
        have hn2 : n ≤ 144 := by omega
        rw [hc] at j1 j3 hll hrl hsm ⊢
        have hsm2 : smK L c = L.length := by rw [← hL]; exact hsm
        have hl144 : L.length ≤ 144 := by rw [← hL]; omega
        have HL := Lib.hid (fun (W : World) (hW : Below w13.heap.size w13 W) k (hk : k < c) => ((j1.below hW).cell k (by omega)).trans (show _ = some (Value.int .i64 ((cntF L (k : Int) : Nat) : Int)) from by rw [ldL_at _ _ k hk, hL]))
        have HR := Lib.hid (fun (W : World) (hW : Below w13.heap.size w13 W) k (hk : k < c) => ((j3.below hW).cell k (by omega)).trans (show _ = some (Value.int .i64 (restG (btF L (k : Int)) (n : Int))) from by rw [rsL_at _ _ _ k hk, hL, hn]))
        have HX : Hid (∀ k : Nat, (cntF L (k : Int) = 0 ↔ restG (btF L (k : Int)) (n : Int) = 0) ∧ (cntF L (k : Int) = 1 → restG (btF L (k : Int)) (n : Int) = (n : Int)) ∧ (1 ≤ cntF L (k : Int) → (n : Int) ≤ ((cntF L (k : Int) : Nat) : Int) * restG (btF L (k : Int)) (n : Int)) ∧ 0 ≤ restG (btF L (k : Int)) (n : Int) ∧ restG (btF L (k : Int)) (n : Int) ≤ 2 * (n : Int)) := Lib.hid (fun k : Nat => by
          have := rest_load (btF_in (p := p) (o := o) (k : Int)) (show (1 : Int) ≤ (cpN p o : Nat) by omega)
          rw [btF_cnt, hn, hL] at this
          exact this)
        have HSM := Lib.hid (fun k : Nat => smK_step L k)
        have HLE := Lib.hid (fun k (hk : k ≤ c) => smK_le L c hl144 k hk)
        have HCL := Lib.hid (fun k : Nat => Nat.le_trans (cntF_le L (k : Int)) hl144)
        have HEND := Lib.hid hsm2
        have HZ : Hid (smK L 0 = 0) := Lib.hid rfl
        rw [hll, hrl, hL, hn]
        clear ip io j1 j3 j8 hll hrl hsm hsm2 hc hn hL hln cp1 cp2 c1 c4 hp ho hq
        have ncc : ((c : Int) != (c : Int)) = false := by simp
        go_wp2
        go_loopw [28, 29] (fun sm i wr => ∃ k : Nat, k ≤ c ∧ i = .int .i64 k ∧ sm = .int .i64 ((smK L k : Nat) : Int) ∧ Below w13.heap.size w13 wr) (fun _ i _ => c - (intOf i).toNat)
        case atStart => exact ⟨0, Nat.zero_le _, rfl, by rw [HZ.out]; rfl, Below.refl _ _⟩
        case round =>
          obtain ⟨k, hk, rfl, rfl, hb⟩ := hrel
          by_cases hlt : k < c
          · have c1 := HL.out wr hb k hlt
            have c3 := HR.out wr hb k hlt
            obtain ⟨x1, x2, x3, x4, x5⟩ := HX.out k
            have hst := HSM.out k
            have hle := HLE.out k hk
            have hcl := HCL.out k
            generalize restG (btF L (k : Int)) (n : Int) = r at *
            generalize cntF L (k : Int) = l at *
            have HST := Lib.hid (show ((smK L k : Nat) : Int) + (l : Int) = ((smK L (k + 1) : Nat) : Int) by omega)
            generalize smK L k = m at *
            clear HL HR HX HSM HLE HCL HEND HZ hst
            rcases (show l = 0 ∨ l = 1 ∨ 2 ≤ l by omega) with rfl | rfl | h2
            · obtain rfl : r = 0 := x1.1 rfl
              replace c1 : wr.cell? ⟨g1, k, none⟩ = some (.int .i64 0) := c1
              have y4b : IntKind.i64.wrap 0 = 0 := by decide
              have y3 : (0 : Int) < (n : Int) := by omega
              have y3a : decide ((0 : Int) < (n : Int)) = true := decide_eq_true y3
              have y3c : 0 < n := by omega
              have y4 : IntKind.i64.wrap ((0 : Int) * (0 : Int)) = 0 := by decide
              clear x1 x2 x3 x4 x5
              go_upto_region 34 with fail
              refine wp_region_calm (S := (fun W' => W'.cell? ⟨g1, k, none⟩ = some (.int .i64 0) ∧ W'.cell? ⟨g3, k, none⟩ = some (.int .i64 0))) (by kernel_rfl) ?_ (fun hHeld => ?_)
              · (try dsimp only); exact ⟨c1, c3⟩
              refine wpAnyH_take (i := 0) (oi := { dst := some 200, op := Go.Op.move (Go.Operand.tmp 5), type := 24, pos := "laws.go:1456", after := #[], guard := none }) (v := ?_) rfl (by kernel_rfl) (by kernel_rfl) (by kernel_rfl) (fun _ _ _ h => h.no (by intro q; cases q)) (Or.inl ⟨by rfl, ?_⟩) (by assumption) ?_
              rotate_left
              · (intro w hSw; (try dsimp only at hSw); go_simp); (try with_reducible rfl)
              try simp only [Act.put, List.setIfInBounds_toArray, List.set_cons_zero, List.set_cons_succ]
              refine wpAnyH_take (i := 1) (oi := { dst := some 201, op := Go.Op.move (Go.Operand.tmp 29), type := 3, pos := "laws.go:1456", after := #[], guard := none }) (v := ?_) rfl (by kernel_rfl) (by kernel_rfl) (by kernel_rfl) (fun _ _ _ h => h.no (by intro q; cases q)) (Or.inl ⟨by rfl, ?_⟩) (by assumption) ?_
              rotate_left
              · (intro w hSw; (try dsimp only at hSw); go_simp); (try with_reducible rfl)
              try simp only [Act.put, List.setIfInBounds_toArray, List.set_cons_zero, List.set_cons_succ]
              refine wpAnyH_take (i := 2) (oi := { dst := some 202, op := Go.Op.indexAddr 24 (Go.Operand.tmp 200) (Go.Operand.tmp 201), type := 0, pos := "laws.go:1456", after := #[{ on := 0, ground := Go.Ground.data }, { on := 1, ground := Go.Ground.data }], guard := none }) (v := ?_) rfl (by kernel_rfl) (by kernel_rfl) (by kernel_rfl) (fun _ _ _ h => h.no (by intro q; cases q)) (Or.inl ⟨by rfl, ?_⟩) (by assumption) ?_
              rotate_left
              · (intro w hSw; (try dsimp only at hSw); go_simp); (try with_reducible rfl)
              try simp only [Act.put, List.setIfInBounds_toArray, List.set_cons_zero, List.set_cons_succ]
              refine wpAnyH_take (i := 3) (oi := { dst := some 203, op := Go.Op.load 2 (Go.Operand.tmp 202), type := 2, pos := "laws.go:1456", after := #[{ on := 2, ground := Go.Ground.data }], guard := none }) (v := ?_) rfl (by kernel_rfl) (by kernel_rfl) (by kernel_rfl) (fun _ _ _ h => h.no (by intro q; cases q)) (Or.inl ⟨by rfl, ?_⟩) (by assumption) ?_
              rotate_left
              · (intro w hSw; (try dsimp only at hSw); go_simp); (try with_reducible rfl)
              try simp only [Act.put, List.setIfInBounds_toArray, List.set_cons_zero, List.set_cons_succ]
              refine wpAnyH_take (i := 4) (oi := { dst := some 204, op := Go.Op.binOp Go.BinOp.eql 2 (Go.Operand.tmp 203) (Go.Operand.const (Go.Value.int Go.IntKind.i64 0)) 2, type := 4, pos := "laws.go:1456", after := #[{ on := 3, ground := Go.Ground.data }], guard := none }) (v := ?_) rfl (by kernel_rfl) (by kernel_rfl) (by kernel_rfl) (fun _ _ _ h => h.no (by intro q; cases q)) (Or.inl ⟨by rfl, ?_⟩) (by assumption) ?_
              rotate_left
              · (intro w hSw; (try dsimp only at hSw); go_simp); (try with_reducible rfl)
              try simp only [Act.put, List.setIfInBounds_toArray, List.set_cons_zero, List.set_cons_succ]
              refine wpAnyH_take (i := 5) (oi := { dst := some 205, op := Go.Op.move (Go.Operand.tmp 9), type := 24, pos := "laws.go:1456", after := #[], guard := none }) (v := ?_) rfl (by kernel_rfl) (by kernel_rfl) (by kernel_rfl) (fun _ _ _ h => h.no (by intro q; cases q)) (Or.inl ⟨by rfl, ?_⟩) (by assumption) ?_
              rotate_left
              · (intro w hSw; (try dsimp only at hSw); go_simp); (try with_reducible rfl)
              try simp only [Act.put, List.setIfInBounds_toArray, List.set_cons_zero, List.set_cons_succ]
              refine wpAnyH_take (i := 6) (oi := { dst := some 206, op := Go.Op.move (Go.Operand.tmp 29), type := 3, pos := "laws.go:1456", after := #[], guard := none }) (v := ?_) rfl (by kernel_rfl) (by kernel_rfl) (by kernel_rfl) (fun _ _ _ h => h.no (by intro q; cases q)) (Or.inl ⟨by rfl, ?_⟩) (by assumption) ?_
              rotate_left
              · (intro w hSw; (try dsimp only at hSw); go_simp); (try with_reducible rfl)
              try simp only [Act.put, List.setIfInBounds_toArray, List.set_cons_zero, List.set_cons_succ]
              refine wpAnyH_take (i := 7) (oi := { dst := some 207, op := Go.Op.indexAddr 24 (Go.Operand.tmp 205) (Go.Operand.tmp 206), type := 0, pos := "laws.go:1456", after := #[{ on := 5, ground := Go.Ground.data }, { on := 6, ground := Go.Ground.data }], guard := none }) (v := ?_) rfl (by kernel_rfl) (by kernel_rfl) (by kernel_rfl) (fun _ _ _ h => h.no (by intro q; cases q)) (Or.inl ⟨by rfl, ?_⟩) (by assumption) ?_
              rotate_left
              · (intro w hSw; (try dsimp only at hSw); go_simp); (try with_reducible rfl)
              try simp only [Act.put, List.setIfInBounds_toArray, List.set_cons_zero, List.set_cons_succ]
              refine wpAnyH_take (i := 8) (oi := { dst := some 208, op := Go.Op.load 2 (Go.Operand.tmp 207), type := 2, pos := "laws.go:1456", after := #[{ on := 7, ground := Go.Ground.data }], guard := none }) (v := ?_) rfl (by kernel_rfl) (by kernel_rfl) (by kernel_rfl) (fun _ _ _ h => h.no (by intro q; cases q)) (Or.inl ⟨by rfl, ?_⟩) (by assumption) ?_
              rotate_left
              · (intro w hSw; (try dsimp only at hSw); go_simp); (try with_reducible rfl)
              try simp only [Act.put, List.setIfInBounds_toArray, List.set_cons_zero, List.set_cons_succ]
              refine wpAnyH_take (i := 9) (oi := { dst := some 209, op := Go.Op.binOp Go.BinOp.eql 2 (Go.Operand.tmp 208) (Go.Operand.const (Go.Value.int Go.IntKind.i64 0)) 2, type := 4, pos := "laws.go:1456", after := #[{ on := 8, ground := Go.Ground.data }], guard := none }) (v := ?_) rfl (by kernel_rfl) (by kernel_rfl) (by kernel_rfl) (fun _ _ _ h => h.no (by intro q; cases q)) (Or.inl ⟨by rfl, ?_⟩) (by assumption) ?_
              rotate_left
              · (intro w hSw; (try dsimp only at hSw); go_simp); (try with_reducible rfl)
              try simp only [Act.put, List.setIfInBounds_toArray, List.set_cons_zero, List.set_cons_succ]
              refine wpAnyH_take (i := 10) (oi := { dst := some 210, op := Go.Op.binOp Go.BinOp.neq 4 (Go.Operand.tmp 204) (Go.Operand.tmp 209) 4, type := 4, pos := "laws.go:1456", after := #[{ on := 4, ground := Go.Ground.data }, { on := 9, ground := Go.Ground.data }], guard := none }) (v := ?_) rfl (by kernel_rfl) (by kernel_rfl) (by kernel_rfl) (fun _ _ _ h => h.no (by intro q; cases q)) (Or.inl ⟨by rfl, ?_⟩) (by assumption) ?_
              rotate_left
              · (intro w hSw; (try dsimp only at hSw); go_simp); (try with_reducible rfl)
              try simp only [Act.put, List.setIfInBounds_toArray, List.set_cons_zero, List.set_cons_succ]
              refine wpAnyH_take (i := 11) (oi := { dst := some 211, op := Go.Op.move (Go.Operand.tmp 210), type := 4, pos := "laws.go:1456", after := #[{ on := 10, ground := Go.Ground.data }], guard := none }) (v := ?_) rfl (by kernel_rfl) (by kernel_rfl) (by kernel_rfl) (fun _ _ _ h => h.no (by intro q; cases q)) (Or.inl ⟨by rfl, ?_⟩) (by assumption) ?_
              rotate_left
              · (intro w hSw; (try dsimp only at hSw); go_simp); (try with_reducible rfl)
              try simp only [Act.put, List.setIfInBounds_toArray, List.set_cons_zero, List.set_cons_succ]
              refine wpAnyH_take (i := 12) (oi := { dst := some 212, op := Go.Op.move (Go.Operand.tmp 5), type := 24, pos := "laws.go:1456", after := #[{ on := 11, ground := Go.Ground.guard }], guard := some (11, false) }) (v := ?_) rfl (by kernel_rfl) (by kernel_rfl) (by kernel_rfl) (fun _ _ _ h => h.no (by intro q; cases q)) (Or.inl ⟨by rfl, ?_⟩) (by assumption) ?_
              rotate_left
              · (intro w hSw; (try dsimp only at hSw); go_simp); (try with_reducible rfl)
              try simp only [Act.put, List.setIfInBounds_toArray, List.set_cons_zero, List.set_cons_succ]
              refine wpAnyH_take (i := 13) (oi := { dst := some 213, op := Go.Op.move (Go.Operand.tmp 29), type := 3, pos := "laws.go:1456", after := #[{ on := 11, ground := Go.Ground.guard }], guard := some (11, false) }) (v := ?_) rfl (by kernel_rfl) (by kernel_rfl) (by kernel_rfl) (fun _ _ _ h => h.no (by intro q; cases q)) (Or.inl ⟨by rfl, ?_⟩) (by assumption) ?_
              rotate_left
              · (intro w hSw; (try dsimp only at hSw); go_simp); (try with_reducible rfl)
              try simp only [Act.put, List.setIfInBounds_toArray, List.set_cons_zero, List.set_cons_succ]
              refine wpAnyH_take (i := 14) (oi := { dst := some 214, op := Go.Op.indexAddr 24 (Go.Operand.tmp 212) (Go.Operand.tmp 213), type := 0, pos := "laws.go:1456", after := #[{ on := 12, ground := Go.Ground.data }, { on := 13, ground := Go.Ground.data }, { on := 11, ground := Go.Ground.guard }], guard := some (11, false) }) (v := ?_) rfl (by kernel_rfl) (by kernel_rfl) (by kernel_rfl) (fun _ _ _ h => h.no (by intro q; cases q)) (Or.inl ⟨by rfl, ?_⟩) (by assumption) ?_
              rotate_left
              · (intro w hSw; (try dsimp only at hSw); go_simp); (try with_reducible rfl)
              try simp only [Act.put, List.setIfInBounds_toArray, List.set_cons_zero, List.set_cons_succ]
              refine wpAnyH_take (i := 15) (oi := { dst := some 215, op := Go.Op.load 2 (Go.Operand.tmp 214), type := 2, pos := "laws.go:1456", after := #[{ on := 14, ground := Go.Ground.data }, { on := 11, ground := Go.Ground.guard }], guard := some (11, false) }) (v := ?_) rfl (by kernel_rfl) (by kernel_rfl) (by kernel_rfl) (fun _ _ _ h => h.no (by intro q; cases q)) (Or.inl ⟨by rfl, ?_⟩) (by assumption) ?_
              rotate_left
              · (intro w hSw; (try dsimp only at hSw); go_simp); (try with_reducible rfl)
              try simp only [Act.put, List.setIfInBounds_toArray, List.set_cons_zero, List.set_cons_succ]
              refine wpAnyH_take (i := 16) (oi := { dst := some 216, op := Go.Op.binOp Go.BinOp.eql 2 (Go.Operand.tmp 215) (Go.Operand.const (Go.Value.int Go.IntKind.i64 1)) 2, type := 4, pos := "laws.go:1456", after := #[{ on := 15, ground := Go.Ground.data }, { on := 11, ground := Go.Ground.guard }], guard := some (11, false) }) (v := ?_) rfl (by kernel_rfl) (by kernel_rfl) (by kernel_rfl) (fun _ _ _ h => h.no (by intro q; cases q)) (Or.inl ⟨by rfl, ?_⟩) (by assumption) ?_
              rotate_left
              · (intro w hSw; (try dsimp only at hSw); go_simp); (try with_reducible rfl)
              try simp only [Act.put, List.setIfInBounds_toArray, List.set_cons_zero, List.set_cons_succ]
              refine wpAnyH_take (i := 17) (oi := { dst := some 217, op := Go.Op.move (Go.Operand.tmp 216), type := 4, pos := "laws.go:1456", after := #[{ on := 16, ground := Go.Ground.data }, { on := 11, ground := Go.Ground.chain }, { on := 11, ground := Go.Ground.guard }], guard := some (11, false) }) (v := ?_) rfl (by kernel_rfl) (by kernel_rfl) (by kernel_rfl) (fun _ _ _ h => h.no (by intro q; cases q)) (Or.inl ⟨by rfl, ?_⟩) (by assumption) ?_
              rotate_left
              · (intro w hSw; (try dsimp only at hSw); go_simp); (try with_reducible rfl)
              try simp only [Act.put, List.setIfInBounds_toArray, List.set_cons_zero, List.set_cons_succ]
              refine wpAnyH_take (i := 18) (oi := { dst := some 218, op := Go.Op.move (Go.Operand.tmp 9), type := 24, pos := "laws.go:1456", after := #[{ on := 17, ground := Go.Ground.guard }], guard := some (17, true) }) (v := undef) rfl (by kernel_rfl) (by kernel_rfl) (by kernel_rfl) (fun _ _ _ h => h.no (by intro q; cases q)) (Or.inr ⟨by rfl, rfl⟩) (by assumption) ?_
              try simp only [Act.put, List.setIfInBounds_toArray, List.set_cons_zero, List.set_cons_succ]
              refine wpAnyH_take (i := 19) (oi := { dst := some 219, op := Go.Op.move (Go.Operand.tmp 29), type := 3, pos := "laws.go:1456", after := #[{ on := 17, ground := Go.Ground.guard }], guard := some (17, true) }) (v := undef) rfl (by kernel_rfl) (by kernel_rfl) (by kernel_rfl) (fun _ _ _ h => h.no (by intro q; cases q)) (Or.inr ⟨by rfl, rfl⟩) (by assumption) ?_
              try simp only [Act.put, List.setIfInBounds_toArray, List.set_cons_zero, List.set_cons_succ]
              refine wpAnyH_take (i := 20) (oi := { dst := some 220, op := Go.Op.indexAddr 24 (Go.Operand.tmp 218) (Go.Operand.tmp 219), type := 0, pos := "laws.go:1456", after := #[{ on := 18, ground := Go.Ground.data }, { on := 19, ground := Go.Ground.data }, { on := 17, ground := Go.Ground.guard }], guard := some (17, true) }) (v := undef) rfl (by kernel_rfl) (by kernel_rfl) (by kernel_rfl) (fun _ _ _ h => h.no (by intro q; cases q)) (Or.inr ⟨by rfl, rfl⟩) (by assumption) ?_
              try simp only [Act.put, List.setIfInBounds_toArray, List.set_cons_zero, List.set_cons_succ]
              refine wpAnyH_take (i := 21) (oi := { dst := some 221, op := Go.Op.load 2 (Go.Operand.tmp 220), type := 2, pos := "laws.go:1456", after := #[{ on := 20, ground := Go.Ground.data }, { on := 17, ground := Go.Ground.guard }], guard := some (17, true) }) (v := undef) rfl (by kernel_rfl) (by kernel_rfl) (by kernel_rfl) (fun _ _ _ h => h.no (by intro q; cases q)) (Or.inr ⟨by rfl, rfl⟩) (by assumption) ?_
              try simp only [Act.put, List.setIfInBounds_toArray, List.set_cons_zero, List.set_cons_succ]
              refine wpAnyH_take (i := 22) (oi := { dst := some 222, op := Go.Op.move (Go.Operand.tmp 26), type := 2, pos := "laws.go:1456", after := #[{ on := 17, ground := Go.Ground.guard }], guard := some (17, true) }) (v := undef) rfl (by kernel_rfl) (by kernel_rfl) (by kernel_rfl) (fun _ _ _ h => h.no (by intro q; cases q)) (Or.inr ⟨by rfl, rfl⟩) (by assumption) ?_
              try simp only [Act.put, List.setIfInBounds_toArray, List.set_cons_zero, List.set_cons_succ]
              refine wpAnyH_take (i := 23) (oi := { dst := some 223, op := Go.Op.binOp Go.BinOp.neq 2 (Go.Operand.tmp 221) (Go.Operand.tmp 222) 2, type := 4, pos := "laws.go:1456", after := #[{ on := 21, ground := Go.Ground.data }, { on := 22, ground := Go.Ground.data }, { on := 17, ground := Go.Ground.guard }], guard := some (17, true) }) (v := undef) rfl (by kernel_rfl) (by kernel_rfl) (by kernel_rfl) (fun _ _ _ h => h.no (by intro q; cases q)) (Or.inr ⟨by rfl, rfl⟩) (by assumption) ?_
              try simp only [Act.put, List.setIfInBounds_toArray, List.set_cons_zero, List.set_cons_succ]
              refine wpAnyH_take (i := 24) (oi := { dst := some 224, op := Go.Op.pick (Go.Operand.tmp 217) (Go.Operand.tmp 223) (Go.Operand.const (Go.Value.bool false)), type := 4, pos := "laws.go:1456", after := #[{ on := 17, ground := Go.Ground.data }, { on := 23, ground := Go.Ground.data }, { on := 11, ground := Go.Ground.guard }], guard := some (11, false) }) (v := ?_) rfl (by kernel_rfl) (by kernel_rfl) (by kernel_rfl) (fun _ _ _ h => h.no (by intro q; cases q)) (Or.inl ⟨by rfl, ?_⟩) (by assumption) ?_
              rotate_left
              · (intro w hSw; (try dsimp only at hSw); go_simp); (try with_reducible rfl)
              try simp only [Act.put, List.setIfInBounds_toArray, List.set_cons_zero, List.set_cons_succ]
              refine wpAnyH_take (i := 25) (oi := { dst := some 225, op := Go.Op.pick (Go.Operand.tmp 211) (Go.Operand.const (Go.Value.bool true)) (Go.Operand.tmp 224), type := 4, pos := "laws.go:1456", after := #[{ on := 11, ground := Go.Ground.data }, { on := 24, ground := Go.Ground.data }], guard := none }) (v := ?_) rfl (by kernel_rfl) (by kernel_rfl) (by kernel_rfl) (fun _ _ _ h => h.no (by intro q; cases q)) (Or.inl ⟨by rfl, ?_⟩) (by assumption) ?_
              rotate_left
              · (intro w hSw; (try dsimp only at hSw); go_simp); (try with_reducible rfl)
              try simp only [Act.put, List.setIfInBounds_toArray, List.set_cons_zero, List.set_cons_succ]
              refine wpAnyH_take (i := 26) (oi := { dst := some 226, op := Go.Op.move (Go.Operand.tmp 225), type := 4, pos := "laws.go:1456", after := #[{ on := 25, ground := Go.Ground.data }, { on := 17, ground := Go.Ground.chain }], guard := none }) (v := ?_) rfl (by kernel_rfl) (by kernel_rfl) (by kernel_rfl) (fun _ _ _ h => h.no (by intro q; cases q)) (Or.inl ⟨by rfl, ?_⟩) (by assumption) ?_
              rotate_left
              · (intro w hSw; (try dsimp only at hSw); go_simp); (try with_reducible rfl)
              try simp only [Act.put, List.setIfInBounds_toArray, List.set_cons_zero, List.set_cons_succ]
              refine wpAnyH_take (i := 27) (oi := { dst := some 227, op := Go.Op.move (Go.Operand.tmp 5), type := 24, pos := "laws.go:1456", after := #[{ on := 26, ground := Go.Ground.guard }], guard := some (26, false) }) (v := ?_) rfl (by kernel_rfl) (by kernel_rfl) (by kernel_rfl) (fun _ _ _ h => h.no (by intro q; cases q)) (Or.inl ⟨by rfl, ?_⟩) (by assumption) ?_
              rotate_left
              · (intro w hSw; (try dsimp only at hSw); go_simp); (try with_reducible rfl)
              try simp only [Act.put, List.setIfInBounds_toArray, List.set_cons_zero, List.set_cons_succ]
              refine wpAnyH_take (i := 28) (oi := { dst := some 228, op := Go.Op.move (Go.Operand.tmp 29), type := 3, pos := "laws.go:1456", after := #[{ on := 26, ground := Go.Ground.guard }], guard := some (26, false) }) (v := ?_) rfl (by kernel_rfl) (by kernel_rfl) (by kernel_rfl) (fun _ _ _ h => h.no (by intro q; cases q)) (Or.inl ⟨by rfl, ?_⟩) (by assumption) ?_
              rotate_left
              · (intro w hSw; (try dsimp only at hSw); go_simp); (try with_reducible rfl)
              try simp only [Act.put, List.setIfInBounds_toArray, List.set_cons_zero, List.set_cons_succ]
              refine wpAnyH_take (i := 29) (oi := { dst := some 229, op := Go.Op.indexAddr 24 (Go.Operand.tmp 227) (Go.Operand.tmp 228), type := 0, pos := "laws.go:1456", after := #[{ on := 27, ground := Go.Ground.data }, { on := 28, ground := Go.Ground.data }, { on := 26, ground := Go.Ground.guard }], guard := some (26, false) }) (v := ?_) rfl (by kernel_rfl) (by kernel_rfl) (by kernel_rfl) (fun _ _ _ h => h.no (by intro q; cases q)) (Or.inl ⟨by rfl, ?_⟩) (by assumption) ?_
              rotate_left
              · (intro w hSw; (try dsimp only at hSw); go_simp); (try with_reducible rfl)
              try simp only [Act.put, List.setIfInBounds_toArray, List.set_cons_zero, List.set_cons_succ]
              refine wpAnyH_take (i := 30) (oi := { dst := some 230, op := Go.Op.load 2 (Go.Operand.tmp 229), type := 2, pos := "laws.go:1456", after := #[{ on := 29, ground := Go.Ground.data }, { on := 26, ground := Go.Ground.guard }], guard := some (26, false) }) (v := ?_) rfl (by kernel_rfl) (by kernel_rfl) (by kernel_rfl) (fun _ _ _ h => h.no (by intro q; cases q)) (Or.inl ⟨by rfl, ?_⟩) (by assumption) ?_
              rotate_left
              · (intro w hSw; (try dsimp only at hSw); go_simp); (try with_reducible rfl)
              try simp only [Act.put, List.setIfInBounds_toArray, List.set_cons_zero, List.set_cons_succ]
              refine wpAnyH_take (i := 31) (oi := { dst := some 231, op := Go.Op.move (Go.Operand.tmp 9), type := 24, pos := "laws.go:1456", after := #[{ on := 26, ground := Go.Ground.guard }], guard := some (26, false) }) (v := ?_) rfl (by kernel_rfl) (by kernel_rfl) (by kernel_rfl) (fun _ _ _ h => h.no (by intro q; cases q)) (Or.inl ⟨by rfl, ?_⟩) (by assumption) ?_
              rotate_left
              · (intro w hSw; (try dsimp only at hSw); go_simp); (try with_reducible rfl)
              try simp only [Act.put, List.setIfInBounds_toArray, List.set_cons_zero, List.set_cons_succ]
              refine wpAnyH_take (i := 32) (oi := { dst := some 232, op := Go.Op.move (Go.Operand.tmp 29), type := 3, pos := "laws.go:1456", after := #[{ on := 26, ground := Go.Ground.guard }], guard := some (26, false) }) (v := ?_) rfl (by kernel_rfl) (by kernel_rfl) (by kernel_rfl) (fun _ _ _ h => h.no (by intro q; cases q)) (Or.inl ⟨by rfl, ?_⟩) (by assumption) ?_
              rotate_left
              · (intro w hSw; (try dsimp only at hSw); go_simp); (try with_reducible rfl)
              try simp only [Act.put, List.setIfInBounds_toArray, List.set_cons_zero, List.set_cons_succ]
              refine wpAnyH_take (i := 33) (oi := { dst := some 233, op := Go.Op.indexAddr 24 (Go.Operand.tmp 231) (Go.Operand.tmp 232), type := 0, pos := "laws.go:1456", after := #[{ on := 31, ground := Go.Ground.data }, { on := 32, ground := Go.Ground.data }, { on := 26, ground := Go.Ground.guard }], guard := some (26, false) }) (v := ?_) rfl (by kernel_rfl) (by kernel_rfl) (by kernel_rfl) (fun _ _ _ h => h.no (by intro q; cases q)) (Or.inl ⟨by rfl, ?_⟩) (by assumption) ?_
              rotate_left
              · (intro w hSw; (try dsimp only at hSw); go_simp); (try with_reducible rfl)
              try simp only [Act.put, List.setIfInBounds_toArray, List.set_cons_zero, List.set_cons_succ]
              refine wpAnyH_take (i := 34) (oi := { dst := some 234, op := Go.Op.load 2 (Go.Operand.tmp 233), type := 2, pos := "laws.go:1456", after := #[{ on := 33, ground := Go.Ground.data }, { on := 26, ground := Go.Ground.guard }], guard := some (26, false) }) (v := ?_) rfl (by kernel_rfl) (by kernel_rfl) (by kernel_rfl) (fun _ _ _ h => h.no (by intro q; cases q)) (Or.inl ⟨by rfl, ?_⟩) (by assumption) ?_
              rotate_left
              · (intro w hSw; (try dsimp only at hSw); go_simp); (try with_reducible rfl)
              try simp only [Act.put, List.setIfInBounds_toArray, List.set_cons_zero, List.set_cons_succ]
              refine wpAnyH_take (i := 35) (oi := { dst := some 235, op := Go.Op.binOp Go.BinOp.mul 2 (Go.Operand.tmp 230) (Go.Operand.tmp 234) 2, type := 2, pos := "laws.go:1456", after := #[{ on := 30, ground := Go.Ground.data }, { on := 34, ground := Go.Ground.data }, { on := 26, ground := Go.Ground.guard }], guard := some (26, false) }) (v := .int .i64 0) rfl (by kernel_rfl) (by kernel_rfl) (by kernel_rfl) (fun _ _ _ h => h.no (by intro q; cases q)) (Or.inl ⟨by rfl, ?_⟩) (by assumption) ?_
              · (intro w hSw; (try dsimp only at hSw); go_simp); (first | done | with_reducible rfl | rfl | (simp [y4, y4b, y3a]; done) | (simp [y4, y4b]; omega) | simp_all | omega)
              try simp only [Act.put, List.setIfInBounds_toArray, List.set_cons_zero, List.set_cons_succ]
              refine wpAnyH_take (i := 36) (oi := { dst := some 236, op := Go.Op.move (Go.Operand.tmp 26), type := 2, pos := "laws.go:1456", after := #[{ on := 26, ground := Go.Ground.guard }], guard := some (26, false) }) (v := ?_) rfl (by kernel_rfl) (by kernel_rfl) (by kernel_rfl) (fun _ _ _ h => h.no (by intro q; cases q)) (Or.inl ⟨by rfl, ?_⟩) (by assumption) ?_
              rotate_left
              · (intro w hSw; (try dsimp only at hSw); go_simp); (try with_reducible rfl)
              try simp only [Act.put, List.setIfInBounds_toArray, List.set_cons_zero, List.set_cons_succ]
              refine wpAnyH_take (i := 37) (oi := { dst := some 237, op := Go.Op.binOp Go.BinOp.lss 2 (Go.Operand.tmp 235) (Go.Operand.tmp 236) 2, type := 4, pos := "laws.go:1456", after := #[{ on := 35, ground := Go.Ground.data }, { on := 36, ground := Go.Ground.data }, { on := 26, ground := Go.Ground.guard }], guard := some (26, false) }) (v := .bool true) rfl (by kernel_rfl) (by kernel_rfl) (by kernel_rfl) (fun _ _ _ h => h.no (by intro q; cases q)) (Or.inl ⟨by rfl, ?_⟩) (by assumption) ?_
              · (intro w hSw; (try dsimp only at hSw); go_simp); (first | done | with_reducible rfl | rfl | (simp [y4, y4b, y3a]; done) | (simp [y4, y4b]; omega) | simp_all | omega)
              try simp only [Act.put, List.setIfInBounds_toArray, List.set_cons_zero, List.set_cons_succ]
              refine wpAnyH_take (i := 38) (oi := { dst := some 238, op := Go.Op.move (Go.Operand.tmp 237), type := 4, pos := "laws.go:1456", after := #[{ on := 37, ground := Go.Ground.data }, { on := 26, ground := Go.Ground.chain }, { on := 26, ground := Go.Ground.guard }], guard := some (26, false) }) (v := ?_) rfl (by kernel_rfl) (by kernel_rfl) (by kernel_rfl) (fun _ _ _ h => h.no (by intro q; cases q)) (Or.inl ⟨by rfl, ?_⟩) (by assumption) ?_
              rotate_left
              · (intro w hSw; (try dsimp only at hSw); go_simp); (try with_reducible rfl)
              try simp only [Act.put, List.setIfInBounds_toArray, List.set_cons_zero, List.set_cons_succ]
              refine wpAnyH_take (i := 39) (oi := { dst := some 239, op := Go.Op.move (Go.Operand.tmp 5), type := 24, pos := "laws.go:1456", after := #[{ on := 38, ground := Go.Ground.guard }], guard := some (38, true) }) (v := ?_) rfl (by kernel_rfl) (by kernel_rfl) (by kernel_rfl) (fun _ _ _ h => h.no (by intro q; cases q)) (Or.inl ⟨by rfl, ?_⟩) (by assumption) ?_
              rotate_left
              · (intro w hSw; (try dsimp only at hSw); go_simp); (try with_reducible rfl)
              try simp only [Act.put, List.setIfInBounds_toArray, List.set_cons_zero, List.set_cons_succ]
              refine wpAnyH_take (i := 40) (oi := { dst := some 240, op := Go.Op.move (Go.Operand.tmp 29), type := 3, pos := "laws.go:1456", after := #[{ on := 38, ground := Go.Ground.guard }], guard := some (38, true) }) (v := ?_) rfl (by kernel_rfl) (by kernel_rfl) (by kernel_rfl) (fun _ _ _ h => h.no (by intro q; cases q)) (Or.inl ⟨by rfl, ?_⟩) (by assumption) ?_
              rotate_left
              · (intro w hSw; (try dsimp only at hSw); go_simp); (try with_reducible rfl)
              try simp only [Act.put, List.setIfInBounds_toArray, List.set_cons_zero, List.set_cons_succ]
              refine wpAnyH_take (i := 41) (oi := { dst := some 241, op := Go.Op.indexAddr 24 (Go.Operand.tmp 239) (Go.Operand.tmp 240), type := 0, pos := "laws.go:1456", after := #[{ on := 39, ground := Go.Ground.data }, { on := 40, ground := Go.Ground.data }, { on := 38, ground := Go.Ground.guard }], guard := some (38, true) }) (v := ?_) rfl (by kernel_rfl) (by kernel_rfl) (by kernel_rfl) (fun _ _ _ h => h.no (by intro q; cases q)) (Or.inl ⟨by rfl, ?_⟩) (by assumption) ?_
              rotate_left
              · (intro w hSw; (try dsimp only at hSw); go_simp); (try with_reducible rfl)
              try simp only [Act.put, List.setIfInBounds_toArray, List.set_cons_zero, List.set_cons_succ]
              refine wpAnyH_take (i := 42) (oi := { dst := some 242, op := Go.Op.load 2 (Go.Operand.tmp 241), type := 2, pos := "laws.go:1456", after := #[{ on := 41, ground := Go.Ground.data }, { on := 38, ground := Go.Ground.guard }], guard := some (38, true) }) (v := ?_) rfl (by kernel_rfl) (by kernel_rfl) (by kernel_rfl) (fun _ _ _ h => h.no (by intro q; cases q)) (Or.inl ⟨by rfl, ?_⟩) (by assumption) ?_
              rotate_left
              · (intro w hSw; (try dsimp only at hSw); go_simp); (try with_reducible rfl)
              try simp only [Act.put, List.setIfInBounds_toArray, List.set_cons_zero, List.set_cons_succ]
              refine wpAnyH_take (i := 43) (oi := { dst := some 243, op := Go.Op.binOp Go.BinOp.gtr 2 (Go.Operand.tmp 242) (Go.Operand.const (Go.Value.int Go.IntKind.i64 0)) 2, type := 4, pos := "laws.go:1456", after := #[{ on := 42, ground := Go.Ground.data }, { on := 38, ground := Go.Ground.guard }], guard := some (38, true) }) (v := ?_) rfl (by kernel_rfl) (by kernel_rfl) (by kernel_rfl) (fun _ _ _ h => h.no (by intro q; cases q)) (Or.inl ⟨by rfl, ?_⟩) (by assumption) ?_
              rotate_left
              · (intro w hSw; (try dsimp only at hSw); go_simp); (try with_reducible rfl)
              try simp only [Act.put, List.setIfInBounds_toArray, List.set_cons_zero, List.set_cons_succ]
              refine wpAnyH_take (i := 44) (oi := { dst := some 244, op := Go.Op.pick (Go.Operand.tmp 238) (Go.Operand.tmp 243) (Go.Operand.const (Go.Value.bool false)), type := 4, pos := "laws.go:1456", after := #[{ on := 38, ground := Go.Ground.data }, { on := 43, ground := Go.Ground.data }, { on := 26, ground := Go.Ground.guard }], guard := some (26, false) }) (v := ?_) rfl (by kernel_rfl) (by kernel_rfl) (by kernel_rfl) (fun _ _ _ h => h.no (by intro q; cases q)) (Or.inl ⟨by rfl, ?_⟩) (by assumption) ?_
              rotate_left
              · (intro w hSw; (try dsimp only at hSw); go_simp); (try with_reducible rfl)
              try simp only [Act.put, List.setIfInBounds_toArray, List.set_cons_zero, List.set_cons_succ]
              refine wpAnyH_take (i := 45) (oi := { dst := some 245, op := Go.Op.pick (Go.Operand.tmp 226) (Go.Operand.const (Go.Value.bool true)) (Go.Operand.tmp 244), type := 4, pos := "laws.go:1456", after := #[{ on := 26, ground := Go.Ground.data }, { on := 44, ground := Go.Ground.data }], guard := none }) (v := ?_) rfl (by kernel_rfl) (by kernel_rfl) (by kernel_rfl) (fun _ _ _ h => h.no (by intro q; cases q)) (Or.inl ⟨by rfl, ?_⟩) (by assumption) ?_
              rotate_left
              · (intro w hSw; (try dsimp only at hSw); go_simp); (try with_reducible rfl)
              try simp only [Act.put, List.setIfInBounds_toArray, List.set_cons_zero, List.set_cons_succ]
              refine wpAnyH_done (by kernel_rfl) ⟨rfl, ?_⟩ _
              go_wp2
              go_roundw
              case rel => exact ⟨k + 1, by omega, by go_num, by rw [← HST.out]; first | done | go_num, by first | exact Below.drew hb | exact hb⟩
              case measure => simp [intOf]; omega
            · obtain rfl : r = (n : Int) := x2 rfl
              replace c1 : wr.cell? ⟨g1, k, none⟩ = some (.int .i64 1) := c1
              have y1 : ((n : Int) == 0) = false := by simp; omega
              have y2 : ((n : Int) != (n : Int)) = false := by simp
              have y3 : decide ((n : Int) < (n : Int)) = false := decide_eq_false (by omega)
              have y4b : IntKind.i64.wrap (n : Int) = (n : Int) := IntWalk.i64_in _ (by omega)
              have y4 : IntKind.i64.wrap ((1 : Int) * (n : Int)) = (n : Int) := by rw [Int.one_mul]; exact IntWalk.i64_in _ (by omega)
              clear x1 x2 x3 x4 x5
              go_upto_region 34 with fail
              refine wp_region_calm (S := (fun W' => W'.cell? ⟨g1, k, none⟩ = some (.int .i64 1) ∧ W'.cell? ⟨g3, k, none⟩ = some (.int .i64 (n : Int)))) (by kernel_rfl) ?_ (fun hHeld => ?_)
              · (try dsimp only); exact ⟨c1, c3⟩
              refine wpAnyH_take (i := 0) (oi := { dst := some 200, op := Go.Op.move (Go.Operand.tmp 5), type := 24, pos := "laws.go:1456", after := #[], guard := none }) (v := ?_) rfl (by kernel_rfl) (by kernel_rfl) (by kernel_rfl) (fun _ _ _ h => h.no (by intro q; cases q)) (Or.inl ⟨by rfl, ?_⟩) (by assumption) ?_
              rotate_left
              · (intro w hSw; (try dsimp only at hSw); go_simp); (try with_reducible rfl)
              try simp only [Act.put, List.setIfInBounds_toArray, List.set_cons_zero, List.set_cons_succ]
              refine wpAnyH_take (i := 1) (oi := { dst := some 201, op := Go.Op.move (Go.Operand.tmp 29), type := 3, pos := "laws.go:1456", after := #[], guard := none }) (v := ?_) rfl (by kernel_rfl) (by kernel_rfl) (by kernel_rfl) (fun _ _ _ h => h.no (by intro q; cases q)) (Or.inl ⟨by rfl, ?_⟩) (by assumption) ?_
              rotate_left
              · (intro w hSw; (try dsimp only at hSw); go_simp); (try with_reducible rfl)
              try simp only [Act.put, List.setIfInBounds_toArray, List.set_cons_zero, List.set_cons_succ]
              refine wpAnyH_take (i := 2) (oi := { dst := some 202, op := Go.Op.indexAddr 24 (Go.Operand.tmp 200) (Go.Operand.tmp 201), type := 0, pos := "laws.go:1456", after := #[{ on := 0, ground := Go.Ground.data }, { on := 1, ground := Go.Ground.data }], guard := none }) (v := ?_) rfl (by kernel_rfl) (by kernel_rfl) (by kernel_rfl) (fun _ _ _ h => h.no (by intro q; cases q)) (Or.inl ⟨by rfl, ?_⟩) (by assumption) ?_
              rotate_left
              · (intro w hSw; (try dsimp only at hSw); go_simp); (try with_reducible rfl)
              try simp only [Act.put, List.setIfInBounds_toArray, List.set_cons_zero, List.set_cons_succ]
              refine wpAnyH_take (i := 3) (oi := { dst := some 203, op := Go.Op.load 2 (Go.Operand.tmp 202), type := 2, pos := "laws.go:1456", after := #[{ on := 2, ground := Go.Ground.data }], guard := none }) (v := ?_) rfl (by kernel_rfl) (by kernel_rfl) (by kernel_rfl) (fun _ _ _ h => h.no (by intro q; cases q)) (Or.inl ⟨by rfl, ?_⟩) (by assumption) ?_
              rotate_left
              · (intro w hSw; (try dsimp only at hSw); go_simp); (try with_reducible rfl)
              try simp only [Act.put, List.setIfInBounds_toArray, List.set_cons_zero, List.set_cons_succ]
              refine wpAnyH_take (i := 4) (oi := { dst := some 204, op := Go.Op.binOp Go.BinOp.eql 2 (Go.Operand.tmp 203) (Go.Operand.const (Go.Value.int Go.IntKind.i64 0)) 2, type := 4, pos := "laws.go:1456", after := #[{ on := 3, ground := Go.Ground.data }], guard := none }) (v := ?_) rfl (by kernel_rfl) (by kernel_rfl) (by kernel_rfl) (fun _ _ _ h => h.no (by intro q; cases q)) (Or.inl ⟨by rfl, ?_⟩) (by assumption) ?_
              rotate_left
              · (intro w hSw; (try dsimp only at hSw); go_simp); (try with_reducible rfl)
              try simp only [Act.put, List.setIfInBounds_toArray, List.set_cons_zero, List.set_cons_succ]
              refine wpAnyH_take (i := 5) (oi := { dst := some 205, op := Go.Op.move (Go.Operand.tmp 9), type := 24, pos := "laws.go:1456", after := #[], guard := none }) (v := ?_) rfl (by kernel_rfl) (by kernel_rfl) (by kernel_rfl) (fun _ _ _ h => h.no (by intro q; cases q)) (Or.inl ⟨by rfl, ?_⟩) (by assumption) ?_
              rotate_left
              · (intro w hSw; (try dsimp only at hSw); go_simp); (try with_reducible rfl)
              try simp only [Act.put, List.setIfInBounds_toArray, List.set_cons_zero, List.set_cons_succ]
              refine wpAnyH_take (i := 6) (oi := { dst := some 206, op := Go.Op.move (Go.Operand.tmp 29), type := 3, pos := "laws.go:1456", after := #[], guard := none }) (v := ?_) rfl (by kernel_rfl) (by kernel_rfl) (by kernel_rfl) (fun _ _ _ h => h.no (by intro q; cases q)) (Or.inl ⟨by rfl, ?_⟩) (by assumption) ?_
              rotate_left
              · (intro w hSw; (try dsimp only at hSw); go_simp); (try with_reducible rfl)
              try simp only [Act.put, List.setIfInBounds_toArray, List.set_cons_zero, List.set_cons_succ]
              refine wpAnyH_take (i := 7) (oi := { dst := some 207, op := Go.Op.indexAddr 24 (Go.Operand.tmp 205) (Go.Operand.tmp 206), type := 0, pos := "laws.go:1456", after := #[{ on := 5, ground := Go.Ground.data }, { on := 6, ground := Go.Ground.data }], guard := none }) (v := ?_) rfl (by kernel_rfl) (by kernel_rfl) (by kernel_rfl) (fun _ _ _ h => h.no (by intro q; cases q)) (Or.inl ⟨by rfl, ?_⟩) (by assumption) ?_
              rotate_left
              · (intro w hSw; (try dsimp only at hSw); go_simp); (try with_reducible rfl)
              try simp only [Act.put, List.setIfInBounds_toArray, List.set_cons_zero, List.set_cons_succ]
              refine wpAnyH_take (i := 8) (oi := { dst := some 208, op := Go.Op.load 2 (Go.Operand.tmp 207), type := 2, pos := "laws.go:1456", after := #[{ on := 7, ground := Go.Ground.data }], guard := none }) (v := ?_) rfl (by kernel_rfl) (by kernel_rfl) (by kernel_rfl) (fun _ _ _ h => h.no (by intro q; cases q)) (Or.inl ⟨by rfl, ?_⟩) (by assumption) ?_
              rotate_left
              · (intro w hSw; (try dsimp only at hSw); go_simp); (try with_reducible rfl)
              try simp only [Act.put, List.setIfInBounds_toArray, List.set_cons_zero, List.set_cons_succ]
              refine wpAnyH_take (i := 9) (oi := { dst := some 209, op := Go.Op.binOp Go.BinOp.eql 2 (Go.Operand.tmp 208) (Go.Operand.const (Go.Value.int Go.IntKind.i64 0)) 2, type := 4, pos := "laws.go:1456", after := #[{ on := 8, ground := Go.Ground.data }], guard := none }) (v := ?_) rfl (by kernel_rfl) (by kernel_rfl) (by kernel_rfl) (fun _ _ _ h => h.no (by intro q; cases q)) (Or.inl ⟨by rfl, ?_⟩) (by assumption) ?_
              rotate_left
              · (intro w hSw; (try dsimp only at hSw); go_simp); (try with_reducible rfl)
              try simp only [Act.put, List.setIfInBounds_toArray, List.set_cons_zero, List.set_cons_succ]
              refine wpAnyH_take (i := 10) (oi := { dst := some 210, op := Go.Op.binOp Go.BinOp.neq 4 (Go.Operand.tmp 204) (Go.Operand.tmp 209) 4, type := 4, pos := "laws.go:1456", after := #[{ on := 4, ground := Go.Ground.data }, { on := 9, ground := Go.Ground.data }], guard := none }) (v := ?_) rfl (by kernel_rfl) (by kernel_rfl) (by kernel_rfl) (fun _ _ _ h => h.no (by intro q; cases q)) (Or.inl ⟨by rfl, ?_⟩) (by assumption) ?_
              rotate_left
              · (intro w hSw; (try dsimp only at hSw); go_simp); (try with_reducible rfl)
              try simp only [Act.put, List.setIfInBounds_toArray, List.set_cons_zero, List.set_cons_succ]
              refine wpAnyH_take (i := 11) (oi := { dst := some 211, op := Go.Op.move (Go.Operand.tmp 210), type := 4, pos := "laws.go:1456", after := #[{ on := 10, ground := Go.Ground.data }], guard := none }) (v := ?_) rfl (by kernel_rfl) (by kernel_rfl) (by kernel_rfl) (fun _ _ _ h => h.no (by intro q; cases q)) (Or.inl ⟨by rfl, ?_⟩) (by assumption) ?_
              rotate_left
              · (intro w hSw; (try dsimp only at hSw); go_simp); (try with_reducible rfl)
              try simp only [Act.put, List.setIfInBounds_toArray, List.set_cons_zero, List.set_cons_succ]
              refine wpAnyH_take (i := 12) (oi := { dst := some 212, op := Go.Op.move (Go.Operand.tmp 5), type := 24, pos := "laws.go:1456", after := #[{ on := 11, ground := Go.Ground.guard }], guard := some (11, false) }) (v := ?_) rfl (by kernel_rfl) (by kernel_rfl) (by kernel_rfl) (fun _ _ _ h => h.no (by intro q; cases q)) (Or.inl ⟨by rfl, ?_⟩) (by assumption) ?_
              rotate_left
              · (intro w hSw; (try dsimp only at hSw); go_simp); (try with_reducible rfl)
              try simp only [Act.put, List.setIfInBounds_toArray, List.set_cons_zero, List.set_cons_succ]
              refine wpAnyH_take (i := 13) (oi := { dst := some 213, op := Go.Op.move (Go.Operand.tmp 29), type := 3, pos := "laws.go:1456", after := #[{ on := 11, ground := Go.Ground.guard }], guard := some (11, false) }) (v := ?_) rfl (by kernel_rfl) (by kernel_rfl) (by kernel_rfl) (fun _ _ _ h => h.no (by intro q; cases q)) (Or.inl ⟨by rfl, ?_⟩) (by assumption) ?_
              rotate_left
              · (intro w hSw; (try dsimp only at hSw); go_simp); (try with_reducible rfl)
              try simp only [Act.put, List.setIfInBounds_toArray, List.set_cons_zero, List.set_cons_succ]
              refine wpAnyH_take (i := 14) (oi := { dst := some 214, op := Go.Op.indexAddr 24 (Go.Operand.tmp 212) (Go.Operand.tmp 213), type := 0, pos := "laws.go:1456", after := #[{ on := 12, ground := Go.Ground.data }, { on := 13, ground := Go.Ground.data }, { on := 11, ground := Go.Ground.guard }], guard := some (11, false) }) (v := ?_) rfl (by kernel_rfl) (by kernel_rfl) (by kernel_rfl) (fun _ _ _ h => h.no (by intro q; cases q)) (Or.inl ⟨by rfl, ?_⟩) (by assumption) ?_
              rotate_left
              · (intro w hSw; (try dsimp only at hSw); go_simp); (try with_reducible rfl)
              try simp only [Act.put, List.setIfInBounds_toArray, List.set_cons_zero, List.set_cons_succ]
              refine wpAnyH_take (i := 15) (oi := { dst := some 215, op := Go.Op.load 2 (Go.Operand.tmp 214), type := 2, pos := "laws.go:1456", after := #[{ on := 14, ground := Go.Ground.data }, { on := 11, ground := Go.Ground.guard }], guard := some (11, false) }) (v := ?_) rfl (by kernel_rfl) (by kernel_rfl) (by kernel_rfl) (fun _ _ _ h => h.no (by intro q; cases q)) (Or.inl ⟨by rfl, ?_⟩) (by assumption) ?_
              rotate_left
              · (intro w hSw; (try dsimp only at hSw); go_simp); (try with_reducible rfl)
              try simp only [Act.put, List.setIfInBounds_toArray, List.set_cons_zero, List.set_cons_succ]
              refine wpAnyH_take (i := 16) (oi := { dst := some 216, op := Go.Op.binOp Go.BinOp.eql 2 (Go.Operand.tmp 215) (Go.Operand.const (Go.Value.int Go.IntKind.i64 1)) 2, type := 4, pos := "laws.go:1456", after := #[{ on := 15, ground := Go.Ground.data }, { on := 11, ground := Go.Ground.guard }], guard := some (11, false) }) (v := ?_) rfl (by kernel_rfl) (by kernel_rfl) (by kernel_rfl) (fun _ _ _ h => h.no (by intro q; cases q)) (Or.inl ⟨by rfl, ?_⟩) (by assumption) ?_
              rotate_left
              · (intro w hSw; (try dsimp only at hSw); go_simp); (try with_reducible rfl)
              try simp only [Act.put, List.setIfInBounds_toArray, List.set_cons_zero, List.set_cons_succ]
              refine wpAnyH_take (i := 17) (oi := { dst := some 217, op := Go.Op.move (Go.Operand.tmp 216), type := 4, pos := "laws.go:1456", after := #[{ on := 16, ground := Go.Ground.data }, { on := 11, ground := Go.Ground.chain }, { on := 11, ground := Go.Ground.guard }], guard := some (11, false) }) (v := ?_) rfl (by kernel_rfl) (by kernel_rfl) (by kernel_rfl) (fun _ _ _ h => h.no (by intro q; cases q)) (Or.inl ⟨by rfl, ?_⟩) (by assumption) ?_
              rotate_left
              · (intro w hSw; (try dsimp only at hSw); go_simp); (try with_reducible rfl)
              try simp only [Act.put, List.setIfInBounds_toArray, List.set_cons_zero, List.set_cons_succ]
              refine wpAnyH_take (i := 18) (oi := { dst := some 218, op := Go.Op.move (Go.Operand.tmp 9), type := 24, pos := "laws.go:1456", after := #[{ on := 17, ground := Go.Ground.guard }], guard := some (17, true) }) (v := ?_) rfl (by kernel_rfl) (by kernel_rfl) (by kernel_rfl) (fun _ _ _ h => h.no (by intro q; cases q)) (Or.inl ⟨by rfl, ?_⟩) (by assumption) ?_
              rotate_left
              · (intro w hSw; (try dsimp only at hSw); go_simp); (try with_reducible rfl)
              try simp only [Act.put, List.setIfInBounds_toArray, List.set_cons_zero, List.set_cons_succ]
              refine wpAnyH_take (i := 19) (oi := { dst := some 219, op := Go.Op.move (Go.Operand.tmp 29), type := 3, pos := "laws.go:1456", after := #[{ on := 17, ground := Go.Ground.guard }], guard := some (17, true) }) (v := ?_) rfl (by kernel_rfl) (by kernel_rfl) (by kernel_rfl) (fun _ _ _ h => h.no (by intro q; cases q)) (Or.inl ⟨by rfl, ?_⟩) (by assumption) ?_
              rotate_left
              · (intro w hSw; (try dsimp only at hSw); go_simp); (try with_reducible rfl)
              try simp only [Act.put, List.setIfInBounds_toArray, List.set_cons_zero, List.set_cons_succ]
              refine wpAnyH_take (i := 20) (oi := { dst := some 220, op := Go.Op.indexAddr 24 (Go.Operand.tmp 218) (Go.Operand.tmp 219), type := 0, pos := "laws.go:1456", after := #[{ on := 18, ground := Go.Ground.data }, { on := 19, ground := Go.Ground.data }, { on := 17, ground := Go.Ground.guard }], guard := some (17, true) }) (v := ?_) rfl (by kernel_rfl) (by kernel_rfl) (by kernel_rfl) (fun _ _ _ h => h.no (by intro q; cases q)) (Or.inl ⟨by rfl, ?_⟩) (by assumption) ?_
              rotate_left
              · (intro w hSw; (try dsimp only at hSw); go_simp); (try with_reducible rfl)
              try simp only [Act.put, List.setIfInBounds_toArray, List.set_cons_zero, List.set_cons_succ]
              refine wpAnyH_take (i := 21) (oi := { dst := some 221, op := Go.Op.load 2 (Go.Operand.tmp 220), type := 2, pos := "laws.go:1456", after := #[{ on := 20, ground := Go.Ground.data }, { on := 17, ground := Go.Ground.guard }], guard := some (17, true) }) (v := ?_) rfl (by kernel_rfl) (by kernel_rfl) (by kernel_rfl) (fun _ _ _ h => h.no (by intro q; cases q)) (Or.inl ⟨by rfl, ?_⟩) (by assumption) ?_
              rotate_left
              · (intro w hSw; (try dsimp only at hSw); go_simp); (try with_reducible rfl)
              try simp only [Act.put, List.setIfInBounds_toArray, List.set_cons_zero, List.set_cons_succ]
              refine wpAnyH_take (i := 22) (oi := { dst := some 222, op := Go.Op.move (Go.Operand.tmp 26), type := 2, pos := "laws.go:1456", after := #[{ on := 17, ground := Go.Ground.guard }], guard := some (17, true) }) (v := ?_) rfl (by kernel_rfl) (by kernel_rfl) (by kernel_rfl) (fun _ _ _ h => h.no (by intro q; cases q)) (Or.inl ⟨by rfl, ?_⟩) (by assumption) ?_
              rotate_left
              · (intro w hSw; (try dsimp only at hSw); go_simp); (try with_reducible rfl)
              try simp only [Act.put, List.setIfInBounds_toArray, List.set_cons_zero, List.set_cons_succ]
              refine wpAnyH_take (i := 23) (oi := { dst := some 223, op := Go.Op.binOp Go.BinOp.neq 2 (Go.Operand.tmp 221) (Go.Operand.tmp 222) 2, type := 4, pos := "laws.go:1456", after := #[{ on := 21, ground := Go.Ground.data }, { on := 22, ground := Go.Ground.data }, { on := 17, ground := Go.Ground.guard }], guard := some (17, true) }) (v := ?_) rfl (by kernel_rfl) (by kernel_rfl) (by kernel_rfl) (fun _ _ _ h => h.no (by intro q; cases q)) (Or.inl ⟨by rfl, ?_⟩) (by assumption) ?_
              rotate_left
              · (intro w hSw; (try dsimp only at hSw); go_simp); (try with_reducible rfl)
              try simp only [Act.put, List.setIfInBounds_toArray, List.set_cons_zero, List.set_cons_succ]
              refine wpAnyH_take (i := 24) (oi := { dst := some 224, op := Go.Op.pick (Go.Operand.tmp 217) (Go.Operand.tmp 223) (Go.Operand.const (Go.Value.bool false)), type := 4, pos := "laws.go:1456", after := #[{ on := 17, ground := Go.Ground.data }, { on := 23, ground := Go.Ground.data }, { on := 11, ground := Go.Ground.guard }], guard := some (11, false) }) (v := ?_) rfl (by kernel_rfl) (by kernel_rfl) (by kernel_rfl) (fun _ _ _ h => h.no (by intro q; cases q)) (Or.inl ⟨by rfl, ?_⟩) (by assumption) ?_
              rotate_left
              · (intro w hSw; (try dsimp only at hSw); go_simp); (try with_reducible rfl)
              try simp only [Act.put, List.setIfInBounds_toArray, List.set_cons_zero, List.set_cons_succ]
              refine wpAnyH_take (i := 25) (oi := { dst := some 225, op := Go.Op.pick (Go.Operand.tmp 211) (Go.Operand.const (Go.Value.bool true)) (Go.Operand.tmp 224), type := 4, pos := "laws.go:1456", after := #[{ on := 11, ground := Go.Ground.data }, { on := 24, ground := Go.Ground.data }], guard := none }) (v := ?_) rfl (by kernel_rfl) (by kernel_rfl) (by kernel_rfl) (fun _ _ _ h => h.no (by intro q; cases q)) (Or.inl ⟨by rfl, ?_⟩) (by assumption) ?_
              rotate_left
              · (intro w hSw; (try dsimp only at hSw); go_simp); (try with_reducible rfl)
              try simp only [Act.put, List.setIfInBounds_toArray, List.set_cons_zero, List.set_cons_succ]
              refine wpAnyH_take (i := 26) (oi := { dst := some 226, op := Go.Op.move (Go.Operand.tmp 225), type := 4, pos := "laws.go:1456", after := #[{ on := 25, ground := Go.Ground.data }, { on := 17, ground := Go.Ground.chain }], guard := none }) (v := ?_) rfl (by kernel_rfl) (by kernel_rfl) (by kernel_rfl) (fun _ _ _ h => h.no (by intro q; cases q)) (Or.inl ⟨by rfl, ?_⟩) (by assumption) ?_
              rotate_left
              · (intro w hSw; (try dsimp only at hSw); go_simp); (try with_reducible rfl)
              try simp only [Act.put, List.setIfInBounds_toArray, List.set_cons_zero, List.set_cons_succ]
              refine wpAnyH_take (i := 27) (oi := { dst := some 227, op := Go.Op.move (Go.Operand.tmp 5), type := 24, pos := "laws.go:1456", after := #[{ on := 26, ground := Go.Ground.guard }], guard := some (26, false) }) (v := ?_) rfl (by kernel_rfl) (by kernel_rfl) (by kernel_rfl) (fun _ _ _ h => h.no (by intro q; cases q)) (Or.inl ⟨by rfl, ?_⟩) (by assumption) ?_
              rotate_left
              · (intro w hSw; (try dsimp only at hSw); go_simp); (try with_reducible rfl)
              try simp only [Act.put, List.setIfInBounds_toArray, List.set_cons_zero, List.set_cons_succ]
              refine wpAnyH_take (i := 28) (oi := { dst := some 228, op := Go.Op.move (Go.Operand.tmp 29), type := 3, pos := "laws.go:1456", after := #[{ on := 26, ground := Go.Ground.guard }], guard := some (26, false) }) (v := ?_) rfl (by kernel_rfl) (by kernel_rfl) (by kernel_rfl) (fun _ _ _ h => h.no (by intro q; cases q)) (Or.inl ⟨by rfl, ?_⟩) (by assumption) ?_
              rotate_left
              · (intro w hSw; (try dsimp only at hSw); go_simp); (try with_reducible rfl)
              try simp only [Act.put, List.setIfInBounds_toArray, List.set_cons_zero, List.set_cons_succ]
              refine wpAnyH_take (i := 29) (oi := { dst := some 229, op := Go.Op.indexAddr 24 (Go.Operand.tmp 227) (Go.Operand.tmp 228), type := 0, pos := "laws.go:1456", after := #[{ on := 27, ground := Go.Ground.data }, { on := 28, ground := Go.Ground.data }, { on := 26, ground := Go.Ground.guard }], guard := some (26, false) }) (v := ?_) rfl (by kernel_rfl) (by kernel_rfl) (by kernel_rfl) (fun _ _ _ h => h.no (by intro q; cases q)) (Or.inl ⟨by rfl, ?_⟩) (by assumption) ?_
              rotate_left
              · (intro w hSw; (try dsimp only at hSw); go_simp); (try with_reducible rfl)
              try simp only [Act.put, List.setIfInBounds_toArray, List.set_cons_zero, List.set_cons_succ]
              refine wpAnyH_take (i := 30) (oi := { dst := some 230, op := Go.Op.load 2 (Go.Operand.tmp 229), type := 2, pos := "laws.go:1456", after := #[{ on := 29, ground := Go.Ground.data }, { on := 26, ground := Go.Ground.guard }], guard := some (26, false) }) (v := ?_) rfl (by kernel_rfl) (by kernel_rfl) (by kernel_rfl) (fun _ _ _ h => h.no (by intro q; cases q)) (Or.inl ⟨by rfl, ?_⟩) (by assumption) ?_
              rotate_left
              · (intro w hSw; (try dsimp only at hSw); go_simp); (try with_reducible rfl)
              try simp only [Act.put, List.setIfInBounds_toArray, List.set_cons_zero, List.set_cons_succ]
              refine wpAnyH_take (i := 31) (oi := { dst := some 231, op := Go.Op.move (Go.Operand.tmp 9), type := 24, pos := "laws.go:1456", after := #[{ on := 26, ground := Go.Ground.guard }], guard := some (26, false) }) (v := ?_) rfl (by kernel_rfl) (by kernel_rfl) (by kernel_rfl) (fun _ _ _ h => h.no (by intro q; cases q)) (Or.inl ⟨by rfl, ?_⟩) (by assumption) ?_
              rotate_left
              · (intro w hSw; (try dsimp only at hSw); go_simp); (try with_reducible rfl)
              try simp only [Act.put, List.setIfInBounds_toArray, List.set_cons_zero, List.set_cons_succ]
              refine wpAnyH_take (i := 32) (oi := { dst := some 232, op := Go.Op.move (Go.Operand.tmp 29), type := 3, pos := "laws.go:1456", after := #[{ on := 26, ground := Go.Ground.guard }], guard := some (26, false) }) (v := ?_) rfl (by kernel_rfl) (by kernel_rfl) (by kernel_rfl) (fun _ _ _ h => h.no (by intro q; cases q)) (Or.inl ⟨by rfl, ?_⟩) (by assumption) ?_
              rotate_left
              · (intro w hSw; (try dsimp only at hSw); go_simp); (try with_reducible rfl)
              try simp only [Act.put, List.setIfInBounds_toArray, List.set_cons_zero, List.set_cons_succ]
              refine wpAnyH_take (i := 33) (oi := { dst := some 233, op := Go.Op.indexAddr 24 (Go.Operand.tmp 231) (Go.Operand.tmp 232), type := 0, pos := "laws.go:1456", after := #[{ on := 31, ground := Go.Ground.data }, { on := 32, ground := Go.Ground.data }, { on := 26, ground := Go.Ground.guard }], guard := some (26, false) }) (v := ?_) rfl (by kernel_rfl) (by kernel_rfl) (by kernel_rfl) (fun _ _ _ h => h.no (by intro q; cases q)) (Or.inl ⟨by rfl, ?_⟩) (by assumption) ?_
              rotate_left
              · (intro w hSw; (try dsimp only at hSw); go_simp); (try with_reducible rfl)
              try simp only [Act.put, List.setIfInBounds_toArray, List.set_cons_zero, List.set_cons_succ]
              refine wpAnyH_take (i := 34) (oi := { dst := some 234, op := Go.Op.load 2 (Go.Operand.tmp 233), type := 2, pos := "laws.go:1456", after := #[{ on := 33, ground := Go.Ground.data }, { on := 26, ground := Go.Ground.guard }], guard := some (26, false) }) (v := ?_) rfl (by kernel_rfl) (by kernel_rfl) (by kernel_rfl) (fun _ _ _ h => h.no (by intro q; cases q)) (Or.inl ⟨by rfl, ?_⟩) (by assumption) ?_
              rotate_left
              · (intro w hSw; (try dsimp only at hSw); go_simp); (try with_reducible rfl)
              try simp only [Act.put, List.setIfInBounds_toArray, List.set_cons_zero, List.set_cons_succ]
              refine wpAnyH_take (i := 35) (oi := { dst := some 235, op := Go.Op.binOp Go.BinOp.mul 2 (Go.Operand.tmp 230) (Go.Operand.tmp 234) 2, type := 2, pos := "laws.go:1456", after := #[{ on := 30, ground := Go.Ground.data }, { on := 34, ground := Go.Ground.data }, { on := 26, ground := Go.Ground.guard }], guard := some (26, false) }) (v := ?_) rfl (by kernel_rfl) (by kernel_rfl) (by kernel_rfl) (fun _ _ _ h => h.no (by intro q; cases q)) (Or.inl ⟨by rfl, ?_⟩) (by assumption) ?_
              rotate_left
              · (intro w hSw; (try dsimp only at hSw); go_simp); (try with_reducible rfl)
              try simp only [Act.put, List.setIfInBounds_toArray, List.set_cons_zero, List.set_cons_succ]
              refine wpAnyH_take (i := 36) (oi := { dst := some 236, op := Go.Op.move (Go.Operand.tmp 26), type := 2, pos := "laws.go:1456", after := #[{ on := 26, ground := Go.Ground.guard }], guard := some (26, false) }) (v := ?_) rfl (by kernel_rfl) (by kernel_rfl) (by kernel_rfl) (fun _ _ _ h => h.no (by intro q; cases q)) (Or.inl ⟨by rfl, ?_⟩) (by assumption) ?_
              rotate_left
              · (intro w hSw; (try dsimp only at hSw); go_simp); (try with_reducible rfl)
              try simp only [Act.put, List.setIfInBounds_toArray, List.set_cons_zero, List.set_cons_succ]
              refine wpAnyH_take (i := 37) (oi := { dst := some 237, op := Go.Op.binOp Go.BinOp.lss 2 (Go.Operand.tmp 235) (Go.Operand.tmp 236) 2, type := 4, pos := "laws.go:1456", after := #[{ on := 35, ground := Go.Ground.data }, { on := 36, ground := Go.Ground.data }, { on := 26, ground := Go.Ground.guard }], guard := some (26, false) }) (v := ?_) rfl (by kernel_rfl) (by kernel_rfl) (by kernel_rfl) (fun _ _ _ h => h.no (by intro q; cases q)) (Or.inl ⟨by rfl, ?_⟩) (by assumption) ?_
              rotate_left
              · (intro w hSw; (try dsimp only at hSw); go_simp); (try with_reducible rfl)
              try simp only [Act.put, List.setIfInBounds_toArray, List.set_cons_zero, List.set_cons_succ]
              refine wpAnyH_take (i := 38) (oi := { dst := some 238, op := Go.Op.move (Go.Operand.tmp 237), type := 4, pos := "laws.go:1456", after := #[{ on := 37, ground := Go.Ground.data }, { on := 26, ground := Go.Ground.chain }, { on := 26, ground := Go.Ground.guard }], guard := some (26, false) }) (v := ?_) rfl (by kernel_rfl) (by kernel_rfl) (by kernel_rfl) (fun _ _ _ h => h.no (by intro q; cases q)) (Or.inl ⟨by rfl, ?_⟩) (by assumption) ?_
              rotate_left
              · (intro w hSw; (try dsimp only at hSw); go_simp); (try with_reducible rfl)
              try simp only [Act.put, List.setIfInBounds_toArray, List.set_cons_zero, List.set_cons_succ]
              refine wpAnyH_take (i := 39) (oi := { dst := some 239, op := Go.Op.move (Go.Operand.tmp 5), type := 24, pos := "laws.go:1456", after := #[{ on := 38, ground := Go.Ground.guard }], guard := some (38, true) }) (v := undef) rfl (by kernel_rfl) (by kernel_rfl) (by kernel_rfl) (fun _ _ _ h => h.no (by intro q; cases q)) (Or.inr ⟨by rfl, rfl⟩) (by assumption) ?_
              try simp only [Act.put, List.setIfInBounds_toArray, List.set_cons_zero, List.set_cons_succ]
              refine wpAnyH_take (i := 40) (oi := { dst := some 240, op := Go.Op.move (Go.Operand.tmp 29), type := 3, pos := "laws.go:1456", after := #[{ on := 38, ground := Go.Ground.guard }], guard := some (38, true) }) (v := undef) rfl (by kernel_rfl) (by kernel_rfl) (by kernel_rfl) (fun _ _ _ h => h.no (by intro q; cases q)) (Or.inr ⟨by rfl, rfl⟩) (by assumption) ?_
              try simp only [Act.put, List.setIfInBounds_toArray, List.set_cons_zero, List.set_cons_succ]
              refine wpAnyH_take (i := 41) (oi := { dst := some 241, op := Go.Op.indexAddr 24 (Go.Operand.tmp 239) (Go.Operand.tmp 240), type := 0, pos := "laws.go:1456", after := #[{ on := 39, ground := Go.Ground.data }, { on := 40, ground := Go.Ground.data }, { on := 38, ground := Go.Ground.guard }], guard := some (38, true) }) (v := undef) rfl (by kernel_rfl) (by kernel_rfl) (by kernel_rfl) (fun _ _ _ h => h.no (by intro q; cases q)) (Or.inr ⟨by rfl, rfl⟩) (by assumption) ?_
              try simp only [Act.put, List.setIfInBounds_toArray, List.set_cons_zero, List.set_cons_succ]
              refine wpAnyH_take (i := 42) (oi := { dst := some 242, op := Go.Op.load 2 (Go.Operand.tmp 241), type := 2, pos := "laws.go:1456", after := #[{ on := 41, ground := Go.Ground.data }, { on := 38, ground := Go.Ground.guard }], guard := some (38, true) }) (v := undef) rfl (by kernel_rfl) (by kernel_rfl) (by kernel_rfl) (fun _ _ _ h => h.no (by intro q; cases q)) (Or.inr ⟨by rfl, rfl⟩) (by assumption) ?_
              try simp only [Act.put, List.setIfInBounds_toArray, List.set_cons_zero, List.set_cons_succ]
              refine wpAnyH_take (i := 43) (oi := { dst := some 243, op := Go.Op.binOp Go.BinOp.gtr 2 (Go.Operand.tmp 242) (Go.Operand.const (Go.Value.int Go.IntKind.i64 0)) 2, type := 4, pos := "laws.go:1456", after := #[{ on := 42, ground := Go.Ground.data }, { on := 38, ground := Go.Ground.guard }], guard := some (38, true) }) (v := undef) rfl (by kernel_rfl) (by kernel_rfl) (by kernel_rfl) (fun _ _ _ h => h.no (by intro q; cases q)) (Or.inr ⟨by rfl, rfl⟩) (by assumption) ?_
              try simp only [Act.put, List.setIfInBounds_toArray, List.set_cons_zero, List.set_cons_succ]
              refine wpAnyH_take (i := 44) (oi := { dst := some 244, op := Go.Op.pick (Go.Operand.tmp 238) (Go.Operand.tmp 243) (Go.Operand.const (Go.Value.bool false)), type := 4, pos := "laws.go:1456", after := #[{ on := 38, ground := Go.Ground.data }, { on := 43, ground := Go.Ground.data }, { on := 26, ground := Go.Ground.guard }], guard := some (26, false) }) (v := ?_) rfl (by kernel_rfl) (by kernel_rfl) (by kernel_rfl) (fun _ _ _ h => h.no (by intro q; cases q)) (Or.inl ⟨by rfl, ?_⟩) (by assumption) ?_
              rotate_left
              · (intro w hSw; (try dsimp only at hSw); go_simp); (try with_reducible rfl)
              try simp only [Act.put, List.setIfInBounds_toArray, List.set_cons_zero, List.set_cons_succ]
              refine wpAnyH_take (i := 45) (oi := { dst := some 245, op := Go.Op.pick (Go.Operand.tmp 226) (Go.Operand.const (Go.Value.bool true)) (Go.Operand.tmp 244), type := 4, pos := "laws.go:1456", after := #[{ on := 26, ground := Go.Ground.data }, { on := 44, ground := Go.Ground.data }], guard := none }) (v := ?_) rfl (by kernel_rfl) (by kernel_rfl) (by kernel_rfl) (fun _ _ _ h => h.no (by intro q; cases q)) (Or.inl ⟨by rfl, ?_⟩) (by assumption) ?_
              rotate_left
              · (intro w hSw; (try dsimp only at hSw); go_simp); (try with_reducible rfl)
              try simp only [Act.put, List.setIfInBounds_toArray, List.set_cons_zero, List.set_cons_succ]
              refine wpAnyH_done (by kernel_rfl) ⟨rfl, ?_⟩ _
              go_wp2
              go_roundw
              case rel => exact ⟨k + 1, by omega, by go_num, by rw [← HST.out]; first | done | go_num, by first | exact Below.drew hb | exact hb⟩
              case measure => simp [intOf]; omega
            · have y0 : ¬ r = 0 := fun e => by have := x1.2 e; omega
              have y1 : (r == 0) = false := by simpa using y0
              have y4 : ((l : Int) == 0) = false := by simp; omega
              have y5 : ((l : Int) == 1) = false := by simp; omega
              have y6 := x3 (by omega)
              have hbm : (l : Int) * r ≤ 144 * 288 := Int.mul_le_mul (show (l : Int) ≤ 144 by omega) (show r ≤ 288 by omega) x4 (by omega)
              have hb0 : 0 ≤ (l : Int) * r := by omega
              have y7 : IntKind.i64.wrap ((l : Int) * r) = (l : Int) * r := IntWalk.i64_in _ (by omega)
              have y8 : ¬ (l : Int) * r < (n : Int) := by omega
              clear x1 x2 x3 x4 x5 y0 y6 hbm hb0
              go_upto_region 34 with fail
              refine wp_region_calm (S := (fun W' => W'.cell? ⟨g1, k, none⟩ = some (.int .i64 (l : Int)) ∧ W'.cell? ⟨g3, k, none⟩ = some (.int .i64 r))) (by kernel_rfl) ?_ (fun hHeld => ?_)
              · (try dsimp only); exact ⟨c1, c3⟩
              refine wpAnyH_take (i := 0) (oi := { dst := some 200, op := Go.Op.move (Go.Operand.tmp 5), type := 24, pos := "laws.go:1456", after := #[], guard := none }) (v := ?_) rfl (by kernel_rfl) (by kernel_rfl) (by kernel_rfl) (fun _ _ _ h => h.no (by intro q; cases q)) (Or.inl ⟨by rfl, ?_⟩) (by assumption) ?_
              rotate_left
              · (intro w hSw; (try dsimp only at hSw); go_simp); (try with_reducible rfl)
              try simp only [Act.put, List.setIfInBounds_toArray, List.set_cons_zero, List.set_cons_succ]
              refine wpAnyH_take (i := 1) (oi := { dst := some 201, op := Go.Op.move (Go.Operand.tmp 29), type := 3, pos := "laws.go:1456", after := #[], guard := none }) (v := ?_) rfl (by kernel_rfl) (by kernel_rfl) (by kernel_rfl) (fun _ _ _ h => h.no (by intro q; cases q)) (Or.inl ⟨by rfl, ?_⟩) (by assumption) ?_
              rotate_left
              · (intro w hSw; (try dsimp only at hSw); go_simp); (try with_reducible rfl)
              try simp only [Act.put, List.setIfInBounds_toArray, List.set_cons_zero, List.set_cons_succ]
              refine wpAnyH_take (i := 2) (oi := { dst := some 202, op := Go.Op.indexAddr 24 (Go.Operand.tmp 200) (Go.Operand.tmp 201), type := 0, pos := "laws.go:1456", after := #[{ on := 0, ground := Go.Ground.data }, { on := 1, ground := Go.Ground.data }], guard := none }) (v := ?_) rfl (by kernel_rfl) (by kernel_rfl) (by kernel_rfl) (fun _ _ _ h => h.no (by intro q; cases q)) (Or.inl ⟨by rfl, ?_⟩) (by assumption) ?_
              rotate_left
              · (intro w hSw; (try dsimp only at hSw); go_simp); (try with_reducible rfl)
              try simp only [Act.put, List.setIfInBounds_toArray, List.set_cons_zero, List.set_cons_succ]
              refine wpAnyH_take (i := 3) (oi := { dst := some 203, op := Go.Op.load 2 (Go.Operand.tmp 202), type := 2, pos := "laws.go:1456", after := #[{ on := 2, ground := Go.Ground.data }], guard := none }) (v := ?_) rfl (by kernel_rfl) (by kernel_rfl) (by kernel_rfl) (fun _ _ _ h => h.no (by intro q; cases q)) (Or.inl ⟨by rfl, ?_⟩) (by assumption) ?_
              rotate_left
              · (intro w hSw; (try dsimp only at hSw); go_simp); (try with_reducible rfl)
              try simp only [Act.put, List.setIfInBounds_toArray, List.set_cons_zero, List.set_cons_succ]
              refine wpAnyH_take (i := 4) (oi := { dst := some 204, op := Go.Op.binOp Go.BinOp.eql 2 (Go.Operand.tmp 203) (Go.Operand.const (Go.Value.int Go.IntKind.i64 0)) 2, type := 4, pos := "laws.go:1456", after := #[{ on := 3, ground := Go.Ground.data }], guard := none }) (v := ?_) rfl (by kernel_rfl) (by kernel_rfl) (by kernel_rfl) (fun _ _ _ h => h.no (by intro q; cases q)) (Or.inl ⟨by rfl, ?_⟩) (by assumption) ?_
              rotate_left
              · (intro w hSw; (try dsimp only at hSw); go_simp); (try with_reducible rfl)
              try simp only [Act.put, List.setIfInBounds_toArray, List.set_cons_zero, List.set_cons_succ]
              refine wpAnyH_take (i := 5) (oi := { dst := some 205, op := Go.Op.move (Go.Operand.tmp 9), type := 24, pos := "laws.go:1456", after := #[], guard := none }) (v := ?_) rfl (by kernel_rfl) (by kernel_rfl) (by kernel_rfl) (fun _ _ _ h => h.no (by intro q; cases q)) (Or.inl ⟨by rfl, ?_⟩) (by assumption) ?_
              rotate_left
              · (intro w hSw; (try dsimp only at hSw); go_simp); (try with_reducible rfl)
              try simp only [Act.put, List.setIfInBounds_toArray, List.set_cons_zero, List.set_cons_succ]
              refine wpAnyH_take (i := 6) (oi := { dst := some 206, op := Go.Op.move (Go.Operand.tmp 29), type := 3, pos := "laws.go:1456", after := #[], guard := none }) (v := ?_) rfl (by kernel_rfl) (by kernel_rfl) (by kernel_rfl) (fun _ _ _ h => h.no (by intro q; cases q)) (Or.inl ⟨by rfl, ?_⟩) (by assumption) ?_
              rotate_left
              · (intro w hSw; (try dsimp only at hSw); go_simp); (try with_reducible rfl)
              try simp only [Act.put, List.setIfInBounds_toArray, List.set_cons_zero, List.set_cons_succ]
              refine wpAnyH_take (i := 7) (oi := { dst := some 207, op := Go.Op.indexAddr 24 (Go.Operand.tmp 205) (Go.Operand.tmp 206), type := 0, pos := "laws.go:1456", after := #[{ on := 5, ground := Go.Ground.data }, { on := 6, ground := Go.Ground.data }], guard := none }) (v := ?_) rfl (by kernel_rfl) (by kernel_rfl) (by kernel_rfl) (fun _ _ _ h => h.no (by intro q; cases q)) (Or.inl ⟨by rfl, ?_⟩) (by assumption) ?_
              rotate_left
              · (intro w hSw; (try dsimp only at hSw); go_simp); (try with_reducible rfl)
              try simp only [Act.put, List.setIfInBounds_toArray, List.set_cons_zero, List.set_cons_succ]
              refine wpAnyH_take (i := 8) (oi := { dst := some 208, op := Go.Op.load 2 (Go.Operand.tmp 207), type := 2, pos := "laws.go:1456", after := #[{ on := 7, ground := Go.Ground.data }], guard := none }) (v := ?_) rfl (by kernel_rfl) (by kernel_rfl) (by kernel_rfl) (fun _ _ _ h => h.no (by intro q; cases q)) (Or.inl ⟨by rfl, ?_⟩) (by assumption) ?_
              rotate_left
              · (intro w hSw; (try dsimp only at hSw); go_simp); (try with_reducible rfl)
              try simp only [Act.put, List.setIfInBounds_toArray, List.set_cons_zero, List.set_cons_succ]
              refine wpAnyH_take (i := 9) (oi := { dst := some 209, op := Go.Op.binOp Go.BinOp.eql 2 (Go.Operand.tmp 208) (Go.Operand.const (Go.Value.int Go.IntKind.i64 0)) 2, type := 4, pos := "laws.go:1456", after := #[{ on := 8, ground := Go.Ground.data }], guard := none }) (v := ?_) rfl (by kernel_rfl) (by kernel_rfl) (by kernel_rfl) (fun _ _ _ h => h.no (by intro q; cases q)) (Or.inl ⟨by rfl, ?_⟩) (by assumption) ?_
              rotate_left
              · (intro w hSw; (try dsimp only at hSw); go_simp); (try with_reducible rfl)
              try simp only [Act.put, List.setIfInBounds_toArray, List.set_cons_zero, List.set_cons_succ]
              refine wpAnyH_take (i := 10) (oi := { dst := some 210, op := Go.Op.binOp Go.BinOp.neq 4 (Go.Operand.tmp 204) (Go.Operand.tmp 209) 4, type := 4, pos := "laws.go:1456", after := #[{ on := 4, ground := Go.Ground.data }, { on := 9, ground := Go.Ground.data }], guard := none }) (v := ?_) rfl (by kernel_rfl) (by kernel_rfl) (by kernel_rfl) (fun _ _ _ h => h.no (by intro q; cases q)) (Or.inl ⟨by rfl, ?_⟩) (by assumption) ?_
              rotate_left
              · (intro w hSw; (try dsimp only at hSw); go_simp); (try with_reducible rfl)
              try simp only [Act.put, List.setIfInBounds_toArray, List.set_cons_zero, List.set_cons_succ]
              refine wpAnyH_take (i := 11) (oi := { dst := some 211, op := Go.Op.move (Go.Operand.tmp 210), type := 4, pos := "laws.go:1456", after := #[{ on := 10, ground := Go.Ground.data }], guard := none }) (v := ?_) rfl (by kernel_rfl) (by kernel_rfl) (by kernel_rfl) (fun _ _ _ h => h.no (by intro q; cases q)) (Or.inl ⟨by rfl, ?_⟩) (by assumption) ?_
              rotate_left
              · (intro w hSw; (try dsimp only at hSw); go_simp); (try with_reducible rfl)
              try simp only [Act.put, List.setIfInBounds_toArray, List.set_cons_zero, List.set_cons_succ]
              refine wpAnyH_take (i := 12) (oi := { dst := some 212, op := Go.Op.move (Go.Operand.tmp 5), type := 24, pos := "laws.go:1456", after := #[{ on := 11, ground := Go.Ground.guard }], guard := some (11, false) }) (v := ?_) rfl (by kernel_rfl) (by kernel_rfl) (by kernel_rfl) (fun _ _ _ h => h.no (by intro q; cases q)) (Or.inl ⟨by rfl, ?_⟩) (by assumption) ?_
              rotate_left
              · (intro w hSw; (try dsimp only at hSw); go_simp); (try with_reducible rfl)
              try simp only [Act.put, List.setIfInBounds_toArray, List.set_cons_zero, List.set_cons_succ]
              refine wpAnyH_take (i := 13) (oi := { dst := some 213, op := Go.Op.move (Go.Operand.tmp 29), type := 3, pos := "laws.go:1456", after := #[{ on := 11, ground := Go.Ground.guard }], guard := some (11, false) }) (v := ?_) rfl (by kernel_rfl) (by kernel_rfl) (by kernel_rfl) (fun _ _ _ h => h.no (by intro q; cases q)) (Or.inl ⟨by rfl, ?_⟩) (by assumption) ?_
              rotate_left
              · (intro w hSw; (try dsimp only at hSw); go_simp); (try with_reducible rfl)
              try simp only [Act.put, List.setIfInBounds_toArray, List.set_cons_zero, List.set_cons_succ]
              refine wpAnyH_take (i := 14) (oi := { dst := some 214, op := Go.Op.indexAddr 24 (Go.Operand.tmp 212) (Go.Operand.tmp 213), type := 0, pos := "laws.go:1456", after := #[{ on := 12, ground := Go.Ground.data }, { on := 13, ground := Go.Ground.data }, { on := 11, ground := Go.Ground.guard }], guard := some (11, false) }) (v := ?_) rfl (by kernel_rfl) (by kernel_rfl) (by kernel_rfl) (fun _ _ _ h => h.no (by intro q; cases q)) (Or.inl ⟨by rfl, ?_⟩) (by assumption) ?_
              rotate_left
              · (intro w hSw; (try dsimp only at hSw); go_simp); (try with_reducible rfl)
              try simp only [Act.put, List.setIfInBounds_toArray, List.set_cons_zero, List.set_cons_succ]
              refine wpAnyH_take (i := 15) (oi := { dst := some 215, op := Go.Op.load 2 (Go.Operand.tmp 214), type := 2, pos := "laws.go:1456", after := #[{ on := 14, ground := Go.Ground.data }, { on := 11, ground := Go.Ground.guard }], guard := some (11, false) }) (v := ?_) rfl (by kernel_rfl) (by kernel_rfl) (by kernel_rfl) (fun _ _ _ h => h.no (by intro q; cases q)) (Or.inl ⟨by rfl, ?_⟩) (by assumption) ?_
              rotate_left
              · (intro w hSw; (try dsimp only at hSw); go_simp); (try with_reducible rfl)
              try simp only [Act.put, List.setIfInBounds_toArray, List.set_cons_zero, List.set_cons_succ]
              refine wpAnyH_take (i := 16) (oi := { dst := some 216, op := Go.Op.binOp Go.BinOp.eql 2 (Go.Operand.tmp 215) (Go.Operand.const (Go.Value.int Go.IntKind.i64 1)) 2, type := 4, pos := "laws.go:1456", after := #[{ on := 15, ground := Go.Ground.data }, { on := 11, ground := Go.Ground.guard }], guard := some (11, false) }) (v := ?_) rfl (by kernel_rfl) (by kernel_rfl) (by kernel_rfl) (fun _ _ _ h => h.no (by intro q; cases q)) (Or.inl ⟨by rfl, ?_⟩) (by assumption) ?_
              rotate_left
              · (intro w hSw; (try dsimp only at hSw); go_simp); (try with_reducible rfl)
              try simp only [Act.put, List.setIfInBounds_toArray, List.set_cons_zero, List.set_cons_succ]
              refine wpAnyH_take (i := 17) (oi := { dst := some 217, op := Go.Op.move (Go.Operand.tmp 216), type := 4, pos := "laws.go:1456", after := #[{ on := 16, ground := Go.Ground.data }, { on := 11, ground := Go.Ground.chain }, { on := 11, ground := Go.Ground.guard }], guard := some (11, false) }) (v := ?_) rfl (by kernel_rfl) (by kernel_rfl) (by kernel_rfl) (fun _ _ _ h => h.no (by intro q; cases q)) (Or.inl ⟨by rfl, ?_⟩) (by assumption) ?_
              rotate_left
              · (intro w hSw; (try dsimp only at hSw); go_simp); (try with_reducible rfl)
              try simp only [Act.put, List.setIfInBounds_toArray, List.set_cons_zero, List.set_cons_succ]
              refine wpAnyH_take (i := 18) (oi := { dst := some 218, op := Go.Op.move (Go.Operand.tmp 9), type := 24, pos := "laws.go:1456", after := #[{ on := 17, ground := Go.Ground.guard }], guard := some (17, true) }) (v := undef) rfl (by kernel_rfl) (by kernel_rfl) (by kernel_rfl) (fun _ _ _ h => h.no (by intro q; cases q)) (Or.inr ⟨by rfl, rfl⟩) (by assumption) ?_
              try simp only [Act.put, List.setIfInBounds_toArray, List.set_cons_zero, List.set_cons_succ]
              refine wpAnyH_take (i := 19) (oi := { dst := some 219, op := Go.Op.move (Go.Operand.tmp 29), type := 3, pos := "laws.go:1456", after := #[{ on := 17, ground := Go.Ground.guard }], guard := some (17, true) }) (v := undef) rfl (by kernel_rfl) (by kernel_rfl) (by kernel_rfl) (fun _ _ _ h => h.no (by intro q; cases q)) (Or.inr ⟨by rfl, rfl⟩) (by assumption) ?_
              try simp only [Act.put, List.setIfInBounds_toArray, List.set_cons_zero, List.set_cons_succ]
              refine wpAnyH_take (i := 20) (oi := { dst := some 220, op := Go.Op.indexAddr 24 (Go.Operand.tmp 218) (Go.Operand.tmp 219), type := 0, pos := "laws.go:1456", after := #[{ on := 18, ground := Go.Ground.data }, { on := 19, ground := Go.Ground.data }, { on := 17, ground := Go.Ground.guard }], guard := some (17, true) }) (v := undef) rfl (by kernel_rfl) (by kernel_rfl) (by kernel_rfl) (fun _ _ _ h => h.no (by intro q; cases q)) (Or.inr ⟨by rfl, rfl⟩) (by assumption) ?_
              try simp only [Act.put, List.setIfInBounds_toArray, List.set_cons_zero, List.set_cons_succ]
              refine wpAnyH_take (i := 21) (oi := { dst := some 221, op := Go.Op.load 2 (Go.Operand.tmp 220), type := 2, pos := "laws.go:1456", after := #[{ on := 20, ground := Go.Ground.data }, { on := 17, ground := Go.Ground.guard }], guard := some (17, true) }) (v := undef) rfl (by kernel_rfl) (by kernel_rfl) (by kernel_rfl) (fun _ _ _ h => h.no (by intro q; cases q)) (Or.inr ⟨by rfl, rfl⟩) (by assumption) ?_
              try simp only [Act.put, List.setIfInBounds_toArray, List.set_cons_zero, List.set_cons_succ]
              refine wpAnyH_take (i := 22) (oi := { dst := some 222, op := Go.Op.move (Go.Operand.tmp 26), type := 2, pos := "laws.go:1456", after := #[{ on := 17, ground := Go.Ground.guard }], guard := some (17, true) }) (v := undef) rfl (by kernel_rfl) (by kernel_rfl) (by kernel_rfl) (fun _ _ _ h => h.no (by intro q; cases q)) (Or.inr ⟨by rfl, rfl⟩) (by assumption) ?_
              try simp only [Act.put, List.setIfInBounds_toArray, List.set_cons_zero, List.set_cons_succ]
              refine wpAnyH_take (i := 23) (oi := { dst := some 223, op := Go.Op.binOp Go.BinOp.neq 2 (Go.Operand.tmp 221) (Go.Operand.tmp 222) 2, type := 4, pos := "laws.go:1456", after := #[{ on := 21, ground := Go.Ground.data }, { on := 22, ground := Go.Ground.data }, { on := 17, ground := Go.Ground.guard }], guard := some (17, true) }) (v := undef) rfl (by kernel_rfl) (by kernel_rfl) (by kernel_rfl) (fun _ _ _ h => h.no (by intro q; cases q)) (Or.inr ⟨by rfl, rfl⟩) (by assumption) ?_
              try simp only [Act.put, List.setIfInBounds_toArray, List.set_cons_zero, List.set_cons_succ]
              refine wpAnyH_take (i := 24) (oi := { dst := some 224, op := Go.Op.pick (Go.Operand.tmp 217) (Go.Operand.tmp 223) (Go.Operand.const (Go.Value.bool false)), type := 4, pos := "laws.go:1456", after := #[{ on := 17, ground := Go.Ground.data }, { on := 23, ground := Go.Ground.data }, { on := 11, ground := Go.Ground.guard }], guard := some (11, false) }) (v := ?_) rfl (by kernel_rfl) (by kernel_rfl) (by kernel_rfl) (fun _ _ _ h => h.no (by intro q; cases q)) (Or.inl ⟨by rfl, ?_⟩) (by assumption) ?_
              rotate_left
              · (intro w hSw; (try dsimp only at hSw); go_simp); (try with_reducible rfl)
              try simp only [Act.put, List.setIfInBounds_toArray, List.set_cons_zero, List.set_cons_succ]
              refine wpAnyH_take (i := 25) (oi := { dst := some 225, op := Go.Op.pick (Go.Operand.tmp 211) (Go.Operand.const (Go.Value.bool true)) (Go.Operand.tmp 224), type := 4, pos := "laws.go:1456", after := #[{ on := 11, ground := Go.Ground.data }, { on := 24, ground := Go.Ground.data }], guard := none }) (v := ?_) rfl (by kernel_rfl) (by kernel_rfl) (by kernel_rfl) (fun _ _ _ h => h.no (by intro q; cases q)) (Or.inl ⟨by rfl, ?_⟩) (by assumption) ?_
              rotate_left
              · (intro w hSw; (try dsimp only at hSw); go_simp); (try with_reducible rfl)
              try simp only [Act.put, List.setIfInBounds_toArray, List.set_cons_zero, List.set_cons_succ]
              refine wpAnyH_take (i := 26) (oi := { dst := some 226, op := Go.Op.move (Go.Operand.tmp 225), type := 4, pos := "laws.go:1456", after := #[{ on := 25, ground := Go.Ground.data }, { on := 17, ground := Go.Ground.chain }], guard := none }) (v := ?_) rfl (by kernel_rfl) (by kernel_rfl) (by kernel_rfl) (fun _ _ _ h => h.no (by intro q; cases q)) (Or.inl ⟨by rfl, ?_⟩) (by assumption) ?_
              rotate_left
              · (intro w hSw; (try dsimp only at hSw); go_simp); (try with_reducible rfl)
              try simp only [Act.put, List.setIfInBounds_toArray, List.set_cons_zero, List.set_cons_succ]
              refine wpAnyH_take (i := 27) (oi := { dst := some 227, op := Go.Op.move (Go.Operand.tmp 5), type := 24, pos := "laws.go:1456", after := #[{ on := 26, ground := Go.Ground.guard }], guard := some (26, false) }) (v := ?_) rfl (by kernel_rfl) (by kernel_rfl) (by kernel_rfl) (fun _ _ _ h => h.no (by intro q; cases q)) (Or.inl ⟨by rfl, ?_⟩) (by assumption) ?_
              rotate_left
              · (intro w hSw; (try dsimp only at hSw); go_simp); (try with_reducible rfl)
              try simp only [Act.put, List.setIfInBounds_toArray, List.set_cons_zero, List.set_cons_succ]
              refine wpAnyH_take (i := 28) (oi := { dst := some 228, op := Go.Op.move (Go.Operand.tmp 29), type := 3, pos := "laws.go:1456", after := #[{ on := 26, ground := Go.Ground.guard }], guard := some (26, false) }) (v := ?_) rfl (by kernel_rfl) (by kernel_rfl) (by kernel_rfl) (fun _ _ _ h => h.no (by intro q; cases q)) (Or.inl ⟨by rfl, ?_⟩) (by assumption) ?_
              rotate_left
              · (intro w hSw; (try dsimp only at hSw); go_simp); (try with_reducible rfl)
              try simp only [Act.put, List.setIfInBounds_toArray, List.set_cons_zero, List.set_cons_succ]
              refine wpAnyH_take (i := 29) (oi := { dst := some 229, op := Go.Op.indexAddr 24 (Go.Operand.tmp 227) (Go.Operand.tmp 228), type := 0, pos := "laws.go:1456", after := #[{ on := 27, ground := Go.Ground.data }, { on := 28, ground := Go.Ground.data }, { on := 26, ground := Go.Ground.guard }], guard := some (26, false) }) (v := ?_) rfl (by kernel_rfl) (by kernel_rfl) (by kernel_rfl) (fun _ _ _ h => h.no (by intro q; cases q)) (Or.inl ⟨by rfl, ?_⟩) (by assumption) ?_
              rotate_left
              · (intro w hSw; (try dsimp only at hSw); go_simp); (try with_reducible rfl)
              try simp only [Act.put, List.setIfInBounds_toArray, List.set_cons_zero, List.set_cons_succ]
              refine wpAnyH_take (i := 30) (oi := { dst := some 230, op := Go.Op.load 2 (Go.Operand.tmp 229), type := 2, pos := "laws.go:1456", after := #[{ on := 29, ground := Go.Ground.data }, { on := 26, ground := Go.Ground.guard }], guard := some (26, false) }) (v := ?_) rfl (by kernel_rfl) (by kernel_rfl) (by kernel_rfl) (fun _ _ _ h => h.no (by intro q; cases q)) (Or.inl ⟨by rfl, ?_⟩) (by assumption) ?_
              rotate_left
              · (intro w hSw; (try dsimp only at hSw); go_simp); (try with_reducible rfl)
              try simp only [Act.put, List.setIfInBounds_toArray, List.set_cons_zero, List.set_cons_succ]
              refine wpAnyH_take (i := 31) (oi := { dst := some 231, op := Go.Op.move (Go.Operand.tmp 9), type := 24, pos := "laws.go:1456", after := #[{ on := 26, ground := Go.Ground.guard }], guard := some (26, false) }) (v := ?_) rfl (by kernel_rfl) (by kernel_rfl) (by kernel_rfl) (fun _ _ _ h => h.no (by intro q; cases q)) (Or.inl ⟨by rfl, ?_⟩) (by assumption) ?_
              rotate_left
              · (intro w hSw; (try dsimp only at hSw); go_simp); (try with_reducible rfl)
              try simp only [Act.put, List.setIfInBounds_toArray, List.set_cons_zero, List.set_cons_succ]
              refine wpAnyH_take (i := 32) (oi := { dst := some 232, op := Go.Op.move (Go.Operand.tmp 29), type := 3, pos := "laws.go:1456", after := #[{ on := 26, ground := Go.Ground.guard }], guard := some (26, false) }) (v := ?_) rfl (by kernel_rfl) (by kernel_rfl) (by kernel_rfl) (fun _ _ _ h => h.no (by intro q; cases q)) (Or.inl ⟨by rfl, ?_⟩) (by assumption) ?_
              rotate_left
              · (intro w hSw; (try dsimp only at hSw); go_simp); (try with_reducible rfl)
              try simp only [Act.put, List.setIfInBounds_toArray, List.set_cons_zero, List.set_cons_succ]
              refine wpAnyH_take (i := 33) (oi := { dst := some 233, op := Go.Op.indexAddr 24 (Go.Operand.tmp 231) (Go.Operand.tmp 232), type := 0, pos := "laws.go:1456", after := #[{ on := 31, ground := Go.Ground.data }, { on := 32, ground := Go.Ground.data }, { on := 26, ground := Go.Ground.guard }], guard := some (26, false) }) (v := ?_) rfl (by kernel_rfl) (by kernel_rfl) (by kernel_rfl) (fun _ _ _ h => h.no (by intro q; cases q)) (Or.inl ⟨by rfl, ?_⟩) (by assumption) ?_
              rotate_left
              · (intro w hSw; (try dsimp only at hSw); go_simp); (try with_reducible rfl)
              try simp only [Act.put, List.setIfInBounds_toArray, List.set_cons_zero, List.set_cons_succ]
              refine wpAnyH_take (i := 34) (oi := { dst := some 234, op := Go.Op.load 2 (Go.Operand.tmp 233), type := 2, pos := "laws.go:1456", after := #[{ on := 33, ground := Go.Ground.data }, { on := 26, ground := Go.Ground.guard }], guard := some (26, false) }) (v := ?_) rfl (by kernel_rfl) (by kernel_rfl) (by kernel_rfl) (fun _ _ _ h => h.no (by intro q; cases q)) (Or.inl ⟨by rfl, ?_⟩) (by assumption) ?_
              rotate_left
              · (intro w hSw; (try dsimp only at hSw); go_simp); (try with_reducible rfl)
              try simp only [Act.put, List.setIfInBounds_toArray, List.set_cons_zero, List.set_cons_succ]
              refine wpAnyH_take (i := 35) (oi := { dst := some 235, op := Go.Op.binOp Go.BinOp.mul 2 (Go.Operand.tmp 230) (Go.Operand.tmp 234) 2, type := 2, pos := "laws.go:1456", after := #[{ on := 30, ground := Go.Ground.data }, { on := 34, ground := Go.Ground.data }, { on := 26, ground := Go.Ground.guard }], guard := some (26, false) }) (v := ?_) rfl (by kernel_rfl) (by kernel_rfl) (by kernel_rfl) (fun _ _ _ h => h.no (by intro q; cases q)) (Or.inl ⟨by rfl, ?_⟩) (by assumption) ?_
              rotate_left
              · (intro w hSw; (try dsimp only at hSw); go_simp); (try with_reducible rfl)
              try simp only [Act.put, List.setIfInBounds_toArray, List.set_cons_zero, List.set_cons_succ]
              refine wpAnyH_take (i := 36) (oi := { dst := some 236, op := Go.Op.move (Go.Operand.tmp 26), type := 2, pos := "laws.go:1456", after := #[{ on := 26, ground := Go.Ground.guard }], guard := some (26, false) }) (v := ?_) rfl (by kernel_rfl) (by kernel_rfl) (by kernel_rfl) (fun _ _ _ h => h.no (by intro q; cases q)) (Or.inl ⟨by rfl, ?_⟩) (by assumption) ?_
              rotate_left
              · (intro w hSw; (try dsimp only at hSw); go_simp); (try with_reducible rfl)
              try simp only [Act.put, List.setIfInBounds_toArray, List.set_cons_zero, List.set_cons_succ]
              refine wpAnyH_take (i := 37) (oi := { dst := some 237, op := Go.Op.binOp Go.BinOp.lss 2 (Go.Operand.tmp 235) (Go.Operand.tmp 236) 2, type := 4, pos := "laws.go:1456", after := #[{ on := 35, ground := Go.Ground.data }, { on := 36, ground := Go.Ground.data }, { on := 26, ground := Go.Ground.guard }], guard := some (26, false) }) (v := ?_) rfl (by kernel_rfl) (by kernel_rfl) (by kernel_rfl) (fun _ _ _ h => h.no (by intro q; cases q)) (Or.inl ⟨by rfl, ?_⟩) (by assumption) ?_
              rotate_left
              · (intro w hSw; (try dsimp only at hSw); go_simp); (try with_reducible rfl)
              try simp only [Act.put, List.setIfInBounds_toArray, List.set_cons_zero, List.set_cons_succ]
              refine wpAnyH_take (i := 38) (oi := { dst := some 238, op := Go.Op.move (Go.Operand.tmp 237), type := 4, pos := "laws.go:1456", after := #[{ on := 37, ground := Go.Ground.data }, { on := 26, ground := Go.Ground.chain }, { on := 26, ground := Go.Ground.guard }], guard := some (26, false) }) (v := ?_) rfl (by kernel_rfl) (by kernel_rfl) (by kernel_rfl) (fun _ _ _ h => h.no (by intro q; cases q)) (Or.inl ⟨by rfl, ?_⟩) (by assumption) ?_
              rotate_left
              · (intro w hSw; (try dsimp only at hSw); go_simp); (try with_reducible rfl)
              try simp only [Act.put, List.setIfInBounds_toArray, List.set_cons_zero, List.set_cons_succ]
              refine wpAnyH_take (i := 39) (oi := { dst := some 239, op := Go.Op.move (Go.Operand.tmp 5), type := 24, pos := "laws.go:1456", after := #[{ on := 38, ground := Go.Ground.guard }], guard := some (38, true) }) (v := undef) rfl (by kernel_rfl) (by kernel_rfl) (by kernel_rfl) (fun _ _ _ h => h.no (by intro q; cases q)) (Or.inr ⟨by rfl, rfl⟩) (by assumption) ?_
              try simp only [Act.put, List.setIfInBounds_toArray, List.set_cons_zero, List.set_cons_succ]
              refine wpAnyH_take (i := 40) (oi := { dst := some 240, op := Go.Op.move (Go.Operand.tmp 29), type := 3, pos := "laws.go:1456", after := #[{ on := 38, ground := Go.Ground.guard }], guard := some (38, true) }) (v := undef) rfl (by kernel_rfl) (by kernel_rfl) (by kernel_rfl) (fun _ _ _ h => h.no (by intro q; cases q)) (Or.inr ⟨by rfl, rfl⟩) (by assumption) ?_
              try simp only [Act.put, List.setIfInBounds_toArray, List.set_cons_zero, List.set_cons_succ]
              refine wpAnyH_take (i := 41) (oi := { dst := some 241, op := Go.Op.indexAddr 24 (Go.Operand.tmp 239) (Go.Operand.tmp 240), type := 0, pos := "laws.go:1456", after := #[{ on := 39, ground := Go.Ground.data }, { on := 40, ground := Go.Ground.data }, { on := 38, ground := Go.Ground.guard }], guard := some (38, true) }) (v := undef) rfl (by kernel_rfl) (by kernel_rfl) (by kernel_rfl) (fun _ _ _ h => h.no (by intro q; cases q)) (Or.inr ⟨by rfl, rfl⟩) (by assumption) ?_
              try simp only [Act.put, List.setIfInBounds_toArray, List.set_cons_zero, List.set_cons_succ]
              refine wpAnyH_take (i := 42) (oi := { dst := some 242, op := Go.Op.load 2 (Go.Operand.tmp 241), type := 2, pos := "laws.go:1456", after := #[{ on := 41, ground := Go.Ground.data }, { on := 38, ground := Go.Ground.guard }], guard := some (38, true) }) (v := undef) rfl (by kernel_rfl) (by kernel_rfl) (by kernel_rfl) (fun _ _ _ h => h.no (by intro q; cases q)) (Or.inr ⟨by rfl, rfl⟩) (by assumption) ?_
              try simp only [Act.put, List.setIfInBounds_toArray, List.set_cons_zero, List.set_cons_succ]
              refine wpAnyH_take (i := 43) (oi := { dst := some 243, op := Go.Op.binOp Go.BinOp.gtr 2 (Go.Operand.tmp 242) (Go.Operand.const (Go.Value.int Go.IntKind.i64 0)) 2, type := 4, pos := "laws.go:1456", after := #[{ on := 42, ground := Go.Ground.data }, { on := 38, ground := Go.Ground.guard }], guard := some (38, true) }) (v := undef) rfl (by kernel_rfl) (by kernel_rfl) (by kernel_rfl) (fun _ _ _ h => h.no (by intro q; cases q)) (Or.inr ⟨by rfl, rfl⟩) (by assumption) ?_
              try simp only [Act.put, List.setIfInBounds_toArray, List.set_cons_zero, List.set_cons_succ]
              refine wpAnyH_take (i := 44) (oi := { dst := some 244, op := Go.Op.pick (Go.Operand.tmp 238) (Go.Operand.tmp 243) (Go.Operand.const (Go.Value.bool false)), type := 4, pos := "laws.go:1456", after := #[{ on := 38, ground := Go.Ground.data }, { on := 43, ground := Go.Ground.data }, { on := 26, ground := Go.Ground.guard }], guard := some (26, false) }) (v := ?_) rfl (by kernel_rfl) (by kernel_rfl) (by kernel_rfl) (fun _ _ _ h => h.no (by intro q; cases q)) (Or.inl ⟨by rfl, ?_⟩) (by assumption) ?_
              rotate_left
              · (intro w hSw; (try dsimp only at hSw); go_simp); (try with_reducible rfl)
              try simp only [Act.put, List.setIfInBounds_toArray, List.set_cons_zero, List.set_cons_succ]
              refine wpAnyH_take (i := 45) (oi := { dst := some 245, op := Go.Op.pick (Go.Operand.tmp 226) (Go.Operand.const (Go.Value.bool true)) (Go.Operand.tmp 244), type := 4, pos := "laws.go:1456", after := #[{ on := 26, ground := Go.Ground.data }, { on := 44, ground := Go.Ground.data }], guard := none }) (v := ?_) rfl (by kernel_rfl) (by kernel_rfl) (by kernel_rfl) (fun _ _ _ h => h.no (by intro q; cases q)) (Or.inl ⟨by rfl, ?_⟩) (by assumption) ?_
              rotate_left
              · (intro w hSw; (try dsimp only at hSw); go_simp); (try with_reducible rfl)
              try simp only [Act.put, List.setIfInBounds_toArray, List.set_cons_zero, List.set_cons_succ]
              refine wpAnyH_done (by kernel_rfl) ⟨rfl, ?_⟩ _
              go_wp2
              go_roundw
              case rel => exact ⟨k + 1, by omega, by go_num, by rw [← HST.out]; first | done | go_num, by first | exact Below.drew hb | exact hb⟩
              case measure => simp [intOf]; omega
          · obtain rfl : k = c := by omega
            clear HL HR HX HSM HLE HCL HZ
            rw [HEND.out]
            have nn : ((L.length : Int) == (L.length : Int)) = true := by simp
            have BF := BB.trans (hb.mono BB.size)
            go_wp2
            go_ret
            exact ⟨by first | rfl | simp, BF⟩
end Go.Proofs.Ytlpeigeadjojnaa
