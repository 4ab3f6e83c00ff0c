/- PairUp: the program's map of throws by what they become. No conditions. -/
import Derived.Test.YtdgmmaghmdbnjaaPairM
import Derived.Test.YtdgmmaghmdbnjaaSynM
import Derived.Carry
import Derived.Deep.RegionHeld3
namespace Go.Proofs.Ytdgmmaghmdbnjaa
open Go.RowKit
open Go.Maps (Keyed)
set_option linter.unusedSimpArgs false
set_option linter.unusedVariables false

theorem belQ_al {w a : World} (h : Below w.heap.size w a) (o : Obj) : Below w.heap.size w (a.alloc o) := h.alloc h.size o
theorem ownsMap_below {W W' : World} {b n : Nat} {D : DU} (h : W.ownsMap Try.prog 112 thrR b n D) (hb : Below W.heap.size W W') : W'.ownsMap Try.prog 112 thrR b n D :=
  h.kept (row := none) ⟨hb.os, hb.tape, hb.output, hb.size, fun k hk _ => hb.block k hk⟩ (by simp)
theorem map_upd {W : World} {b n : Nat} {D : DU} (h : W.ownsMap Try.prog 112 thrR b n D) (hn : n ≤ 1000) (g v : Int) (h0 : 0 ≤ g) (h1 : g ≤ 1) (h2 : -100 ≤ v) (h3 : v ≤ 100) (t : Thr) :
    ∃ w2, (Instr.mapUpdate 108 (.map (some b)) (.agg #[.int .i64 g, .int .i64 v]) (.agg #[.int .i64 t.1, .bool t.2])).run Try.prog W = .ok () w2 ∧ w2.ownsMap Try.prog 112 thrR b (n + 1) (D.put (klit g v) (thrD t)) ∧ W.grownBy w2 (some b) :=
  h.update pairKeyed Try.underlying108 (by unfold maxLen; omega) (klit_key h0 h1 h2 h3) (thrR_mk t)

set_option maxRecDepth 100000 in
theorem index_two0 (u : Int) (w : World) : (Instr.index 154 (.agg #[.int .i64 u, .bool false, .int .i64 u, .bool true]) (.int .i64 0)).run Try.prog w = .ok (.agg #[.int .i64 u, .bool false]) w := by
  show Sem.run _ _ _ = _
  kernel_rfl
set_option maxRecDepth 100000 in
theorem index_two1 (u : Int) (w : World) : (Instr.index 154 (.agg #[.int .i64 u, .bool false, .int .i64 u, .bool true]) (.int .i64 1)).run Try.prog w = .ok (.agg #[.int .i64 u, .bool true]) w := by
  show Sem.run _ _ _ = _
  kernel_rfl

set_option maxRecDepth 10000 in
set_option maxHeartbeats 8000000 in
theorem unslid_any (w : World) :
    Calls Try.prog 96 #[] w fun e w' => ∃ (D : DU) (n : Nat), e = .returned (.map (some w.heap.size)) ∧ w'.ownsMap Try.prog 112 thrR w.heap.size n D ∧ SlidMap D 30 ∧ Below w.heap.size w w' := by
  have hmm := @run_makeMap Try.prog
  have own0 := World.ownsMap_made w Try.prog 112 thrR
  have b0 : Below w.heap.size w (w.alloc (.map #[] 0)) := belQ_al (Below.refl _ _) _
  go_enter Try.func96, Try.ntmps96
  go_wp2
  go_loopw [6] (fun i wr => ∃ (u : Nat) (D : DU) (nn : Nat), u ≤ 15 ∧ i = .int .i64 (u : Int) ∧ wr.ownsMap Try.prog 112 thrR w.heap.size nn D ∧ nn ≤ 4 * u ∧ SlidMap D (2 * u) ∧ Below w.heap.size w wr) (fun i _ => 15 - (intOf i).toNat)
  case atStart => exact ⟨0, _, 0, by omega, rfl, own0, by omega, SlidMap.zero, b0⟩
  case round =>
    clear own0 b0
    obtain ⟨u, D, nn, hu, rfl, hown, hnn, hS, hb⟩ := hrel
    by_cases hlt : u < 15
    · have hbz := hb.size
      have hix0 := fun wx => index_two0 (u : Int) wx
      have hix1 := fun wx => index_two1 (u : Int) wx
      have hbo := hown.lt
      go_wp2
      refine wp_loop_rounds 3 ?_
      cases hk0 : okT ((u : Int), false) with
      | false =>
        cases hk1 : okT ((u : Int), true) with
        | false =>
          have HFIN : SlidMap D (2 * (u + 1)) := by
            have e0 : thrNo (2 * u) = ((u : Int), false) := by simp [thrNo]
            have e1 : thrNo (2 * u + 1) = ((u : Int), true) := by simp [thrNo]; omega
            have s1 := hS.skip (by rw [e0]; exact hk0)
            exact s1.skip (by rw [e1]; exact hk1)
          clear hS
          rw [rounds_succ]
          have hA0 := belQ_al (Below.refl wr.heap.size wr) (.cells #[.int .i64 (u : Int), .bool false] 100)
          have HT0 := isThrow_any (u : Int) false (wr.alloc (.cells #[.int .i64 (u : Int), .bool false] 100))
          rw [hk0] at HT0
          go_wp2_with fail
          refine HT0.mono ?_
          rintro e w01 ⟨rfl, bq0⟩
          clear HT0
          have ck00 : w01.cell? ⟨wr.heap.size, 0, none⟩ = some (.int .i64 (u : Int)) := (bq0.cell (p := ⟨wr.heap.size, 0, none⟩) (by simp)).trans (by simp)
          have ck01 : w01.cell? ⟨wr.heap.size, 1, none⟩ = some (.bool false) := (bq0.cell (p := ⟨wr.heap.size, 1, none⟩) (by simp)).trans (by simp)
          have hd0 : Below wr.heap.size wr w01 := hA0.trans (bq0.mono hA0.size)
          have hlo0 := hown.lt
          have own01 := ownsMap_below hown hd0
          have hb01 := hb.trans (hd0.mono hb.size)
          have hz01 := hb.size
          clear hA0 bq0 hd0
          go_wp2
          rw [rounds_succ]
          have hA1 := belQ_al (Below.refl w01.heap.size w01) (.cells #[.int .i64 (u : Int), .bool true] 100)
          have HT1 := isThrow_any (u : Int) true (w01.alloc (.cells #[.int .i64 (u : Int), .bool true] 100))
          rw [hk1] at HT1
          go_wp2_with fail
          refine HT1.mono ?_
          rintro e w11 ⟨rfl, bq1⟩
          clear HT1
          have ck10 : w11.cell? ⟨w01.heap.size, 0, none⟩ = some (.int .i64 (u : Int)) := (bq1.cell (p := ⟨w01.heap.size, 0, none⟩) (by simp)).trans (by simp)
          have ck11 : w11.cell? ⟨w01.heap.size, 1, none⟩ = some (.bool true) := (bq1.cell (p := ⟨w01.heap.size, 1, none⟩) (by simp)).trans (by simp)
          have hd1 : Below w01.heap.size w01 w11 := hA1.trans (bq1.mono hA1.size)
          have hlo1 := own01.lt
          have own11 := ownsMap_below own01 hd1
          have hb11 := hb01.trans (hd1.mono hb01.size)
          have hz11 := hb01.size
          clear hA1 bq1 hd1
          go_wp2
          rw [rounds_succ]
          go_wp2
          go_roundw
          case rel => exact ⟨u + 1, D, nn, by omega, by go_num, own11, by omega, HFIN, hb11⟩
          case measure => simp [intOf]; omega
        | true =>
          exfalso
          have a0 := okT_iff.1 hk1
          have : okT ((u : Int), false) = true := okT_iff.2 ⟨a0.1, a0.2.1, .inr rfl⟩
          rw [hk0] at this
          cases this
      | true =>
        have hu14 := okT_num hk0
        simp only at hu14
        cases hk1 : okT ((u : Int), true) with
        | false =>
          have HFIN : SlidMap ((D.put (klit 0 (slid ((u : Int), false) 0)) (thrD ((u : Int), false))).put (klit 1 (slid ((u : Int), false) 1)) (thrD ((u : Int), false))) (2 * (u + 1)) := by
            have e0 : thrNo (2 * u) = ((u : Int), false) := by simp [thrNo]
            have e1 : thrNo (2 * u + 1) = ((u : Int), true) := by simp [thrNo]; omega
            have s1 := hS.add (by rw [e0]; exact hk0)
            rw [e0] at s1
            exact s1.skip (by rw [e1]; exact hk1)
          clear hS
          rw [rounds_succ]
          have hA0 := belQ_al (Below.refl wr.heap.size wr) (.cells #[.int .i64 (u : Int), .bool false] 100)
          have HT0 := isThrow_any (u : Int) false (wr.alloc (.cells #[.int .i64 (u : Int), .bool false] 100))
          rw [hk0] at HT0
          go_wp2_with fail
          refine HT0.mono ?_
          rintro e w01 ⟨rfl, bq0⟩
          clear HT0
          have ck00 : w01.cell? ⟨wr.heap.size, 0, none⟩ = some (.int .i64 (u : Int)) := (bq0.cell (p := ⟨wr.heap.size, 0, none⟩) (by simp)).trans (by simp)
          have ck01 : w01.cell? ⟨wr.heap.size, 1, none⟩ = some (.bool false) := (bq0.cell (p := ⟨wr.heap.size, 1, none⟩) (by simp)).trans (by simp)
          have hd0 : Below wr.heap.size wr w01 := hA0.trans (bq0.mono hA0.size)
          have hlo0 := hown.lt
          have own01 := ownsMap_below hown hd0
          have hb01 := hb.trans (hd0.mono hb.size)
          have hz01 := hb.size
          clear hA0 bq0 hd0
          have HS00 := Lib.hid (fun (W : World) (hW : Below w01.heap.size w01 W) => show Calls Try.prog 88 #[.agg #[.int .i64 (u : Int), .bool false], .int .i64 0] W fun e w' => e = .returned (.int .i64 (slid ((u : Int), false) 0)) ∧ Below w01.heap.size w01 w' ∧ (w'.cell? ⟨wr.heap.size, 0, none⟩ = some (.int .i64 (u : Int)) ∧ w'.cell? ⟨wr.heap.size, 1, none⟩ = some (.bool false)) ∧ ∃ w2, (Instr.mapUpdate 108 (.map (some w.heap.size)) (.agg #[.int .i64 0, .int .i64 (slid ((u : Int), false) 0)]) (.agg #[.int .i64 (u : Int), .bool false])).run Try.prog w' = .ok () w2 ∧ w2.ownsMap Try.prog 112 thrR w.heap.size (nn + 1) (D.put (klit 0 (slid ((u : Int), false) 0)) (thrD ((u : Int), false))) ∧ Below w.heap.size w w2 ∧ w2.cell? ⟨wr.heap.size, 0, none⟩ = some (.int .i64 (u : Int)) ∧ w2.cell? ⟨wr.heap.size, 1, none⟩ = some (.bool false) from
            (slidI_any (u : Int) false 0 0 W rfl (by omega) (by omega)).mono fun e w' ⟨h1, h2⟩ => by
              have b := hW.trans (h2.mono hW.size)
              have q0 := (b.cell (p := ⟨wr.heap.size, 0, none⟩) (cell_block ck00)).trans ck00
              have q1 := (b.cell (p := ⟨wr.heap.size, 1, none⟩) (cell_block ck01)).trans ck01
              obtain ⟨w2, r1, r2, r3⟩ := map_upd (ownsMap_below own01 b) (by omega) 0 (slid ((u : Int), false) 0) (by omega) (by omega) (slid_bound hk0 0).1 (slid_bound hk0 0).2 ((u : Int), false)
              have hb' := hb01.trans (b.mono hb01.size)
              exact ⟨h1, b, ⟨q0, q1⟩, w2, r1, r2, hb'.grown r3 hb'.size (by intro q hq; cases hq; exact Nat.le_refl _), (r3.cell q0 (by simp; omega)).trans rfl, (r3.cell q1 (by simp; omega)).trans rfl⟩)
          go_wp2
          go_region_held3 (fun W => W.cell? ⟨wr.heap.size, 0, none⟩ = some (.int .i64 (u : Int)) ∧ W.cell? ⟨wr.heap.size, 1, none⟩ = some (.bool false)) (first | exact ⟨by assumption, by assumption⟩) (first | (go_at_call 88; (with_reducible refine (HS00.out _ ?_).mono ?_); (first | assumption | exact Below.refl _ _ | exact Below.drew (by assumption) | exact Below.drew (Below.refl _ _)); rintro e wa00 ⟨rfl, hba, ⟨qa0, qa1⟩, w02, hup00, ownw02, hbw02, cu000, cu001⟩))
          clear HS00 hup00 hba qa0 qa1 ck00 ck01 own01 hb01
          have HS01 := Lib.hid (fun (W : World) (hW : Below w02.heap.size w02 W) => show Calls Try.prog 88 #[.agg #[.int .i64 (u : Int), .bool false], .int .i64 1] W fun e w' => e = .returned (.int .i64 (slid ((u : Int), false) 1)) ∧ Below w02.heap.size w02 w' ∧ (w'.cell? ⟨wr.heap.size, 0, none⟩ = some (.int .i64 (u : Int)) ∧ w'.cell? ⟨wr.heap.size, 1, none⟩ = some (.bool false)) ∧ ∃ w2, (Instr.mapUpdate 108 (.map (some w.heap.size)) (.agg #[.int .i64 1, .int .i64 (slid ((u : Int), false) 1)]) (.agg #[.int .i64 (u : Int), .bool false])).run Try.prog w' = .ok () w2 ∧ w2.ownsMap Try.prog 112 thrR w.heap.size ((nn + 1) + 1) ((D.put (klit 0 (slid ((u : Int), false) 0)) (thrD ((u : Int), false))).put (klit 1 (slid ((u : Int), false) 1)) (thrD ((u : Int), false))) ∧ Below w.heap.size w w2 ∧ w2.cell? ⟨wr.heap.size, 0, none⟩ = some (.int .i64 (u : Int)) ∧ w2.cell? ⟨wr.heap.size, 1, none⟩ = some (.bool false) from
            (slidI_any (u : Int) false 1 1 W rfl (by omega) (by omega)).mono fun e w' ⟨h1, h2⟩ => by
              have b := hW.trans (h2.mono hW.size)
              have q0 := (b.cell (p := ⟨wr.heap.size, 0, none⟩) (cell_block cu000)).trans cu000
              have q1 := (b.cell (p := ⟨wr.heap.size, 1, none⟩) (cell_block cu001)).trans cu001
              obtain ⟨w2, r1, r2, r3⟩ := map_upd (ownsMap_below ownw02 b) (by omega) 1 (slid ((u : Int), false) 1) (by omega) (by omega) (slid_bound hk0 1).1 (slid_bound hk0 1).2 ((u : Int), false)
              have hb' := hbw02.trans (b.mono hbw02.size)
              exact ⟨h1, b, ⟨q0, q1⟩, w2, r1, r2, hb'.grown r3 hb'.size (by intro q hq; cases hq; exact Nat.le_refl _), (r3.cell q0 (by simp; omega)).trans rfl, (r3.cell q1 (by simp; omega)).trans rfl⟩)
          go_wp2
          go_region_held3 (fun W => W.cell? ⟨wr.heap.size, 0, none⟩ = some (.int .i64 (u : Int)) ∧ W.cell? ⟨wr.heap.size, 1, none⟩ = some (.bool false)) (first | exact ⟨by assumption, by assumption⟩) (first | (go_at_call 88; (with_reducible refine (HS01.out _ ?_).mono ?_); (first | assumption | exact Below.refl _ _ | exact Below.drew (by assumption) | exact Below.drew (Below.refl _ _)); rintro e wa01 ⟨rfl, hba, ⟨qa0, qa1⟩, w03, hup01, ownw03, hbw03, cu010, cu011⟩))
          clear HS01 hup01 hba qa0 qa1 cu000 cu001 ownw02 hbw02
          go_wp2
          rw [rounds_succ]
          have hA1 := belQ_al (Below.refl w03.heap.size w03) (.cells #[.int .i64 (u : Int), .bool true] 100)
          have HT1 := isThrow_any (u : Int) true (w03.alloc (.cells #[.int .i64 (u : Int), .bool true] 100))
          rw [hk1] at HT1
          go_wp2_with fail
          refine HT1.mono ?_
          rintro e w11 ⟨rfl, bq1⟩
          clear HT1
          have ck10 : w11.cell? ⟨w03.heap.size, 0, none⟩ = some (.int .i64 (u : Int)) := (bq1.cell (p := ⟨w03.heap.size, 0, none⟩) (by simp)).trans (by simp)
          have ck11 : w11.cell? ⟨w03.heap.size, 1, none⟩ = some (.bool true) := (bq1.cell (p := ⟨w03.heap.size, 1, none⟩) (by simp)).trans (by simp)
          have hd1 : Below w03.heap.size w03 w11 := hA1.trans (bq1.mono hA1.size)
          have hlo1 := ownw03.lt
          have own11 := ownsMap_below ownw03 hd1
          have hb11 := hbw03.trans (hd1.mono hbw03.size)
          have hz11 := hbw03.size
          clear hA1 bq1 hd1
          go_wp2
          rw [rounds_succ]
          go_wp2
          go_roundw
          case rel => exact ⟨u + 1, ((D.put (klit 0 (slid ((u : Int), false) 0)) (thrD ((u : Int), false))).put (klit 1 (slid ((u : Int), false) 1)) (thrD ((u : Int), false))), ((nn + 1) + 1), by omega, by go_num, own11, by omega, HFIN, hb11⟩
          case measure => simp [intOf]; omega
        | true =>
          have HFIN : SlidMap ((((D.put (klit 0 (slid ((u : Int), false) 0)) (thrD ((u : Int), false))).put (klit 1 (slid ((u : Int), false) 1)) (thrD ((u : Int), false))).put (klit 0 (slid ((u : Int), true) 0)) (thrD ((u : Int), true))).put (klit 1 (slid ((u : Int), true) 1)) (thrD ((u : Int), true))) (2 * (u + 1)) := by
            have e0 : thrNo (2 * u) = ((u : Int), false) := by simp [thrNo]
            have e1 : thrNo (2 * u + 1) = ((u : Int), true) := by simp [thrNo]; omega
            have s1 := hS.add (by rw [e0]; exact hk0)
            rw [e0] at s1
            have s2 := s1.add (by rw [e1]; exact hk1)
            rw [e1] at s2
            exact s2
          clear hS
          rw [rounds_succ]
          have hA0 := belQ_al (Below.refl wr.heap.size wr) (.cells #[.int .i64 (u : Int), .bool false] 100)
          have HT0 := isThrow_any (u : Int) false (wr.alloc (.cells #[.int .i64 (u : Int), .bool false] 100))
          rw [hk0] at HT0
          go_wp2_with fail
          refine HT0.mono ?_
          rintro e w01 ⟨rfl, bq0⟩
          clear HT0
          have ck00 : w01.cell? ⟨wr.heap.size, 0, none⟩ = some (.int .i64 (u : Int)) := (bq0.cell (p := ⟨wr.heap.size, 0, none⟩) (by simp)).trans (by simp)
          have ck01 : w01.cell? ⟨wr.heap.size, 1, none⟩ = some (.bool false) := (bq0.cell (p := ⟨wr.heap.size, 1, none⟩) (by simp)).trans (by simp)
          have hd0 : Below wr.heap.size wr w01 := hA0.trans (bq0.mono hA0.size)
          have hlo0 := hown.lt
          have own01 := ownsMap_below hown hd0
          have hb01 := hb.trans (hd0.mono hb.size)
          have hz01 := hb.size
          clear hA0 bq0 hd0
          have HS00 := Lib.hid (fun (W : World) (hW : Below w01.heap.size w01 W) => show Calls Try.prog 88 #[.agg #[.int .i64 (u : Int), .bool false], .int .i64 0] W fun e w' => e = .returned (.int .i64 (slid ((u : Int), false) 0)) ∧ Below w01.heap.size w01 w' ∧ (w'.cell? ⟨wr.heap.size, 0, none⟩ = some (.int .i64 (u : Int)) ∧ w'.cell? ⟨wr.heap.size, 1, none⟩ = some (.bool false)) ∧ ∃ w2, (Instr.mapUpdate 108 (.map (some w.heap.size)) (.agg #[.int .i64 0, .int .i64 (slid ((u : Int), false) 0)]) (.agg #[.int .i64 (u : Int), .bool false])).run Try.prog w' = .ok () w2 ∧ w2.ownsMap Try.prog 112 thrR w.heap.size (nn + 1) (D.put (klit 0 (slid ((u : Int), false) 0)) (thrD ((u : Int), false))) ∧ Below w.heap.size w w2 ∧ w2.cell? ⟨wr.heap.size, 0, none⟩ = some (.int .i64 (u : Int)) ∧ w2.cell? ⟨wr.heap.size, 1, none⟩ = some (.bool false) from
            (slidI_any (u : Int) false 0 0 W rfl (by omega) (by omega)).mono fun e w' ⟨h1, h2⟩ => by
              have b := hW.trans (h2.mono hW.size)
              have q0 := (b.cell (p := ⟨wr.heap.size, 0, none⟩) (cell_block ck00)).trans ck00
              have q1 := (b.cell (p := ⟨wr.heap.size, 1, none⟩) (cell_block ck01)).trans ck01
              obtain ⟨w2, r1, r2, r3⟩ := map_upd (ownsMap_below own01 b) (by omega) 0 (slid ((u : Int), false) 0) (by omega) (by omega) (slid_bound hk0 0).1 (slid_bound hk0 0).2 ((u : Int), false)
              have hb' := hb01.trans (b.mono hb01.size)
              exact ⟨h1, b, ⟨q0, q1⟩, w2, r1, r2, hb'.grown r3 hb'.size (by intro q hq; cases hq; exact Nat.le_refl _), (r3.cell q0 (by simp; omega)).trans rfl, (r3.cell q1 (by simp; omega)).trans rfl⟩)
          go_wp2
          go_region_held3 (fun W => W.cell? ⟨wr.heap.size, 0, none⟩ = some (.int .i64 (u : Int)) ∧ W.cell? ⟨wr.heap.size, 1, none⟩ = some (.bool false)) (first | exact ⟨by assumption, by assumption⟩) (first | (go_at_call 88; (with_reducible refine (HS00.out _ ?_).mono ?_); (first | assumption | exact Below.refl _ _ | exact Below.drew (by assumption) | exact Below.drew (Below.refl _ _)); rintro e wa00 ⟨rfl, hba, ⟨qa0, qa1⟩, w02, hup00, ownw02, hbw02, cu000, cu001⟩))
          clear HS00 hup00 hba qa0 qa1 ck00 ck01 own01 hb01
          have HS01 := Lib.hid (fun (W : World) (hW : Below w02.heap.size w02 W) => show Calls Try.prog 88 #[.agg #[.int .i64 (u : Int), .bool false], .int .i64 1] W fun e w' => e = .returned (.int .i64 (slid ((u : Int), false) 1)) ∧ Below w02.heap.size w02 w' ∧ (w'.cell? ⟨wr.heap.size, 0, none⟩ = some (.int .i64 (u : Int)) ∧ w'.cell? ⟨wr.heap.size, 1, none⟩ = some (.bool false)) ∧ ∃ w2, (Instr.mapUpdate 108 (.map (some w.heap.size)) (.agg #[.int .i64 1, .int .i64 (slid ((u : Int), false) 1)]) (.agg #[.int .i64 (u : Int), .bool false])).run Try.prog w' = .ok () w2 ∧ w2.ownsMap Try.prog 112 thrR w.heap.size ((nn + 1) + 1) ((D.put (klit 0 (slid ((u : Int), false) 0)) (thrD ((u : Int), false))).put (klit 1 (slid ((u : Int), false) 1)) (thrD ((u : Int), false))) ∧ Below w.heap.size w w2 ∧ w2.cell? ⟨wr.heap.size, 0, none⟩ = some (.int .i64 (u : Int)) ∧ w2.cell? ⟨wr.heap.size, 1, none⟩ = some (.bool false) from
            (slidI_any (u : Int) false 1 1 W rfl (by omega) (by omega)).mono fun e w' ⟨h1, h2⟩ => by
              have b := hW.trans (h2.mono hW.size)
              have q0 := (b.cell (p := ⟨wr.heap.size, 0, none⟩) (cell_block cu000)).trans cu000
              have q1 := (b.cell (p := ⟨wr.heap.size, 1, none⟩) (cell_block cu001)).trans cu001
              obtain ⟨w2, r1, r2, r3⟩ := map_upd (ownsMap_below ownw02 b) (by omega) 1 (slid ((u : Int), false) 1) (by omega) (by omega) (slid_bound hk0 1).1 (slid_bound hk0 1).2 ((u : Int), false)
              have hb' := hbw02.trans (b.mono hbw02.size)
              exact ⟨h1, b, ⟨q0, q1⟩, w2, r1, r2, hb'.grown r3 hb'.size (by intro q hq; cases hq; exact Nat.le_refl _), (r3.cell q0 (by simp; omega)).trans rfl, (r3.cell q1 (by simp; omega)).trans rfl⟩)
          go_wp2
          go_region_held3 (fun W => W.cell? ⟨wr.heap.size, 0, none⟩ = some (.int .i64 (u : Int)) ∧ W.cell? ⟨wr.heap.size, 1, none⟩ = some (.bool false)) (first | exact ⟨by assumption, by assumption⟩) (first | (go_at_call 88; (with_reducible refine (HS01.out _ ?_).mono ?_); (first | assumption | exact Below.refl _ _ | exact Below.drew (by assumption) | exact Below.drew (Below.refl _ _)); rintro e wa01 ⟨rfl, hba, ⟨qa0, qa1⟩, w03, hup01, ownw03, hbw03, cu010, cu011⟩))
          clear HS01 hup01 hba qa0 qa1 cu000 cu001 ownw02 hbw02
          go_wp2
          rw [rounds_succ]
          have hA1 := belQ_al (Below.refl w03.heap.size w03) (.cells #[.int .i64 (u : Int), .bool true] 100)
          have HT1 := isThrow_any (u : Int) true (w03.alloc (.cells #[.int .i64 (u : Int), .bool true] 100))
          rw [hk1] at HT1
          go_wp2_with fail
          refine HT1.mono ?_
          rintro e w11 ⟨rfl, bq1⟩
          clear HT1
          have ck10 : w11.cell? ⟨w03.heap.size, 0, none⟩ = some (.int .i64 (u : Int)) := (bq1.cell (p := ⟨w03.heap.size, 0, none⟩) (by simp)).trans (by simp)
          have ck11 : w11.cell? ⟨w03.heap.size, 1, none⟩ = some (.bool true) := (bq1.cell (p := ⟨w03.heap.size, 1, none⟩) (by simp)).trans (by simp)
          have hd1 : Below w03.heap.size w03 w11 := hA1.trans (bq1.mono hA1.size)
          have hlo1 := ownw03.lt
          have own11 := ownsMap_below ownw03 hd1
          have hb11 := hbw03.trans (hd1.mono hbw03.size)
          have hz11 := hbw03.size
          clear hA1 bq1 hd1
          have HS10 := Lib.hid (fun (W : World) (hW : Below w11.heap.size w11 W) => show Calls Try.prog 88 #[.agg #[.int .i64 (u : Int), .bool true], .int .i64 0] W fun e w' => e = .returned (.int .i64 (slid ((u : Int), true) 0)) ∧ Below w11.heap.size w11 w' ∧ (w'.cell? ⟨w03.heap.size, 0, none⟩ = some (.int .i64 (u : Int)) ∧ w'.cell? ⟨w03.heap.size, 1, none⟩ = some (.bool true)) ∧ ∃ w2, (Instr.mapUpdate 108 (.map (some w.heap.size)) (.agg #[.int .i64 0, .int .i64 (slid ((u : Int), true) 0)]) (.agg #[.int .i64 (u : Int), .bool true])).run Try.prog w' = .ok () w2 ∧ w2.ownsMap Try.prog 112 thrR w.heap.size (((nn + 1) + 1) + 1) (((D.put (klit 0 (slid ((u : Int), false) 0)) (thrD ((u : Int), false))).put (klit 1 (slid ((u : Int), false) 1)) (thrD ((u : Int), false))).put (klit 0 (slid ((u : Int), true) 0)) (thrD ((u : Int), true))) ∧ Below w.heap.size w w2 ∧ w2.cell? ⟨w03.heap.size, 0, none⟩ = some (.int .i64 (u : Int)) ∧ w2.cell? ⟨w03.heap.size, 1, none⟩ = some (.bool true) from
            (slidI_any (u : Int) true 0 0 W rfl (by omega) (by omega)).mono fun e w' ⟨h1, h2⟩ => by
              have b := hW.trans (h2.mono hW.size)
              have q0 := (b.cell (p := ⟨w03.heap.size, 0, none⟩) (cell_block ck10)).trans ck10
              have q1 := (b.cell (p := ⟨w03.heap.size, 1, none⟩) (cell_block ck11)).trans ck11
              obtain ⟨w2, r1, r2, r3⟩ := map_upd (ownsMap_below own11 b) (by omega) 0 (slid ((u : Int), true) 0) (by omega) (by omega) (slid_bound hk1 0).1 (slid_bound hk1 0).2 ((u : Int), true)
              have hb' := hb11.trans (b.mono hb11.size)
              exact ⟨h1, b, ⟨q0, q1⟩, w2, r1, r2, hb'.grown r3 hb'.size (by intro q hq; cases hq; exact Nat.le_refl _), (r3.cell q0 (by simp; omega)).trans rfl, (r3.cell q1 (by simp; omega)).trans rfl⟩)
          go_wp2
          go_region_held3 (fun W => W.cell? ⟨w03.heap.size, 0, none⟩ = some (.int .i64 (u : Int)) ∧ W.cell? ⟨w03.heap.size, 1, none⟩ = some (.bool true)) (first | exact ⟨by assumption, by assumption⟩) (first | (go_at_call 88; (with_reducible refine (HS10.out _ ?_).mono ?_); (first | assumption | exact Below.refl _ _ | exact Below.drew (by assumption) | exact Below.drew (Below.refl _ _)); rintro e wa10 ⟨rfl, hba, ⟨qa0, qa1⟩, w12, hup10, ownw12, hbw12, cu100, cu101⟩))
          clear HS10 hup10 hba qa0 qa1 ck10 ck11 own11 hb11
          have HS11 := Lib.hid (fun (W : World) (hW : Below w12.heap.size w12 W) => show Calls Try.prog 88 #[.agg #[.int .i64 (u : Int), .bool true], .int .i64 1] W fun e w' => e = .returned (.int .i64 (slid ((u : Int), true) 1)) ∧ Below w12.heap.size w12 w' ∧ (w'.cell? ⟨w03.heap.size, 0, none⟩ = some (.int .i64 (u : Int)) ∧ w'.cell? ⟨w03.heap.size, 1, none⟩ = some (.bool true)) ∧ ∃ w2, (Instr.mapUpdate 108 (.map (some w.heap.size)) (.agg #[.int .i64 1, .int .i64 (slid ((u : Int), true) 1)]) (.agg #[.int .i64 (u : Int), .bool true])).run Try.prog w' = .ok () w2 ∧ w2.ownsMap Try.prog 112 thrR w.heap.size ((((nn + 1) + 1) + 1) + 1) ((((D.put (klit 0 (slid ((u : Int), false) 0)) (thrD ((u : Int), false))).put (klit 1 (slid ((u : Int), false) 1)) (thrD ((u : Int), false))).put (klit 0 (slid ((u : Int), true) 0)) (thrD ((u : Int), true))).put (klit 1 (slid ((u : Int), true) 1)) (thrD ((u : Int), true))) ∧ Below w.heap.size w w2 ∧ w2.cell? ⟨w03.heap.size, 0, none⟩ = some (.int .i64 (u : Int)) ∧ w2.cell? ⟨w03.heap.size, 1, none⟩ = some (.bool true) from
            (slidI_any (u : Int) true 1 1 W rfl (by omega) (by omega)).mono fun e w' ⟨h1, h2⟩ => by
              have b := hW.trans (h2.mono hW.size)
              have q0 := (b.cell (p := ⟨w03.heap.size, 0, none⟩) (cell_block cu100)).trans cu100
              have q1 := (b.cell (p := ⟨w03.heap.size, 1, none⟩) (cell_block cu101)).trans cu101
              obtain ⟨w2, r1, r2, r3⟩ := map_upd (ownsMap_below ownw12 b) (by omega) 1 (slid ((u : Int), true) 1) (by omega) (by omega) (slid_bound hk1 1).1 (slid_bound hk1 1).2 ((u : Int), true)
              have hb' := hbw12.trans (b.mono hbw12.size)
              exact ⟨h1, b, ⟨q0, q1⟩, w2, r1, r2, hb'.grown r3 hb'.size (by intro q hq; cases hq; exact Nat.le_refl _), (r3.cell q0 (by simp; omega)).trans rfl, (r3.cell q1 (by simp; omega)).trans rfl⟩)
          go_wp2
          go_region_held3 (fun W => W.cell? ⟨w03.heap.size, 0, none⟩ = some (.int .i64 (u : Int)) ∧ W.cell? ⟨w03.heap.size, 1, none⟩ = some (.bool true)) (first | exact ⟨by assumption, by assumption⟩) (first | (go_at_call 88; (with_reducible refine (HS11.out _ ?_).mono ?_); (first | assumption | exact Below.refl _ _ | exact Below.drew (by assumption) | exact Below.drew (Below.refl _ _)); rintro e wa11 ⟨rfl, hba, ⟨qa0, qa1⟩, w13, hup11, ownw13, hbw13, cu110, cu111⟩))
          clear HS11 hup11 hba qa0 qa1 cu100 cu101 ownw12 hbw12
          go_wp2
          rw [rounds_succ]
          go_wp2
          go_roundw
          case rel => exact ⟨u + 1, ((((D.put (klit 0 (slid ((u : Int), false) 0)) (thrD ((u : Int), false))).put (klit 1 (slid ((u : Int), false) 1)) (thrD ((u : Int), false))).put (klit 0 (slid ((u : Int), true) 0)) (thrD ((u : Int), true))).put (klit 1 (slid ((u : Int), true) 1)) (thrD ((u : Int), true))), ((((nn + 1) + 1) + 1) + 1), by omega, by go_num, ownw13, by omega, HFIN, hbw13⟩
          case measure => simp [intOf]; omega
    · obtain rfl : u = 15 := by omega
      go_wp2
      go_ret
      first | exact ⟨D, nn, rfl, hown, hS, hb⟩ | exact ⟨rfl, D, nn, hown, hS, hb⟩ | exact ⟨D, rfl, nn, hown, hS, hb⟩ | exact ⟨rfl, D, ⟨nn, hown⟩, hS, hb⟩
end Go.Proofs.Ytdgmmaghmdbnjaa
