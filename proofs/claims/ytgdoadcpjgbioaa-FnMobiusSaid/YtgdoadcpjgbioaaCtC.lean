/- The program's iterator over divisors, slices.Collect of it, DivisorsOf. No conditions. -/
import Derived.Test.YtgdoadcpjgbioaaCtD
import Derived.Test.YtgdoadcpjgbioaaStZ
import Derived.Sort.QuietIn
namespace Go.Proofs.Ytgdoadcpjgbioaa
open Go.RowKit Go.Shelf
set_option linter.unusedSimpArgs false
set_option linter.unusedVariables false
attribute [local go_sem] Oper.semAt_some

set_option maxRecDepth 100000 in
set_option maxHeartbeats 2000000 in
theorem appendSeqN_in (N n gf : Nat) (hN : N ≤ 100000) (hn : 3 ≤ n) (bs lb : Array Value) (eg : ∀ args w, (callFunc gf args).run Try.prog w = .ok (.enter gf args) w) (T : World → Prop) (S : List Nat → Prop) (w : World)
    (hTb : ∀ W, Below w.heap.size w W → T W)
    (hseq : ∀ W, Below w.heap.size w W → SeqBnd Fence.wide (n - 1) Try.prog gf bs lb encT T S N W) :
    CallsIn Fence.wide n Try.prog 66 #[.slice none 0 0, .func (.func gf) bs lb] w fun e w' => ∃ v ss, e = .returned v ∧ S ss ∧ Ints w' w.heap.size v (ss.map (fun t : Nat => (t : Int))) ∧ Below w.heap.size w w' := by
  obtain ⟨i0, hi, hz0, hz1, hz2⟩ := info_parts Try.info64
  refine callsIn_of_wp_marks Try.func66 rfl trivial ?_ rfl
  simp only [Try.ntmps66, List.size_toArray, List.length_cons, List.length_nil, Nat.reduceAdd, Nat.reduceSub, Array.replicate_succ, Array.replicate_zero, List.push_toArray, List.append_toArray, List.nil_append, List.cons_append]
  gi_wp2
  have bO := Boxed.new w 25 (.slice none 0 0)
  have hB0 : Below w.heap.size w (w.alloc (.cells #[.slice none 0 0] 25)) := (Below.refl _ w).alloc (Nat.le_refl _) _
  refine range_bnd (F := Fence.wide) rfl (by omega) (gf := gf) (bs := bs) (lb := lb) rfl trivial eg (hseq _ hB0) (fun _ => rfl)
    (fun pre W => (∃ v, Boxed W w.heap.size 25 v ∧ W.ownsRow w.heap.size 2 1 v pre.length (pre.map fun t : Nat => Value.int .i64 (t : Int)) ∧ True) ∧ Below w.heap.size w W)
    (OwnFrom.and (Own.from (holdsRow_own w.heap.size w.heap.size 25 2 1 (fun pre => pre.length) (fun pre : List Nat => pre.map fun t : Nat => Value.int .i64 (t : Int)) (fun _ _ => True)) _) (ownFrom_below (Nat.le_refl _) (by simp)))
    (fun pre W h => hTb W h.2)
    ⟨⟨_, bO, World.ownsRow_nil _ _ _ _, trivial⟩, hB0⟩
    (fun x => { tmps := #[.slice none 0 0, .func (.func gf) bs lb, .pointer (some ⟨w.heap.size, 0, none⟩), undef, .slice none 0 0, .int .i64 x, .func (.func gf) bs lb, .int .i64 x, undef, undef, undef, undef, undef], defers := [] }) ?assign ?body ?done
  case assign =>
    intro l x W K hK
    unfold encT
    gi_wp2
    exact hK
  case body =>
    rintro l pre x W ⟨⟨v, hv, hrow, _⟩, hB⟩ hlt
    have hc := hv.cell
    gi_wp2_with (gi_at_builtin; refine wpListIn_append_own _ rfl _ _ 25 rfl w.heap.size 2 i0 (.int .i64 0) 1 8 Try.underlying25 hi hz0 hz1 hz2 rfl (by decide) _ _ _ rfl (hrow.alloc _) ⟨W.heap.size, 0, none⟩ 1 1 [.int .i64 x] rfl rfl (cell_one_new _ _ _) (by simp [Value.oneCell']) (by simp [maxLen]; omega) (by omega) (by have := hB.size; simp; omega) ?_; intro v' w1 hown' hgrow _; obtain ⟨g', cap', rfl⟩ := ownsRow_succ hown'; obtain ⟨hv1, hv2, hr2, hk2, hb2⟩ := hv.appended (by decide) hrow hB.size (Nat.le_refl _) hown' hgrow; have hc1 := hv1.cell; have hf1 := hv1.frozen)
    exact ⟨hk2.from _, ⟨_, hv2, by simpa using hr2, trivial⟩, hB.trans hb2⟩
  case done =>
    rintro D ys W hD hS ⟨⟨v, hv, hrow, _⟩, hB⟩ hK
    have hc := hv.cell
    gi_wp2
    refine ⟨by simp, .inl ⟨_, _, rfl, run_takeDeferred hK, ?_⟩⟩
    refine ⟨_, results_tmp rfl _ _ _, v, ys, rfl, hS, ?_, hB.trans (belowK_b (w := w) (Nat.le_refl _) W D _ _ (by simp at hD; omega) hK rfl rfl)⟩
    have h := ownsRow_putObj hrow (.deferred none) hK rfl
    unfold Ints
    rw [List.length_map, List.map_map]
    exact h

set_option maxHeartbeats 1000000 in
theorem collectN_in (N n gf : Nat) (hN : N ≤ 100000) (hn : 4 ≤ n) (bs lb : Array Value) (eg : ∀ args w, (callFunc gf args).run Try.prog w = .ok (.enter gf args) w) (T : World → Prop) (S : List Nat → Prop) (w : World)
    (hTb : ∀ W, Below w.heap.size w W → T W)
    (hseq : ∀ W, Below w.heap.size w W → SeqBnd Fence.wide (n - 1 - 1) Try.prog gf bs lb encT T S N W) :
    CallsIn Fence.wide n Try.prog 43 #[.func (.func gf) bs lb] w fun e w' => ∃ v ss, e = .returned v ∧ S ss ∧ Ints w' w.heap.size v (ss.map (fun t : Nat => (t : Int))) ∧ Below w.heap.size w w' := by
  refine callsIn_of_wp Try.func43 rfl trivial ?_ rfl
  simp only [Try.ntmps43, List.size_toArray, List.length_cons, List.length_nil, Nat.reduceAdd, Nat.reduceSub, Array.replicate_succ, Array.replicate_zero, List.push_toArray, List.append_toArray, List.nil_append, List.cons_append]
  gi_wp2_with fail
  refine ⟨trivial, fun _ => by omega, ?_⟩
  refine (appendSeqN_in N (n - 1) gf hN (by omega) bs lb eg T S _ hTb hseq).mono ?_
  rintro e w1 ⟨v, ss, rfl, hS, hv, hb⟩
  gi_wp2
  go_ret
  exact ⟨v, ss, rfl, hS, hv, hb⟩

/-- the divisors of N -/
abbrev Dv (N : Nat) := {d : Nat // 1 ≤ d ∧ d ≤ N ∧ N % d = 0}
theorem dv_pre {N k : Nat} {q : List (Dv N)} (h : q.map Subtype.val = divT N k) : q.length ≤ k := by
  have := congrArg List.length h
  rw [List.length_map] at this
  rw [this]; exact divT_len N k

set_option maxRecDepth 100000 in
set_option maxHeartbeats 2000000 in
theorem divs_bndS (n : Nat) (hn : 1 ≤ n) (Bn N : Nat) (hN : N ≤ 1000) (w : World) :
    SeqBnd Fence.wide n Try.prog 67 #[] #[.pointer (some ⟨Bn, 0, none⟩)] (fun x : Dv N => encT x.1) (fun W => W.cell? ⟨Bn, 0, none⟩ = some (.int .i64 N)) (fun xs => xs.map Subtype.val = divL N) 1001 w := by
  intro l J W hW hJ hT hY h0
  have HML := Lib.hid (fun k => divT_len N k)
  have HM1 := Lib.hid (fun k => divT_yes (n := N) (k := k))
  have HM2 := Lib.hid (fun k => divT_no (n := N) (k := k))
  refine callsIn_of_wp Try.func67 rfl trivial ?_ rfl
  simp only [Try.ntmps67, List.size_toArray, List.length_cons, List.length_nil, Nat.reduceAdd, Nat.reduceSub, Array.replicate_succ, Array.replicate_zero, List.push_toArray, List.append_toArray, List.nil_append, List.cons_append]
  gi_wp2
  gi_loopw [3] (fun v wr => ∃ (k : Nat) (pre : List (Dv N)), k ≤ N ∧ v = .int .i64 ((k + 1 : Nat) : Int) ∧ Hid (pre.map Subtype.val = divT N k) ∧ J pre wr) (fun v _ => N + 1 - (intOf v).toNat)
  case atStart => exact ⟨0, [], Nat.zero_le _, rfl, by unfold Hid; rfl, h0⟩
  case round =>
    clear h0
    obtain ⟨k, pre, hk, rfl, hpre, hJ2⟩ := hrel
    have hc := hT _ _ hJ2
    by_cases hlt : k < N
    · have hlt' : k + 1 ≤ N := hlt
      have em : (N : Int) % ((k + 1 : Nat) : Int) = ((N % (k + 1) : Nat) : Int) := (Int.natCast_emod N (k + 1)).symm
      have hpl : pre.length < 1001 := by have := dv_pre hpre.out; omega
      by_cases h0 : N % (k + 1) = 0
      · have hmem : 1 ≤ k + 1 ∧ k + 1 ≤ N ∧ N % (k + 1) = 0 := ⟨by omega, by omega, h0⟩
        obtain ⟨fn, tmps, assign, body, hy, hR⟩ := hY pre ⟨k + 1, hmem⟩ wr hJ2 hpl
        have HQ2 := Lib.hid (show (pre ++ [(⟨k + 1, hmem⟩ : Dv N)]).map Subtype.val = divT N (k + 1) by rw [HM1.out k h0, List.map_append, hpre.out]; rfl)
        obtain ⟨q, hq⟩ : ∃ q : Int, ((k + 1 : Nat) : Int) = q := ⟨_, rfl⟩
        have hq1 : 1 ≤ q := by omega
        have hq2 : q ≤ (N : Int) := by omega
        replace hy : (Instr.yield l #[.int .i64 ((k + 1 : Nat) : Int)]).run Try.prog wr = .ok (.round l fn tmps assign body) wr := hy
        rw [h0] at em
        rw [hq] at em hy ⊢
        have HQ := Lib.hid hq
        clear hY HM1 HM2 hq
        gi_wp2
        refine hR.mono ?_
        rintro e W3 ⟨rfl, hJ3⟩
        gi_wp2
        go_roundw
        case rel => exact ⟨k + 1, _, by omega, by have := HQ.out; subst this; go_num, HQ2, hJ3⟩
        case measure => simp [intOf]; omega
      · have HQ2 := Lib.hid (show pre.map Subtype.val = divT N (k + 1) by rw [HM2.out k h0]; exact hpre.out)
        obtain ⟨q, hq⟩ : ∃ q : Int, ((k + 1 : Nat) : Int) = q := ⟨_, rfl⟩
        have hq1 : 1 ≤ q := by omega
        have hq2 : q ≤ (N : Int) := by omega
        rw [hq] at em ⊢
        have HQ := Lib.hid hq
        have ez : ¬ (N : Int) % q = 0 := by rw [em]; omega
        have ez' : ((N : Int) % q == 0) = false := beq_eq_false_iff_ne.2 ez
        clear hY HM1 HM2 hq em h0
        gi_wp2
        refine ⟨fun f hf => (by cases hf), ?_⟩
        gi_wp2
        go_roundw
        case rel => exact ⟨k + 1, pre, by omega, by have := HQ.out; subst this; go_num, HQ2, hJ2⟩
        case measure => simp [intOf]; omega
    · obtain rfl : k = N := by omega
      clear hY HM1 HM2
      gi_wp2
      go_end0
      exact ⟨⟨_, rfl⟩, _, hpre.out, hJ2⟩

theorem divs_bnd (n : Nat) (hn : 1 ≤ n) (Bn N : Nat) (hN : N ≤ 1000) (w : World) :
    SeqBnd Fence.wide n Try.prog 67 #[] #[.pointer (some ⟨Bn, 0, none⟩)] encT (fun W => W.cell? ⟨Bn, 0, none⟩ = some (.int .i64 N)) (fun xs => xs = divL N) 1001 w := by
  intro l J W hW hJ hT hY h0
  refine (divs_bndS n hn Bn N hN w l (fun pre W1 => J (pre.map Subtype.val) W1) W hW (fun s A B row hs hg hr => hJ _ A B row hs hg hr) (fun pre W1 h => hT _ W1 h) ?_ h0).mono ?_
  · intro pre x W1 hj hl
    refine (hY (pre.map Subtype.val) x.1 W1 hj (by simpa using hl)).mono ?_
    rintro e W' ⟨k1, k2⟩
    exact ⟨k1, by rw [List.map_append]; exact k2⟩
  · rintro e W' ⟨k1, xs, hs, hj⟩
    exact ⟨k1, _, hs, hj⟩

theorem divisors_any (N : Int) (w : World) :
    Calls Try.prog 44 #[.int .i64 N] w fun e w' => e = .returned (.func (.func 67) #[] #[.pointer (some ⟨w.heap.size, 0, none⟩)]) ∧ w' = w.alloc (.cells #[.int .i64 N] 2) := by
  go_enter Try.func44, Try.ntmps44
  go_wp2
  go_ret
  exact ⟨rfl, rfl⟩

set_option maxHeartbeats 1000000 in
theorem divisorsOf_impl (n : Int) (w : World) :
    Calls Try.prog 16 #[.int .i64 n] w fun e w' => ∃ u, e = .returned (.tuple #[u, .int .i64 (muC n)]) ∧ Ints w' w.heap.size u (divA n) ∧ Below w.heap.size w w' := by
  cases hk : inB n 1 1000 with
  | false =>
    rw [(muC_no hk).1, divA_no hk]
    by_cases h1 : n < 1
    · have k1 : decide (n < 1) = true := decide_eq_true h1
      clear hk
      go_enter Try.func16, Try.ntmps16
      go_wp2
      go_ret2
      exact ⟨_, rfl, Ints.nil _ _, Below.refl _ _⟩
    · have h2 : 1000 < n := by
        simp [inB] at hk; omega
      have k1 : decide (n < 1) = false := decide_eq_false h1
      have k2 : decide (1000 < n) = true := decide_eq_true h2
      clear hk
      go_enter Try.func16, Try.ntmps16
      go_wp2
      go_ret2
      exact ⟨_, rfl, Ints.nil _ _, Below.refl _ _⟩
  | true =>
    rw [(muC_yes hk).1, divA_yes hk]
    obtain ⟨h1, h2⟩ := inB_iff.1 hk
    obtain ⟨N, rfl⟩ : ∃ k : Nat, n = k := ⟨n.toNat, by omega⟩
    rw [Int.toNat_natCast]
    have B0 : Below w.heap.size w (w.alloc (.cells #[.int .i64 N] 2)) := (Below.refl _ w).alloc (Nat.le_refl _) _
    have c0 : (w.alloc (.cells #[.int .i64 N] 2)).cell? ⟨w.heap.size, 0, none⟩ = some (.int .i64 N) := by simp
    have hcol := collectN_in 1001 6 67 (by omega) (by omega) #[] #[.pointer (some ⟨w.heap.size, 0, none⟩)] (enters_of Try.func67 (by kernel_rfl) rfl) (fun W => W.cell? ⟨w.heap.size, 0, none⟩ = some (.int .i64 N)) (fun xs => xs = divL N) (w.alloc (.cells #[.int .i64 N] 2))
      (fun W hb => (hb.cell (p := ⟨w.heap.size, 0, none⟩) (by simp)).trans c0) (fun W hb => divs_bnd _ (by omega) _ _ (by omega) _)
    have HC := Lib.hid (callsIn_wide.1 hcol)
    clear hcol hk
    go_enter Try.func16, Try.ntmps16
    go_wp2_with fail
    refine (divisors_any _ _).mono ?_
    rintro e w1 ⟨rfl, rfl⟩
    go_wp2_with fail
    refine HC.out.mono ?_
    rintro e w2 ⟨v, ss, rfl, rfl, hi, hb⟩
    have hbb := B0.trans (hb.mono B0.size)
    have hi2 : Ints w2 w.heap.size v (divI N N) := Ints.mono hi (by simp)
    clear hi hb
    go_wp2
    go_ret2
    exact ⟨_, rfl, hi2, hbb⟩
end Go.Proofs.Ytgdoadcpjgbioaa
