/- The program's throws of a pattern with an order: the iterator's contract. No conditions. -/
import Derived.Test.YtlpeigeadjojnaaHdC
import Derived.Test.YtlpeigeadjojnaaHdR
namespace Go.Proofs.Ytlpeigeadjojnaa
open Go.RowKit Go.Shelf
set_option linter.unusedSimpArgs false
set_option linter.unusedVariables false
attribute [local go_sem] Oper.semAt_some

theorem atH_rng {p : List Int} {m : Int} (h1 : 1 ≤ p.length) (hb : ∀ k, k < p.length → 0 ≤ p.getD k 0 ∧ p.getD k 0 ≤ m) (b : Int) : 0 ≤ atL p b ∧ atL p b ≤ m := by
  have e0 := Int.emod_nonneg b (show (p.length : Int) ≠ 0 by omega)
  have e1 := Int.emod_lt_of_pos b (show 0 < (p.length : Int) by omega)
  exact hb (b % (p.length : Int)).toNat (by omega)
theorem atP_rng {p : List Int} (h : okPat p = true) (b : Int) : 0 ≤ atL p b ∧ atL p b ≤ 15 := atH_rng (okPat_len h).1 (fun k hk => okPat_at h k hk) b
theorem atO_rng {o : List Int} (h : okH o = true) (b : Int) : 0 ≤ atL o b ∧ atL o b ≤ 3 ∧ atL o b < cntH o := by
  have h0 := atH_rng (okH_len h).1 (fun k hk => ⟨(okH_at h k hk).1, (okH_at h k hk).2.1⟩) b
  have e0 := Int.emod_nonneg b (show (o.length : Int) ≠ 0 by have := okH_len h; omega)
  have e1 := Int.emod_lt_of_pos b (show 0 < (o.length : Int) by have := okH_len h; omega)
  exact ⟨h0.1, h0.2, (okH_at h (b % (o.length : Int)).toNat (by omega)).2.2⟩

/-- a beat of a common period with a throw -/
abbrev HB (p o : List Int) := {b : Nat // b < cpN p o ∧ ¬ atL p (b : Int) = 0}
def encH (p o : List Int) (x : HB p o) : Array Value := #[.agg #[.int .i64 (x.1 : Int), .int .i64 (atL p (x.1 : Int)), .int .i64 (atL o (x.1 : Int)), .int .i64 (atL o ((x.1 : Int) + atL p (x.1 : Int)))]]
/-- both lists are read -/
def THd (B C : Nat) (v u : Value) (p o : List Int) (W : World) : Prop := Ints W B v p ∧ Ints W C u o
def hbL {p o : List Int} (xs : List (HB p o)) : List HthT := xs.map fun x => hthAt p o x.1
theorem hbL_snoc {p o : List Int} (xs : List (HB p o)) (x : HB p o) : hbL (xs ++ [x]) = hbL xs ++ [hthAt p o x.1] := by simp [hbL]
theorem hbL_len {p o : List Int} (xs : List (HB p o)) : (hbL xs).length = xs.length := by simp [hbL]

set_option maxRecDepth 100000 in
set_option maxHeartbeats 800000 in
theorem hdThrows_seq (n : Nat) (hn : 1 ≤ n) (v u : Value) (B C : Nat) (p o : List Int) (hq : okPO p o = true) (w : World) :
    SeqBx Fence.wide n Try.prog 30 #[.agg #[v, u]] #[] (encH p o) (THd B C v u p o) (fun xs => hbL xs = thH p o) 145 w := by
  intro l J W hW hJ hT hY h0
  obtain ⟨hp, ho⟩ := okPO_parts hq
  obtain ⟨lp1, lp2⟩ := okPat_len hp
  obtain ⟨lo1, lo2⟩ := okH_len ho
  obtain ⟨cp1, cp2⟩ := cpN_bound hq
  have HJB : ∀ pre A X, J pre A → Below A.heap.size A X → J pre X := fun pre A X hj hb => hJ pre A X none hj ⟨hb.os, hb.tape, hb.output, hb.size, fun k hk _ => hb.block k hk⟩ (fun r e => by cases e)
  obtain ⟨hv0, hu0⟩ := hT [] W h0
  obtain ⟨va, vc, rfl⟩ := ints_slH hv0
  obtain ⟨ua, uc, rfl⟩ := ints_slH hu0
  have q0 := Blk.made W #[.slice va p.length vc, .slice ua o.length uc] 42
  have j0 := HJB _ _ _ h0 ((Below.refl W.heap.size W).alloc (Nat.le_refl _) (.cells #[.slice va p.length vc, .slice ua o.length uc] 42))
  obtain ⟨hv1, hu1⟩ := hT [] _ j0
  have HCP := commonPeriodH_any _ _ B C p o _ hv1 hu1 lp1 lp2 lo1 lo2
  have z0 : W.heap.size < (W.alloc (.cells #[.slice va p.length vc, .slice ua o.length uc] 42)).heap.size := by simp
  refine callsIn_of_wp Try.func30 rfl trivial ?_ rfl
  simp only [Try.ntmps30, List.size_toArray, List.length_cons, List.length_nil, Nat.reduceAdd, Nat.reduceSub, Array.replicate_succ, Array.replicate_zero, List.push_toArray, List.append_toArray, List.nil_append, List.cons_append]
  gi_wp2_with (refine ⟨trivial, ?_⟩; gi_at_call 33; refine (callsIn_wide.2 HCP).mono ?_; rintro e w1 ⟨rfl, b1⟩)
  have j1 := HJB _ _ _ j0 b1
  have q1 := q0.below b1 q0.lt
  have z1 := b1.size
  have zz1 : W.heap.size < w1.heap.size := by omega
  clear h0 j0 hv0 hu0 hv1 hu1 HCP q0 b1 z0 z1
  gi_loopw [4, 5, 8] (fun _ _ i wr => ∃ (k : Nat) (pre : List (HB p o)), k ≤ cpN p o ∧ i = .int .i64 k ∧ Hid (hbL pre = thK p o k) ∧ J pre wr ∧ Blk wr W.heap.size [.slice va p.length vc, .slice ua o.length uc] 42 ∧ W.heap.size < wr.heap.size) (fun _ _ i _ => cpN p o - (intOf i).toNat)
  case atStart => exact ⟨0, [], Nat.zero_le _, rfl, Lib.hid rfl, j1, q1, zz1⟩
  case round =>
    clear j1 q1 zz1
    obtain ⟨k, pre, hk, rfl, hpre, hj, hq, hz⟩ := hrel
    by_cases hlt : k < cpN p o
    · obtain ⟨hv, hu⟩ := hT pre wr hj
      have c0 := hq.cell 0
      have c1 := hq.cell 1
      simp only [List.getElem?_cons_zero, List.getElem?_cons_succ] at c0 c1
      have HA := at_any _ B p (k : Int) wr hv lp1 (by omega) (by omega) (by omega)
      obtain ⟨t0, t15⟩ := atP_rng hp (k : Int)
      by_cases h0 : atL p (k : Int) = 0
      · have hst := Lib.hid (thK_zero (p := p) (o := o) h0)
        rw [h0] at HA
        clear hY hT hv hu t0 t15
        gi_wp2_with (refine ⟨trivial, ?_⟩; gi_at_call 62; refine (callsIn_wide.2 HA).mono ?_; rintro e w2 ⟨rfl, rfl⟩)
        go_roundw
        case rel => exact ⟨k + 1, pre, by omega, by go_num, Lib.hid (by rw [hst.out]; exact hpre.out), hj, hq, hz⟩
        case measure => simp [intOf]; omega
      · have hst := Lib.hid (thK_more (p := p) (o := o) h0)
        have jd : J pre wr.drew := HJB _ _ _ hj ((Below.refl wr.heap.size wr).drew)
        have hpl : pre.length ≤ k := by rw [← hbL_len, hpre.out]; exact thK_len p o k
        obtain ⟨fn, tmps, assign, body, hy, hR⟩ := hY pre ⟨k, hlt, h0⟩ wr.drew jd (by omega) hz
        have HN : Hid (hbL (pre ++ [(⟨k, hlt, h0⟩ : HB p o)]) = thK p o (k + 1)) := Lib.hid (by rw [hbL_snoc, hpre.out, hst.out])
        have HO := Lib.hid (fun (b : Int) (X : World) (hX : X = wr.drew) (hb1 : -1000 ≤ b) (hb2 : b ≤ 1000) => show Calls Try.prog 42 #[.slice ua o.length uc, .int .i64 b] X fun e w' => e = .returned (.int .i64 (atL o b)) ∧ X = w' from
          hoAt_any _ C o b X (by rw [hX]; exact (hT pre _ jd).2) lo1 (by omega) (by omega) (by omega))
        generalize hX : (⟨k, hlt, h0⟩ : HB p o) = X at *
        replace hy : (Instr.yield l #[.agg #[.int .i64 (k : Int), .int .i64 (atL p (k : Int)), .int .i64 (atL o (k : Int)), .int .i64 (atL o ((k : Int) + atL p (k : Int)))]]).run Try.prog wr.drew = .ok (.round l fn tmps assign body) wr.drew := by
          rw [← hX] at hy
          exact hy
        clear hY hT hv hu hst hX hpre jd
        generalize atL p (k : Int) = t at *
        have hne : (t == 0) = false := by simpa using h0
        have hw : IntKind.i64.wrap ((k : Int) + t) = (k : Int) + t := IntWalk.i64_in _ (by omega)
        gi_wp2_with (refine ⟨trivial, ?_⟩; gi_at_call 62; refine (callsIn_wide.2 HA).mono ?_; rintro e w2 ⟨rfl, rfl⟩)
        gi_region_with (first
          | (refine ⟨trivial, ?_⟩; gi_at_call 42; (with_reducible refine (callsIn_wide.2 (HO.out _ _ rfl (by omega) (by omega))).mono ?_); rintro e w3 ⟨rfl, rfl⟩)
          | ((with_reducible refine hR.mono ?_); rintro e W3 ⟨rfl, hJ3, hs3, hb3⟩))
        all_goals (
          gi_wp2
          go_roundw
          case rel => exact ⟨k + 1, pre ++ [X], by omega, by go_num, HN, hJ3, hq.block hb3, by have : wr.drew.heap.size = wr.heap.size := rfl; omega⟩
          case measure => simp [intOf]; omega)
    · obtain rfl : k = cpN p o := by omega
      gi_wp2
      go_end0
      exact ⟨⟨_, rfl⟩, pre, hpre.out, hj⟩
end Go.Proofs.Ytlpeigeadjojnaa
