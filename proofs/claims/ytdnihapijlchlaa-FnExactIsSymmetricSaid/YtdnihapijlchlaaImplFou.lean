/- The program's chapter 3, second part: RepeatPattern, SwapLandings, RootPattern, CanonicalPattern, AlikePatterns answer as the plain mathematics says. No conditions. -/
import Derived.Test.YtdnihapijlchlaaImplThr
import Derived.BigRegion
namespace Go.Proofs.Ytdnihapijlchlaa
open Go.RowKit
set_option linter.unusedSimpArgs false
set_option linter.unusedVariables false

/-- the code of an exchange -/
def swapC (p : List Int) (i k : Int) : Int := patC p (inB i 0 ((p.length : Int) - 1) && inB k 0 ((p.length : Int) - 1)) (chkC (swapL p i.toNat k.toNat))

/- slices of slices -/
theorem Try.infoTL : (Try.prog.info? 50).map (fun i => (i.zero, i.size, i.bytes)) = some (some (.slice none 0 0), 1, 24) := by kernel_rfl

theorem rep_mix (m k : Nat) (V z : Value) (hk : k < m) : (List.replicate k V ++ List.replicate (m - k) z).set k V = List.replicate (k + 1) V ++ List.replicate (m - (k + 1)) z := by
  apply List.ext_getElem
  · simp; omega
  · intro i h1 h2
    simp at h1
    simp only [List.getElem_set, List.getElem_append, List.length_replicate, List.getElem_replicate]
    by_cases hik : k = i
    · subst hik; simp
    · rw [if_neg hik]
      by_cases hlt : i < k
      · rw [dif_pos hlt, dif_pos (by omega)]
      · rw [dif_neg hlt, dif_neg (by omega)]

theorem repL_front (p : List Int) (m : Nat) : p ++ repL p m = repL p m ++ p := by
  induction m with
  | zero => simp [repL]
  | succ m ih => rw [repL, ← List.append_assoc, ih]
theorem repL_flat (p : List Int) (m : Nat) : (List.replicate m p).flatten = repL p m := by
  induction m with
  | zero => rfl
  | succ m ih => rw [List.replicate_succ, List.flatten_cons, ih, repL, repL_front]

set_option maxHeartbeats 400000 in
theorem repeatPattern_near (g cap B : Nat) (p : List Int) (n m : Nat) (s : Int) (w : World) (h : Ints w B (.slice (some ⟨g, 0, none⟩) n cap) p) (hn : n = p.length) (hok : okPat p = true) (hg : g < w.heap.size) (hc : n ≤ cap) (hmc : cap ≤ 9223372036854775807)
    (l1 : 1 ≤ n) (l2 : n ≤ 12) (hs1 : ¬ s < 1) (hs2 : ¬ 12 / (n : Int) < s) (hsm : s - 1 = m) (hm : m ≤ 100) (q : List Int) (hq : p ++ (List.replicate m p).flatten = q) (hlq : q.length ≤ 1000) :
    Calls Try.prog 24 #[.slice (some ⟨g, 0, none⟩) n cap, .int .i64 s] w fun e w' => ∃ u, e = .returned (.tuple #[u, .int .i64 0]) ∧ Ints w' w.heap.size u q ∧ Below w.heap.size w w' := by
  obtain ⟨i0, hi, hz0, hz1, hz2⟩ := info_parts Try.infoTL
  have hb : s ≤ 1000 := by omega
  have hn0 : ¬ n = 0 := by omega
  have HOK := Lib.hid hok
  have HN := Lib.hid hn
  have HQ := Lib.hid hq
  clear hok hn hq
  go_enter Try.func24, Try.ntmps24
  go_wp2_with fail
  refine (validPattern_impl _ B p _ h).mono ?_
  rintro e w1 ⟨rfl, b1⟩
  rw [HOK.out]
  have hs := b1.size
  have hp1 := h.below b1
  clear h
  go_wp2_with (at_make; refine wpList_make_full _ rfl _ _ 54 rfl w1.heap.size 50 i0 (.slice none 0 0) 1 Try.underlying54 hi hz0 hz1 _ _ _ _ m rfl rfl rfl rfl (by rw [hz2]; omega) (by unfold maxLen; omega) (Nat.le_refl _) ?_)
  intro w2 hown hgr
  have hR : w2.ownsRow w1.heap.size 50 1 (.slice (some ⟨w1.heap.size, 0, none⟩) m m) m (List.replicate 0 (Value.slice (some ⟨g, 0, none⟩) n cap) ++ List.replicate (m - 0) (Value.slice none 0 0)) := by
    simpa [toList_madeCells_one] using hown
  have b2 : Below w1.heap.size w1 w2 := (Below.refl _ _).grown hgr (Nat.le_refl _) (by simp)
  have hw2 := hgr.size
  obtain ⟨C, hC⟩ : ∃ C, C = w1.heap.size := ⟨_, rfl⟩
  rw [← hC] at hR b2 hs
  have HC := Lib.hid hC
  rw [← hC]
  clear hown hgr hi hz0 hz1 hz2 hC
  go_wp2
  go_loopw [7, 25] (fun _ i wr => ∃ k : Nat, k ≤ m ∧ i = .int .i64 k ∧ wr.ownsRow C 50 1 (.slice (some ⟨C, 0, none⟩) m m) m (List.replicate k (Value.slice (some ⟨g, 0, none⟩) n cap) ++ List.replicate (m - k) (Value.slice none 0 0)) ∧ Below C w1 wr) (fun _ i _ => m - (intOf i).toNat)
  case atStart => exact ⟨0, Nat.zero_le _, rfl, hR, b2⟩
  case round =>
    clear hR b2
    obtain ⟨k, hk, rfl, hr, hb⟩ := hrel
    by_cases hlt : k < m
    · have c1 := hr.cellAt k (by omega)
      have f1 := hr.frozenAt k
      have hn1 := (hr.stored k (Value.slice (some ⟨g, 0, none⟩) n cap)).1
      rw [rep_mix m k _ _ hlt] at hn1
      have hb1 := below_cellset hb k (Nat.le_refl C) (Value.slice (some ⟨g, 0, none⟩) n cap)
      have c2 : wr.cell? ⟨C, k, none⟩ = some (.slice none 0 0) := by
        rw [c1, List.getElem?_append_right (by simp), List.length_replicate, Nat.sub_self, List.getElem?_replicate, if_pos (by omega)]
      clear c1 hr hb
      go_wp2
      go_roundw
      case rel => exact ⟨k + 1, by omega, by go_num, hn1, hb1⟩
      case measure => simp [intOf]; omega
    · obtain rfl : k = m := by omega
      have hBC : Below w1.heap.size w1 wr := by rw [← HC.out]; exact hb
      have hpw := hp1.below hBC
      have hsees : Sees wr (.slice (some ⟨g, 0, none⟩) n cap) p := by
        have hn := HN.out
        subst hn
        exact hpw.sees l1
      have hCs : C < wr.heap.size ∨ k = 0 := by
        rcases Nat.eq_zero_or_pos k with h0 | h0
        · exact .inr h0
        · have := hr.cellAt 0 (by omega)
          have hx : wr.cell? ⟨C, 0, none⟩ = some (.slice (some ⟨g, 0, none⟩) n cap) := by
            rw [this, List.getElem?_append_left (by simpa using h0)]
            simp [h0]
          exact .inl (cell_block hx)
      have hCW : C < wr.heap.size := by
        rcases hr.2 with ⟨h1, _⟩ | ⟨g', cap', cur, h1, h2, h3, _⟩
        · simp at h1
        · simp at h1; obtain ⟨rfl, _⟩ := h1; exact (Array.getElem?_eq_some_iff.1 h3).1
      have hparts : Parts wr (.slice (some ⟨C, 0, none⟩) k k) (List.replicate k p) := by
        refine .inr ⟨C, k, by simp, hCW, by simp; omega, fun i hi => ?_⟩
        simp at hi
        refine ⟨_, ?_, by simpa [List.getD_eq_getElem?_getD, List.getElem?_replicate, hi] using hsees⟩
        rw [hr.cellAt i (by omega), List.getElem?_append_left (by simpa using hi)]
        simp [hi]
      have HJ := joined_any _ _ p _ wr hsees hparts (by rw [← HN.out]; exact l1) (by have := congrArg List.length HQ.out; rw [List.length_append] at this; omega)
      rw [HQ.out] at HJ
      have hBw := hb.size
      clear hr hpw hparts hsees hCs
      go_wp2_with fail
      refine HJ.mono ?_
      rintro e w4 ⟨u, rfl, i4, b4⟩
      have hsz : w.heap.size ≤ wr.heap.size := by omega
      have hfin : Below w.heap.size w w4 := b1.trans ((hBC.mono (by rw [← HC.out]; exact hs)).trans (b4.mono hsz))
      go_wp2
      go_ret2
      exact ⟨_, rfl, i4.mono hsz, hfin⟩

theorem repeatPattern_impl (v : Value) (B : Nat) (p : List Int) (s : Int) (w : World) (h : Ints w B v p) :
    Calls Try.prog 24 #[v, .int .i64 s] w fun e w' => ∃ u, e = .returned (.tuple #[u, .int .i64 (patC p (inB s 1 (12 / (p.length : Int))) 0)]) ∧ Ints w' w.heap.size u (resA (patC p (inB s 1 (12 / (p.length : Int))) 0) (repL p s.toNat)) ∧ Below w.heap.size w w' := by
  cases hok : okPat p with
  | false =>
    rw [patC_bad _ _ hok, resA_bad _ _ (by decide)]
    go_enter Try.func24, Try.ntmps24
    go_wp2_with fail
    refine (validPattern_impl v B p _ h).mono ?_
    rintro e w' ⟨rfl, hb⟩
    rw [hok]
    go_wp2
    go_ret2
    exact ⟨_, rfl, Ints.nil _ _, hb⟩
  | true =>
    obtain ⟨l1, l2⟩ := okPat_len hok
    obtain ⟨g, cap, rfl, _, hg, hc, hm⟩ := h.shape2 l1
    cases hin : inB s 1 (12 / (p.length : Int)) with
    | false =>
      rw [patC_far _ hok, resA_bad _ _ (by decide)]
      have hcs : s < 1 ∨ (¬ s < 1 ∧ 12 / (p.length : Int) < s) := by
        refine Classical.byContradiction fun hn => ?_
        rw [inB_true (by omega)] at hin
        cases hin
      have HOK := Lib.hid hok
      have HV := fun w => validPattern_impl (.slice (some ⟨g, 0, none⟩) p.length cap) B p w
      clear hin hok
      generalize hn : p.length = n at *
      clear hn
      have hn0 : ¬ n = 0 := by omega
      rcases hcs with hs | ⟨hs1, hs⟩
      · go_enter Try.func24, Try.ntmps24
        go_wp2_with fail
        refine (HV _ h).mono ?_
        rintro e w' ⟨rfl, hb⟩
        rw [HOK.out]
        go_wp2
        go_ret2
        exact ⟨_, rfl, Ints.nil _ _, hb⟩
      · go_enter Try.func24, Try.ntmps24
        go_wp2_with fail
        refine (HV _ h).mono ?_
        rintro e w' ⟨rfl, hb⟩
        rw [HOK.out]
        go_wp2
        go_ret2
        exact ⟨_, rfl, Ints.nil _ _, hb⟩
    | true =>
      rw [patC_ok _ hok, resA_ok]
      obtain ⟨hb1, hb2⟩ := inB_iff.1 hin
      have hmul : s.toNat * p.length ≤ 12 := by
        have h1 : s * (p.length : Int) ≤ 12 := Int.le_trans (Int.mul_le_mul_of_nonneg_right hb2 (by omega)) (Int.ediv_mul_le _ (by omega))
        have h2 : ((s.toNat * p.length : Nat) : Int) ≤ 12 := by rw [Int.natCast_mul, show ((s.toNat : Nat) : Int) = s from by omega]; exact h1
        omega
      have hs12 : s.toNat ≤ 12 := Nat.le_trans (Nat.le_mul_of_pos_right _ l1) hmul
      have hq : p ++ (List.replicate (s.toNat - 1) p).flatten = repL p s.toNat := by
        rw [repL_flat, repL_front, show s.toNat = s.toNat - 1 + 1 from by omega]; rfl
      exact repeatPattern_near g cap B p p.length (s.toNat - 1) s w h rfl hok hg hc hm l1 l2 (by omega) (by omega) (by omega) (by omega) _ hq (by rw [repL_len]; omega)
end Go.Proofs.Ytdnihapijlchlaa
