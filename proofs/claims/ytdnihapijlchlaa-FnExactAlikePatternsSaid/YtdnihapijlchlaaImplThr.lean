/- The program's chapter 3, first part: isIndex, ifInRange, RotatePattern, RaiseThrow, ShiftThrows, RepeatPattern answer as the plain mathematics says. No conditions. -/
import Derived.Test.YtdnihapijlchlaaRot
import Derived.Test.YtdnihapijlchlaaImpl02b
namespace Go.Proofs.Ytdnihapijlchlaa
open Go.RowKit
set_option linter.unusedSimpArgs false
set_option linter.unusedVariables false

/- a list that is written over from its beginning on -/
theorem mix_set {q p : List Int} (hl : q.length = p.length) {k : Nat} (hk : k < p.length) {x : Int} (hx : q.getD k 0 = x) : (q.take k ++ p.drop k).set k x = q.take (k + 1) ++ p.drop (k + 1) := by
  subst hx
  refine ext_getD (by simp; omega) fun i hi => ?_
  rw [getD_upd _ _ _ _ (by simp; omega), getD_app, getD_app, getD_drop, getD_drop]
  simp only [List.length_take]
  by_cases h : i = k
  · subst h
    rw [if_pos rfl, if_pos (by omega), getD_take _ _ _ (by omega)]
  · rw [if_neg h]
    by_cases h' : i < k
    · rw [if_pos (by omega), if_pos (by omega), getD_take _ _ _ h', getD_take _ _ _ (by omega)]
    · rw [if_neg (by omega), if_neg (by omega)]
      congr 1; omega
theorem mix_get {q p : List Int} (hl : q.length = p.length) {k : Nat} (hk : k < p.length) : (q.take k ++ p.drop k).getD k 0 = p.getD k 0 := by
  rw [getD_app, getD_drop]
  simp only [List.length_take]
  rw [if_neg (by omega)]
  congr 1; omega
theorem mix_end {q p : List Int} (hl : q.length = p.length) : q.take p.length ++ p.drop p.length = q := by
  rw [← hl]; simp; omega

theorem isIndex_any (a : Option Addr) (n cap : Nat) (i : Int) (w : World) (hn : n ≤ 1000000) :
    Calls Try.prog 91 #[.slice a n cap, .int .i64 i] w fun e w' => e = .returned (.bool (inB i 0 ((n : Int) - 1))) ∧ w' = w := by
  by_cases h0 : 0 ≤ i
  · by_cases h1 : i < n
    · rw [inB_true (by omega)]
      go_enter Try.func91, Try.ntmps91
      go_wp2_with (go_at_call 92; refine (period_any _ _ _ _).mono ?_; rintro e w' ⟨rfl, rfl⟩)
      go_ret
      exact ⟨by first | rfl | exact ret_bool (by simp; omega), rfl⟩
    · rw [inB_false (by omega)]
      go_enter Try.func91, Try.ntmps91
      go_wp2_with (go_at_call 92; refine (period_any _ _ _ _).mono ?_; rintro e w' ⟨rfl, rfl⟩)
      go_ret
      exact ⟨by first | rfl | exact ret_bool (by simp; omega), rfl⟩
  · rw [inB_false (by omega)]
    go_enter Try.func91, Try.ntmps91
    go_wp2_with (go_at_call 92; refine (period_any _ _ _ _).mono ?_; rintro e w' ⟨rfl, rfl⟩)
    go_ret
    exact ⟨rfl, rfl⟩

theorem ifInRange_any (v : Value) (B : Nat) (p : List Int) (w : World) (h : Ints w B v p) :
    Calls Try.prog 93 #[v] w fun e w' => ∃ u, e = .returned (.tuple #[u, .int .i64 (chkC p)]) ∧ Ints w' B u (resA (chkC p) p) ∧ w = w' := by
  cases hok : okList p with
  | false =>
    rw [chkC_bad hok, resA_bad _ _ (by decide)]
    go_enter Try.func93, Try.ntmps93
    go_wp2_with fail
    refine (isList_any v B p _ h).mono ?_
    rintro e w' ⟨rfl, rfl⟩
    rw [hok]
    go_wp2
    go_ret2
    exact ⟨_, rfl, Ints.nil _ _, rfl⟩
  | true =>
    rw [chkC_ok hok, resA_ok]
    go_enter Try.func93, Try.ntmps93
    go_wp2_with fail
    refine (isList_any v B p _ h).mono ?_
    rintro e w' ⟨rfl, rfl⟩
    rw [hok]
    go_wp2
    go_ret2
    exact ⟨_, rfl, h, rfl⟩

/-- a store into what is owned from a block on -/
theorem below_cellset {B : Nat} {w wr : World} (h : Below B w wr) {g : Nat} (j : Nat) (hg : B ≤ g) (v : Value) : Below B w (wr.setCell ⟨g, j, none⟩ v) := h.setCell (p := ⟨g, j, none⟩) hg v

theorem raiseThrow_impl (v : Value) (B : Nat) (p : List Int) (i : Int) (w : World) (h : Ints w B v p) :
    Calls Try.prog 52 #[v, .int .i64 i] w fun e w' => ∃ u, e = .returned (.tuple #[u, .int .i64 (patC p (inB i 0 ((p.length : Int) - 1)) (chkC (raiseL p i.toNat)))]) ∧ Ints w' w.heap.size u (resA (patC p (inB i 0 ((p.length : Int) - 1)) (chkC (raiseL p i.toNat))) (raiseL p i.toNat)) ∧ Below w.heap.size w w' := by
  cases hok : okPat p with
  | false =>
    rw [patC_bad _ _ hok, resA_bad _ _ (by decide)]
    go_enter Try.func52, Try.ntmps52
    go_wp2_with fail
    refine (validPattern_impl v B p _ h).mono ?_
    rintro e w' ⟨rfl, hb⟩
    rw [hok]
    go_wp2
    go_ret2
    exact ⟨_, rfl, Ints.nil _ _, hb⟩
  | true =>
    obtain ⟨l1, l2⟩ := okPat_len hok
    obtain ⟨g, cap, rfl, _, hg, hc, hm⟩ := h.shape2 l1
    have hn9 : p.length ≤ 1000000 := by omega
    cases hin : inB i 0 ((p.length : Int) - 1) with
    | false =>
      rw [patC_far _ hok, resA_bad _ _ (by decide)]
      go_enter Try.func52, Try.ntmps52
      go_wp2_with fail
      refine (validPattern_impl _ B p _ h).mono ?_
      rintro e w' ⟨rfl, hb⟩
      rw [hok]
      go_wp2_with fail
      refine (isIndex_any _ _ _ _ _ hn9).mono ?_
      rintro e w'' ⟨rfl, rfl⟩
      rw [hin]
      go_wp2
      go_ret2
      exact ⟨_, rfl, Ints.nil _ _, hb⟩
    | true =>
      rw [patC_ok _ hok]
      obtain ⟨hb1, hb2⟩ := inB_iff.1 hin
      obtain ⟨k, rfl⟩ : ∃ k : Nat, i = k := ⟨i.toNat, by omega⟩
      have hk : k < p.length := by omega
      have hx := okPat_at hok k hk
      simp only [Int.toNat_natCast]
      obtain ⟨q, hq⟩ : ∃ q, q = raiseL p k := ⟨_, rfl⟩
      rw [← hq]
      have HR : Hid (q = p.set k (p.getD k 0 + p.length)) := hq
      clear hq
      go_enter Try.func52, Try.ntmps52
      go_wp2_with fail
      refine (validPattern_impl _ B p _ h).mono ?_
      rintro e w1 ⟨rfl, b1⟩
      rw [hok]
      go_wp2_with fail
      refine (isIndex_any _ _ _ _ _ hn9).mono ?_
      rintro e w'' ⟨rfl, rfl⟩
      rw [hin]
      have hs := b1.size
      go_wp2_with fail
      refine (joined_none _ p _ ((h.below b1).sees l1) l1 (by omega)).mono ?_
      rintro e w2 ⟨u, rfl, i2, b2⟩
      have B2 := b1.trans (b2.mono hs)
      clear hok hin h b2 b1
      obtain ⟨g2, cap2, rfl, hg2, hg2', hc2, hm2⟩ := i2.shape2 l1
      have c2 := i2.cell k hk
      have f2 := i2.free k
      have i3 := (i2.set k (p.getD k 0 + p.length)).mono hs
      rw [← HR.out] at i3
      have b3 := below_cellset B2 k (show w.heap.size ≤ g2 by omega) (.int .i64 (p.getD k 0 + p.length))
      clear i2 B2 HR
      generalize p.getD k 0 = x at *
      generalize p.length = n at *
      obtain ⟨hx1, hx2⟩ := hx
      have hw : IntKind.i64.wrap (x + (n : Int)) = x + (n : Int) := IntWalk.i64_in _ (by omega)
      go_wp2
      go_region_with (go_at_call 92; refine (period_any _ _ _ _).mono ?_; rintro e w' ⟨rfl, rfl⟩)
      all_goals
        clear hw
        have i4 : Ints (w2.setCell ⟨g2, k, none⟩ (.int .i64 (x + (n : Int)))).drew w.heap.size (.slice (some ⟨g2, 0, none⟩) n cap2) q := i3
        have b4 := below_drew1 b3
        clear i3 b3
        go_wp2_with fail
        refine (ifInRange_any _ _ _ _ i4).mono ?_
        rintro e w5 ⟨u, rfl, i5, rfl⟩
        go_wp2
        go_ret2
        exact ⟨_, rfl, i5, b4⟩

end Go.Proofs.Ytdnihapijlchlaa
