/- The program's chapter 3, first part: isIndex, ifInRange, RotatePattern, RaiseThrow, ShiftThrows, RepeatPattern answer as the plain mathematics says. No conditions. -/
import Derived.Test.YtlpeigeadjojnabRot
import Derived.Test.YtlpeigeadjojnabImpl02b
namespace Go.Proofs.Ytlpeigeadjojnab
open Go.RowKit
set_option linter.unusedSimpArgs false
set_option linter.unusedVariables false

/- a list that is written over from its beginning on -/
theorem mix_set {q p : List Int} (hl : q.length = p.length) {k : Nat} (hk : k < p.length) {x : Int} (hx : q.getD k 0 = x) : (q.take k ++ p.drop k).set k x = q.take (k + 1) ++ p.drop (k + 1) := by
  subst hx
  refine ext_getD (by simp; omega) fun i hi => ?_
  rw [getD_upd _ _ _ _ (by simp; omega), getD_app, getD_app, getD_drop, getD_drop]
  simp only [List.length_take]
  by_cases h : i = k
  · subst h
    rw [if_pos rfl, if_pos (by omega), getD_take _ _ _ (by omega)]
  · rw [if_neg h]
    by_cases h' : i < k
    · rw [if_pos (by omega), if_pos (by omega), getD_take _ _ _ h', getD_take _ _ _ (by omega)]
    · rw [if_neg (by omega), if_neg (by omega)]
      congr 1; omega
theorem mix_get {q p : List Int} (hl : q.length = p.length) {k : Nat} (hk : k < p.length) : (q.take k ++ p.drop k).getD k 0 = p.getD k 0 := by
  rw [getD_app, getD_drop]
  simp only [List.length_take]
  rw [if_neg (by omega)]
  congr 1; omega
theorem mix_end {q p : List Int} (hl : q.length = p.length) : q.take p.length ++ p.drop p.length = q := by
  rw [← hl]; simp; omega

theorem isIndex_any (a : Option Addr) (n cap : Nat) (i : Int) (w : World) (hn : n ≤ 1000000) :
    Calls Try.prog 32 #[.slice a n cap, .int .i64 i] w fun e w' => e = .returned (.bool (inB i 0 ((n : Int) - 1))) ∧ w' = w := by
  by_cases h0 : 0 ≤ i
  · by_cases h1 : i < n
    · rw [inB_true (by omega)]
      go_enter Try.func32, Try.ntmps32
      go_wp2_with (go_at_call 48; refine (period_any _ _ _ _).mono ?_; rintro e w' ⟨rfl, rfl⟩)
      go_ret
      exact ⟨by first | rfl | exact ret_bool (by simp; omega), rfl⟩
    · rw [inB_false (by omega)]
      go_enter Try.func32, Try.ntmps32
      go_wp2_with (go_at_call 48; refine (period_any _ _ _ _).mono ?_; rintro e w' ⟨rfl, rfl⟩)
      go_ret
      exact ⟨by first | rfl | exact ret_bool (by simp; omega), rfl⟩
  · rw [inB_false (by omega)]
    go_enter Try.func32, Try.ntmps32
    go_wp2_with (go_at_call 48; refine (period_any _ _ _ _).mono ?_; rintro e w' ⟨rfl, rfl⟩)
    go_ret
    exact ⟨rfl, rfl⟩

/-- a store into what is owned from a block on -/
theorem below_cellset {B : Nat} {w wr : World} (h : Below B w wr) {g : Nat} (j : Nat) (hg : B ≤ g) (v : Value) : Below B w (wr.setCell ⟨g, j, none⟩ v) := h.setCell (p := ⟨g, j, none⟩) hg v

end Go.Proofs.Ytlpeigeadjojnab
