/- The model's chapter 3, third part: l03Canon, l03Alike, and the functions of chapter 3 answer as the plain mathematics says. No conditions. -/
import Derived.Test.YtdnihapijlchlabSpecFou
namespace Go.Proofs.Ytdnihapijlchlab
open Go.RowKit
set_option linter.unusedSimpArgs false
set_option linter.unusedVariables false

theorem rotatePattern_spec (v : Value) (B : Nat) (p : List Int) (s : Int) (w : World) (h : Ints w B v p) :
    Calls Try.prog 27 #[v, .int .i64 s] w fun e w' => ∃ u, e = .returned (.tuple #[u, .int .i64 (beatCode p s)]) ∧ Ints w' w.heap.size u (resA (beatCode p s) (rotL p s)) ∧ Below w.heap.size w w' := by
  by_cases hz : beatCode p s = 0
  · rw [hz, resA_ok]
    obtain ⟨hok, hin⟩ := beatCode_zero hz
    obtain ⟨hb1, hb2⟩ := inB_iff.1 hin
    obtain ⟨l1, l2⟩ := okPat_len hok
    have HZ := Lib.hid hz
    clear hz hok hin
    go_enter Try.func27, Try.ntmps27
    go_wp2_with fail
    refine (l02Code_any v B p s _ h).mono ?_
    rintro e w' ⟨rfl, hb⟩
    rw [HZ.out]
    have hs := hb.size
    go_wp2_with fail
    refine (l03Rotate_any v B p s _ (h.below hb) l1 (by omega) (by omega) (by omega)).mono ?_
    rintro e w2 ⟨u, rfl, hi, hb2⟩
    go_wp2
    go_ret2
    exact ⟨_, rfl, hi.mono hs, hb.trans (hb2.mono hs)⟩
  · rw [resA_bad _ _ hz]
    have HC := l02Code_any v B p s w h
    generalize beatCode p s = c at HC hz ⊢
    go_enter Try.func27, Try.ntmps27
    go_wp2_with fail
    refine HC.mono ?_
    rintro e w' ⟨rfl, hb⟩
    go_wp2
    go_ret2
    exact ⟨_, rfl, Ints.nil _ _, hb⟩

theorem reversePattern_spec (v : Value) (B : Nat) (p : List Int) (w : World) (h : Ints w B v p) :
    Calls Try.prog 23 #[v] w fun e w' => ∃ u, e = .returned (.tuple #[u, .int .i64 (okC p)]) ∧ Ints w' w.heap.size u (resA (okC p) (revL p)) ∧ Below w.heap.size w w' := by
  cases hok : okPat p with
  | false =>
    rw [okC_false hok, resA_bad _ _ (by decide)]
    go_enter Try.func23, Try.ntmps23
    go_wp2_with fail
    refine (l02Ok_any v B p _ h).mono ?_
    rintro e w' ⟨rfl, hb⟩
    rw [hok]
    go_wp2
    go_ret2
    exact ⟨_, rfl, Ints.nil _ _, hb⟩
  | true =>
    rw [okC_true hok, resA_ok]
    obtain ⟨l1, l2⟩ := okPat_len hok
    go_enter Try.func23, Try.ntmps23
    go_wp2_with fail
    refine (l02Ok_any v B p _ h).mono ?_
    rintro e w' ⟨rfl, hb⟩
    rw [hok]
    have hs := hb.size
    go_wp2_with fail
    refine (l03Reverse_any v B p _ (h.below hb) hok).mono ?_
    rintro e w2 ⟨u, rfl, hi, hb2⟩
    go_wp2
    go_ret2
    exact ⟨_, rfl, hi.mono hs, hb.trans (hb2.mono hs)⟩

theorem rootPattern_spec (v : Value) (B : Nat) (p : List Int) (w : World) (h : Ints w B v p) :
    Calls Try.prog 25 #[v] w fun e w' => ∃ u, e = .returned (.tuple #[u, .int .i64 (okC p)]) ∧ Ints w' w.heap.size u (resA (okC p) (rootL p)) ∧ Below w.heap.size w w' := by
  cases hok : okPat p with
  | false =>
    rw [okC_false hok, resA_bad _ _ (by decide)]
    go_enter Try.func25, Try.ntmps25
    go_wp2_with fail
    refine (l02Ok_any v B p _ h).mono ?_
    rintro e w' ⟨rfl, hb⟩
    rw [hok]
    go_wp2
    go_ret2
    exact ⟨_, rfl, Ints.nil _ _, hb⟩
  | true =>
    rw [okC_true hok, resA_ok]
    obtain ⟨l1, l2⟩ := okPat_len hok
    go_enter Try.func25, Try.ntmps25
    go_wp2_with fail
    refine (l02Ok_any v B p _ h).mono ?_
    rintro e w' ⟨rfl, hb⟩
    rw [hok]
    have hs := hb.size
    go_wp2_with fail
    refine (l03Root_any v B p _ (h.below hb) l1 (by omega)).mono ?_
    rintro e w2 ⟨u, rfl, hi, hb2⟩
    go_wp2
    go_ret2
    exact ⟨_, rfl, hi.mono hs, hb.trans (hb2.mono hs)⟩

end Go.Proofs.Ytdnihapijlchlab
