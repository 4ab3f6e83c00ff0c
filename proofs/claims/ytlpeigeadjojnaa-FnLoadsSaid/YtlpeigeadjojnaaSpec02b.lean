/- The model's chapter 2, second part: sums, props, remainders, throws at beats and the beats from which they land. No conditions but that a list is in bounds. -/
import Derived.Test.YtlpeigeadjojnaaSpec02
namespace Go.Proofs.Ytlpeigeadjojnaa
open Go.RowKit
set_option linter.unusedSimpArgs false
set_option linter.unusedVariables false

theorem l02Mod_any (a n : Int) (w : World) (hn : 1 ≤ n) (hn2 : n ≤ 1000000) (ha : -1000000000000 ≤ a) (ha2 : a ≤ 1000000000000) :
    Calls Try.prog 70 #[.int .i64 a, .int .i64 n] w fun e w' => e = .returned (.int .i64 (a % n)) ∧ w' = w := by
  by_cases h0 : 0 ≤ a
  · have e0 := Int.emod_nonneg a (show n ≠ 0 by omega)
    have e1 := Int.emod_lt_of_pos a (show 0 < n by omega)
    have hfin : (a % n + n) % n = a % n := by simp
    have HF := Lib.hid hfin
    clear hfin
    go_enter Try.func70, Try.ntmps70
    go_wp2
    go_ret
    exact ⟨ret_int (by first | exact HF.out | rfl), rfl⟩
  · have hd := tmod_add_emod a n (by omega)
    have hl := tmod_low a n (by omega) (by omega)
    rw [← hd]
    clear hd
    go_enter Try.func70, Try.ntmps70
    go_wp2
    go_ret
    exact ⟨rfl, rfl⟩

theorem l02At_any (v : Value) (B : Nat) (p : List Int) (beat : Int) (w : World) (h : Ints w B v p) (h1 : 1 ≤ p.length) (h2 : p.length ≤ 100000) (ha : -1000000000000 ≤ beat) (ha2 : beat ≤ 1000000000000) :
    Calls Try.prog 63 #[v, .int .i64 beat] w fun e w' => e = .returned (.int .i64 (atL p beat)) ∧ w = w' := by
  rcases h.shape with ⟨rfl, rfl⟩ | ⟨g, cap, rfl, _, _, _⟩
  · simp at h1
  · have e0 := Int.emod_nonneg beat (show (p.length : Int) ≠ 0 by omega)
    have e1 := Int.emod_lt_of_pos beat (show 0 < (p.length : Int) by omega)
    have hc := h.cell (beat % (p.length : Int)).toNat (by omega)
    have hfold : p.getD (beat % (p.length : Int)).toNat 0 = atL p beat := rfl
    rw [hfold] at hc
    clear h hfold
    generalize atL p beat = x at *
    generalize p.length = n at *
    go_enter Try.func63, Try.ntmps63
    go_wp2_with fail
    refine (l02Mod_any beat n _ (by omega) (by omega) ha ha2).mono ?_
    rintro e w' ⟨rfl, rfl⟩
    go_wp2
    go_ret
    exact ⟨rfl, rfl⟩

end Go.Proofs.Ytlpeigeadjojnaa
