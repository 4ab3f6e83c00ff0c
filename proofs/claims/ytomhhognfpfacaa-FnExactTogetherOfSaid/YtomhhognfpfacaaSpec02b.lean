/- The model's chapter 2, second part: sums, props, remainders, throws at beats and the beats from which they land. No conditions but that a list is in bounds. -/
import Derived.Test.YtomhhognfpfacaaSpec02
namespace Go.Proofs.Ytomhhognfpfacaa
open Go.RowKit
set_option linter.unusedSimpArgs false
set_option linter.unusedVariables false

theorem l02Mod_any (a n : Int) (w : World) (hn : 1 ≤ n) (hn2 : n ≤ 1000000) (ha : -1000000000000 ≤ a) (ha2 : a ≤ 1000000000000) :
    Calls Try.prog 95 #[.int .i64 a, .int .i64 n] w fun e w' => e = .returned (.int .i64 (a % n)) ∧ w' = w := by
  by_cases h0 : 0 ≤ a
  · have e0 := Int.emod_nonneg a (show n ≠ 0 by omega)
    have e1 := Int.emod_lt_of_pos a (show 0 < n by omega)
    have hfin : (a % n + n) % n = a % n := by simp
    have HF := Lib.hid hfin
    clear hfin
    go_enter Try.func95, Try.ntmps95
    go_wp2
    go_ret
    exact ⟨ret_int (by first | exact HF.out | rfl), rfl⟩
  · have hd := tmod_add_emod a n (by omega)
    have hl := tmod_low a n (by omega) (by omega)
    rw [← hd]
    clear hd
    go_enter Try.func95, Try.ntmps95
    go_wp2
    go_ret
    exact ⟨rfl, rfl⟩

end Go.Proofs.Ytomhhognfpfacaa
