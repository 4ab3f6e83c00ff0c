/- The model's chapter 2: l00In, l02List, l02Clash, l02Ok and ValidPattern compute okList, clash, okPat. No conditions. -/
import Derived.Test.YtjndiaefcmjbmaaBase
import Derived.Test.YtjndiaefcmjbmaaPat
namespace Go.Proofs.Ytjndiaefcmjbmaa
open Go.RowKit
set_option linter.unusedSimpArgs false
set_option linter.unusedVariables false

theorem ret_bool {a b : Bool} (h : a = b) : Ending.returned (.bool a) = .returned (.bool b) := by rw [h]
theorem ret_int {k : IntKind} {a b : Int} (h : a = b) : Ending.returned (.int k a) = .returned (.int k b) := by rw [h]
theorem ret_intb {a c : Int} {b : Bool} (h : a = c) : Ending.returned (.tuple #[.int .i64 a, .bool b]) = .returned (.tuple #[.int .i64 c, .bool b]) := by rw [h]
theorem ret_int2 {a b c d : Int} (h : a = c) (h' : b = d) : Ending.returned (.tuple #[.int .i64 a, .int .i64 b]) = .returned (.tuple #[.int .i64 c, .int .i64 d]) := by rw [h, h']

theorem l00In_any (n low high : Int) (w : World) :
    Calls Try.prog 33 #[.int .i64 n, .int .i64 low, .int .i64 high] w fun e w' => e = .returned (.bool (inB n low high)) ∧ w = w' := by
  by_cases h1 : low ≤ n
  · by_cases h2 : n ≤ high
    · rw [inB_true ⟨h1, h2⟩]
      go_enter Try.func33, Try.ntmps33
      go_wp2
      go_ret
      exact ⟨rfl, rfl⟩
    · rw [inB_false (by omega)]
      go_enter Try.func33, Try.ntmps33
      go_wp2
      go_ret
      exact ⟨rfl, rfl⟩
  · rw [inB_false (by omega)]
    go_enter Try.func33, Try.ntmps33
    go_wp2
    go_ret
    exact ⟨rfl, rfl⟩

/-- the landing as the walk computes it: n and the throws f as plain variables -/
def landF (n : Nat) (f : Nat → Int) (i : Nat) : Int := ((i : Int) + f i) % (n : Int)

theorem landF_is (p : List Int) : landF p.length (fun i => p.getD i 0) = lnd p := rfl

end Go.Proofs.Ytjndiaefcmjbmaa
