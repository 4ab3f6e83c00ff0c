/- The throws of a state: bits.TrailingZeros64 on small masks, and the program's iterator. Conditions: the library's table as its text lays it. -/
import Derived.Test.YtgdoadcpjgbioaaStJ
import Derived.Test.YtgdoadcpjgbioaaOwnK
import Derived.RangeFuncNested
import Derived.RangeFuncBound
import Derived.RangeFuncCalls
import Derived.RangeFuncLeaves
import Derived.OwnWalkIn
import Derived.TacticsInMore
import Derived.LoopNIn
import Derived.LoopIn
import Derived.Lib.TrailingZeros
import Derived.Lib.LaidTab
import Derived.Laws.Bits64b
namespace Go.Proofs.Ytgdoadcpjgbioaa
open Go.RowKit
set_option linter.unusedSimpArgs false
set_option linter.unusedVariables false

/-- the bits of a mask from the lowest on -/
def bitsUp : Nat → Nat → List Nat
  | 0, _ => []
  | f + 1, P => if P = 0 then [] else Lib.ctz 64 P :: bitsUp f (P &&& (P - 1))
theorem bitsUp_throws : ∀ h, h < 11 → ∀ m, m < 2 ^ h → bitsUp 12 (possM h m) = (List.range (h + 1)).filter (fun t : Nat => canI h m (t : Int)) := by decide +kernel
theorem bits_small : ∀ P, P < 2048 → P ≠ 0 → Lib.ctz 64 P < 11 ∧ P &&& (P - 1) < P := by decide +kernel

theorem tz_key (x a : Nat) (hx : x < 18446744073709551616) (hx0 : x ≠ 0) (hlow : x &&& (18446744073709551616 - x) = a) :
    IntKind.u64.wrap (bits BinOp.and IntKind.u64 (x : Int) (IntKind.u64.wrap (-(x : Int))) * 285870213051353865) / 288230376151711744 = ((a * 285870213051353865 % 18446744073709551616 / 288230376151711744 : Nat) : Int) := by
  have e1 : IntKind.u64.wrap (-(x : Int)) = ((18446744073709551616 - x : Nat) : Int) := by rw [IntKind.wrap_u64]; omega
  rw [e1, u64_and_nat x _ hx (by omega), hlow, IntKind.wrap_u64]
  omega
def encT (x : Nat) : Array Value := #[.int .i64 x]
theorem bitsUp_step {P f : Nat} (h : P ≠ 0) : bitsUp (f + 1) P = Lib.ctz 64 P :: bitsUp f (P &&& (P - 1)) := by rw [bitsUp, if_neg h]
theorem bitsUp_zero (f : Nat) : bitsUp f 0 = [] := by cases f <;> simp [bitsUp]
theorem bits_fuel : ∀ Q, Q < 2048 → bitsUp 11 Q = bitsUp 12 Q := by decide +kernel
theorem bits_next {Q : Nat} (h : Q < 2048) (h0 : Q ≠ 0) : bitsUp 12 Q = Lib.ctz 64 Q :: bitsUp 12 (Q &&& (Q - 1)) := by
  rw [bitsUp_step h0, bits_fuel _ (Nat.lt_trans (bits_small Q h h0).2 h)]
theorem clear_low (P : Nat) (h : P < 2048) (h0 : P ≠ 0) : bits .and .u64 (P : Int) ((P : Int) - 1) = ((P &&& (P - 1) : Nat) : Int) := by
  rw [show (P : Int) - 1 = ((P - 1 : Nat) : Int) from by omega, u64_and_nat _ _ (by omega) (by omega)]

end Go.Proofs.Ytgdoadcpjgbioaa
