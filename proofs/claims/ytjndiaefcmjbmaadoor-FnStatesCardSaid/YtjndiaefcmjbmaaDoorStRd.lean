/- ReadState, the model's and the program's. No conditions but sizes. -/
import Derived.Test.YtjndiaefcmjbmaaDoorStJ
import Derived.Test.YtjndiaefcmjbmaaDoorStO
import Derived.Test.YtjndiaefcmjbmaaDoorOwnK
import Derived.Test.YtjndiaefcmjbmaaDoorRead
namespace Go.Proofs.YtjndiaefcmjbmaaDoor
open Go.RowKit
set_option linter.unusedSimpArgs false
set_option linter.unusedVariables false

/-- a character of a state's text -/
def stCh (s : ByteArray) (i : Nat) : Prop := byteAt s i = 48 ∨ byteAt s i = 49
instance (s : ByteArray) (i : Nat) : Decidable (stCh s i) := by unfold stCh; infer_instance
/-- is a text one of a state? -/
def rdOk (s : ByteArray) : Bool := inB (s.size : Int) 1 10 && decide (∀ i, i < s.size → stCh s i)
/-- the mask of a text's first k characters -/
def rdM (s : ByteArray) (k : Nat) : Nat := maskU (fun i => decide (byteAt s i = 49)) k
theorem rdM_one {s : ByteArray} {k : Nat} (h : byteAt s k = 49) : rdM s (k + 1) = rdM s k ||| 2 ^ k := by
  show maskU _ k ||| (if decide (byteAt s k = 49) = true then 2 ^ k else 0) = _
  rw [decide_eq_true h, if_pos rfl]; rfl
theorem rdM_zero {s : ByteArray} {k : Nat} (h : ¬ byteAt s k = 49) : rdM s (k + 1) = rdM s k := by
  show maskU _ k ||| (if decide (byteAt s k = 49) = true then 2 ^ k else 0) = _
  rw [decide_eq_false h, if_neg (by simp), Nat.or_zero]; rfl
theorem rdOk_true {s : ByteArray} (h : inB (s.size : Int) 1 10 = true) (ha : ∀ i, i < s.size → stCh s i) : rdOk s = true := by
  rw [rdOk, h, decide_eq_true ha]; rfl
theorem rdOk_bad {s : ByteArray} (i : Nat) (hi : i < s.size) (hb : ¬ stCh s i) : rdOk s = false := by
  rw [rdOk, decide_eq_false fun h => hb (h i hi), Bool.and_false]
theorem rdOk_size {s : ByteArray} (h : inB (s.size : Int) 1 10 = false) : rdOk s = false := by rw [rdOk, h]; rfl
def rdA (s : ByteArray) : Int := if rdOk s then s.size else 0
def rdB (s : ByteArray) : Int := if rdOk s then (rdM s s.size : Nat) else 0
theorem rdA_t {s : ByteArray} (h : rdOk s = true) : rdA s = s.size := if_pos h
theorem rdB_t {s : ByteArray} (h : rdOk s = true) : rdB s = (rdM s s.size : Nat) := if_pos h
theorem rdA_f {s : ByteArray} (h : rdOk s = false) : rdA s = 0 := if_neg (by simp [h])
theorem rdB_f {s : ByteArray} (h : rdOk s = false) : rdB s = 0 := if_neg (by simp [h])

end Go.Proofs.YtjndiaefcmjbmaaDoor
