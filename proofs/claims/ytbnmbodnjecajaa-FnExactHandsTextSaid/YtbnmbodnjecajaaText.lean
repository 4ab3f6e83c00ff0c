/- PatternText, the model's and the program's: both answer the text of a pattern. No conditions. -/
import Derived.Test.YtbnmbodnjecajaaImpl02
import Derived.Test.YtbnmbodnjecajaaBuilder
namespace Go.Proofs.Ytbnmbodnjecajaa
open Go.RowKit
set_option linter.unusedSimpArgs false
set_option linter.unusedVariables false

/-- the character of a throw -/
def digB (x : Int) : UInt8 := if x < 10 then UInt8.ofNat (48 + x.toNat) else UInt8.ofNat (87 + x.toNat)
/-- the text of a list of throws, as bytes -/
def textL (p : List Int) : List UInt8 := p.map digB
theorem textL_take (p : List Int) (k : Nat) (hk : k < p.length) : textL (p.take k) ++ [digB (p.getD k 0)] = textL (p.take (k + 1)) := by
  rw [textL, textL, List.take_succ_eq_append_getElem hk, List.map_append]
  congr 1
  simp [hk]
theorem textL_len (p : List Int) : (textL p).length = p.length := by simp [textL]
/-- the text, as a string -/
def bytesOf (l : List UInt8) : ByteArray := ⟨l.toArray⟩
theorem bytesOf_size (l : List UInt8) : (bytesOf l).size = l.length := rfl
theorem bytesOf_snoc (l : List UInt8) (c : UInt8) : bytesOf l ++ bytesOf [c] = bytesOf (l ++ [c]) := by
  apply ByteArray.ext
  simp [bytesOf]
/-- what PatternText answers -/
def textA (p : List Int) : ByteArray := if okPat p then bytesOf (textL p) else bytesOf []
theorem textA_true {p : List Int} (h : okPat p = true) : textA p = bytesOf (textL p) := by rw [textA, if_pos h]
theorem textA_false {p : List Int} (h : okPat p = false) : textA p = bytesOf [] := by rw [textA, if_neg (by simp [h])]

def digits16 : ByteArray := ⟨#[48, 49, 50, 51, 52, 53, 54, 55, 56, 57, 97, 98, 99, 100, 101, 102]⟩
theorem slice_digit (x : Int) (h0 : 0 ≤ x) (h1 : x ≤ 15) (w : World) :
    (Instr.slice 9 (.string ⟨#[48, 49, 50, 51, 52, 53, 54, 55, 56, 57, 97, 98, 99, 100, 101, 102]⟩) (some (.int .i64 x)) (some (.int .i64 (x + 1))) none).run Try.prog w = .ok (.string (bytesOf [digB x])) w := by
  rw [run_slice_string (h := Try.underlying9)]
  · congr 2
    have : x = 0 ∨ x = 1 ∨ x = 2 ∨ x = 3 ∨ x = 4 ∨ x = 5 ∨ x = 6 ∨ x = 7 ∨ x = 8 ∨ x = 9 ∨ x = 10 ∨ x = 11 ∨ x = 12 ∨ x = 13 ∨ x = 14 ∨ x = 15 := by omega
    rcases this with rfl | rfl | rfl | rfl | rfl | rfl | rfl | rfl | rfl | rfl | rfl | rfl | rfl | rfl | rfl | rfl <;> rfl
  all_goals first | omega | (simp [ByteArray.size]; omega)
theorem concat_run (l : List UInt8) (c : UInt8) (h : l.length ≤ 1000) (w : World) :
    (Op.stringOp .add (bytesOf l) (bytesOf [c])).run Try.prog w = .ok (.string (bytesOf (l ++ [c]))) w := by
  rw [run_string_add_sum w _ _ (by rw [bytesOf_size, bytesOf_size]; simp; omega), bytesOf_snoc]

theorem textL_facts (p : List Int) (h : p.length ≤ 12) : textL (p.take 0) = [] ∧ (∀ i, i < p.length → textL (p.take i) ++ [digB (p.getD i 0)] = textL (p.take (i + 1))) ∧ (∀ i, i ≤ p.length → (textL (p.take i)).length ≤ 12) ∧ textL (p.take p.length) = textL p := by
  refine ⟨rfl, fun i hi => textL_take p i hi, fun i hi => by rw [textL_len]; simp; omega, by rw [List.take_length]⟩

set_option maxRecDepth 100000 in
theorem index_digit (x : Int) (h0 : 0 ≤ x) (h1 : x ≤ 15) (w : World) :
    (Instr.index 9 (.string ⟨#[48, 49, 50, 51, 52, 53, 54, 55, 56, 57, 97, 98, 99, 100, 101, 102]⟩) (.int .i64 x)).run Try.prog w = .ok (.int .u8 (digB x).toNat) w := by
  have : x = 0 ∨ x = 1 ∨ x = 2 ∨ x = 3 ∨ x = 4 ∨ x = 5 ∨ x = 6 ∨ x = 7 ∨ x = 8 ∨ x = 9 ∨ x = 10 ∨ x = 11 ∨ x = 12 ∨ x = 13 ∨ x = 14 ∨ x = 15 := by omega
  rcases this with rfl | rfl | rfl | rfl | rfl | rfl | rfl | rfl | rfl | rfl | rfl | rfl | rfl | rfl | rfl | rfl <;> (first | rfl | (show Sem.run _ _ _ = _; kernel_rfl))

end Go.Proofs.Ytbnmbodnjecajaa
