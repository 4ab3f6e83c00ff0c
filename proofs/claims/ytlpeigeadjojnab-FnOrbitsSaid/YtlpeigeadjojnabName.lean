/- IsName, the model's and the program's: both say whether a text is a name. No conditions. -/
import Derived.Test.YtlpeigeadjojnabSpec02
import Derived.Lib.OthersKept
import Derived.Lib.Strings
import Derived.Lib.DecodeN
namespace Go.Proofs.Ytlpeigeadjojnab
open Go.RowKit
set_option linter.unusedSimpArgs false
set_option linter.unusedVariables false

/-- the byte at an index -/
def byteAt (s : ByteArray) (i : Nat) : Int := ((s.get! i).toNat : Int)
theorem byteAt_is (s : ByteArray) (i : Nat) (h : i < s.size) : ((s[i]'h).toNat : Int) = byteAt s i := by
  unfold byteAt
  have : s.get! i = s[i]'h := by
    simp only [ByteArray.get!, ByteArray.size] at *
    rw [getElem!_pos s.data i h]
    rfl
  rw [this]
theorem byteAt_bound (s : ByteArray) (i : Nat) : 0 ≤ byteAt s i ∧ byteAt s i ≤ 255 := by
  unfold byteAt
  have := (s.get! i).toNat_lt
  omega

/-- a byte of a name -/
def nmc (c : Int) : Bool := inB c 97 122 || inB c 48 57 || decide (c = 45)
/-- a name -/
def isNm (s : ByteArray) : Bool := inB s.size 1 12 && inB (byteAt s 0) 97 122 && (List.range s.size).all (fun i => nmc (byteAt s i))

theorem nmc_a {c : Int} (h : inB c 97 122 = true) : nmc c = true := by simp [nmc, h]
theorem nmc_b {c : Int} (h : inB c 48 57 = true) : nmc c = true := by simp [nmc, h]
theorem nmc_c {c : Int} (h : (c != 45) = false) : nmc c = true := by simp [nmc] at h ⊢; simp [h]
theorem nmc_no {c : Int} (h1 : ¬ inB c 97 122 = true) (h2 : ¬ inB c 48 57 = true) (h3 : (c != 45) = true) : nmc c = false := by
  simp at h3
  simp [nmc, h1, h2, h3]
theorem isNm_bad {s : ByteArray} (k : Nat) (hk : k < s.size) (h : nmc (byteAt s k) = false) : isNm s = false := by
  have : (List.range s.size).all (fun i => nmc (byteAt s i)) = false := by
    rw [List.all_eq_false]
    exact ⟨k, List.mem_range.2 hk, by rw [h]; simp⟩
  simp [isNm, this]
theorem isNm_len {s : ByteArray} (h : ¬ (1 ≤ s.size ∧ s.size ≤ 12)) : isNm s = false := by
  rw [isNm, inB_false (by omega)]; simp
theorem isNm_head {s : ByteArray} (h : inB (byteAt s 0) 97 122 = false) : isNm s = false := by
  rw [isNm, h]; simp
theorem isNm_good {s : ByteArray} (h1 : 1 ≤ s.size) (h2 : s.size ≤ 12) (h : inB (byteAt s 0) 97 122 = true) (ha : ∀ k, k < s.size → nmc (byteAt s k) = true) : isNm s = true := by
  rw [isNm, inB_true (by omega), h]
  simp only [Bool.and_self, Bool.true_and, List.all_eq_true]
  intro k hk
  exact ha k (List.mem_range.1 hk)

theorem decode_high (s : ByteArray) (i : Nat) (h : 128 ≤ byteAt s i) : 128 ≤ (Utf8.decode s i).1 ∧ (Utf8.decode s i).1 ≤ 1114111 := by
  have hb : 128 ≤ (s.get! i).toNat := by unfold byteAt at h; omega
  have hlt := (s.get! i).toNat_lt
  rw [Lib.decode_at]
  generalize (s.get! i).toNat = b0 at *
  have h1 := (s.get! (i + 1)).toNat_lt
  generalize (s.get! (i + 1)).toNat = b1 at *
  have h2 := (s.get! (i + 2)).toNat_lt
  generalize (s.get! (i + 2)).toNat = b2 at *
  have h3 := (s.get! (i + 3)).toNat_lt
  generalize (s.get! (i + 3)).toNat = b3 at *
  unfold Lib.decodeN
  rw [if_neg (by omega)]
  split
  · split <;> (simp only; omega)
  · split
    · split <;> (simp only; omega)
    · split
      · split <;> (simp only; omega)
      · simp only; omega

end Go.Proofs.Ytlpeigeadjojnab
