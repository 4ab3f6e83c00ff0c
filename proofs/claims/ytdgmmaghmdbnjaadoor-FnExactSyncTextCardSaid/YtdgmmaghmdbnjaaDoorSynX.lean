/- Plain mathematics of the texts of synchronous patterns, and two laws of strings put together. No conditions. -/
import Derived.Test.YtdgmmaghmdbnjaaDoorText
import Derived.Test.YtdgmmaghmdbnjaaDoorSyn
namespace Go.Proofs.YtdgmmaghmdbnjaaDoor
open Go.RowKit
set_option linter.unusedSimpArgs false
set_option linter.unusedVariables false

/-- the texts of a throw, of the throws of both hands, of beats -/
def oneT (t : Thr) : List UInt8 := if t.2 then [digB t.1, 120] else [digB t.1]
def synT (s : Syn) : List UInt8 := [40] ++ oneT s.1 ++ [44] ++ oneT s.2 ++ [41]
def textS (p : List Syn) : List UInt8 := p.flatMap synT
theorem oneT_len (t : Thr) : (oneT t).length ≤ 2 := by unfold oneT; split <;> simp
theorem synT_len (s : Syn) : (synT s).length ≤ 7 := by
  have h1 := oneT_len s.1
  have h2 := oneT_len s.2
  simp [synT]
  omega
theorem textS_take (p : List Syn) (k : Nat) (hk : k < p.length) : textS (p.take (k + 1)) = textS (p.take k) ++ synT (p.getD k s0) := by
  rw [textS, textS, List.take_succ_eq_append_getElem hk, List.flatMap_append]
  congr 1
  simp [hk]
theorem textS_len : ∀ p : List Syn, (textS p).length ≤ 7 * p.length
  | [] => by simp [textS]
  | a :: r => by
    have h1 := textS_len r
    have h2 := synT_len a
    simp only [textS, List.flatMap_cons, List.length_append, List.length_cons] at h1 ⊢
    omega
theorem textS_takes {p : List Syn} (h : p.length ≤ 6) (k : Nat) : (textS (p.take k)).length ≤ 42 := by
  have := textS_len (p.take k)
  rw [List.length_take] at this
  omega
theorem textS_pos {p : List Syn} (h : 1 ≤ p.length) : textS p ≠ [] := by
  match p, h with
  | a :: r, _ => simp [textS, synT]
/-- what SyncText answers -/
def textSR (p : List Syn) : ByteArray := if okS p then bytesOf (textS p) else bytesOf []
theorem textSR_true {p : List Syn} (h : okS p = true) : textSR p = bytesOf (textS p) := by rw [textSR, if_pos h]
theorem textSR_false {p : List Syn} (h : okS p = false) : textSR p = bytesOf [] := by rw [textSR, if_neg (by simp [h])]

theorem bytesOf_append (l m : List UInt8) : bytesOf l ++ bytesOf m = bytesOf (l ++ m) := by
  apply ByteArray.ext
  simp [bytesOf]
theorem cat_run (l m : List UInt8) (h : l.length + m.length ≤ 1000000) (w : World) :
    (Op.stringOp .add (bytesOf l) (bytesOf m)).run Tryd.prog w = .ok (.string (bytesOf (l ++ m))) w := by
  rw [run_string_add_sum w _ _ (by rw [bytesOf_size, bytesOf_size]; omega), bytesOf_append]

/-- the mark of the throw with a number, and the text of the first throws -/
def markT (p : List Syn) (k : Nat) : List UInt8 := (if k % 2 = 0 then [40] else []) ++ oneT ((thrs p).getD k t0) ++ (if k % 2 = 0 then [44] else [41])
def textK (p : List Syn) (k : Nat) : List UInt8 := (List.range k).flatMap (markT p)
theorem textK_step (p : List Syn) (k : Nat) : textK p (k + 1) = textK p k ++ markT p k := by
  rw [textK, textK, List.range_succ, List.flatMap_append]
  simp
theorem textK_even (p : List Syn) : ∀ k, k ≤ p.length → textK p (2 * k) = textS (p.take k)
  | 0, _ => rfl
  | k + 1, h => by
    have h1 := textK_even p k (by omega)
    rw [show 2 * (k + 1) = 2 * k + 1 + 1 by omega, textK_step, textK_step, h1, textS_take p k (by omega), markT, markT, thrs_even p k (by omega), thrs_odd p k (by omega), if_pos (by omega), if_pos (by omega), if_neg (by omega), if_neg (by omega), synT]
    simp
theorem markT_len (p : List Syn) (k : Nat) : (markT p k).length ≤ 4 := by
  have := oneT_len ((thrs p).getD k t0)
  unfold markT
  generalize oneT ((thrs p).getD k t0) = l at *
  by_cases h : k % 2 = 0
  · rw [if_pos h, if_pos h, List.length_append, List.length_append]; simp only [List.length_cons, List.length_nil]; omega
  · rw [if_neg h, if_neg h, List.length_append, List.length_append]; simp only [List.length_cons, List.length_nil]; omega
theorem textK_len (p : List Syn) (k : Nat) : (textK p k).length ≤ 4 * k := by
  induction k with
  | zero => simp [textK]
  | succ k ih => rw [textK_step, List.length_append]; have := markT_len p k; omega
end Go.Proofs.YtdgmmaghmdbnjaaDoor
