/- RunThrows, the model's and the program's. No conditions but sizes. -/
import Derived.Test.YtdghbbnddgngoaaStJ
import Derived.Test.YtdghbbnddgngoaaStO
import Derived.Test.YtdghbbnddgngoaaOwnK
import Derived.Deep.RegionLaw
namespace Go.Proofs.Ytdghbbnddgngoaa
open Go.RowKit
set_option linter.unusedSimpArgs false
set_option linter.unusedVariables false

/-- throws one after the other: the mask, how many were made, the code -/
def runGo (h : Nat) : Nat → List Int → Nat → Nat × Nat × Int
  | m, [], k => (m, k, 0)
  | m, t :: ts, k => if canI h m t then runGo h (nextM m t.toNat) ts (k + 1) else (m, k, 6)
theorem runGo_end {h m : Nat} {ts : List Int} {k : Nat} (hk : ts.length ≤ k) : runGo h m (ts.drop k) k = (m, k, 0) := by
  rw [List.drop_eq_nil_of_le hk]; rfl
theorem runGo_step {h m : Nat} {ts : List Int} {k : Nat} (hk : k < ts.length) (hc : canI h m (ts.getD k 0) = true) : runGo h m (ts.drop k) k = runGo h (nextM m (ts.getD k 0).toNat) (ts.drop (k + 1)) (k + 1) := by
  rw [List.drop_eq_getElem_cons hk, show ts[k] = ts.getD k 0 from by simp [hk], runGo, if_pos hc]
theorem runGo_stop {h m : Nat} {ts : List Int} {k : Nat} (hk : k < ts.length) (hc : canI h m (ts.getD k 0) = false) : runGo h m (ts.drop k) k = (m, k, 6) := by
  rw [List.drop_eq_getElem_cons hk, show ts[k] = ts.getD k 0 from by simp [hk], runGo, if_neg (by rw [hc]; simp)]
/-- what RunThrows answers -/
def runH (h m : Int) : Int := if okSt h m then h else 0
def runM (h m : Int) (ts : List Int) : Int := if okSt h m then (runGo h.toNat m.toNat ts 0).1 else 0
def runN (h m : Int) (ts : List Int) : Int := if okSt h m then (runGo h.toNat m.toNat ts 0).2.1 else 0
def runC (h m : Int) (ts : List Int) : Int := if okSt h m then (runGo h.toNat m.toNat ts 0).2.2 else 1

theorem slice_rows {w : World} {B : Nat} {v : Value} {ts : List Int} (h : Ints w B v ts) : ∃ a cap, v = .slice a ts.length cap ∧ ∀ i, i < ts.length → ∃ b off, a = some ⟨b, off, none⟩ ∧ b < w.heap.size ∧ w.cell? ⟨b, off + i, none⟩ = some (.int .i64 (ts.getD i 0)) := by
  rcases h.shape with ⟨rfl, rfl⟩ | ⟨g, cap, rfl, _, hg, _⟩
  · exact ⟨none, 0, rfl, fun i hi => absurd hi (Nat.not_lt_zero _)⟩
  · exact ⟨_, cap, rfl, fun i hi => ⟨g, 0, rfl, hg, by rw [Nat.zero_add]; exact h.cell i hi⟩⟩

end Go.Proofs.Ytdghbbnddgngoaa
