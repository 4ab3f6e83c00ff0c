/- The laws' helpers a2Same (are two lists equal?) and a2Long (are there more than 3000 bytes?). No conditions. -/
import Derived.Test.YtdghbbnddgngoaaComp
namespace Go.Proofs.Ytdghbbnddgngoaa
open Go.RowKit
set_option linter.unusedSimpArgs false
set_option linter.unusedVariables false

/-- are two lists equal? -/
def sameL (p q : List Int) : Bool := decide (p = q)
theorem list_ext {a b : List Int} (hl : a.length = b.length) (h : ∀ i, i < a.length → a.getD i 0 = b.getD i 0) : a = b := by
  apply List.ext_getElem hl
  intro i h1 h2
  have := h i h1
  rw [List.getD_eq_getElem?_getD, List.getD_eq_getElem?_getD, List.getElem?_eq_getElem h1, List.getElem?_eq_getElem h2] at this
  simpa using this

/-- is one of two lists of bytes too long? -/
def longL (n m : Nat) : Bool := decide (3000 < n) || decide (3000 < m)
theorem a2Long_any (a b : Option Addr) (n cap m cap' : Nat) (w : World) (h : n ≤ 9223372036854775807) (h' : m ≤ 9223372036854775807) :
    Calls Try.prog 8 #[.slice a n cap, .slice b m cap'] w fun e w' => e = .returned (.bool (longL n m)) ∧ w' = w := by
  by_cases h1 : 3000 < n
  · have hl : longL n m = true := by simp [longL, h1]
    rw [hl]
    go_enter Try.func8, Try.ntmps8
    go_wp2
    go_ret
    exact ⟨by first | rfl | exact ret_bool (by simp; omega), rfl⟩
  · by_cases h2 : 3000 < m
    · have hl : longL n m = true := by simp [longL, h2]
      rw [hl]
      go_enter Try.func8, Try.ntmps8
      go_wp2
      go_ret
      exact ⟨by first | rfl | exact ret_bool (by simp; omega), rfl⟩
    · have hl : longL n m = false := by simp [longL, h1, h2]
      rw [hl]
      go_enter Try.func8, Try.ntmps8
      go_wp2
      go_ret
      exact ⟨by first | rfl | exact ret_bool (by simp; omega), rfl⟩
end Go.Proofs.Ytdghbbnddgngoaa
