/- The program's chapter 2, its base: isList, period, modulo, landing, CollisionOf, ValidPattern compute okList, the remainder, the landings, clash, okPat. No conditions. -/
import Derived.Test.YtjndiaefcmjbmaaSpec02
import Derived.Maps.OwnSet
import Derived.Maps.OwnOps
import Derived.Maps.Views
namespace Go.Proofs.Ytjndiaefcmjbmaa
open Go.RowKit Go.Maps
set_option linter.unusedSimpArgs false
set_option linter.unusedVariables false

theorem ret_int3 {a b c d e f : Int} (h : a = d) (h' : b = e) (h'' : c = f) : Ending.returned (.tuple #[.int .i64 a, .int .i64 b, .int .i64 c]) = .returned (.tuple #[.int .i64 d, .int .i64 e, .int .i64 f]) := by rw [h, h', h'']

/-- what the map holds behind k rounds: of each landing the index of its throw -/
def landMap {H : Type} (h : Nat → Int) : Nat → DataW H
  | 0 => .map []
  | k + 1 => (landMap h k).put (.int .i64 (h k)) (.lit (.int .i64 (k : Int)))

theorem landMap_isMap {H : Type} (h : Nat → Int) (k : Nat) : IsMap (landMap (H := H) h k) := by
  induction k with
  | zero => exact isMap_empty
  | succ k ih => exact ih.put _ _

theorem landMap_miss {H : Type} (h : Nat → Int) (k : Nat) (x : Int) (hd : ∀ a, a < k → h a ≠ x) : has (landMap (H := H) h k) (.int .i64 x) = false := by
  induction k with
  | zero => rfl
  | succ k ih =>
    rw [landMap, has_put_other (by have := hd k (by omega); simpa using fun e => this e.symm)]
    exact ih fun a ha => hd a (by omega)

theorem landMap_hit {H : Type} (h : Nat → Int) (k i : Nat) (hi : i < k) (hd : distinct h k) (z : DataW H) :
    has (landMap (H := H) h k) (.int .i64 (h i)) = true ∧ (landMap (H := H) h k).atKey (.int .i64 (h i)) z = .lit (.int .i64 (i : Int)) := by
  induction k with
  | zero => omega
  | succ k ih =>
    by_cases e : i = k
    · subst e
      exact ⟨has_put_same (landMap_isMap h i) (by first | trivial | rfl | simp [WideAt.IsKeyLit]) _, atKey_put_same (landMap_isMap h i) (by first | trivial | rfl | simp [WideAt.IsKeyLit]) _ _⟩
    · have hne : h i ≠ h k := hd i k (by omega) (by omega)
      rw [landMap, has_put_other (by simpa using hne), atKey_put_other (by simpa using hne)]
      exact ih (by omega) fun a b hab hb => hd a b hab (by omega)

theorem law64 : Keyed Try.prog 2 := int_keyed Try.underlying2
theorem zero64 (w : World) : (zeroValue 2).run Try.prog w = .ok (.int .i64 0) w := by kernel_rfl

/-- what CollisionOf answers -/
def colA (p : List Int) : Int := if okList p then cl1 (clash (lnd p) p.length) else 0
def colB (p : List Int) : Int := if okList p then cl2 (clash (lnd p) p.length) else 0
def colC (p : List Int) : Int := if okList p then cl3 (clash (lnd p) p.length) else 1

theorem colC_ok (p : List Int) : (colC p == 0) = okPat p := by
  unfold colC okPat
  cases okList p with
  | false => rfl
  | true =>
    rw [if_pos rfl]
    cases clash (lnd p) p.length <;> rfl

end Go.Proofs.Ytjndiaefcmjbmaa
