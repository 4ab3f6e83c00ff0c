/- NoteName, the model's and the program's: both answer the name of a number. Condition: the program's table of names reads as its text lays it. -/
import Derived.Test.YtgjmhihomklooaaDoorRows
import Derived.WalkKit
import Derived.ProofKit
import Derived.OpenShut
import Derived.ShutString
import Derived.ChangeOld
import Derived.Below
import Derived.Lib.Hide
import Derived.Outline
import Derived.WalkSpells
import Derived.WalkSmall
import Derived.WalkLawsBesides
import Derived.ChangeArms
import Derived.ChangeVars
namespace Go.Proofs.YtgjmhihomklooaaDoor
open Go.RowKit
set_option linter.unusedSimpArgs false
set_option linter.unusedVariables false

/-- the table's cells -/
def noteCells : Array Value := #[.string ⟨#[]⟩, .string ⟨#[112, 97, 116, 116, 101, 114, 110]⟩, .string ⟨#[109, 117, 108, 116, 105]⟩, .string ⟨#[115, 121, 110, 99]⟩, .string ⟨#[112, 97, 115, 115, 105, 110, 103]⟩]
/-- the name of a number -/
def noteL (c : Int) : ByteArray := if c < 0 then ⟨#[]⟩ else match c.toNat with
  | 0 => ⟨#[]⟩
  | 1 => ⟨#[112, 97, 116, 116, 101, 114, 110]⟩
  | 2 => ⟨#[109, 117, 108, 116, 105]⟩
  | 3 => ⟨#[115, 121, 110, 99]⟩
  | 4 => ⟨#[112, 97, 115, 115, 105, 110, 103]⟩
  | _ => ⟨#[]⟩

theorem noteL_neg {c : Int} (h : c < 0) : noteL c = ⟨#[]⟩ := by rw [noteL, if_pos h]
theorem noteL_big {c : Int} (h : 5 ≤ c) : noteL c = ⟨#[]⟩ := by
  obtain ⟨k, hk⟩ : ∃ k : Nat, c.toNat = k + 5 := ⟨c.toNat - 5, by omega⟩
  rw [noteL, if_neg (by omega), hk]
  rfl

set_option maxHeartbeats 4000000 in
theorem note_spec (hI : ∀ (x lo hi : Int) (w : World), Calls Tryd.prog 42 #[.int .i64 x, .int .i64 lo, .int .i64 hi] w fun e w' => e = .returned (.bool (decide (lo ≤ x) && decide (x ≤ hi))) ∧ w' = w) (c : Int) (w : World) :
    Calls Tryd.prog 19 #[.int .i64 c] w fun e w' => e = .returned (.string (noteL c)) ∧ Below w.heap.size w w' := by
  by_cases h0 : c < 1
  · have e0 : noteL c = ⟨#[]⟩ := by
      by_cases hn : c < 0
      · exact noteL_neg hn
      · have : c = 0 := by omega
        subst this; rfl
    rw [e0]
    have HC := fun W => hI c 1 4 W
    rw [show (decide ((1 : Int) ≤ c) && decide (c ≤ 4)) = false by simp; omega] at HC
    clear h0 e0 hI
    go_enter Tryd.func19, Tryd.ntmps19
    go_wp2_with fail
    refine (HC _).mono ?_
    rintro e w' ⟨rfl, rfl⟩
    go_wp2
    go_ret
    exact ⟨rfl, (Below.refl _ _).alloc (Nat.le_refl _) _⟩
  · by_cases h11 : 5 ≤ c
    · rw [noteL_big h11]
      have HC := fun W => hI c 1 4 W
      rw [show (decide ((1 : Int) ≤ c) && decide (c ≤ 4)) = false by simp; omega] at HC
      clear h0 h11 hI
      go_enter Tryd.func19, Tryd.ntmps19
      go_wp2_with fail
      refine (HC _).mono ?_
      rintro e w' ⟨rfl, rfl⟩
      go_wp2
      go_ret
      exact ⟨rfl, (Below.refl _ _).alloc (Nat.le_refl _) _⟩
    · have HC := fun W => hI c 1 4 W
      rw [show (decide ((1 : Int) ≤ c) && decide (c ≤ 4)) = true by simp; omega] at HC
      have : c = 1 ∨ c = 2 ∨ c = 3 ∨ c = 4 := by omega
      clear h0 h11 hI
      rcases this with rfl | rfl | rfl | rfl
      all_goals
        go_enter Tryd.func19, Tryd.ntmps19
        go_wp2_with fail
        refine (HC _).mono ?_
        rintro e w' ⟨rfl, rfl⟩
        go_wp2
        go_ret
        exact ⟨rfl, (Below.refl _ _).alloc (Nat.le_refl _) _⟩

set_option maxHeartbeats 4000000 in
theorem note_impl (c : Int) (w : World) (hc : ∀ j, j < 5 → w.cell? ⟨1, j, none⟩ = noteCells[j]?) :
    Calls Tryd.prog 20 #[.int .i64 c] w fun e w' => e = .returned (.string (noteL c)) ∧ w = w' := by
  by_cases h0 : c < 0
  · rw [noteL_neg h0]
    clear hc
    go_enter Tryd.func20, Tryd.ntmps20
    go_wp2
    go_ret
    exact ⟨rfl, rfl⟩
  · by_cases h11 : 5 ≤ c
    · rw [noteL_big h11]
      clear hc
      go_enter Tryd.func20, Tryd.ntmps20
      go_wp2
      go_ret
      exact ⟨rfl, rfl⟩
    · have : c = 0 ∨ c = 1 ∨ c = 2 ∨ c = 3 ∨ c = 4 := by omega
      clear h0 h11
      rcases this with rfl | rfl | rfl | rfl | rfl
      · have h := hc 0 (by omega)
        simp only [noteCells] at h
        clear hc
        go_enter Tryd.func20, Tryd.ntmps20
        go_wp2
        go_ret
        exact ⟨rfl, rfl⟩
      · have h := hc 1 (by omega)
        simp only [noteCells] at h
        clear hc
        go_enter Tryd.func20, Tryd.ntmps20
        go_wp2
        go_ret
        exact ⟨rfl, rfl⟩
      · have h := hc 2 (by omega)
        simp only [noteCells] at h
        clear hc
        go_enter Tryd.func20, Tryd.ntmps20
        go_wp2
        go_ret
        exact ⟨rfl, rfl⟩
      · have h := hc 3 (by omega)
        simp only [noteCells] at h
        clear hc
        go_enter Tryd.func20, Tryd.ntmps20
        go_wp2
        go_ret
        exact ⟨rfl, rfl⟩
      · have h := hc 4 (by omega)
        simp only [noteCells] at h
        clear hc
        go_enter Tryd.func20, Tryd.ntmps20
        go_wp2
        go_ret
        exact ⟨rfl, rfl⟩

theorem walk_NoteName (hI : ∀ (x lo hi : Int) (w : World), Calls Tryd.prog 42 #[.int .i64 x, .int .i64 lo, .int .i64 hi] w fun e w' => e = .returned (.bool (decide (lo ≤ x) && decide (x ≤ hi))) ∧ w' = w) (c : Int) (w : World) (hb : 1 < w.heap.size) (hc : ∀ j, j < 5 → w.cell? ⟨1, j, none⟩ = noteCells[j]?) :
    Calls Tryd.prog 5 #[.int .i64 c] w fun e w' => e = .returned (.bool true) ∧ Below w.heap.size w w' := by
  have HS := note_spec hI c
  clear hI
  go_enter Tryd.func5, Tryd.ntmps5
  go_wp2_with fail
  refine (HS _).mono ?_
  rintro e w1 ⟨rfl, b1⟩
  have hc1 : ∀ j, j < 5 → w1.cell? ⟨1, j, none⟩ = noteCells[j]? := fun j hj => (b1.cell (p := ⟨1, j, none⟩) hb).trans (hc j hj)
  have HC := note_impl c w1 hc1
  clear hc hc1 HS
  generalize noteL c = s at HC ⊢
  go_wp2_with fail
  refine HC.mono ?_
  rintro e w2 ⟨rfl, rfl⟩
  go_wp2
  go_ret
  exact ⟨rfl, b1⟩
end Go.Proofs.YtgjmhihomklooaaDoor
