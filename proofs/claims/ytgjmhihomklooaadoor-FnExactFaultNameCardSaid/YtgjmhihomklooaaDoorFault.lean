/- FaultName, the model's and the program's: both answer the name of a number. Condition: the program's table of names reads as its text lays it. -/
import Derived.Test.YtgjmhihomklooaaDoorRows
import Derived.WalkKit
import Derived.ProofKit
import Derived.OpenShut
import Derived.ShutString
import Derived.ChangeOld
import Derived.Below
import Derived.Lib.Hide
import Derived.Outline
import Derived.WalkSpells
import Derived.WalkSmall
import Derived.WalkLawsBesides
import Derived.ChangeArms
import Derived.ChangeVars
namespace Go.Proofs.YtgjmhihomklooaaDoor
open Go.RowKit
set_option linter.unusedSimpArgs false
set_option linter.unusedVariables false

/-- the table's cells -/
def faultCells : Array Value := #[.string ⟨#[110, 111, 110, 101]⟩, .string ⟨#[101, 109, 112, 116, 121]⟩, .string ⟨#[108, 111, 110, 103]⟩, .string ⟨#[99, 104, 97, 114, 97, 99, 116, 101, 114]⟩, .string ⟨#[102, 111, 114, 109]⟩, .string ⟨#[99, 111, 108, 108, 105, 115, 105, 111, 110]⟩]
/-- the name of a number -/
def faultL (c : Int) : ByteArray := if c < 0 then ⟨#[]⟩ else match c.toNat with
  | 0 => ⟨#[110, 111, 110, 101]⟩
  | 1 => ⟨#[101, 109, 112, 116, 121]⟩
  | 2 => ⟨#[108, 111, 110, 103]⟩
  | 3 => ⟨#[99, 104, 97, 114, 97, 99, 116, 101, 114]⟩
  | 4 => ⟨#[102, 111, 114, 109]⟩
  | 5 => ⟨#[99, 111, 108, 108, 105, 115, 105, 111, 110]⟩
  | _ => ⟨#[]⟩

theorem faultL_neg {c : Int} (h : c < 0) : faultL c = ⟨#[]⟩ := by rw [faultL, if_pos h]
theorem faultL_big {c : Int} (h : 6 ≤ c) : faultL c = ⟨#[]⟩ := by
  obtain ⟨k, hk⟩ : ∃ k : Nat, c.toNat = k + 6 := ⟨c.toNat - 6, by omega⟩
  rw [faultL, if_neg (by omega), hk]
  rfl

set_option maxHeartbeats 4000000 in
theorem fault_spec (hI : ∀ (x lo hi : Int) (w : World), Calls Tryd.prog 42 #[.int .i64 x, .int .i64 lo, .int .i64 hi] w fun e w' => e = .returned (.bool (decide (lo ≤ x) && decide (x ≤ hi))) ∧ w' = w) (c : Int) (w : World) :
    Calls Tryd.prog 21 #[.int .i64 c] w fun e w' => e = .returned (.string (faultL c)) ∧ Below w.heap.size w w' := by
  by_cases h0 : c < 0
  · have e0 : faultL c = ⟨#[]⟩ := by
      by_cases hn : c < 0
      · exact faultL_neg hn
      · have : False := by omega
        exact this.elim
    rw [e0]
    have HC := fun W => hI c 0 5 W
    rw [show (decide ((0 : Int) ≤ c) && decide (c ≤ 5)) = false by simp; omega] at HC
    clear h0 e0 hI
    go_enter Tryd.func21, Tryd.ntmps21
    go_wp2_with fail
    refine (HC _).mono ?_
    rintro e w' ⟨rfl, rfl⟩
    go_wp2
    go_ret
    exact ⟨rfl, (Below.refl _ _).alloc (Nat.le_refl _) _⟩
  · by_cases h11 : 6 ≤ c
    · rw [faultL_big h11]
      have HC := fun W => hI c 0 5 W
      rw [show (decide ((0 : Int) ≤ c) && decide (c ≤ 5)) = false by simp; omega] at HC
      clear h0 h11 hI
      go_enter Tryd.func21, Tryd.ntmps21
      go_wp2_with fail
      refine (HC _).mono ?_
      rintro e w' ⟨rfl, rfl⟩
      go_wp2
      go_ret
      exact ⟨rfl, (Below.refl _ _).alloc (Nat.le_refl _) _⟩
    · have HC := fun W => hI c 0 5 W
      rw [show (decide ((0 : Int) ≤ c) && decide (c ≤ 5)) = true by simp; omega] at HC
      have : c = 0 ∨ c = 1 ∨ c = 2 ∨ c = 3 ∨ c = 4 ∨ c = 5 := by omega
      clear h0 h11 hI
      rcases this with rfl | rfl | rfl | rfl | rfl | rfl
      all_goals
        go_enter Tryd.func21, Tryd.ntmps21
        go_wp2_with fail
        refine (HC _).mono ?_
        rintro e w' ⟨rfl, rfl⟩
        go_wp2
        go_ret
        exact ⟨rfl, (Below.refl _ _).alloc (Nat.le_refl _) _⟩

set_option maxHeartbeats 4000000 in
theorem fault_impl (c : Int) (w : World) (hc : ∀ j, j < 6 → w.cell? ⟨2, j, none⟩ = faultCells[j]?) :
    Calls Tryd.prog 22 #[.int .i64 c] w fun e w' => e = .returned (.string (faultL c)) ∧ w = w' := by
  by_cases h0 : c < 0
  · rw [faultL_neg h0]
    clear hc
    go_enter Tryd.func22, Tryd.ntmps22
    go_wp2
    go_ret
    exact ⟨rfl, rfl⟩
  · by_cases h11 : 6 ≤ c
    · rw [faultL_big h11]
      clear hc
      go_enter Tryd.func22, Tryd.ntmps22
      go_wp2
      go_ret
      exact ⟨rfl, rfl⟩
    · have : c = 0 ∨ c = 1 ∨ c = 2 ∨ c = 3 ∨ c = 4 ∨ c = 5 := by omega
      clear h0 h11
      rcases this with rfl | rfl | rfl | rfl | rfl | rfl
      · have h := hc 0 (by omega)
        simp only [faultCells] at h
        clear hc
        go_enter Tryd.func22, Tryd.ntmps22
        go_wp2
        go_ret
        exact ⟨rfl, rfl⟩
      · have h := hc 1 (by omega)
        simp only [faultCells] at h
        clear hc
        go_enter Tryd.func22, Tryd.ntmps22
        go_wp2
        go_ret
        exact ⟨rfl, rfl⟩
      · have h := hc 2 (by omega)
        simp only [faultCells] at h
        clear hc
        go_enter Tryd.func22, Tryd.ntmps22
        go_wp2
        go_ret
        exact ⟨rfl, rfl⟩
      · have h := hc 3 (by omega)
        simp only [faultCells] at h
        clear hc
        go_enter Tryd.func22, Tryd.ntmps22
        go_wp2
        go_ret
        exact ⟨rfl, rfl⟩
      · have h := hc 4 (by omega)
        simp only [faultCells] at h
        clear hc
        go_enter Tryd.func22, Tryd.ntmps22
        go_wp2
        go_ret
        exact ⟨rfl, rfl⟩
      · have h := hc 5 (by omega)
        simp only [faultCells] at h
        clear hc
        go_enter Tryd.func22, Tryd.ntmps22
        go_wp2
        go_ret
        exact ⟨rfl, rfl⟩

theorem walk_FaultName (hI : ∀ (x lo hi : Int) (w : World), Calls Tryd.prog 42 #[.int .i64 x, .int .i64 lo, .int .i64 hi] w fun e w' => e = .returned (.bool (decide (lo ≤ x) && decide (x ≤ hi))) ∧ w' = w) (c : Int) (w : World) (hb : 2 < w.heap.size) (hc : ∀ j, j < 6 → w.cell? ⟨2, j, none⟩ = faultCells[j]?) :
    Calls Tryd.prog 6 #[.int .i64 c] w fun e w' => e = .returned (.bool true) ∧ Below w.heap.size w w' := by
  have HS := fault_spec hI c
  clear hI
  go_enter Tryd.func6, Tryd.ntmps6
  go_wp2_with fail
  refine (HS _).mono ?_
  rintro e w1 ⟨rfl, b1⟩
  have hc1 : ∀ j, j < 6 → w1.cell? ⟨2, j, none⟩ = faultCells[j]? := fun j hj => (b1.cell (p := ⟨2, j, none⟩) hb).trans (hc j hj)
  have HC := fault_impl c w1 hc1
  clear hc hc1 HS
  generalize faultL c = s at HC ⊢
  go_wp2_with fail
  refine HC.mono ?_
  rintro e w2 ⟨rfl, rfl⟩
  go_wp2
  go_ret
  exact ⟨rfl, b1⟩
end Go.Proofs.YtgjmhihomklooaaDoor
