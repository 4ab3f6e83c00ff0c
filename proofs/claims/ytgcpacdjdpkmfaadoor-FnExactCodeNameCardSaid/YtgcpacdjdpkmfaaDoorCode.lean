/- CodeName, the model's and the program's: both answer the name of a code. Condition: the program's table of names reads as its text lays it. -/
import Derived.Test.YtgcpacdjdpkmfaaDoorRows
import Derived.WalkKit
import Derived.ProofKit
import Derived.OpenShut
import Derived.ShutString
import Derived.ChangeOld
import Derived.Below
import Derived.Lib.Hide
import Derived.Outline
import Derived.WalkSpells
import Derived.WalkSmall
import Derived.WalkLawsBesides
import Derived.ChangeArms
import Derived.ChangeVars
namespace Go.Proofs.YtgcpacdjdpkmfaaDoor
open Go.RowKit
set_option linter.unusedSimpArgs false
set_option linter.unusedVariables false

/-- the table's cells -/
def nameCells : Array Value := #[.string ⟨#[111, 107]⟩, .string ⟨#[105, 110, 118, 97, 108, 105, 100]⟩, .string ⟨#[114, 97, 110, 103, 101]⟩, .string ⟨#[110, 111, 116, 45, 102, 111, 117, 110, 100]⟩, .string ⟨#[101, 120, 105, 115, 116, 115]⟩, .string ⟨#[102, 117, 108, 108]⟩, .string ⟨#[115, 116, 97, 116, 101]⟩, .string ⟨#[115, 121, 110, 116, 97, 120]⟩, .string ⟨#[102, 111, 114, 109, 97, 116]⟩, .string ⟨#[99, 111, 108, 108, 105, 115, 105, 111, 110]⟩, .string ⟨#[108, 111, 115, 116]⟩]
/-- the name of a code -/
def codeL (c : Int) : ByteArray := if c < 0 then ⟨#[]⟩ else match c.toNat with
  | 0 => ⟨#[111, 107]⟩
  | 1 => ⟨#[105, 110, 118, 97, 108, 105, 100]⟩
  | 2 => ⟨#[114, 97, 110, 103, 101]⟩
  | 3 => ⟨#[110, 111, 116, 45, 102, 111, 117, 110, 100]⟩
  | 4 => ⟨#[101, 120, 105, 115, 116, 115]⟩
  | 5 => ⟨#[102, 117, 108, 108]⟩
  | 6 => ⟨#[115, 116, 97, 116, 101]⟩
  | 7 => ⟨#[115, 121, 110, 116, 97, 120]⟩
  | 8 => ⟨#[102, 111, 114, 109, 97, 116]⟩
  | 9 => ⟨#[99, 111, 108, 108, 105, 115, 105, 111, 110]⟩
  | 10 => ⟨#[108, 111, 115, 116]⟩
  | _ => ⟨#[]⟩

theorem ret_str {a b : ByteArray} (h : a = b) : Ending.returned (.string a) = .returned (.string b) := by rw [h]
theorem codeL_neg {c : Int} (h : c < 0) : codeL c = ⟨#[]⟩ := by rw [codeL, if_pos h]
theorem codeL_big {c : Int} (h : 11 ≤ c) : codeL c = ⟨#[]⟩ := by
  obtain ⟨k, hk⟩ : ∃ k : Nat, c.toNat = k + 11 := ⟨c.toNat - 11, by omega⟩
  rw [codeL, if_neg (by omega), hk]
  rfl

set_option maxHeartbeats 4000000 in
theorem codeName_spec (c : Int) (w : World) :
    Calls Tryd.prog 6 #[.int .i64 c] w fun e w' => e = .returned (.string (codeL c)) ∧ Below w.heap.size w w' := by
  by_cases h0 : c < 0
  · rw [codeL_neg h0]
    have h1 : ¬ 0 ≤ c := by omega
    go_enter Tryd.func6, Tryd.ntmps6
    go_wp2
    go_ret
    exact ⟨rfl, (Below.refl _ _).alloc (Nat.le_refl _) _⟩
  · by_cases h11 : 11 ≤ c
    · rw [codeL_big h11]
      have h1 : 0 ≤ c := by omega
      have h2 : ¬ c ≤ 10 := by omega
      go_enter Tryd.func6, Tryd.ntmps6
      go_wp2
      go_ret
      exact ⟨rfl, (Below.refl _ _).alloc (Nat.le_refl _) _⟩
    · have : c = 0 ∨ c = 1 ∨ c = 2 ∨ c = 3 ∨ c = 4 ∨ c = 5 ∨ c = 6 ∨ c = 7 ∨ c = 8 ∨ c = 9 ∨ c = 10 := by omega
      clear h0 h11
      rcases this with rfl | rfl | rfl | rfl | rfl | rfl | rfl | rfl | rfl | rfl | rfl
      all_goals
        go_enter Tryd.func6, Tryd.ntmps6
        go_wp2
        go_ret
        exact ⟨rfl, (Below.refl _ _).alloc (Nat.le_refl _) _⟩

set_option maxHeartbeats 4000000 in
theorem codeName_impl (c : Int) (w : World) (hc : ∀ j, j < 11 → w.cell? ⟨0, j, none⟩ = nameCells[j]?) :
    Calls Tryd.prog 7 #[.int .i64 c] w fun e w' => e = .returned (.string (codeL c)) ∧ w = w' := by
  by_cases h0 : c < 0
  · rw [codeL_neg h0]
    clear hc
    go_enter Tryd.func7, Tryd.ntmps7
    go_wp2
    go_ret
    exact ⟨rfl, rfl⟩
  · by_cases h11 : 11 ≤ c
    · rw [codeL_big h11]
      clear hc
      go_enter Tryd.func7, Tryd.ntmps7
      go_wp2
      go_ret
      exact ⟨rfl, rfl⟩
    · have : c = 0 ∨ c = 1 ∨ c = 2 ∨ c = 3 ∨ c = 4 ∨ c = 5 ∨ c = 6 ∨ c = 7 ∨ c = 8 ∨ c = 9 ∨ c = 10 := by omega
      clear h0 h11
      rcases this with rfl | rfl | rfl | rfl | rfl | rfl | rfl | rfl | rfl | rfl | rfl
      · have h := hc 0 (by omega)
        simp only [nameCells] at h
        clear hc
        go_enter Tryd.func7, Tryd.ntmps7
        go_wp2
        go_ret
        exact ⟨rfl, rfl⟩
      · have h := hc 1 (by omega)
        simp only [nameCells] at h
        clear hc
        go_enter Tryd.func7, Tryd.ntmps7
        go_wp2
        go_ret
        exact ⟨rfl, rfl⟩
      · have h := hc 2 (by omega)
        simp only [nameCells] at h
        clear hc
        go_enter Tryd.func7, Tryd.ntmps7
        go_wp2
        go_ret
        exact ⟨rfl, rfl⟩
      · have h := hc 3 (by omega)
        simp only [nameCells] at h
        clear hc
        go_enter Tryd.func7, Tryd.ntmps7
        go_wp2
        go_ret
        exact ⟨rfl, rfl⟩
      · have h := hc 4 (by omega)
        simp only [nameCells] at h
        clear hc
        go_enter Tryd.func7, Tryd.ntmps7
        go_wp2
        go_ret
        exact ⟨rfl, rfl⟩
      · have h := hc 5 (by omega)
        simp only [nameCells] at h
        clear hc
        go_enter Tryd.func7, Tryd.ntmps7
        go_wp2
        go_ret
        exact ⟨rfl, rfl⟩
      · have h := hc 6 (by omega)
        simp only [nameCells] at h
        clear hc
        go_enter Tryd.func7, Tryd.ntmps7
        go_wp2
        go_ret
        exact ⟨rfl, rfl⟩
      · have h := hc 7 (by omega)
        simp only [nameCells] at h
        clear hc
        go_enter Tryd.func7, Tryd.ntmps7
        go_wp2
        go_ret
        exact ⟨rfl, rfl⟩
      · have h := hc 8 (by omega)
        simp only [nameCells] at h
        clear hc
        go_enter Tryd.func7, Tryd.ntmps7
        go_wp2
        go_ret
        exact ⟨rfl, rfl⟩
      · have h := hc 9 (by omega)
        simp only [nameCells] at h
        clear hc
        go_enter Tryd.func7, Tryd.ntmps7
        go_wp2
        go_ret
        exact ⟨rfl, rfl⟩
      · have h := hc 10 (by omega)
        simp only [nameCells] at h
        clear hc
        go_enter Tryd.func7, Tryd.ntmps7
        go_wp2
        go_ret
        exact ⟨rfl, rfl⟩

theorem walk_CodeName (c : Int) (w : World) (hb : 0 < w.heap.size) (hc : ∀ j, j < 11 → w.cell? ⟨0, j, none⟩ = nameCells[j]?) :
    Calls Tryd.prog 3 #[.int .i64 c] w fun e w' => e = .returned (.bool true) ∧ Below w.heap.size w w' := by
  go_enter Tryd.func3, Tryd.ntmps3
  go_wp2_with fail
  refine (codeName_spec c _).mono ?_
  rintro e w1 ⟨rfl, b1⟩
  have hc1 : ∀ j, j < 11 → w1.cell? ⟨0, j, none⟩ = nameCells[j]? := fun j hj => (b1.cell (p := ⟨0, j, none⟩) hb).trans (hc j hj)
  have HC := codeName_impl c w1 hc1
  clear hc hc1
  generalize codeL c = s at HC ⊢
  go_wp2_with fail
  refine HC.mono ?_
  rintro e w2 ⟨rfl, rfl⟩
  go_wp2
  go_ret
  exact ⟨rfl, b1⟩
end Go.Proofs.YtgcpacdjdpkmfaaDoor
