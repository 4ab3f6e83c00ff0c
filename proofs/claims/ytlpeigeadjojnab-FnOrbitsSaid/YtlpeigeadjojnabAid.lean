/- The laws' helpers a2At (a number that depends on a byte) and a2Sum (the sum of a list of throws). Conditions: at most 3000 bytes; a list of throws. -/
import Derived.Test.YtlpeigeadjojnabSrc
import Derived.Test.YtlpeigeadjojnabPat
namespace Go.Proofs.Ytlpeigeadjojnab
open Go.RowKit
set_option linter.unusedSimpArgs false
set_option linter.unusedVariables false

theorem a2Sum_core (g cap n : Nat) (f : Nat → Int) (s : Nat → Int) (w : World) (hn2 : n ≤ 12) (hs0 : s 0 = 0) (hs1 : ∀ i, i < n → s (i + 1) = s i + f i) (hb : ∀ i, i ≤ n → 0 ≤ s i ∧ s i ≤ 1000) (hf : ∀ i, i < n → 0 ≤ f i ∧ f i ≤ 15)
    (hc : ∀ i, i < n → w.cell? ⟨g, i, none⟩ = some (.int .i64 (f i))) :
    Calls Try.prog 14 #[.slice (some ⟨g, 0, none⟩) n cap] w fun e w' => e = .returned (.int .i64 (s n)) ∧ w = w' := by
  have HS0 := Lib.hid hs0
  have HS1 := Lib.hid hs1
  clear hs0 hs1
  go_enter Try.func14, Try.ntmps14
  go_wp2
  go_loop [3, 4] (fun t i => ∃ k : Nat, k ≤ n ∧ i = .int .i64 k ∧ t = .int .i64 (s k)) (fun _ i => n - (intOf i).toNat)
  case atStart => exact ⟨0, Nat.zero_le _, rfl, by rw [HS0.out]⟩
  case round =>
    obtain ⟨k, hk, rfl, rfl⟩ := hrel
    by_cases hlt : k < n
    · have c1 := hc k hlt
      have f1 := hf k hlt
      have b1 := hb k hk
      have h1 := HS1.out k hlt
      have HH := Lib.hid h1
      clear hc hf hb h1
      go_wp2
      go_round
      case rel => exact ⟨k + 1, by omega, by go_num, by rw [HH.out]⟩
      case measure => simp [intOf]; omega
    · obtain rfl : k = n := by omega
      clear hc hf hb
      go_wp2
      go_ret
      exact ⟨rfl, rfl⟩

theorem a2Sum_any (v : Value) (B : Nat) (p : List Int) (w : World) (h : Ints w B v p) (hok : okList p = true) :
    Calls Try.prog 14 #[v] w fun e w' => e = .returned (.int .i64 p.sum) ∧ w = w' := by
  obtain ⟨h1, h2⟩ := okList_len hok
  rcases h.shape with ⟨rfl, rfl⟩ | ⟨g, cap, rfl, _, _, _⟩
  · simp at h1
  · have := a2Sum_core g cap p.length (fun i => p.getD i 0) (fun k => (p.take k).sum) w h2 (by simp) (fun i hi => sum_take i hi)
      (fun i hi => by have := sum_bound (fun i hi => okList_at hok i hi) i hi; exact ⟨this.1, by omega⟩) (fun i hi => okList_at hok i hi) (fun i hi => h.cell i hi)
    rwa [List.take_length] at this
end Go.Proofs.Ytlpeigeadjojnab
