/- HighestOf, the model's and the program's. No conditions. -/
import Derived.Test.YtdghbbnddgngoaaImpl02
namespace Go.Proofs.Ytdghbbnddgngoaa
open Go.RowKit
set_option linter.unusedSimpArgs false
set_option linter.unusedVariables false

theorem l00Max_any (x y : Int) (w : World) :
    Calls Try.prog 67 #[.int .i64 x, .int .i64 y] w fun e w' => e = .returned (.int .i64 (max x y)) ∧ w = w' := by
  by_cases h : y < x
  · rw [show max x y = x from by omega]
    go_enter Try.func67, Try.ntmps67
    go_wp2
    go_ret
    exact ⟨rfl, rfl⟩
  · rw [show max x y = y from by omega]
    go_enter Try.func67, Try.ntmps67
    go_wp2
    go_ret
    exact ⟨rfl, rfl⟩

theorem l02High_core (g cap n : Nat) (f : Nat → Int) (s : Nat → Int) (w : World) (hn2 : n ≤ 12) (hs0 : s 0 = 0) (hs1 : ∀ i, i < n → s (i + 1) = max (s i) (f i))
    (hc : ∀ i, i < n → w.cell? ⟨g, i, none⟩ = some (.int .i64 (f i))) :
    Calls Try.prog 68 #[.slice (some ⟨g, 0, none⟩) n cap] w fun e w' => e = .returned (.int .i64 (s n)) ∧ w = w' := by
  have HS0 := Lib.hid hs0
  have HS1 := Lib.hid hs1
  clear hs0 hs1
  go_enter Try.func68, Try.ntmps68
  go_wp2
  go_loop [3, 4] (fun t i => ∃ k : Nat, k ≤ n ∧ i = .int .i64 k ∧ t = .int .i64 (s k)) (fun _ i => n - (intOf i).toNat)
  case atStart => exact ⟨0, Nat.zero_le _, rfl, by rw [HS0.out]⟩
  case round =>
    obtain ⟨k, hk, rfl, rfl⟩ := hrel
    by_cases hlt : k < n
    · have c1 := hc k hlt
      have HH := Lib.hid (HS1.out k hlt)
      clear hc
      go_wp2_with fail
      refine (l00Max_any _ _ _).mono ?_
      rintro e w' ⟨rfl, rfl⟩
      go_wp2
      go_round
      case rel => exact ⟨k + 1, by omega, by go_num, by rw [HH.out]⟩
      case measure => simp [intOf]; omega
    · obtain rfl : k = n := by omega
      clear hc
      go_wp2
      go_ret
      exact ⟨rfl, rfl⟩

theorem slicesMax_core (g cap n : Nat) (f : Nat → Int) (s : Nat → Int) (w : World) (hn1 : 1 ≤ n) (hn2 : n ≤ 12) (hs0 : s 1 = f 0) (hs1 : ∀ i, i < n → s (i + 1) = max (s i) (f i))
    (hc : ∀ i, i < n → w.cell? ⟨g, i, none⟩ = some (.int .i64 (f i))) :
    Calls Try.prog 96 #[.slice (some ⟨g, 0, none⟩) n cap] w fun e w' => e = .returned (.int .i64 (s n)) ∧ w = w' := by
  have HS0 := Lib.hid hs0
  have HS1 := Lib.hid hs1
  clear hs0 hs1
  have c0 := hc 0 (by omega)
  go_enter Try.func96, Try.ntmps96
  go_wp2
  go_loop [3, 4] (fun t i => ∃ k : Nat, 1 ≤ k ∧ k ≤ n ∧ i = .int .i64 k ∧ t = .int .i64 (s k)) (fun _ i => n - (intOf i).toNat)
  case atStart => exact ⟨1, by omega, by omega, rfl, by rw [HS0.out]⟩
  case round =>
    obtain ⟨k, hk1, hk, rfl, rfl⟩ := hrel
    by_cases hlt : k < n
    · have c1 := hc k hlt
      have HH := Lib.hid (HS1.out k hlt)
      clear hc
      go_wp2
      go_round
      case rel => exact ⟨k + 1, by omega, by omega, by go_num, by rw [HH.out, show (if s k < f k then f k else s k) = max (s k) (f k) from by split <;> omega]⟩
      case measure => simp [intOf]; omega
    · obtain rfl : k = n := by omega
      clear hc
      go_wp2
      go_ret
      exact ⟨rfl, rfl⟩

theorem highestOf_impl (v : Value) (B : Nat) (p : List Int) (w : World) (h : Ints w B v p) :
    Calls Try.prog 73 #[v] w fun e w' => e = .returned (.tuple #[.int .i64 (highA p), .int .i64 (okC p)]) ∧ Below w.heap.size w w' := by
  cases hok : okPat p with
  | false =>
    rw [highA_false hok, okC_false hok]
    go_enter Try.func73, Try.ntmps73
    go_wp2_with fail
    refine (validPattern_impl v B p _ h).mono ?_
    rintro e w' ⟨rfl, hb⟩
    rw [hok]
    go_wp2
    go_ret2
    exact ⟨rfl, hb⟩
  | true =>
    rw [highA_true hok, okC_true hok]
    obtain ⟨h1, h2⟩ := okPat_len hok
    rcases h.shape with ⟨rfl, rfl⟩ | ⟨g, cap, rfl, _, hg, _⟩
    · simp at h1
    · go_enter Try.func73, Try.ntmps73
      go_wp2_with fail
      refine (validPattern_impl _ B p _ h).mono ?_
      rintro e w1 ⟨rfl, hb⟩
      rw [hok]
      have HC := slicesMax_core g cap p.length (fun i => p.getD i 0) (hiF (fun i => p.getD i 0)) w1 h1 h2 (by have := okPat_at hok 0 (by omega); simp only [hiF]; omega) (fun i hi => rfl) (fun i hi => (h.below hb).cell i hi)
      go_wp2_with fail
      refine HC.mono ?_
      rintro e w2 ⟨rfl, rfl⟩
      go_wp2
      go_ret2
      exact ⟨rfl, hb⟩

end Go.Proofs.Ytdghbbnddgngoaa
