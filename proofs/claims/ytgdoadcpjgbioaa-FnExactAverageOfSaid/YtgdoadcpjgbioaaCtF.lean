/- AverageOf, the model's and the program's. No conditions. -/
import Derived.Test.YtgdoadcpjgbioaaSpec02b
import Derived.Test.YtgdoadcpjgbioaaImpl02b
import Derived.Test.YtgdoadcpjgbioaaStF
namespace Go.Proofs.Ytgdoadcpjgbioaa
open Go.RowKit
set_option linter.unusedSimpArgs false
set_option linter.unusedVariables false

/-- what AverageOf answers -/
def avgA (p : List Int) : Int := if okList p then p.sum / (p.length : Int) else 0
def avgB (p : List Int) : Bool := okList p && (p.sum % (p.length : Int) == 0)
def avgC (p : List Int) : Int := if okList p then 0 else 1
theorem avg_no {p : List Int} (h : okList p = false) : avgA p = 0 ∧ avgB p = false ∧ avgC p = 1 := by simp [avgA, avgB, avgC, h]
theorem avg_yes {p : List Int} (h : okList p = true) : avgA p = p.sum / (p.length : Int) ∧ avgB p = (p.sum % (p.length : Int) == 0) ∧ avgC p = 0 := by simp [avgA, avgB, avgC, h]

theorem averageOf_spec (v : Value) (B : Nat) (p : List Int) (w : World) (h : Ints w B v p) :
    Calls Try.prog 41 #[v] w fun e w' => e = .returned (.tuple #[.int .i64 (avgA p), .bool (avgB p), .int .i64 (avgC p)]) ∧ Below w.heap.size w w' := by
  have HL := l02List_any v B p w h
  cases hok : okList p with
  | false =>
    obtain ⟨e1, e2, e3⟩ := avg_no hok
    rw [e1, e2, e3]
    rw [hok] at HL
    clear h hok e1 e2 e3
    go_enter Try.func41, Try.ntmps41
    go_wp2_with fail
    refine HL.mono ?_
    rintro e w1 ⟨rfl, rfl⟩
    go_wp2
    go_ret3
    exact ⟨rfl, Below.refl _ _⟩
  | true =>
    obtain ⟨e1, e2, e3⟩ := avg_yes hok
    rw [e1, e2, e3]
    rw [hok] at HL
    obtain ⟨h1, h2⟩ := okList_len hok
    have hb := sum_bound (fun i hi => okList_at hok i hi) p.length (Nat.le_refl _)
    rw [List.take_length] at hb
    obtain ⟨hb1, hb2⟩ := hb
    have HC := Lib.hid (fun m => (l02Sum_any v B p (w.drewN m) (h.below (below_drewN (Below.refl _ _) m)) hok).mono (R' := fun e w' => e = .returned (.int .i64 p.sum) ∧ w' = w.drewN m) fun e w' k => ⟨k.1, k.2.symm⟩)
    obtain ⟨xa, xc, rfl⟩ := ints_slO h
    clear h hok e1 e2 e3
    generalize p.sum = s at *
    generalize p.length = n at *
    go_enter Try.func41, Try.ntmps41
    go_wp2_with fail
    refine HL.mono ?_
    rintro e w1 ⟨rfl, rfl⟩
    clear HL
    go_wp2
    go_quiet ((go_at_call 63; exact Calls.quiet_of_same (HC.out _)))
    go_wp2
    go_ret3
    exact ⟨rfl, below_drewN (Below.refl _ _) _⟩

theorem averageOf_core (g cap n : Nat) (f : Nat → Int) (s : Nat → Int) (w : World) (hn1 : 1 ≤ n) (hn2 : n ≤ 12) (hs0 : s 0 = 0) (hs1 : ∀ i, i < n → s (i + 1) = s i + f i) (hb : ∀ i, i ≤ n → 0 ≤ s i ∧ s i ≤ 1000) (hf : ∀ i, i < n → 0 ≤ f i ∧ f i ≤ 15)
    (hc : ∀ i, i < n → w.cell? ⟨g, i, none⟩ = some (.int .i64 (f i)))
    (HL : Calls Try.prog 64 #[.slice (some ⟨g, 0, none⟩) n cap] w fun e w' => e = .returned (.bool true) ∧ w = w') :
    Calls Try.prog 42 #[.slice (some ⟨g, 0, none⟩) n cap] w fun e w' => e = .returned (.tuple #[.int .i64 (s n / (n : Int)), .bool (s n % (n : Int) == 0), .int .i64 0]) ∧ Below w.heap.size w w' := by
  have HS0 := Lib.hid hs0
  have HS1 := Lib.hid hs1
  have BB := Below.refl w.heap.size w
  clear hs0 hs1
  go_enter Try.func42, Try.ntmps42
  go_wp2_with fail
  refine HL.mono ?_
  rintro e w1 ⟨rfl, rfl⟩
  clear HL
  go_wp2
  go_loop [6, 15] (fun t i => ∃ k : Nat, k ≤ n ∧ i = .int .i64 k ∧ t = .int .i64 (s k)) (fun _ i => n - (intOf i).toNat)
  case atStart => exact ⟨0, Nat.zero_le _, rfl, by rw [HS0.out]⟩
  case round =>
    obtain ⟨k, hk, rfl, rfl⟩ := hrel
    by_cases hlt : k < n
    · have c1 := hc k hlt
      have f1 := hf k hlt
      have b1 := hb k hk
      have h1 := HS1.out k hlt
      have HH := Lib.hid h1
      clear hc hf hb h1
      go_wp2
      go_round
      case rel => exact ⟨k + 1, by omega, by go_num, by rw [HH.out]⟩
      case measure => simp [intOf]; omega
    · obtain rfl : k = n := by omega
      have b1 := hb k hk
      clear hc hf hb
      obtain ⟨x, hx⟩ : ∃ x, s k = x := ⟨_, rfl⟩
      rw [hx] at b1 ⊢
      obtain ⟨b2, b3⟩ := b1
      have hq0 : 0 ≤ x / (k : Int) := Int.ediv_nonneg b2 (by omega)
      have hq1 : x / (k : Int) ≤ x := Int.ediv_le_self _ b2
      have HX := Lib.hid hx
      clear hx HS0 HS1
      go_wp2
      go_quiet ((go_at_call 65; exact Calls.quiet_of_same (period_any _ _ _ _)))
      go_wp2
      go_ret3
      exact ⟨by rw [HX.out]; rfl, below_drewN BB _⟩

theorem averageOf_impl (v : Value) (B : Nat) (p : List Int) (w : World) (h : Ints w B v p) :
    Calls Try.prog 42 #[v] w fun e w' => e = .returned (.tuple #[.int .i64 (avgA p), .bool (avgB p), .int .i64 (avgC p)]) ∧ Below w.heap.size w w' := by
  have HL := isList_any v B p w h
  cases hok : okList p with
  | false =>
    obtain ⟨e1, e2, e3⟩ := avg_no hok
    rw [e1, e2, e3]
    rw [hok] at HL
    clear h hok e1 e2 e3
    go_enter Try.func42, Try.ntmps42
    go_wp2_with fail
    refine HL.mono ?_
    rintro e w1 ⟨rfl, rfl⟩
    go_wp2
    go_ret3
    exact ⟨rfl, Below.refl _ _⟩
  | true =>
    obtain ⟨e1, e2, e3⟩ := avg_yes hok
    rw [e1, e2, e3]
    rw [hok] at HL
    obtain ⟨h1, h2⟩ := okList_len hok
    rcases h.shape with ⟨rfl, rfl⟩ | ⟨g, cap, rfl, _, _, _⟩
    · simp at h1
    · have := averageOf_core g cap p.length (fun i => p.getD i 0) (fun k => (p.take k).sum) w h1 h2 (by simp) (fun i hi => sum_take i hi)
        (fun i hi => by have := sum_bound (fun i hi => okList_at hok i hi) i hi; exact ⟨this.1, by omega⟩) (fun i hi => okList_at hok i hi) (fun i hi => h.cell i hi) HL
      rwa [List.take_length] at this
end Go.Proofs.Ytgdoadcpjgbioaa
