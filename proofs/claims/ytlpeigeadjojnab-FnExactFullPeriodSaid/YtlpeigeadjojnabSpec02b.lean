/- The model's chapter 2, second part: sums, props, remainders, throws at beats and the beats from which they land. No conditions but that a list is in bounds. -/
import Derived.Test.YtlpeigeadjojnabSpec02
namespace Go.Proofs.Ytlpeigeadjojnab
open Go.RowKit
set_option linter.unusedSimpArgs false
set_option linter.unusedVariables false

theorem l02Sum_core (g cap n : Nat) (f : Nat → Int) (s : Nat → Int) (w : World) (hn2 : n ≤ 12) (hs0 : s 0 = 0) (hs1 : ∀ i, i < n → s (i + 1) = s i + f i) (hb : ∀ i, i ≤ n → 0 ≤ s i ∧ s i ≤ 1000) (hf : ∀ i, i < n → 0 ≤ f i ∧ f i ≤ 15)
    (hc : ∀ i, i < n → w.cell? ⟨g, i, none⟩ = some (.int .i64 (f i))) :
    Calls Try.prog 43 #[.slice (some ⟨g, 0, none⟩) n cap] w fun e w' => e = .returned (.int .i64 (s n)) ∧ w = w' := by
  have HS0 := Lib.hid hs0
  have HS1 := Lib.hid hs1
  clear hs0 hs1
  go_enter Try.func43, Try.ntmps43
  go_wp2
  go_loop [3, 4] (fun t i => ∃ k : Nat, k ≤ n ∧ i = .int .i64 k ∧ t = .int .i64 (s k)) (fun _ i => n - (intOf i).toNat)
  case atStart => exact ⟨0, Nat.zero_le _, rfl, by rw [HS0.out]⟩
  case round =>
    obtain ⟨k, hk, rfl, rfl⟩ := hrel
    by_cases hlt : k < n
    · have c1 := hc k hlt
      have f1 := hf k hlt
      have b1 := hb k hk
      have h1 := HS1.out k hlt
      have HH := Lib.hid h1
      clear hc hf hb h1
      go_wp2
      go_round
      case rel => exact ⟨k + 1, by omega, by go_num, by rw [HH.out]⟩
      case measure => simp [intOf]; omega
    · obtain rfl : k = n := by omega
      clear hc hf hb
      go_wp2
      go_ret
      exact ⟨rfl, rfl⟩

theorem l02Sum_any (v : Value) (B : Nat) (p : List Int) (w : World) (h : Ints w B v p) (hok : okList p = true) :
    Calls Try.prog 43 #[v] w fun e w' => e = .returned (.int .i64 p.sum) ∧ w = w' := by
  obtain ⟨h1, h2⟩ := okList_len hok
  rcases h.shape with ⟨rfl, rfl⟩ | ⟨g, cap, rfl, _, _, _⟩
  · simp at h1
  · have := l02Sum_core g cap p.length (fun i => p.getD i 0) (fun k => (p.take k).sum) w h2 (by simp) (fun i hi => sum_take i hi)
      (fun i hi => by have := sum_bound (fun i hi => okList_at hok i hi) i hi; exact ⟨this.1, by omega⟩) (fun i hi => okList_at hok i hi) (fun i hi => h.cell i hi)
    rwa [List.take_length] at this

theorem l02Props_any (v : Value) (B : Nat) (p : List Int) (w : World) (h : Ints w B v p) (hok : okList p = true) :
    Calls Try.prog 27 #[v] w fun e w' => e = .returned (.int .i64 (p.sum / (p.length : Int))) ∧ w = w' := by
  obtain ⟨h1, h2⟩ := okList_len hok
  have hb := sum_bound (fun i hi => okList_at hok i hi) p.length (Nat.le_refl _)
  rw [List.take_length] at hb
  obtain ⟨hb1, hb2⟩ := hb
  rcases h.shape with ⟨rfl, rfl⟩ | ⟨g, cap, rfl, _, _, _⟩
  · simp at h1
  · have HC := l02Sum_any _ B p w h hok
    clear h
    generalize p.sum = s at *
    generalize p.length = n at *
    go_enter Try.func27, Try.ntmps27
    go_wp2_with fail
    refine HC.mono ?_
    rintro e w' ⟨rfl, rfl⟩
    go_wp2
    go_ret
    exact ⟨rfl, rfl⟩

theorem propsOf_spec (v : Value) (B : Nat) (p : List Int) (w : World) (h : Ints w B v p) :
    Calls Try.prog 11 #[v] w fun e w' =>
      e = .returned (.tuple #[.int .i64 (propsA p), .int .i64 (okC p)]) ∧ Below w.heap.size w w' := by
  cases hok : okPat p with
  | false =>
    rw [propsA_false hok, okC_false hok]
    go_enter Try.func11, Try.ntmps11
    go_wp2_with fail
    refine (l02Ok_any v B p _ h).mono ?_
    rintro e w' ⟨rfl, hb⟩
    rw [hok]
    go_wp2
    go_ret2
    exact ⟨rfl, hb⟩
  | true =>
    rw [propsA_true hok, okC_true hok]
    go_enter Try.func11, Try.ntmps11
    go_wp2_with fail
    refine (l02Ok_any v B p _ h).mono ?_
    rintro e w' ⟨rfl, hb⟩
    rw [hok]
    go_wp2_with fail
    refine (l02Props_any v B p _ (h.below hb) (okPat_list hok)).mono ?_
    rintro e w'' ⟨rfl, rfl⟩
    go_wp2
    go_ret2
    exact ⟨rfl, hb⟩

theorem l02Mod_any (a n : Int) (w : World) (hn : 1 ≤ n) (hn2 : n ≤ 1000000) (ha : -1000000000000 ≤ a) (ha2 : a ≤ 1000000000000) :
    Calls Try.prog 42 #[.int .i64 a, .int .i64 n] w fun e w' => e = .returned (.int .i64 (a % n)) ∧ w' = w := by
  by_cases h0 : 0 ≤ a
  · have e0 := Int.emod_nonneg a (show n ≠ 0 by omega)
    have e1 := Int.emod_lt_of_pos a (show 0 < n by omega)
    have hfin : (a % n + n) % n = a % n := by simp
    have HF := Lib.hid hfin
    clear hfin
    go_enter Try.func42, Try.ntmps42
    go_wp2
    go_ret
    exact ⟨ret_int (by first | exact HF.out | rfl), rfl⟩
  · have hd := tmod_add_emod a n (by omega)
    have hl := tmod_low a n (by omega) (by omega)
    rw [← hd]
    clear hd
    go_enter Try.func42, Try.ntmps42
    go_wp2
    go_ret
    exact ⟨rfl, rfl⟩

end Go.Proofs.Ytlpeigeadjojnab
