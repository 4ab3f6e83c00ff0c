/- The program's chapter 2, second part: PropsOf, at, ThrowAt, LandsFrom answer as the plain mathematics says. No conditions. -/
import Derived.Test.YtmmkeihcjpnpjaaImpl02
namespace Go.Proofs.Ytmmkeihcjpnpjaa
open Go.RowKit
set_option linter.unusedSimpArgs false
set_option linter.unusedVariables false

theorem propsOf_core (g cap n B : Nat) (p : List Int) (f : Nat → Int) (s : Nat → Int) (w : World) (h : Ints w B (.slice (some ⟨g, 0, none⟩) n cap) p) (hok : okPat p = true) (hg : g < w.heap.size) (hn1 : 1 ≤ n) (hn2 : n ≤ 12) (hs0 : s 0 = 0) (hs1 : ∀ i, i < n → s i + f i = s (i + 1)) (hb : ∀ i, i ≤ n → 0 ≤ s i ∧ s i ≤ 1000) (hf : ∀ i, i < n → 0 ≤ f i ∧ f i ≤ 15)
    (hc : ∀ i, i < n → w.cell? ⟨g, i, none⟩ = some (.int .i64 (f i))) :
    Calls Try.prog 61 #[.slice (some ⟨g, 0, none⟩) n cap] w fun e w' => e = .returned (.tuple #[.int .i64 (s n / (n : Int)), .int .i64 0]) ∧ Below w.heap.size w w' := by
  have HS0 := Lib.hid hs0
  have HS1 := Lib.hid hs1
  clear hs0 hs1
  go_enter Try.func61, Try.ntmps61
  go_wp2_with fail
  refine (validPattern_impl _ B p _ h).mono ?_
  rintro e w1 ⟨rfl, b1⟩
  rw [hok]
  clear h hok
  have hc1 : ∀ i, i < n → w1.cell? ⟨g, i, none⟩ = some (.int .i64 (f i)) := fun i hi => (b1.cell (p := ⟨g, i, none⟩) hg).trans (hc i hi)
  clear hc
  go_wp2
  go_loop [4, 6, 12] (fun t _ i => ∃ k : Nat, k ≤ n ∧ i = .int .i64 k ∧ t = .int .i64 (s k)) (fun _ _ i => n - (intOf i).toNat)
  case atStart => exact ⟨0, Nat.zero_le _, rfl, by rw [HS0.out]⟩
  case round =>
    obtain ⟨k, hk, rfl, rfl⟩ := hrel
    by_cases hlt : k < n
    · have c1 := hc1 k hlt
      have f1 := hf k hlt
      have bk := hb k hk
      have HH := Lib.hid (HS1.out k hlt)
      clear hc1 hf hb
      go_wp2
      go_round
      case rel => exact ⟨k + 1, by omega, by go_num, by rw [← HH.out]⟩
      case measure => simp [intOf]; omega
    · obtain rfl : k = n := by omega
      obtain ⟨bk1, bk2⟩ := hb k hk
      clear hc1 hf hb
      go_wp2
      go_ret2
      exact ⟨rfl, b1⟩

theorem propsOf_impl (v : Value) (B : Nat) (p : List Int) (w : World) (h : Ints w B v p) :
    Calls Try.prog 61 #[v] w fun e w' => e = .returned (.tuple #[.int .i64 (propsA p), .int .i64 (okC p)]) ∧ Below w.heap.size w w' := by
  cases hok : okPat p with
  | false =>
    rw [propsA_false hok, okC_false hok]
    go_enter Try.func61, Try.ntmps61
    go_wp2_with fail
    refine (validPattern_impl v B p _ h).mono ?_
    rintro e w' ⟨rfl, hb⟩
    rw [hok]
    go_wp2
    go_ret2
    exact ⟨rfl, hb⟩
  | true =>
    rw [propsA_true hok, okC_true hok]
    obtain ⟨h1, h2⟩ := okPat_len hok
    rcases h.shape with ⟨rfl, rfl⟩ | ⟨g, cap, rfl, _, hg, _⟩
    · simp at h1
    · have := propsOf_core g cap p.length B p (fun i => p.getD i 0) (fun k => (p.take k).sum) w h hok hg h1 h2 (by simp) (fun i hi => (sum_take i hi).symm)
        (fun i hi => by have := sum_bound (fun i hi => okPat_at hok i hi) i hi; exact ⟨this.1, by omega⟩) (fun i hi => okPat_at hok i hi) (fun i hi => h.cell i hi)
      rwa [List.take_length] at this

theorem at_any (v : Value) (B : Nat) (p : List Int) (beat : Int) (w : World) (h : Ints w B v p) (h1 : 1 ≤ p.length) (h2 : p.length ≤ 100000) (ha : -1000000000000 ≤ beat) (ha2 : beat ≤ 1000000000000) :
    Calls Try.prog 82 #[v, .int .i64 beat] w fun e w' => e = .returned (.int .i64 (atL p beat)) ∧ w = w' := by
  rcases h.shape with ⟨rfl, rfl⟩ | ⟨g, cap, rfl, _, _, _⟩
  · simp at h1
  · have e0 := Int.emod_nonneg beat (show (p.length : Int) ≠ 0 by omega)
    have e1 := Int.emod_lt_of_pos beat (show 0 < (p.length : Int) by omega)
    have hc := h.cell (beat % (p.length : Int)).toNat (by omega)
    have hfold : p.getD (beat % (p.length : Int)).toNat 0 = atL p beat := rfl
    rw [hfold] at hc
    clear h hfold
    generalize atL p beat = x at *
    generalize p.length = n at *
    go_enter Try.func82, Try.ntmps82
    go_wp2_with fail
    refine (period_any _ _ _ _).mono ?_
    rintro e w' ⟨rfl, rfl⟩
    go_wp2_with fail
    refine (modulo_any beat n _ (by omega) (by omega) ha ha2).mono ?_
    rintro e w' ⟨rfl, rfl⟩
    go_wp2
    go_ret
    exact ⟨rfl, rfl⟩

theorem landsFromM_core (v : Value) (B : Nat) (p : List Int) (beat : Int) (t : Nat) (w : World) (h : Ints w B v p) (l1 : 1 ≤ p.length) (l2 : p.length ≤ 12) (hp : ∀ i, i < p.length → 0 ≤ p.getD i 0 ∧ p.getD i 0 ≤ 15) (hb1 : -2000000 ≤ beat) (hb2 : beat ≤ 2000000) (ht : t ≤ 15) (hat : atL p (beat - t) = t) (hun : ∀ j : Nat, atL p (beat - j) = j → j = t) :
    Calls Try.prog 81 #[v, .int .i64 beat] w fun e w' => e = .returned (.int .i64 (beat - t)) ∧ w = w' := by
  have HAT := Lib.hid hat
  have HUN := Lib.hid hun
  have HP := Lib.hid hp
  clear hat hun hp
  go_enter Try.func81, Try.ntmps81
  go_wp2
  go_loop [5] (fun c => ∃ k : Nat, k ≤ t ∧ c = .int .i64 (beat - k)) (fun c => (intOf c + 3000000).toNat)
  case atStart => exact ⟨0, Nat.zero_le _, by simp⟩
  case round =>
    obtain ⟨k, hk, rfl⟩ := hrel
    have hbd : 0 ≤ atL p (beat - k) ∧ atL p (beat - k) ≤ 15 := by
      have e0 := Int.emod_nonneg (beat - k) (show (p.length : Int) ≠ 0 by omega)
      have e1 := Int.emod_lt_of_pos (beat - k) (show 0 < (p.length : Int) by omega)
      exact HP.out _ (by omega)
    have hA := at_any v B p (beat - k) w h l1 (by omega) (by omega) (by omega)
    by_cases hkt : k = t
    · subst hkt
      rw [HAT.out] at hA
      clear hbd
      go_wp2_with fail
      refine hA.mono ?_
      rintro e w2 ⟨rfl, rfl⟩
      go_wp2
      go_ret
      exact ⟨rfl, rfl⟩
    · have hne : atL p (beat - k) ≠ k := fun e => hkt (HUN.out k e)
      generalize atL p (beat - k) = x at hA hbd hne
      obtain ⟨hx1, hx2⟩ := hbd
      have hkt' : k < t := by omega
      clear hkt
      go_wp2_with fail
      refine hA.mono ?_
      rintro e w2 ⟨rfl, rfl⟩
      go_wp2
      go_round
      case rel => exact ⟨k + 1, by omega, by go_num⟩
      case measure => simp [intOf]; omega

theorem landsFromM_any (v : Value) (B : Nat) (p : List Int) (beat : Int) (w : World) (h : Ints w B v p) (hok : okPat p = true) (hb1 : -2000000 ≤ beat) (hb2 : beat ≤ 2000000) :
    Calls Try.prog 81 #[v, .int .i64 beat] w fun e w' => e = .returned (.int .i64 (fromL p beat)) ∧ w = w' := by
  obtain ⟨l1, l2⟩ := okPat_len hok
  obtain ⟨t, ht, hf, hat, hun⟩ := from_spec hok beat
  rw [hf]
  exact landsFromM_core v B p beat t w h l1 l2 (fun i hi => okPat_at hok i hi) hb1 hb2 ht hat hun

end Go.Proofs.Ytmmkeihcjpnpjaa
