/- The program's chapter 2, second part: PropsOf, at, ThrowAt, LandsFrom answer as the plain mathematics says. No conditions. -/
import Derived.Test.YtdghbbnddgngoaaImpl02
namespace Go.Proofs.Ytdghbbnddgngoaa
open Go.RowKit
set_option linter.unusedSimpArgs false
set_option linter.unusedVariables false

theorem at_any (v : Value) (B : Nat) (p : List Int) (beat : Int) (w : World) (h : Ints w B v p) (h1 : 1 ≤ p.length) (h2 : p.length ≤ 100000) (ha : -1000000000000 ≤ beat) (ha2 : beat ≤ 1000000000000) :
    Calls Try.prog 131 #[v, .int .i64 beat] w fun e w' => e = .returned (.int .i64 (atL p beat)) ∧ w = w' := by
  rcases h.shape with ⟨rfl, rfl⟩ | ⟨g, cap, rfl, _, _, _⟩
  · simp at h1
  · have e0 := Int.emod_nonneg beat (show (p.length : Int) ≠ 0 by omega)
    have e1 := Int.emod_lt_of_pos beat (show 0 < (p.length : Int) by omega)
    have hc := h.cell (beat % (p.length : Int)).toNat (by omega)
    have hfold : p.getD (beat % (p.length : Int)).toNat 0 = atL p beat := rfl
    rw [hfold] at hc
    clear h hfold
    generalize atL p beat = x at *
    generalize p.length = n at *
    go_enter Try.func131, Try.ntmps131
    go_wp2_with fail
    refine (period_any _ _ _ _).mono ?_
    rintro e w' ⟨rfl, rfl⟩
    go_wp2_with fail
    refine (modulo_any beat n _ (by omega) (by omega) ha ha2).mono ?_
    rintro e w' ⟨rfl, rfl⟩
    go_wp2
    go_ret
    exact ⟨rfl, rfl⟩

theorem landsFromM_core (v : Value) (B : Nat) (p : List Int) (beat : Int) (t : Nat) (w : World) (h : Ints w B v p) (l1 : 1 ≤ p.length) (l2 : p.length ≤ 12) (hp : ∀ i, i < p.length → 0 ≤ p.getD i 0 ∧ p.getD i 0 ≤ 15) (hb1 : -2000000 ≤ beat) (hb2 : beat ≤ 2000000) (ht : t ≤ 15) (hat : atL p (beat - t) = t) (hun : ∀ j : Nat, atL p (beat - j) = j → j = t) :
    Calls Try.prog 124 #[v, .int .i64 beat] w fun e w' => e = .returned (.int .i64 (beat - t)) ∧ w = w' := by
  have HAT := Lib.hid hat
  have HUN := Lib.hid hun
  have HP := Lib.hid hp
  clear hat hun hp
  go_enter Try.func124, Try.ntmps124
  go_wp2
  go_loop [5] (fun c => ∃ k : Nat, k ≤ t ∧ c = .int .i64 (beat - k)) (fun c => (intOf c + 3000000).toNat)
  case atStart => exact ⟨0, Nat.zero_le _, by simp⟩
  case round =>
    obtain ⟨k, hk, rfl⟩ := hrel
    have hbd : 0 ≤ atL p (beat - k) ∧ atL p (beat - k) ≤ 15 := by
      have e0 := Int.emod_nonneg (beat - k) (show (p.length : Int) ≠ 0 by omega)
      have e1 := Int.emod_lt_of_pos (beat - k) (show 0 < (p.length : Int) by omega)
      exact HP.out _ (by omega)
    have hA := at_any v B p (beat - k) w h l1 (by omega) (by omega) (by omega)
    by_cases hkt : k = t
    · subst hkt
      rw [HAT.out] at hA
      clear hbd
      go_wp2_with fail
      refine hA.mono ?_
      rintro e w2 ⟨rfl, rfl⟩
      go_wp2
      go_ret
      exact ⟨rfl, rfl⟩
    · have hne : atL p (beat - k) ≠ k := fun e => hkt (HUN.out k e)
      generalize atL p (beat - k) = x at hA hbd hne
      obtain ⟨hx1, hx2⟩ := hbd
      have hkt' : k < t := by omega
      clear hkt
      go_wp2_with fail
      refine hA.mono ?_
      rintro e w2 ⟨rfl, rfl⟩
      go_wp2
      go_round
      case rel => exact ⟨k + 1, by omega, by go_num⟩
      case measure => simp [intOf]; omega

theorem landsFromM_any (v : Value) (B : Nat) (p : List Int) (beat : Int) (w : World) (h : Ints w B v p) (hok : okPat p = true) (hb1 : -2000000 ≤ beat) (hb2 : beat ≤ 2000000) :
    Calls Try.prog 124 #[v, .int .i64 beat] w fun e w' => e = .returned (.int .i64 (fromL p beat)) ∧ w = w' := by
  obtain ⟨l1, l2⟩ := okPat_len hok
  obtain ⟨t, ht, hf, hat, hun⟩ := from_spec hok beat
  rw [hf]
  exact landsFromM_core v B p beat t w h l1 l2 (fun i hi => okPat_at hok i hi) hb1 hb2 ht hat hun

end Go.Proofs.Ytdghbbnddgngoaa
