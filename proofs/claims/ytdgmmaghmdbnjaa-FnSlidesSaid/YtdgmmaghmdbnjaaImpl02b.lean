/- The program's chapter 2, second part: PropsOf, at, ThrowAt, LandsFrom answer as the plain mathematics says. No conditions. -/
import Derived.Test.YtdgmmaghmdbnjaaImpl02
namespace Go.Proofs.Ytdgmmaghmdbnjaa
open Go.RowKit
set_option linter.unusedSimpArgs false
set_option linter.unusedVariables false

theorem propsOf_core (g cap n B : Nat) (p : List Int) (f : Nat → Int) (s : Nat → Int) (w : World) (h : Ints w B (.slice (some ⟨g, 0, none⟩) n cap) p) (hok : okPat p = true) (hg : g < w.heap.size) (hn1 : 1 ≤ n) (hn2 : n ≤ 12) (hs0 : s 0 = 0) (hs1 : ∀ i, i < n → s i + f i = s (i + 1)) (hb : ∀ i, i ≤ n → 0 ≤ s i ∧ s i ≤ 1000) (hf : ∀ i, i < n → 0 ≤ f i ∧ f i ≤ 15)
    (hc : ∀ i, i < n → w.cell? ⟨g, i, none⟩ = some (.int .i64 (f i))) :
    Calls Try.prog 41 #[.slice (some ⟨g, 0, none⟩) n cap] w fun e w' => e = .returned (.tuple #[.int .i64 (s n / (n : Int)), .int .i64 0]) ∧ Below w.heap.size w w' := by
  have HS0 := Lib.hid hs0
  have HS1 := Lib.hid hs1
  clear hs0 hs1
  go_enter Try.func41, Try.ntmps41
  go_wp2_with fail
  refine (validPattern_impl _ B p _ h).mono ?_
  rintro e w1 ⟨rfl, b1⟩
  rw [hok]
  clear h hok
  have hc1 : ∀ i, i < n → w1.cell? ⟨g, i, none⟩ = some (.int .i64 (f i)) := fun i hi => (b1.cell (p := ⟨g, i, none⟩) hg).trans (hc i hi)
  clear hc
  go_wp2
  go_loop [4, 6, 12] (fun t _ i => ∃ k : Nat, k ≤ n ∧ i = .int .i64 k ∧ t = .int .i64 (s k)) (fun _ _ i => n - (intOf i).toNat)
  case atStart => exact ⟨0, Nat.zero_le _, rfl, by rw [HS0.out]⟩
  case round =>
    obtain ⟨k, hk, rfl, rfl⟩ := hrel
    by_cases hlt : k < n
    · have c1 := hc1 k hlt
      have f1 := hf k hlt
      have bk := hb k hk
      have HH := Lib.hid (HS1.out k hlt)
      clear hc1 hf hb
      go_wp2
      go_round
      case rel => exact ⟨k + 1, by omega, by go_num, by rw [← HH.out]⟩
      case measure => simp [intOf]; omega
    · obtain rfl : k = n := by omega
      obtain ⟨bk1, bk2⟩ := hb k hk
      clear hc1 hf hb
      go_wp2
      go_ret2
      exact ⟨rfl, b1⟩

theorem propsOf_impl (v : Value) (B : Nat) (p : List Int) (w : World) (h : Ints w B v p) :
    Calls Try.prog 41 #[v] w fun e w' => e = .returned (.tuple #[.int .i64 (propsA p), .int .i64 (okC p)]) ∧ Below w.heap.size w w' := by
  cases hok : okPat p with
  | false =>
    rw [propsA_false hok, okC_false hok]
    go_enter Try.func41, Try.ntmps41
    go_wp2_with fail
    refine (validPattern_impl v B p _ h).mono ?_
    rintro e w' ⟨rfl, hb⟩
    rw [hok]
    go_wp2
    go_ret2
    exact ⟨rfl, hb⟩
  | true =>
    rw [propsA_true hok, okC_true hok]
    obtain ⟨h1, h2⟩ := okPat_len hok
    rcases h.shape with ⟨rfl, rfl⟩ | ⟨g, cap, rfl, _, hg, _⟩
    · simp at h1
    · have := propsOf_core g cap p.length B p (fun i => p.getD i 0) (fun k => (p.take k).sum) w h hok hg h1 h2 (by simp) (fun i hi => (sum_take i hi).symm)
        (fun i hi => by have := sum_bound (fun i hi => okPat_at hok i hi) i hi; exact ⟨this.1, by omega⟩) (fun i hi => okPat_at hok i hi) (fun i hi => h.cell i hi)
      rwa [List.take_length] at this

end Go.Proofs.Ytdgmmaghmdbnjaa
