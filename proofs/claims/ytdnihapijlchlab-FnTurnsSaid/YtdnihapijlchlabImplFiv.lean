/- The program's chapter 3, third part: RootPattern, CanonicalPattern, AlikePatterns, ReversePattern, IsSymmetric, DualPattern answer as the plain mathematics says. No conditions. -/
import Derived.Test.YtdnihapijlchlabImplFou
import Derived.Test.YtdnihapijlchlabOpsLaws
import Derived.Test.YtdnihapijlchlabHigh
namespace Go.Proofs.Ytdnihapijlchlab
open Go.RowKit
set_option linter.unusedSimpArgs false
set_option linter.unusedVariables false

theorem changed_root (v : Value) (B : Nat) (p q : List Int) (w : World) (h : Ints w B v p)
    (hf : okPat p = true → ∀ W, Ints W B v p → Calls Try.prog 62 #[v] W fun e w' => ∃ u, e = .returned u ∧ Ints w' W.heap.size u q ∧ Below W.heap.size W w') :
    Calls Try.prog 59 #[v, .func (.func 62) #[] #[]] w fun e w' => ∃ u, e = .returned (.tuple #[u, .int .i64 (okC p)]) ∧ Ints w' w.heap.size u (resA (okC p) q) ∧ Below w.heap.size w w' := by
  cases hok : okPat p with
  | false =>
    rw [okC_false hok, resA_bad _ _ (by decide)]
    clear hf
    go_enter Try.func59, Try.ntmps59
    go_wp2_with fail
    refine (validPattern_impl v B p _ h).mono ?_
    rintro e w' ⟨rfl, hb⟩
    rw [hok]
    go_wp2
    go_ret2
    exact ⟨_, rfl, Ints.nil _ _, hb⟩
  | true =>
    rw [okC_true hok, resA_ok]
    have HF := hf hok
    clear hf
    go_enter Try.func59, Try.ntmps59
    go_wp2_with fail
    refine (validPattern_impl v B p _ h).mono ?_
    rintro e w1 ⟨rfl, b1⟩
    rw [hok]
    have HC := HF w1 (h.below b1)
    have hs := b1.size
    clear HF h
    go_wp2_with fail
    refine HC.mono ?_
    rintro e w2 ⟨u, rfl, i2, b2⟩
    go_wp2
    go_ret2
    exact ⟨_, rfl, i2.mono hs, b1.trans (b2.mono hs)⟩

theorem changed_reversed (v : Value) (B : Nat) (p q : List Int) (w : World) (h : Ints w B v p)
    (hf : okPat p = true → ∀ W, Ints W B v p → Calls Try.prog 60 #[v] W fun e w' => ∃ u, e = .returned u ∧ Ints w' W.heap.size u q ∧ Below W.heap.size W w') :
    Calls Try.prog 59 #[v, .func (.func 60) #[] #[]] w fun e w' => ∃ u, e = .returned (.tuple #[u, .int .i64 (okC p)]) ∧ Ints w' w.heap.size u (resA (okC p) q) ∧ Below w.heap.size w w' := by
  cases hok : okPat p with
  | false =>
    rw [okC_false hok, resA_bad _ _ (by decide)]
    clear hf
    go_enter Try.func59, Try.ntmps59
    go_wp2_with fail
    refine (validPattern_impl v B p _ h).mono ?_
    rintro e w' ⟨rfl, hb⟩
    rw [hok]
    go_wp2
    go_ret2
    exact ⟨_, rfl, Ints.nil _ _, hb⟩
  | true =>
    rw [okC_true hok, resA_ok]
    have HF := hf hok
    clear hf
    go_enter Try.func59, Try.ntmps59
    go_wp2_with fail
    refine (validPattern_impl v B p _ h).mono ?_
    rintro e w1 ⟨rfl, b1⟩
    rw [hok]
    have HC := HF w1 (h.below b1)
    have hs := b1.size
    clear HF h
    go_wp2_with fail
    refine HC.mono ?_
    rintro e w2 ⟨u, rfl, i2, b2⟩
    go_wp2
    go_ret2
    exact ⟨_, rfl, i2.mono hs, b1.trans (b2.mono hs)⟩

theorem rootPattern_impl (v : Value) (B : Nat) (p : List Int) (w : World) (h : Ints w B v p) :
    Calls Try.prog 26 #[v] w fun e w' => ∃ u, e = .returned (.tuple #[u, .int .i64 (okC p)]) ∧ Ints w' w.heap.size u (resA (okC p) (rootL p)) ∧ Below w.heap.size w w' := by
  have HC := changed_root v B p (rootL p) w h fun hok W hW => root_any v B p W hW (okPat_len hok).1 (by have := (okPat_len hok).2; omega)
  clear h
  go_enter Try.func26, Try.ntmps26
  go_wp2_with fail
  refine HC.mono ?_
  rintro e w1 ⟨u, rfl, i1, b1⟩
  go_wp2
  go_ret2
  exact ⟨_, rfl, i1, b1⟩

/-- are two lists patterns with equal canonical patterns? -/
def alikeB (a b : List Int) : Bool := okPat a && (okPat b && sameL (canL a) (canL b))

/- reversals -/
set_option maxHeartbeats 400000 in
theorem reversed_core (g cap n B : Nat) (p : List Int) (f L : Nat → Int) (q : List Int) (w : World) (h : Ints w B (.slice (some ⟨g, 0, none⟩) n cap) p) (hn1 : 1 ≤ n) (hn2 : n ≤ 12) (hg : g < w.heap.size) (hf : ∀ i, i < n → 0 ≤ f i ∧ f i ≤ 15)
    (hc : ∀ i, i < n → w.cell? ⟨g, i, none⟩ = some (.int .i64 (f i))) (hL : ∀ i, i < n → L i = ((i : Int) + f i) % (n : Int)) (hLb : ∀ i, i < n → 0 ≤ L i ∧ L i < n) (hLd : ∀ a b, a < b → b < n → L a ≠ L b)
    (hq : ∀ q' : List Int, q'.length = n → (∀ i, i < n → q'.getD ((n : Int) - 1 - L i).toNat 0 = f i) → q' = q) :
    Calls Try.prog 60 #[.slice (some ⟨g, 0, none⟩) n cap] w fun e w' => ∃ u, e = .returned u ∧ Ints w' w.heap.size u q ∧ Below w.heap.size w w' := by
  obtain ⟨i0, hi, hz0, hz1, hz2⟩ := info_parts Try.info64
  have HQ := Lib.hid hq
  have HL := Lib.hid hL
  have HLD := Lib.hid hLd
  clear hq hL hLd
  go_enter Try.func60, Try.ntmps60
  go_wp2_with (at_make; refine wpList_make_full _ rfl _ _ 54 rfl w.heap.size 2 i0 (.int .i64 0) 1 Try.underlying54 hi hz0 hz1 _ _ _ _ n rfl rfl rfl rfl (by rw [hz2]; omega) (by unfold maxLen; omega) (Nat.le_refl _) ?_)
  intro w2 hown hgr
  have hI : Ints w2 w.heap.size (.slice (some ⟨w.heap.size, 0, none⟩) n n) (List.replicate n 0) := by
    unfold Ints
    simpa [toList_madeCells_one] using hown
  have b2 : Below w.heap.size w w2 := (Below.refl _ _).grown hgr (Nat.le_refl _) (by simp)
  clear hown hgr hi hz0 hz1 hz2
  go_wp2_with fail
  refine (period_any _ _ _ _).mono ?_
  rintro e w' ⟨rfl, rfl⟩
  go_wp2
  go_loopw [5, 6, 15] (fun _ _ i wr => ∃ (k : Nat) (q' : List Int), k ≤ n ∧ i = .int .i64 k ∧ Hid (q'.length = n) ∧ Hid (∀ i, i < k → q'.getD ((n : Int) - 1 - L i).toNat 0 = f i) ∧ Ints wr w.heap.size (.slice (some ⟨w.heap.size, 0, none⟩) n n) q' ∧ Below w.heap.size w wr) (fun _ _ i _ => n - (intOf i).toNat)
  case atStart => exact ⟨0, _, Nat.zero_le _, rfl, by unfold Hid; simp, fun i hi => by omega, hI, b2⟩
  case round =>
    clear hI b2
    obtain ⟨k, q', hk, rfl, hlen, hat, hr, hb⟩ := hrel
    by_cases hlt : k < n
    · have c1 := (hb.cell (p := ⟨g, k, none⟩) hg).trans (hc k hlt)
      have hLdg := landing_core g n cap k (f k) wr hn1 hn2 hlt (hf k hlt) c1
      rw [← HL.out k hlt] at hLdg
      obtain ⟨b0, b1⟩ := hLb k hlt
      have hld : ∀ j, j < k → L j ≠ L k := fun j hj => HLD.out j k hj hlt
      have hlb : ∀ j, j < k → 0 ≤ L j ∧ L j < n := fun j hj => hLb j (by omega)
      have HLDK := Lib.hid hld
      have HLBK := Lib.hid hlb
      clear hld hlb hc hf hLb
      generalize hl : L k = l at hLdg b0 b1
      have HLK := Lib.hid hl
      clear hl
      obtain ⟨a, rfl⟩ : ∃ a : Nat, l = (n : Int) - 1 - a := ⟨((n : Int) - 1 - l).toNat, by omega⟩
      have han : a < n := by omega
      have hsub : (n : Int) - 1 - ((n : Int) - 1 - (a : Int)) = a := by omega
      go_wp2_with fail
      refine hLdg.mono ?_
      rintro e w3 ⟨rfl, m, rfl⟩
      have hr3 : Ints (wr.drewN m) w.heap.size (.slice (some ⟨w.heap.size, 0, none⟩) n n) q' := hr
      have c3 := hr3.cell a (by rw [hlen.out]; exact han)
      have f3 := hr3.free a
      have hn3 := hr3.set a (f k)
      have hbn := below_cellset (below_drewN hb m) a (Nat.le_refl _) (.int .i64 (f k))
      clear hLdg hr hr3 hb
      go_wp2
      go_roundw
      case rel =>
        refine ⟨k + 1, _, by omega, by go_num, by unfold Hid; rw [List.length_set]; exact hlen.out, fun i hi => ?_, hn3, hbn⟩
        rw [getD_upd _ _ _ _ (by rw [hlen.out]; exact han)]
        by_cases e : i = k
        · subst e
          rw [HLK.out, hsub, Int.toNat_natCast, if_pos rfl]
        · have hb' := HLBK.out i (by omega)
          have hd' := HLDK.out i (by omega)
          rw [HLK.out] at hd'
          rw [if_neg (by omega)]
          exact hat.out i (by omega)
      case measure => simp [intOf]; omega
    · obtain rfl : k = n := by omega
      obtain rfl := HQ.out q' hlen.out hat.out
      clear hc hf
      go_wp2
      go_ret
      exact ⟨_, rfl, hr, hb⟩
end Go.Proofs.Ytdnihapijlchlab
