/- LandingBeats, the model's and the program's: both answer the landings of a pattern, in new memory. No conditions. -/
import Derived.Test.YtjhijmaolnngmaaImpl02
namespace Go.Proofs.Ytjhijmaolnngmaa
open Go.RowKit
set_option linter.unusedSimpArgs false
set_option linter.unusedVariables false

theorem lndL_facts (p : List Int) : (lndL p).take 0 = [] ∧ (∀ i, i < p.length → (lndL p).take i ++ [lnd p i] = (lndL p).take (i + 1)) ∧ (lndL p).take p.length = lndL p := by
  refine ⟨rfl, fun i hi => (lndL_take p i hi).symm, ?_⟩
  rw [List.take_of_length_le (by rw [lndL_len]; exact Nat.le_refl _)]

theorem take_set_map (L : List Int) (n k : Nat) (hk : k < n) (hn : L.length = n) (x : Int) (hx : L.getD k 0 = x) :
    (L.take k ++ List.replicate (n - k) 0).set k x = L.take (k + 1) ++ List.replicate (n - (k + 1)) 0 := by
  subst hx
  apply List.ext_getElem
  · simp; omega
  · intro i h1 h2
    simp at h1
    simp only [List.getElem_set, List.getElem_append, List.length_take, List.getElem_take, List.getElem_replicate]
    by_cases hik : k = i
    · subst hik
      simp [show k < min (k + 1) L.length from by omega, List.getElem?_eq_getElem (show k < L.length by omega)]
    · rw [if_neg hik]
      by_cases hlt : i < k
      · rw [dif_pos (by omega), dif_pos (by omega)]
      · rw [dif_neg (by omega), dif_neg (by omega)]

theorem landingBeats_core (g cap n B : Nat) (p : List Int) (f : Nat → Int) (L : List Int) (w : World) (h : Ints w B (.slice (some ⟨g, 0, none⟩) n cap) p) (hok : okPat p = true) (hn1 : 1 ≤ n) (hn2 : n ≤ 12) (hg : g < w.heap.size) (hf : ∀ i, i < n → 0 ≤ f i ∧ f i ≤ 15)
    (hLl : L.length = n) (hL : ∀ i, i < n → L.getD i 0 = landF n f i) (hc : ∀ i, i < n → w.cell? ⟨g, i, none⟩ = some (.int .i64 (f i))) :
    Calls Try.prog 47 #[.slice (some ⟨g, 0, none⟩) n cap] w fun e w' => ∃ u, e = .returned (.tuple #[u, .int .i64 0]) ∧ Ints w' w.heap.size u L ∧ Below w.heap.size w w' := by
  obtain ⟨i0, hi, hz0, hz1, hz2⟩ := info_parts Try.info64
  have HLl := Lib.hid hLl
  have HL := Lib.hid hL
  clear hLl hL
  go_enter Try.func47, Try.ntmps47
  go_wp2_with fail
  refine (validPattern_impl _ B p _ h).mono ?_
  rintro e w1 ⟨rfl, b1⟩
  rw [hok]
  clear h hok
  go_wp2_with (at_make; refine wpList_make_full _ rfl _ _ 37 rfl w1.heap.size 2 i0 (.int .i64 0) 1 Try.underlying37 hi hz0 hz1 _ _ _ _ n rfl rfl rfl rfl (by rw [hz2]; omega) (by unfold maxLen; omega) (Nat.le_refl _) ?_)
  intro w2 hown hgr
  have hI : Ints w2 w1.heap.size (.slice (some ⟨w1.heap.size, 0, none⟩) n n) (L.take 0 ++ List.replicate (n - 0) 0) := by
    unfold Ints
    simpa [toList_madeCells_one] using hown
  have b2 : Below w1.heap.size w1 w2 := (Below.refl _ _).grown hgr (Nat.le_refl _) (by simp)
  have hs1 := b1.size
  clear hown hgr hi hz0 hz1 hz2
  go_wp2
  go_loopw [16] (fun i wr => ∃ k : Nat, k ≤ n ∧ i = .int .i64 k ∧ Ints wr w1.heap.size (.slice (some ⟨w1.heap.size, 0, none⟩) n n) (L.take k ++ List.replicate (n - k) 0) ∧ Below w1.heap.size w1 wr) (fun i _ => n - (intOf i).toNat)
  case atStart => exact ⟨0, Nat.zero_le _, rfl, hI, b2⟩
  case round =>
    obtain ⟨k, hk, rfl, hr, hbr⟩ := hrel
    by_cases hlt : k < n
    · have c1 := (hbr.cell (p := ⟨g, k, none⟩) (by exact Nat.lt_of_lt_of_le hg hs1)).trans ((b1.cell (p := ⟨g, k, none⟩) hg).trans (hc k hlt))
      have hLd := landing_core g n cap k (f k) wr hn1 hn2 hlt (hf k hlt) c1
      have hold := hr.cell k (by simp; have := HLl.out; omega)
      have hfree := hr.free k
      have hset : ∀ x, x = landF n f k → (L.take k ++ List.replicate (n - k) 0).set k x = L.take (k + 1) ++ List.replicate (n - (k + 1)) 0 := fun x hx => take_set_map L n k hlt HLl.out x ((HL.out k hlt).trans hx.symm)
      have HSET := Lib.hid hset
      clear hI b2 hc hf hset
      go_wp2_with fail
      refine hLd.mono ?_
      rintro e w3 ⟨rfl, m, rfl⟩
      have hr3 : Ints (wr.drewN m) w1.heap.size (.slice (some ⟨w1.heap.size, 0, none⟩) n n) (L.take k ++ List.replicate (n - k) 0) := hr
      have hn := hr3.set k (((k : Int) + f k) % (n : Int))
      rw [HSET.out (((k : Int) + f k) % (n : Int)) rfl] at hn
      have hbn := (below_drewN hbr m).setCell (p := ⟨w1.heap.size, k, none⟩) (Nat.le_refl _) (.int .i64 (((k : Int) + f k) % (n : Int)))
      clear hLd hr hr3
      go_wp2
      go_roundw
      case rel => exact ⟨k + 1, by omega, by go_num, hn, hbn⟩
      case measure => simp [intOf]; omega
    · obtain rfl : k = n := by omega
      clear hI b2 hc hf
      go_wp2
      go_ret2
      exact ⟨_, rfl, by have := HLl.out; simpa [List.take_of_length_le (Nat.le_of_eq this)] using hr.mono hs1, b1.trans (hbr.mono hs1)⟩

theorem landingBeats_impl (v : Value) (B : Nat) (p : List Int) (w : World) (h : Ints w B v p) :
    Calls Try.prog 47 #[v] w fun e w' => ∃ u, e = .returned (.tuple #[u, .int .i64 (okC p)]) ∧ Ints w' w.heap.size u (landsA p) ∧ Below w.heap.size w w' := by
  cases hok : okPat p with
  | false =>
    rw [landsA_false hok, okC_false hok]
    go_enter Try.func47, Try.ntmps47
    go_wp2_with fail
    refine (validPattern_impl v B p _ h).mono ?_
    rintro e w' ⟨rfl, hb⟩
    rw [hok]
    go_wp2
    go_ret2
    exact ⟨_, rfl, Ints.nil _ _, hb⟩
  | true =>
    rw [landsA_true hok, okC_true hok]
    obtain ⟨h1, h2⟩ := okPat_len hok
    rcases h.shape with ⟨rfl, rfl⟩ | ⟨g, cap, rfl, _, hg, _⟩
    · simp at h1
    · exact landingBeats_core g cap p.length B p (fun i => p.getD i 0) (lndL p) w h hok h1 h2 hg (fun i hi => okPat_at hok i hi) (lndL_len p) (fun i hi => by simp [lndL, hi]; rfl) (fun i hi => h.cell i hi)

end Go.Proofs.Ytjhijmaolnngmaa
