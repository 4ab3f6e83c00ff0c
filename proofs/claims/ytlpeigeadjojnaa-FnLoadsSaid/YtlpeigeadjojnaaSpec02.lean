/- The model's chapter 2: l00In, l02List, l02Clash, l02Ok and ValidPattern compute okList, clash, okPat. No conditions. -/
import Derived.Test.YtlpeigeadjojnaaBase
import Derived.Test.YtlpeigeadjojnaaPat
namespace Go.Proofs.Ytlpeigeadjojnaa
open Go.RowKit
set_option linter.unusedSimpArgs false
set_option linter.unusedVariables false

theorem ret_bool {a b : Bool} (h : a = b) : Ending.returned (.bool a) = .returned (.bool b) := by rw [h]
theorem ret_int {k : IntKind} {a b : Int} (h : a = b) : Ending.returned (.int k a) = .returned (.int k b) := by rw [h]
theorem ret_intb {a c : Int} {b : Bool} (h : a = c) : Ending.returned (.tuple #[.int .i64 a, .bool b]) = .returned (.tuple #[.int .i64 c, .bool b]) := by rw [h]
theorem ret_int2 {a b c d : Int} (h : a = c) (h' : b = d) : Ending.returned (.tuple #[.int .i64 a, .int .i64 b]) = .returned (.tuple #[.int .i64 c, .int .i64 d]) := by rw [h, h']

theorem l00In_any (n low high : Int) (w : World) :
    Calls Try.prog 44 #[.int .i64 n, .int .i64 low, .int .i64 high] w fun e w' => e = .returned (.bool (inB n low high)) ∧ w = w' := by
  by_cases h1 : low ≤ n
  · by_cases h2 : n ≤ high
    · rw [inB_true ⟨h1, h2⟩]
      go_enter Try.func44, Try.ntmps44
      go_wp2
      go_ret
      exact ⟨rfl, rfl⟩
    · rw [inB_false (by omega)]
      go_enter Try.func44, Try.ntmps44
      go_wp2
      go_ret
      exact ⟨rfl, rfl⟩
  · rw [inB_false (by omega)]
    go_enter Try.func44, Try.ntmps44
    go_wp2
    go_ret
    exact ⟨rfl, rfl⟩

theorem l02List_row (g cap B : Nat) (p : List Int) (w : World) (h : Ints w B (.slice (some ⟨g, 0, none⟩) p.length cap) p) :
    Calls Try.prog 75 #[.slice (some ⟨g, 0, none⟩) p.length cap] w fun e w' => e = .returned (.bool (okList p)) ∧ w = w' := by
  have hm := h.len
  obtain ⟨n, hn⟩ : ∃ n, n = p.length := ⟨_, rfl⟩
  have hc : ∀ i, i < n → w.cell? ⟨g, i, none⟩ = some (.int .i64 (p.getD i 0)) := fun i hi => h.cell i (by omega)
  rw [← hn] at hm ⊢
  clear h
  have HN := Lib.hid hn
  clear hn
  go_enter Try.func75, Try.ntmps75
  go_wp2
  go_loop [3] (fun i => ∃ k : Nat, k ≤ n ∧ i = .int .i64 k ∧ Hid ((p.take k).all (fun x => inB x 0 15) = true)) (fun i => n - (intOf i).toNat)
  case atStart => exact ⟨0, Nat.zero_le _, rfl, by unfold Hid; simp⟩
  case round =>
    obtain ⟨k, hk, rfl, hall⟩ := hrel
    by_cases hlt : k < n
    · have c1 := hc k hlt
      obtain ⟨x, hx⟩ : ∃ x, x = p.getD k 0 := ⟨_, rfl⟩
      rw [← hx] at c1
      have HX := Lib.hid hx
      clear hc hx
      go_wp2_with (go_at_call 44; refine (l00In_any _ _ _ _).mono ?_; rintro e w' ⟨rfl, rfl⟩)
      · have hb : (!inB x 0 15) = true := by assumption
        go_ret
        have hlp : k < p.length := by have := HN.out; omega
        have hbad := okList_bad k hlp (by have := HX.out; subst this; simpa using hb)
        exact ⟨by rw [hbad]; rfl, rfl⟩
      · have hb : (!inB x 0 15) = false := by assumption
        go_round
        have hlp : k < p.length := by have := HN.out; omega
        case rel =>
          refine ⟨k + 1, by omega, by go_num, ?_⟩
          have hall := hall.out
          unfold Hid
          rw [okList_take k hlp, hall, ← HX.out]
          simpa using hb
        case measure => simp [intOf]; omega
    · obtain rfl : k = n := by omega
      clear hc
      go_wp2_with (go_at_call 44; refine (l00In_any _ _ _ _).mono ?_; rintro e w' ⟨rfl, rfl⟩)
      go_ret
      have hn := HN.out
      have hall := hall.out
      rw [hn, List.take_length] at hall
      exact ⟨by rw [okList, hall, hn]; rfl, rfl⟩

theorem l02List_zero (a : Option Addr) (cap : Nat) (w : World) :
    Calls Try.prog 75 #[.slice a 0 cap] w fun e w' => e = .returned (.bool (okList [])) ∧ w = w' := by
  go_enter Try.func75, Try.ntmps75
  go_wp2
  refine wp_loop_rounds 1 ?_
  rw [rounds_succ]
  go_wp2_with (go_at_call 44; refine (l00In_any _ _ _ _).mono ?_; rintro e w' ⟨rfl, rfl⟩)
  go_ret
  exact ⟨rfl, rfl⟩

theorem l02List_any (v : Value) (B : Nat) (p : List Int) (w : World) (h : Ints w B v p) :
    Calls Try.prog 75 #[v] w fun e w' => e = .returned (.bool (okList p)) ∧ w = w' := by
  rcases h.shape with ⟨rfl, rfl⟩ | ⟨g, cap, rfl, _, _, _⟩
  · exact l02List_zero _ _ _
  · exact l02List_row _ _ _ _ _ h

/-- the landing as the walk computes it: n and the throws f as plain variables -/
def landF (n : Nat) (f : Nat → Int) (i : Nat) : Int := ((i : Int) + f i) % (n : Int)

theorem l02Clash_core (g cap n : Nat) (f : Nat → Int) (w : World) (hn1 : 1 ≤ n) (hn2 : n ≤ 12) (hf : ∀ i, i < n → 0 ≤ f i ∧ f i ≤ 15)
    (hc : ∀ i, i < n → w.cell? ⟨g, i, none⟩ = some (.int .i64 (f i))) :
    Calls Try.prog 76 #[.slice (some ⟨g, 0, none⟩) n cap] w fun e w' =>
      e = .returned (.tuple #[.int .i64 (cl1 (clash (landF n f) n)), .int .i64 (cl2 (clash (landF n f) n))]) ∧ Below w.heap.size w w' := by
  go_enter Try.func76, Try.ntmps76
  go_wp2
  go_loopw [5, 6] (fun c _ wr => ∃ k : Nat, 1 ≤ k ∧ k ≤ n ∧ c = .int .i64 k ∧ Hid (distinct (landF n f) k) ∧ ∃ m, wr = w.drewN m) (fun c _ _ => n - (intOf c).toNat)
  case atStart => exact ⟨1, by omega, by omega, rfl, fun a b hab hb => by omega, 0, rfl⟩
  case round =>
    obtain ⟨k, hk1, hk, rfl, hd, m, rfl⟩ := hrel
    by_cases hlt : k < n
    · have ck := hc k hlt
      have fk := hf k hlt
      go_wp2
      go_loopw [6] (fun i wr => ∃ j : Nat, j ≤ k ∧ i = .int .i64 j ∧ Hid (∀ a, a < j → landF n f a ≠ landF n f k) ∧ ∃ m, wr = w.drewN m) (fun i _ => k - (intOf i).toNat)
      case atStart => exact ⟨0, by omega, rfl, fun a ha => by omega, m, rfl⟩
      case round =>
        obtain ⟨j, hj, rfl, hdj, m2, rfl⟩ := hrel
        by_cases hlj : j < k
        · have cj := hc j (by omega)
          have fj := hf j (by omega)
          clear hc hf
          go_wp2
          go_quiet (fail)
          go_wp2
          · have heq : ((↑j + f j) % ↑n == (↑k + f k) % ↑n) = true := by assumption
            go_ret2
            have hcl : clash (landF n f) n = some (j, k) := clash_some hlt hlj hd.out (by simpa [landF] using heq) hdj.out
            exact ⟨by rw [hcl]; rfl, by first | exact below_drewN (Below.refl _ _) _ | exact below_drewN (below_drewN (Below.refl _ _) _) _⟩
          · have hne : ((↑j + f j) % ↑n == (↑k + f k) % ↑n) = false := by assumption
            go_roundw
            case rel =>
              refine ⟨j + 1, by omega, by go_num, ?_, _, rfl⟩
              intro a ha
              by_cases e : a = j
              · subst e; simpa [landF] using hne
              · exact hdj.out a (by omega)
            case measure => simp [intOf]; omega
        · obtain rfl : j = k := by omega
          clear hc hf ck fk
          go_wp2
          go_roundw
          case rel =>
            refine ⟨j + 1, by omega, by omega, by go_num, ?_, _, rfl⟩
            intro a b hab hb
            by_cases e : b = j
            · subst e; exact hdj.out a hab
            · exact hd.out a b hab (by omega)
          case measure => simp [intOf]; omega
    · obtain rfl : k = n := by omega
      clear hc hf
      go_wp2
      go_ret2
      have hcl : clash (landF k f) k = none := clash_none hd.out
      exact ⟨by rw [hcl]; rfl, by first | exact below_drewN (Below.refl _ _) _ | exact below_drewN (below_drewN (Below.refl _ _) _) _⟩

theorem landF_is (p : List Int) : landF p.length (fun i => p.getD i 0) = lnd p := rfl

theorem l02Clash_any (v : Value) (B : Nat) (p : List Int) (w : World) (h : Ints w B v p) (hok : okList p = true) :
    Calls Try.prog 76 #[v] w fun e w' =>
      e = .returned (.tuple #[.int .i64 (cl1 (clash (lnd p) p.length)), .int .i64 (cl2 (clash (lnd p) p.length))]) ∧ Below w.heap.size w w' := by
  obtain ⟨h1, h2⟩ := okList_len hok
  rcases h.shape with ⟨rfl, rfl⟩ | ⟨g, cap, rfl, _, _, _⟩
  · simp at h1
  · exact l02Clash_core g cap p.length (fun i => p.getD i 0) w h1 h2 (fun i hi => okList_at hok i hi) (fun i hi => h.cell i hi)

theorem l02Ok_any (v : Value) (B : Nat) (p : List Int) (w : World) (h : Ints w B v p) :
    Calls Try.prog 50 #[v] w fun e w' => e = .returned (.bool (okPat p)) ∧ Below w.heap.size w w' := by
  cases hok : okList p with
  | false =>
    have hpat : okPat p = false := by simp [okPat, hok]
    rw [hpat]
    go_enter Try.func50, Try.ntmps50
    go_wp2_with fail
    refine (l02List_any v B p _ h).mono ?_
    rintro e w' ⟨rfl, rfl⟩
    rw [hok]
    go_wp2
    go_ret
    exact ⟨rfl, Below.refl _ _⟩
  | true =>
    have hpat : okPat p = decide (cl1 (clash (lnd p) p.length) < 0) := by rw [cl1_neg]; simp [okPat, hok]
    rw [hpat]
    have HC := l02Clash_any v B p w h hok
    generalize cl1 (clash (lnd p) p.length) = c at HC ⊢
    go_enter Try.func50, Try.ntmps50
    go_wp2_with fail
    refine (l02List_any v B p _ h).mono ?_
    rintro e w' ⟨rfl, rfl⟩
    rw [hok]
    go_wp2_with fail
    refine HC.mono ?_
    rintro e w' ⟨rfl, hb⟩
    go_wp2
    go_ret
    exact ⟨rfl, hb⟩

end Go.Proofs.Ytlpeigeadjojnaa
