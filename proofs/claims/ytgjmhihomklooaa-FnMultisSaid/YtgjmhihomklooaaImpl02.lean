/- The program's chapter 2, its base: isList, period, modulo, landing, CollisionOf, ValidPattern compute okList, the remainder, the landings, clash, okPat. No conditions. -/
import Derived.Test.YtgjmhihomklooaaSpec02
import Derived.Maps.OwnSet
import Derived.Maps.OwnOps
import Derived.Maps.Views
namespace Go.Proofs.Ytgjmhihomklooaa
open Go.RowKit Go.Maps
set_option linter.unusedSimpArgs false
set_option linter.unusedVariables false

theorem ret_int3 {a b c d e f : Int} (h : a = d) (h' : b = e) (h'' : c = f) : Ending.returned (.tuple #[.int .i64 a, .int .i64 b, .int .i64 c]) = .returned (.tuple #[.int .i64 d, .int .i64 e, .int .i64 f]) := by rw [h, h', h'']

theorem areThrows_zero (a : Option Addr) (cap : Nat) (w : World) :
    Calls Try.prog 115 #[.slice a 0 cap] w fun e w' => e = .returned (.bool true) ∧ w = w' := by
  go_enter Try.func115, Try.ntmps115
  go_wp2
  refine wp_loop_rounds 1 ?_
  rw [rounds_succ]
  go_wp2
  go_ret
  exact ⟨rfl, rfl⟩

theorem areThrows_row (g cap B : Nat) (p : List Int) (w : World) (h : Ints w B (.slice (some ⟨g, 0, none⟩) p.length cap) p) :
    Calls Try.prog 115 #[.slice (some ⟨g, 0, none⟩) p.length cap] w fun e w' => e = .returned (.bool (p.all (fun x => inB x 0 15))) ∧ w = w' := by
  have hm := h.len
  obtain ⟨n, hn⟩ : ∃ n, n = p.length := ⟨_, rfl⟩
  have hc : ∀ i, i < n → w.cell? ⟨g, i, none⟩ = some (.int .i64 (p.getD i 0)) := fun i hi => h.cell i (by omega)
  rw [← hn] at hm ⊢
  clear h
  have HN := Lib.hid hn
  clear hn
  go_enter Try.func115, Try.ntmps115
  go_wp2
  go_loop [7] (fun i => ∃ k : Nat, k ≤ n ∧ i = .int .i64 k ∧ Hid ((p.take k).all (fun x => inB x 0 15) = true)) (fun i => n - (intOf i).toNat)
  case atStart => exact ⟨0, Nat.zero_le _, rfl, by unfold Hid; simp⟩
  case round =>
    obtain ⟨k, hk, rfl, hall⟩ := hrel
    by_cases hlt : k < n
    · have c1 := hc k hlt
      obtain ⟨x, hx⟩ : ∃ x, x = p.getD k 0 := ⟨_, rfl⟩
      rw [← hx] at c1
      have HX := Lib.hid hx
      clear hc hx
      by_cases hb : 0 ≤ x ∧ x ≤ 15
      · obtain ⟨hb1, hb2⟩ := hb
        go_wp2
        go_round
        case rel =>
          refine ⟨k + 1, by omega, by go_num, ?_⟩
          have hall := hall.out
          unfold Hid
          rw [okList_take k (by have := HN.out; omega), hall, ← HX.out, inB_true ⟨hb1, hb2⟩]
          rfl
        case measure => simp [intOf]; omega
      · have hbad := all_bad (p := p) k (by have := HN.out; omega) (by rw [← HX.out]; exact inB_false (by omega))
        by_cases hb1 : x < 0
        · clear hb
          go_wp2
          go_ret
          exact ⟨rfl, rfl⟩
        · have hb2 : 15 < x := by omega
          clear hb
          go_wp2
          go_ret
          exact ⟨rfl, rfl⟩
    · obtain rfl : k = n := by omega
      clear hc
      go_wp2
      go_ret
      have hn := HN.out
      have hall := hall.out
      rw [hn, List.take_length] at hall
      exact ⟨by rw [hall]; rfl, rfl⟩

theorem areThrows_any (v : Value) (B : Nat) (p : List Int) (w : World) (h : Ints w B v p) :
    Calls Try.prog 115 #[v] w fun e w' => e = .returned (.bool (p.all (fun x => inB x 0 15))) ∧ w = w' := by
  rcases h.shape with ⟨rfl, rfl⟩ | ⟨g, cap, rfl, _, _, _⟩
  · exact areThrows_zero _ _ _
  · exact areThrows_row _ _ _ _ _ h

theorem modulo_any (a n : Int) (w : World) (hn : 1 ≤ n) (hn2 : n ≤ 1000000) (ha : -1000000000000 ≤ a) (ha2 : a ≤ 1000000000000) :
    Calls Try.prog 134 #[.int .i64 a, .int .i64 n] w fun e w' => e = .returned (.int .i64 (a % n)) ∧ w' = w := by
  have e0 := Int.emod_nonneg a (show n ≠ 0 by omega)
  have e1 := Int.emod_lt_of_pos a (show 0 < n by omega)
  by_cases h0 : 0 ≤ a
  · have h00 : ¬ a % n < 0 := by omega
    go_enter Try.func134, Try.ntmps134
    go_wp2
    go_ret
    exact ⟨rfl, rfl⟩
  · have hd := emod_tmod a n (by omega)
    have hl := tmod_low a n (by omega) (by omega)
    rw [hd]
    by_cases hr : a.tmod n < 0
    · rw [if_pos hr]
      clear hd
      go_enter Try.func134, Try.ntmps134
      go_wp2
      go_ret
      exact ⟨rfl, rfl⟩
    · rw [if_neg hr]
      clear hd
      go_enter Try.func134, Try.ntmps134
      go_wp2
      go_ret
      exact ⟨rfl, rfl⟩

/-- what the map holds behind k rounds: of each landing the index of its throw -/
def landMap {H : Type} (h : Nat → Int) : Nat → DataW H
  | 0 => .map []
  | k + 1 => (landMap h k).put (.int .i64 (h k)) (.lit (.int .i64 (k : Int)))

theorem landMap_isMap {H : Type} (h : Nat → Int) (k : Nat) : IsMap (landMap (H := H) h k) := by
  induction k with
  | zero => exact isMap_empty
  | succ k ih => exact ih.put _ _

theorem landMap_miss {H : Type} (h : Nat → Int) (k : Nat) (x : Int) (hd : ∀ a, a < k → h a ≠ x) : has (landMap (H := H) h k) (.int .i64 x) = false := by
  induction k with
  | zero => rfl
  | succ k ih =>
    rw [landMap, has_put_other (by have := hd k (by omega); simpa using fun e => this e.symm)]
    exact ih fun a ha => hd a (by omega)

theorem landMap_hit {H : Type} (h : Nat → Int) (k i : Nat) (hi : i < k) (hd : distinct h k) (z : DataW H) :
    has (landMap (H := H) h k) (.int .i64 (h i)) = true ∧ (landMap (H := H) h k).atKey (.int .i64 (h i)) z = .lit (.int .i64 (i : Int)) := by
  induction k with
  | zero => omega
  | succ k ih =>
    by_cases e : i = k
    · subst e
      exact ⟨has_put_same (landMap_isMap h i) (by first | trivial | rfl | simp [WideAt.IsKeyLit]) _, atKey_put_same (landMap_isMap h i) (by first | trivial | rfl | simp [WideAt.IsKeyLit]) _ _⟩
    · have hne : h i ≠ h k := hd i k (by omega) (by omega)
      rw [landMap, has_put_other (by simpa using hne), atKey_put_other (by simpa using hne)]
      exact ih (by omega) fun a b hab hb => hd a b hab (by omega)

theorem law64 : Keyed Try.prog 2 := int_keyed Try.underlying2
theorem zero64 (w : World) : (zeroValue 2).run Try.prog w = .ok (.int .i64 0) w := by kernel_rfl

/-- what CollisionOf answers -/
def colA (p : List Int) : Int := if okList p then cl1 (clash (lnd p) p.length) else 0
def colB (p : List Int) : Int := if okList p then cl2 (clash (lnd p) p.length) else 0
def colC (p : List Int) : Int := if okList p then cl3 (clash (lnd p) p.length) else 1

theorem colC_ok (p : List Int) : (colC p == 0) = okPat p := by
  unfold colC okPat
  cases okList p with
  | false => rfl
  | true =>
    rw [if_pos rfl]
    cases clash (lnd p) p.length <;> rfl

end Go.Proofs.Ytgjmhihomklooaa
