/- Multiplex, the program's: SortBeat. Conditions: a list of at most 2^20 numbers. -/
import Derived.Test.YtgjmhihomklooaaSortB
import Derived.Test.YtgjmhihomklooaaSees
namespace Go.Proofs.Ytgjmhihomklooaa
open Go.RowKit
set_option linter.unusedSimpArgs false
set_option linter.unusedVariables false

theorem ownInts_one (w : World) (x : Int) {B : Nat} (hB : B ≤ w.heap.size) : Ints (w.alloc (.cells #[.int .i64 x] 2)) B (.slice (some ⟨w.heap.size, 0, none⟩) 1 1) [x] := World.ownsRow_lit w #[.int .i64 x] 1 hB (by simp [maxLen]) rfl

/-- what SortBeat answers, as it is told apart -/
theorem sort_bad {p : List Int} (h : thrB p = false) : sortC p = 1 ∧ sortR p = [] := by simp [sortC, sortR, h]
theorem sort_full {p : List Int} (h : thrB p = true) (h4 : 4 < (nz p).length) : sortC p = 5 ∧ sortR p = [] := by simp [sortC, sortR, h, h4]
theorem sort_none {p : List Int} (h : thrB p = true) (h0 : (nz p).length = 0) : sortC p = 0 ∧ sortR p = [0] := by simp [sortC, sortR, sortL, h, h0]
theorem sort_some {p : List Int} (h : thrB p = true) (h4 : ¬ 4 < (nz p).length) (h0 : (nz p).length ≠ 0) : sortC p = 0 ∧ sortR p = (nz p).mergeSort geB := by
  refine ⟨by simp [sortC, h, h4], ?_⟩
  simp only [sortR, sortL, h, h4, h0, if_true, if_false]
  rfl
theorem Ints.zero {w : World} {B : Nat} {v : Value} {xs : List Int} (h : Ints w B v xs) (h0 : xs.length = 0) : ∃ a cap, v = .slice a 0 cap := by
  rcases h.shape with ⟨hv, _⟩ | ⟨g, cap, hv, _⟩
  · exact ⟨_, _, hv⟩
  · rw [h0] at hv; exact ⟨_, _, hv⟩

theorem sortBeat_zero (a : Option Addr) (cap : Nat) (w : World) :
    Calls Try.prog 63 #[.slice a 0 cap] w fun e w' => ∃ u, e = .returned (.tuple #[u, .int .i64 (sortC [])]) ∧ Ints w' w.heap.size u (sortR []) ∧ Below w.heap.size w w' := by
  obtain ⟨e1, e2⟩ := sort_none (p := []) rfl rfl
  rw [e1, e2]
  clear e1 e2
  go_enter Try.func63, Try.ntmps63
  go_wp2_with fail
  refine (areThrows_zero _ _ _).mono ?_
  rintro e w' ⟨rfl, rfl⟩
  go_wp2
  refine wp_loop_rounds 1 ?_
  rw [rounds_succ]
  go_wp2
  go_ret2
  have h1 := ownInts_one (B := w.heap.size) (w.alloc (.cells #[] 2)) 0 (by simp)
  rw [show (w.alloc (.cells #[] 2)).heap.size = w.heap.size + 1 by simp] at h1
  exact ⟨_, rfl, h1, ((Below.refl w.heap.size w).alloc (Nat.le_refl _) _).alloc (by simp) _⟩

theorem sortBeat_bad (a : Option Addr) (n cap B : Nat) (p : List Int) (w : World) (h : Ints w B (.slice a n cap) p) (hb : thrB p = false) :
    Calls Try.prog 63 #[.slice a n cap] w fun e w' => ∃ u, e = .returned (.tuple #[u, .int .i64 (sortC p)]) ∧ Ints w' w.heap.size u (sortR p) ∧ Below w.heap.size w w' := by
  obtain ⟨e1, e2⟩ := sort_bad hb
  rw [e1, e2]
  have HC := areThrows_any _ B p w h
  rw [show (p.all fun x => inB x 0 15) = false from hb] at HC
  clear e1 e2 h hb
  go_enter Try.func63, Try.ntmps63
  go_wp2_with fail
  refine HC.mono ?_
  rintro e w' ⟨rfl, rfl⟩
  go_wp2
  go_ret2
  exact ⟨_, rfl, Ints.nil _ _, Below.refl _ _⟩

set_option maxHeartbeats 1000000 in
theorem sortBeat_row (g cap B : Nat) (p : List Int) (w : World) (h : Ints w B (.slice (some ⟨g, 0, none⟩) p.length cap) p) (hg : g < w.heap.size) (hb : thrB p = true) (hlen : p.length ≤ 10000000) :
    Calls Try.prog 63 #[.slice (some ⟨g, 0, none⟩) p.length cap] w fun e w' => ∃ u, e = .returned (.tuple #[u, .int .i64 (sortC p)]) ∧ Ints w' w.heap.size u (sortR p) ∧ Below w.heap.size w w' := by
  have HC := areThrows_any _ B p w h
  rw [show (p.all fun x => inB x 0 15) = true from hb] at HC
  obtain ⟨n, hn⟩ : ∃ n, n = p.length := ⟨_, rfl⟩
  have hc : ∀ i, i < n → w.cell? ⟨g, i, none⟩ = some (.int .i64 (p.getD i 0)) := fun i hi => h.cell i (by omega)
  have HS : ∀ k, k < n → nz (p.take (k + 1)) = nz (p.take k) ++ (if p.getD k 0 = 0 then [] else [p.getD k 0]) := fun k hk => nz_take k (by omega)
  have HL : ∀ k, (nz (p.take k)).length ≤ 10000000 := fun k => by
    have h1 : (nz (p.take k)).length ≤ (p.take k).length := List.length_filter_le _ _
    have h2 : (p.take k).length ≤ p.length := by simp; omega
    omega
  have HF := Lib.hid (fun h4 => sort_full hb h4)
  have HN0 := Lib.hid (fun h0 => sort_none hb h0)
  have HSM := Lib.hid (fun h4 h0 => sort_some hb h4 h0)
  have HT : nz (p.take n) = nz p := by rw [hn, List.take_length]
  rw [← hn] at HC hlen ⊢
  have HN := Lib.hid hn
  have HT := Lib.hid HT
  have HS := Lib.hid HS
  have HL := Lib.hid HL
  clear hn h hb
  go_enter Try.func63, Try.ntmps63
  go_wp2_with fail
  refine HC.mono ?_
  rintro e w' ⟨rfl, rfl⟩
  clear HC
  go_wp2
  go_loopw [4, 13] (fun v i wr => ∃ k : Nat, k ≤ n ∧ i = .int .i64 k ∧ Ints wr w.heap.size v (nz (p.take k)) ∧ Below w.heap.size w wr) (fun _ i _ => n - (intOf i).toNat)
  case atStart => exact ⟨0, Nat.zero_le _, rfl, ownInts_empty w (Nat.le_refl _), (Below.refl _ _).alloc (Nat.le_refl _) _⟩
  case round =>
    obtain ⟨k, hk, rfl, hi, hbl⟩ := hrel
    by_cases hlt : k < n
    · have c1 := (hbl.cell (p := ⟨g, k, none⟩) hg).trans (hc k hlt)
      have hs := HS.out k hlt
      have hlen1 := HL.out k
      have hBs := hbl.size
      clear hc
      generalize p.getD k 0 = x at *
      by_cases hx : x = 0
      · rw [if_pos hx, List.append_nil] at hs
        have HSS := Lib.hid hs
        subst hx
        clear hs
        go_wp2
        go_roundw
        case rel => exact ⟨k + 1, by omega, by go_num, by rw [HSS.out]; exact hi, hbl⟩
        case measure => simp [intOf]; omega
      · rw [if_neg hx] at hs
        have HSS := Lib.hid hs
        have hx' : (x == 0) = false := by simpa using hx
        clear hs
        go_wp2_with (at_builtin; refine append_int _ rfl _ _ rfl _ _ _ rfl hi _ rfl (by omega) hBs ?_; intro v' w1 hi1 hg1; refine Hid.out ?_)
        have hb1 := hi.below_grown hbl hBs hg1
        clear hg1 hi hbl
        refine Lib.hid ?_
        go_wp2
        go_roundw
        case rel => exact ⟨k + 1, by omega, by go_num, by rw [HSS.out]; exact hi1, hb1⟩
        case measure => simp [intOf]; omega
    · obtain rfl : k = n := by omega
      rw [HT.out] at hi
      have hlen2 := HL.out k
      rw [HT.out] at hlen2
      generalize nz p = q at *
      obtain ⟨m, hm⟩ : ∃ m, m = q.length := ⟨_, rfl⟩
      by_cases h4 : 4 < q.length
      · obtain ⟨e1, e2⟩ := HF.out h4
        obtain ⟨g2, cap2, hv, _, _, _, _⟩ := hi.shape2 (by omega)
        rw [← hm] at hv h4
        subst hv
        have E1 := Lib.hid e1
        have E2 := Lib.hid e2
        clear e1 e2 hm hi hc
        have h4' : (4 : Int) < (m : Int) := by omega
        go_wp2
        go_ret2
        exact ⟨_, by rw [E1.out]; rfl, by rw [E2.out]; exact Ints.nil _ _, hbl⟩
      · by_cases h0 : q.length = 0
        · obtain ⟨e1, e2⟩ := HN0.out h0
          obtain ⟨a2, cap2, hv⟩ := hi.zero h0
          subst hv
          have E1 := Lib.hid e1
          have E2 := Lib.hid e2
          clear e1 e2 hm hi hc
          go_wp2
          go_ret2
          exact ⟨_, by rw [E1.out]; rfl, by rw [E2.out]; exact ownInts_one _ 0 hbl.size, hbl.alloc hbl.size _⟩
        · obtain ⟨e1, e2⟩ := HSM.out h4 h0
          obtain ⟨g2, cap2, hv, _, _, _, _⟩ := hi.shape2 (by omega)
          subst hv
          have HSF := sortFunc_any g2 cap2 w.heap.size q.length q wr hi rfl (by omega)
          rw [← hm] at h4 h0 HSF
          have E1 := Lib.hid e1
          have E2 := Lib.hid e2
          clear e1 e2 hi hc
          rw [← hm]
          clear hm
          have h4' : ¬ (4 : Int) < (m : Int) := by omega
          have h0' : ((m : Int) == 0) = false := by simp; omega
          go_wp2_with fail
          refine HSF.mono ?_
          rintro e w1 ⟨rfl, i1, b1⟩
          have b2 := b1 w.heap.size w (Nat.le_refl _) hbl.size hbl
          clear b1 HSF
          go_wp2
          go_ret2
          exact ⟨_, by rw [E1.out]; rfl, by rw [E2.out]; exact i1, b2⟩

theorem sortBeat_impl (v : Value) (B : Nat) (p : List Int) (w : World) (h : Ints w B v p) (hlen : p.length ≤ 10000000) :
    Calls Try.prog 63 #[v] w fun e w' => ∃ u, e = .returned (.tuple #[u, .int .i64 (sortC p)]) ∧ Ints w' w.heap.size u (sortR p) ∧ Below w.heap.size w w' := by
  rcases h.shape with ⟨rfl, rfl⟩ | ⟨g, cap, rfl, _, hg, _⟩
  · exact sortBeat_zero _ _ _
  · cases hb : thrB p with
    | false => exact sortBeat_bad _ _ _ B p w h hb
    | true => exact sortBeat_row g cap B p w h hg hb hlen
end Go.Proofs.Ytgjmhihomklooaa
