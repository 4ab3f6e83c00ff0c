/- Synchronous patterns, the model's: throws, lists, landings, collisions. No conditions. -/
import Derived.Test.YtgjmhihomklooaaSynV
import Derived.Test.YtgjmhihomklooaaSpec02
namespace Go.Proofs.Ytgjmhihomklooaa
open Go.RowKit
set_option linter.unusedSimpArgs false
set_option linter.unusedVariables false

theorem okT_low {v : Int} {c : Bool} (h : inB v 0 14 = false) : okT (v, c) = false := by simp [okT, h]
theorem okT_odd {v : Int} {c : Bool} (h : ¬ v % 2 = 0) : okT (v, c) = false := by simp [okT, h]
theorem okT_pos {v : Int} {c : Bool} (h : 0 < v ∧ v ≤ 14) (h2 : v % 2 = 0) : okT (v, c) = true := by
  rw [okT_iff]; exact ⟨by show 0 ≤ v ∧ v ≤ 14; omega, h2, .inl h.1⟩
theorem okT_zero (c : Bool) : okT (0, c) = !c := by cases c <;> decide

set_option maxRecDepth 10000 in
theorem l05Throw_any (v : Int) (c : Bool) (w : World) :
    Calls Try.prog 133 #[.agg #[.int .i64 v, .bool c]] w fun e w' => e = .returned (.bool (okT (v, c))) ∧ Below w.heap.size w w' := by
  have HI := l00In_any v 0 14
  have b1 : Below w.heap.size w (w.alloc (.cells #[.int .i64 v, .bool c] 113)) := (Below.refl _ _).alloc (Nat.le_refl _) _
  cases h : inB v 0 14 with
  | false =>
    rw [okT_low h]
    rw [h] at HI
    go_enter Try.func133, Try.ntmps133
    go_wp2_with fail
    refine (HI _).mono ?_
    rintro e w' ⟨rfl, rfl⟩
    go_wp2
    go_ret
    exact ⟨rfl, b1⟩
  | true =>
    rw [h] at HI
    have hb := inB_iff.1 h
    clear h
    by_cases h2 : v % 2 = 0
    · by_cases h0 : v = 0
      · subst h0
        rw [okT_zero]
        go_enter Try.func133, Try.ntmps133
        go_wp2_with fail
        refine (HI _).mono ?_
        rintro e w' ⟨rfl, rfl⟩
        go_wp2
        go_ret
        exact ⟨rfl, b1⟩
      · rw [okT_pos (by omega) h2]
        have hp : 0 < v := by omega
        have hd : (v % 2 == 0) = true := by simp [h2]
        obtain ⟨hb1, hb2⟩ := hb
        clear h2
        go_enter Try.func133, Try.ntmps133
        go_wp2_with fail
        refine (HI _).mono ?_
        rintro e w' ⟨rfl, rfl⟩
        go_wp2
        go_ret
        exact ⟨rfl, b1⟩
    · rw [okT_odd h2]
      have hd : (v % 2 == 0) = false := by simp [h2]
      obtain ⟨hb1, hb2⟩ := hb
      clear h2
      go_enter Try.func133, Try.ntmps133
      go_wp2_with fail
      refine (HI _).mono ?_
      rintro e w' ⟨rfl, rfl⟩
      go_wp2
      go_ret
      exact ⟨rfl, b1⟩

set_option maxRecDepth 10000 in
set_option maxHeartbeats 400000 in
theorem l05List_row (g cap n : Nat) (p : List Syn) (w : World) (hm : n ≤ 9223372036854775807) (hg : g < w.heap.size) (hn : n = p.length) (hc : ∀ i, i < n → Four w g (i * 4) (p.getD i s0)) :
    Calls Try.prog 86 #[.slice (some ⟨g, 0, none⟩) n cap] w fun e w' => e = .returned (.bool (okSL p)) ∧ Below w.heap.size w w' := by
  have HB := Lib.hid (fun i (hi : i < n) (h : (okT (p.getD i s0).1 && okT (p.getD i s0).2) = false) => okSL_bad i (by omega) h)
  have HI := l00In_any (n : Int) 1 6
  have HF := Lib.hid (fun (h : ∀ i, i < n → okT (p.getD i s0).1 = true ∧ okT (p.getD i s0).2 = true) => show okSL p = inB (n : Int) 1 6 from by
    cases hi : inB (n : Int) 1 6 with
    | true => have := inB_iff.1 hi; exact okSL_good (by omega) (by omega) fun i h' => h i (by omega)
    | false => exact okSL_num fun h' => by rw [inB_true (by omega)] at hi; cases hi)
  have HC := Lib.hid hc
  clear hc hn
  go_enter Try.func86, Try.ntmps86
  go_wp2
  go_loopw [3] (fun i wr => ∃ k : Nat, k ≤ n ∧ i = .int .i64 k ∧ Hid (∀ j, j < k → okT (p.getD j s0).1 = true ∧ okT (p.getD j s0).2 = true) ∧ Below w.heap.size w wr) (fun i _ => n - (intOf i).toNat)
  case atStart => exact ⟨0, Nat.zero_le _, rfl, fun j hj => absurd hj (Nat.not_lt_zero _), Below.refl _ _⟩
  case round =>
    obtain ⟨k, hk, rfl, hall, hb⟩ := hrel
    by_cases hlt : k < n
    · obtain ⟨c0, c1, c2, c3⟩ := (HC.out k hlt).below hb hg
      have HBK := Lib.hid (HB.out k hlt)
      have HNX := Lib.hid (fun (h : okT (p.getD k s0).1 = true ∧ okT (p.getD k s0).2 = true) => show ∀ j, j < k + 1 → okT (p.getD j s0).1 = true ∧ okT (p.getD j s0).2 = true from fun j hj => by
        by_cases e : j = k
        · subst e; exact h
        · exact hall.out j (by omega))
      clear HC HB HF HI
      generalize p.getD k s0 = y at *
      obtain ⟨⟨y0, y1⟩, y2, y3⟩ := y
      simp only at c0 c1 c2 c3 HBK HNX
      have HT1 := fun W => l05Throw_any y0 y1 W
      have HT2 := fun W => l05Throw_any y2 y3 W
      have HCL := Lib.hid (fun W (hW : Below wr.heap.size wr W) => (show Four wr g (k * 4) ((y0, y1), (y2, y3)) from ⟨c0, c1, c2, c3⟩).below hW (by have := hb.size; omega))
      cases h1 : okT (y0, y1) with
      | false =>
        rw [h1] at HT1 HBK
        have HR := Lib.hid (HBK.out rfl)
        clear h1 HT2 HBK HNX
        go_wp2_with fail
        refine (HT1 _).mono ?_
        rintro e w1 ⟨rfl, b1⟩
        replace hb := hb.trans (b1.mono hb.size)
        clear HT1
        go_wp2
        go_ret
        exact ⟨by rw [HR.out]; rfl, hb⟩
      | true =>
        rw [h1] at HT1 HBK
        cases h2 : okT (y2, y3) with
        | false =>
          rw [h2] at HT2 HBK
          have HR := Lib.hid (HBK.out rfl)
          clear h1 h2 HBK HNX
          go_wp2_with fail
          refine (HT1 _).mono ?_
          rintro e w1 ⟨rfl, b1⟩
          obtain ⟨d0, d1, d2, d3⟩ := HCL.out w1 b1
          replace hb := hb.trans (b1.mono hb.size)
          clear HT1 c0 c1 c2 c3
          go_wp2_with fail
          refine (HT2 _).mono ?_
          rintro e w2 ⟨rfl, b2⟩
          replace hb := hb.trans (b2.mono hb.size)
          go_wp2
          go_ret
          exact ⟨by rw [HR.out]; rfl, hb⟩
        | true =>
          rw [h2] at HT2
          have HN := Lib.hid (HNX.out ⟨h1, h2⟩)
          clear h1 h2 HBK HNX
          go_wp2_with fail
          refine (HT1 _).mono ?_
          rintro e w1 ⟨rfl, b1⟩
          obtain ⟨d0, d1, d2, d3⟩ := HCL.out w1 b1
          replace hb := hb.trans (b1.mono hb.size)
          clear HT1 c0 c1 c2 c3
          go_wp2_with fail
          refine (HT2 _).mono ?_
          rintro e w2 ⟨rfl, b2⟩
          replace hb := hb.trans (b2.mono hb.size)
          go_wp2
          go_roundw
          case rel => exact ⟨k + 1, by omega, by go_num, HN, hb⟩
          case measure => simp [intOf]; omega
    · obtain rfl : k = n := by omega
      have HR := Lib.hid (HF.out hall.out)
      clear HC HB HF hall
      go_wp2_with fail
      refine (HI _).mono ?_
      rintro e w' ⟨rfl, rfl⟩
      go_wp2
      go_ret
      exact ⟨by rw [HR.out]; rfl, hb⟩

set_option maxRecDepth 10000 in
theorem l05List_zero (a : Option Addr) (cap : Nat) (w : World) :
    Calls Try.prog 86 #[.slice a 0 cap] w fun e w' => e = .returned (.bool false) ∧ Below w.heap.size w w' := by
  have HI := l00In_any 0 1 6
  rw [show inB 0 1 6 = false from by decide] at HI
  go_enter Try.func86, Try.ntmps86
  go_wp2
  refine wp_loop_rounds 1 ?_
  rw [rounds_succ]
  go_wp2_with fail
  refine (HI _).mono ?_
  rintro e w' ⟨rfl, rfl⟩
  go_wp2
  go_ret
  exact ⟨rfl, Below.refl _ _⟩

theorem l05List_any (v : Value) (B : Nat) (p : List Syn) (w : World) (h : Syns w B v p) :
    Calls Try.prog 86 #[v] w fun e w' => e = .returned (.bool (okSL p)) ∧ Below w.heap.size w w' := by
  rcases h.shape with ⟨rfl, rfl⟩ | ⟨g, cap, rfl, _, hg, _, _⟩
  · exact l05List_zero _ _ _
  · exact l05List_row g cap p.length p w h.len hg rfl fun i hi => h.four i hi

/-! ### throws by their numbers -/
/-- a walk is told of the beats: their cells -/
def Beats (w : World) (g n : Nat) (p : List Syn) : Prop := ∀ i, i < n → Four w g (i * 4) (p.getD i s0)
theorem Beats.below {w w' : World} {N g n : Nat} {p : List Syn} (h : Beats w g n p) (hb : Below N w w') (hg : g < N) : Beats w' g n p := fun i hi => (h i hi).below hb hg
theorem OwnK.beats {w : World} {B g n cap : Nat} {p : List Syn} (h : Syns w B (.slice (some ⟨g, 0, none⟩) n cap) p) : Beats w g n p := fun i hi => h.four i (by have := h.num; omega)

set_option maxRecDepth 10000 in
theorem l05At_row (g cap n k : Nat) (p : List Syn) (w : World) (hn : n = p.length) (hn9 : n ≤ 1000000) (hk : k < 2 * n) (hg : g < w.heap.size) (hc : Beats w g n p) :
    Calls Try.prog 159 #[.slice (some ⟨g, 0, none⟩) n cap, .int .i64 k] w fun e w' => e = .returned (.agg #[.int .i64 ((thrs p).getD k t0).1, .bool ((thrs p).getD k t0).2]) ∧ Below w.heap.size w w' := by
  obtain ⟨c0, c1, c2, c3⟩ := hc (k / 2) (by omega)
  have b1 : Below w.heap.size w (w.alloc (.cells #[.int .i64 0, .bool false] 113)) := (Below.refl _ _).alloc (Nat.le_refl _) _
  rcases Nat.mod_two_eq_zero_or_one k with e | e
  · have e2 := thrs_even p (k / 2) (by omega)
    rw [show 2 * (k / 2) = k by omega] at e2
    rw [e2]
    clear hc e2
    generalize p.getD (k / 2) s0 = y at *
    obtain ⟨⟨y0, y1⟩, y2, y3⟩ := y
    simp only at c0 c1 c2 c3 ⊢
    have hm : ((k : Int) % 2 == 0) = true := by simp; omega
    go_enter Try.func159, Try.ntmps159
    go_wp2
    refine bodyPost_ret (v := .agg #[.int .i64 y0, .bool y1]) (by simp [results, Try.results159, go_sem]) rfl ?_
    exact ⟨rfl, (Below.refl _ _).alloc (Nat.le_refl _) _⟩
  · have e2 := thrs_odd p (k / 2) (by omega)
    rw [show 2 * (k / 2) + 1 = k by omega] at e2
    rw [e2]
    clear hc e2
    generalize p.getD (k / 2) s0 = y at *
    obtain ⟨⟨y0, y1⟩, y2, y3⟩ := y
    simp only at c0 c1 c2 c3 ⊢
    have hm : ((k : Int) % 2 == 0) = false := by simp; omega
    go_enter Try.func159, Try.ntmps159
    go_wp2
    refine bodyPost_ret (v := .agg #[.int .i64 y2, .bool y3]) (by simp [results, Try.results159, go_sem]) rfl ?_
    exact ⟨rfl, (Below.refl _ _).alloc (Nat.le_refl _) _⟩

theorem land_eq (k v n : Int) (hv : v % 2 = 0) (hn : 0 < n) : (k / 2 + v / 2) % n * 2 + k % 2 = (k + v) % (2 * n) := by
  have e0 := Int.emod_nonneg (k / 2 + v / 2) (show n ≠ 0 by omega)
  have e1 := Int.emod_lt_of_pos (k / 2 + v / 2) hn
  have e2 := Int.mul_ediv_add_emod (k / 2 + v / 2) n
  have e3 : k + v = ((k / 2 + v / 2) % n * 2 + k % 2) + (2 * n) * ((k / 2 + v / 2) / n) := by
    rw [Int.mul_assoc]; omega
  rw [e3, Int.add_mul_emod_self_left]
  exact (Int.emod_eq_of_lt (by omega) (by omega)).symm
theorem land_plain {p : List Syn} {k : Nat} (h : okSL p = true) (hk : k < 2 * p.length) (hc : ((thrs p).getD k t0).2 = false) : lndS p k = ((k : Int) / 2 + ((thrs p).getD k t0).1 / 2) % (p.length : Int) * 2 + (k : Int) % 2 := by
  rw [lndS_plain hc, land_eq _ _ _ (okT_iff.1 (okSL_thr h k hk)).2.1 (by omega)]
theorem land_cross {p : List Syn} {k : Nat} (h : okSL p = true) (hk : k < 2 * p.length) (hc : ((thrs p).getD k t0).2 = true) : lndS p k = ((k : Int) / 2 + ((thrs p).getD k t0).1 / 2) % (p.length : Int) * 2 + (1 - (k : Int) % 2) := by
  rw [lndS_cross hc, ← land_eq _ _ _ (okT_iff.1 (okSL_thr h k hk)).2.1 (by omega)]
  unfold oth
  split <;> omega

set_option maxRecDepth 10000 in
theorem l05Land_row (g cap n k : Nat) (p : List Syn) (w : World) (hn : n = p.length) (hok : okSL p = true) (hk : k < 2 * n) (hg : g < w.heap.size) (hc : Beats w g n p) :
    Calls Try.prog 135 #[.slice (some ⟨g, 0, none⟩) n cap, .int .i64 k] w fun e w' => e = .returned (.int .i64 (lndS p k)) ∧ Below w.heap.size w w' := by
  have hl := okSL_len hok
  have ht := (okT_iff.1 (okSL_thr hok k (by omega))).1
  have HA := fun W (hW : Below w.heap.size w W) => l05At_row g cap n k p W hn (by omega) hk (by have := hW.size; omega) (hc.below hW hg)
  have e0 := Int.emod_nonneg ((k : Int) / 2 + ((thrs p).getD k t0).1 / 2) (show (n : Int) ≠ 0 by omega)
  have e1 := Int.emod_lt_of_pos ((k : Int) / 2 + ((thrs p).getD k t0).1 / 2) (show 0 < (n : Int) by omega)
  cases hx : ((thrs p).getD k t0).2 with
  | false =>
    have hv := land_plain hok (by omega) hx
    rw [← hn] at hv hl
    rw [hv]
    rw [hx] at HA
    clear hc hok hv hx hn
    generalize ((thrs p).getD k t0).1 = v at *
    go_enter Try.func135, Try.ntmps135
    go_wp2_with fail
    refine (HA _ (Below.refl _ _)).mono ?_
    rintro e w1 ⟨rfl, b1⟩
    have b2 := b1.alloc b1.size (.cells #[.int .i64 v, .bool false] 113)
    clear HA
    go_wp2
    go_ret
    exact ⟨rfl, b2⟩
  | true =>
    have hv := land_cross hok (by omega) hx
    rw [← hn] at hv hl
    rw [hv]
    rw [hx] at HA
    clear hc hok hv hx hn
    generalize ((thrs p).getD k t0).1 = v at *
    go_enter Try.func135, Try.ntmps135
    go_wp2_with fail
    refine (HA _ (Below.refl _ _)).mono ?_
    rintro e w1 ⟨rfl, b1⟩
    have b2 := b1.alloc b1.size (.cells #[.int .i64 v, .bool true] 113)
    clear HA
    go_wp2
    go_ret
    exact ⟨rfl, b2⟩

set_option maxRecDepth 10000 in
set_option maxHeartbeats 400000 in
theorem l05Clash_core (g cap n m : Nat) (h : Nat → Int) (a b : Int) (w : World) (hm : m = 2 * n) (hn1 : 1 ≤ n) (hn2 : n ≤ 6)
    (HL : ∀ k, k < m → ∀ W, Below w.heap.size w W → Calls Try.prog 135 #[.slice (some ⟨g, 0, none⟩) n cap, .int .i64 k] W fun e w' => e = .returned (.int .i64 (h k)) ∧ Below W.heap.size W w')
    (hs : ∀ i k, k < m → i < k → distinct h k → h i = h k → (∀ j, j < i → h j ≠ h k) → a = (i : Int) ∧ b = (k : Int)) (ho : distinct h m → a = -1 ∧ b = -1) :
    Calls Try.prog 89 #[.slice (some ⟨g, 0, none⟩) n cap] w fun e w' => e = .returned (.tuple #[.int .i64 a, .int .i64 b]) ∧ Below w.heap.size w w' := by
  have HS := Lib.hid hs
  have HO := Lib.hid ho
  have HLL := Lib.hid HL
  have HM := Lib.hid hm
  clear hs ho HL hm
  go_enter Try.func89, Try.ntmps89
  go_wp2
  go_loopw [4] (fun i wr => ∃ k : Nat, 1 ≤ k ∧ k ≤ 2 * n ∧ i = .int .i64 k ∧ Hid (distinct h k) ∧ Below w.heap.size w wr) (fun i _ => 2 * n - (intOf i).toNat)
  case atStart => exact ⟨1, Nat.le_refl _, by omega, rfl, fun a b hab hb => by omega, Below.refl _ _⟩
  case round =>
    obtain ⟨k, hk1, hk, rfl, hd, hb⟩ := hrel
    by_cases hlt : k < 2 * n
    · have hlt' : (k : Int) < 2 * (n : Int) := by omega
      go_wp2
      go_loopw [5] (fun i wr => ∃ j : Nat, j ≤ k ∧ i = .int .i64 j ∧ Hid (∀ t, t < j → h t ≠ h k) ∧ Below w.heap.size w wr) (fun i _ => k - (intOf i).toNat)
      case atStart => exact ⟨0, Nat.zero_le _, rfl, fun t ht => absurd ht (Nat.not_lt_zero _), hb⟩
      case round =>
        clear hb
        obtain ⟨j, hj, rfl, hne, hb⟩ := hrel
        by_cases hjk : j < k
        · have h1 := HLL.out j (by have := HM.out; omega)
          have h2 := HLL.out k (by have := HM.out; omega)
          go_wp2_with fail
          refine (h1 _ hb).mono ?_
          rintro e w1 ⟨rfl, b1⟩
          replace hb := hb.trans (b1.mono hb.size)
          clear h1
          go_wp2_with fail
          refine (h2 _ hb).mono ?_
          rintro e w2 ⟨rfl, b2⟩
          replace hb := hb.trans (b2.mono hb.size)
          clear h2 b1 b2
          by_cases he : h j = h k
          · obtain ⟨ea, eb⟩ := HS.out j k (by have := HM.out; omega) hjk hd.out he hne.out
            have EA := Lib.hid ea
            have EB := Lib.hid eb
            have he' : (h j == h k) = true := by simp [he]
            clear ea eb he
            go_wp2
            go_ret2
            exact ⟨by rw [EA.out, EB.out]; rfl, hb⟩
          · have he' : (h j == h k) = false := by simp [he]
            have HN : Hid (∀ t, t < j + 1 → h t ≠ h k) := fun t ht => by
              by_cases e : t = j
              · subst e; exact he
              · exact hne.out t (by omega)
            clear he
            go_wp2
            go_roundw
            case rel => exact ⟨j + 1, by omega, by go_num, HN, hb⟩
            case measure => simp [intOf]; omega
        · obtain rfl : j = k := by omega
          have HD : Hid (distinct h (j + 1)) := fun a b hab hb => by
            by_cases e : b = j
            · subst e; exact hne.out a hab
            · exact hd.out a b hab (by omega)
          go_wp2
          go_roundw
          case rel => exact ⟨j + 1, by omega, by omega, by go_num, HD, hb⟩
          case measure => simp [intOf]; omega
    · obtain rfl : k = 2 * n := by omega
      obtain ⟨ea, eb⟩ := HO.out (by rw [HM.out]; exact hd.out)
      have EA := Lib.hid ea
      have EB := Lib.hid eb
      clear ea eb
      go_wp2
      go_ret2
      exact ⟨by rw [EA.out, EB.out]; rfl, hb⟩

theorem l05Clash_any (v : Value) (B : Nat) (p : List Syn) (w : World) (h : Syns w B v p) (hok : okSL p = true) :
    Calls Try.prog 89 #[v] w fun e w' => e = .returned (.tuple #[.int .i64 (cl1 (clash (lndS p) (2 * p.length))), .int .i64 (cl2 (clash (lndS p) (2 * p.length)))]) ∧ Below w.heap.size w w' := by
  have hl := okSL_len hok
  obtain ⟨g, cap, rfl, _, hg, _, _⟩ := h.shape2 hl.1
  refine l05Clash_core g cap p.length (2 * p.length) (lndS p) _ _ w rfl hl.1 hl.2 (fun k hk W hW => l05Land_row g cap p.length k p W rfl hok hk (by have := hW.size; omega) (h.beats.below hW hg)) ?_ ?_
  · intro i k hk hi hd he hlt
    rw [clash_some hk hi hd he hlt]
    exact ⟨rfl, rfl⟩
  · intro hd
    rw [clash_none hd]
    exact ⟨rfl, rfl⟩
end Go.Proofs.Ytgjmhihomklooaa
