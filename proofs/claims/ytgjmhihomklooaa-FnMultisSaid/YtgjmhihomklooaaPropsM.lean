/- Multiplex: MultiProps, the model's and the program's. Conditions: beats of at most 10^7 throws for the program's. -/
import Derived.Test.YtgjmhihomklooaaLandM
namespace Go.Proofs.Ytgjmhihomklooaa
open Go.RowKit
set_option linter.unusedSimpArgs false
set_option linter.unusedVariables false

/-- the sum of the first k beats -/
def sumTo (pss : List (List Int)) : Nat → Int
  | 0 => 0
  | k + 1 => sumTo pss k + (pss.getD k []).sum
theorem okM_shape {pss : List (List Int)} (h : okM pss = true) : shapeL pss = true := by
  unfold okM at h
  rw [Bool.and_eq_true] at h
  exact h.1
theorem sum_take_row {b : List Int} {m : Nat} (hm : m = b.length) (h : ∀ k, k < m → 0 ≤ b.getD k 0 ∧ b.getD k 0 ≤ 15) : ∀ k, k ≤ m → 0 ≤ (b.take k).sum ∧ (b.take k).sum ≤ 15 * k
  | 0, _ => by simp
  | k + 1, hk => by
    have h1 := sum_take_row hm h k (by omega)
    have h2 := h k (by omega)
    rw [sum_take k (by omega)]
    omega
/-- what MultiProps answers, and its code -/
def propsQ (pss : List (List Int)) : Int := if okM pss then sumTo pss pss.length / (pss.length : Int) else 0
def propsC (pss : List (List Int)) : Int := if okM pss then 0 else 1

/-- what the walk needs of the rows -/
def RowsAt (w : World) (g n : Nat) (pss : List (List Int)) : Prop :=
  ∀ i, i < n → ∃ gb cb m, m = (pss.getD i []).length ∧ m ≤ 4 ∧ w.cell? ⟨g, i, none⟩ = some (.slice (some ⟨gb, 0, none⟩) m cb) ∧ gb < w.heap.size ∧ ∀ k, k < m → w.cell? ⟨gb, k, none⟩ = some (.int .i64 ((pss.getD i []).getD k 0)) ∧ 0 ≤ (pss.getD i []).getD k 0 ∧ (pss.getD i []).getD k 0 ≤ 15
theorem RowsAt.below {w w' : World} {g n : Nat} {pss : List (List Int)} (h : RowsAt w g n pss) (hg : g < w.heap.size) (hb : Below w.heap.size w w') : RowsAt w' g n pss := fun i hi => by
  obtain ⟨gb, cb, m, h1, h2, h3, h4, h5⟩ := h i hi
  exact ⟨gb, cb, m, h1, h2, (hb.cell (p := ⟨g, i, none⟩) hg).trans h3, by have := hb.size; omega, fun k hk => ⟨(hb.cell (p := ⟨gb, k, none⟩) h4).trans (h5 k hk).1, (h5 k hk).2⟩⟩
theorem sumTo_bound {w : World} {g n : Nat} {pss : List (List Int)} (h : RowsAt w g n pss) : ∀ k, k ≤ n → 0 ≤ sumTo pss k ∧ sumTo pss k ≤ 60 * k
  | 0, _ => by simp [sumTo]
  | k + 1, hk => by
    have h1 := sumTo_bound h k (by omega)
    obtain ⟨gb, cb, m, hm, hm4, _, _, hx⟩ := h k (by omega)
    have h2 := sum_take_row hm (fun j hj => (hx j hj).2) m (Nat.le_refl _)
    rw [hm, List.take_length] at h2
    rw [sumTo]
    omega

set_option maxRecDepth 10000 in
theorem l04Sum_row (p : Addr) (g cap n : Nat) (pss : List (List Int)) (w : World) (hp : w.cell? p = some (.slice (some ⟨g, 0, none⟩) n cap)) (hn2 : n ≤ 12) (hrow : RowsAt w g n pss) :
    Calls Try.prog 70 #[.pointer (some p)] w fun e w' => e = .returned (.int .i64 (sumTo pss n)) ∧ w' = w := by
  have HB := Lib.hid (sumTo_bound hrow)
  have HROW := Lib.hid hrow
  clear hrow
  go_enter Try.func70, Try.ntmps70
  go_wp2
  go_loop [3, 4] (fun s i => ∃ k : Nat, k ≤ n ∧ i = .int .i64 k ∧ s = .int .i64 (sumTo pss k)) (fun _ i => n - (intOf i).toNat)
  case atStart => exact ⟨0, Nat.zero_le _, rfl, rfl⟩
  case round =>
    obtain ⟨i, hi, rfl, rfl⟩ := hrel
    by_cases hlt : i < n
    · obtain ⟨gb, cb, m, hm, hm4, hc, hgb, hx⟩ := HROW.out i hlt
      have hb1 := HB.out i hi
      have HS : Hid (sumTo pss (i + 1) = sumTo pss i + (pss.getD i []).sum) := rfl
      generalize sumTo pss i = s at *
      generalize pss.getD i [] = b at *
      have HT := Lib.hid (sum_take_row hm (fun k hk => (hx k hk).2))
      have HX := Lib.hid hx
      have HM := Lib.hid hm
      have HZ : Hid (s + (b.take 0).sum = s) := by unfold Hid; simp
      clear hx hm
      go_wp2
      go_loop [3, 5] (fun t c => ∃ k : Nat, k ≤ m ∧ c = .int .i64 k ∧ t = .int .i64 (s + (b.take k).sum)) (fun _ c => m - (intOf c).toNat)
      case atStart => exact ⟨0, Nat.zero_le _, rfl, by rw [HZ.out]⟩
      case round =>
        obtain ⟨k, hk, rfl, rfl⟩ := hrel
        by_cases hkm : k < m
        · obtain ⟨hx1, hx2, hx3⟩ := HX.out k hkm
          have HST := Lib.hid (sum_take (p := b) k (by rw [← HM.out]; exact hkm))
          have hb2 := HT.out k hk
          generalize (b.take k).sum = t at *
          generalize b.getD k 0 = x at *
          go_wp2
          go_round
          case rel => exact ⟨k + 1, by omega, by go_num, by rw [HST.out, Int.add_assoc]⟩
          case measure => simp [intOf]; omega
        · obtain rfl : k = m := by omega
          have HFIN : Hid (s + (b.take k).sum = sumTo pss (i + 1)) := by unfold Hid; rw [HS.out, HM.out, List.take_length]
          go_wp2
          go_round
          case rel => exact ⟨i + 1, by omega, by go_num, by rw [HFIN.out]⟩
          case measure => simp [intOf]; omega
    · obtain rfl : i = n := by omega
      go_wp2
      go_ret
      exact ⟨rfl, rfl⟩
theorem Grid.rowsAt {E : TypeId} {w : World} {B C g n cap : Nat} {pss : List (List Int)} (h : Grid E w B C (.slice (some ⟨g, 0, none⟩) n cap) pss) (hn : n = pss.length) (hs : shapeL pss = true) : RowsAt w g n pss := fun i hi => shape_rows h hs i (by omega)

set_option maxRecDepth 10000 in
theorem multiProps_spec (v : Value) (E : TypeId) (B C : Nat) (pss : List (List Int)) (w : World) (h : Grid E w B C v pss) :
    Calls Try.prog 18 #[.agg #[v]] w fun e w' => e = .returned (.tuple #[.int .i64 (propsQ pss), .int .i64 (propsC pss)]) ∧ Below w.heap.size w w' := by
  have HO := fun W (hW : Below w.heap.size w W) (hp : W.cell? ⟨w.heap.size, 0, none⟩ = some v) => l04Ok_any _ v E B C pss W hp (h.below hW)
  cases hok : okM pss with
  | false =>
    simp only [propsQ, propsC, hok, Bool.false_eq_true, if_false]
    rw [hok] at HO
    clear h hok
    go_enter Try.func18, Try.ntmps18
    go_wp2_with fail
    refine (HO _ (below_alM (Below.refl _ _) _) ?_).mono ?_
    · simp
    rintro e w1 ⟨rfl, b1⟩
    replace b1 := (below_alM (Below.refl w.heap.size w) _).trans (b1.mono (by simp))
    go_wp2
    go_ret2
    exact ⟨rfl, b1⟩
  | true =>
    have hs := okM_shape hok
    obtain ⟨h1, h2⟩ := shapeL_num hs
    simp only [propsQ, propsC, hok, if_true]
    rw [hok] at HO
    obtain ⟨g, cap, rfl, _, hg, _, hm⟩ := h.shape.resolve_left fun e => by rw [e.2] at h1; simp at h1
    have hr := h.rowsAt rfl hs
    obtain ⟨n, hn⟩ : ∃ n, n = pss.length := ⟨_, rfl⟩
    rw [← hn] at HO hr h1 h2 ⊢
    have hb := sumTo_bound hr n (Nat.le_refl _)
    have HS := fun W (hW : Below w.heap.size w W) (hp : W.cell? ⟨w.heap.size, 0, none⟩ = some (.slice (some ⟨g, 0, none⟩) n cap)) => l04Sum_row ⟨w.heap.size, 0, none⟩ g cap n pss W hp h2 (hr.below hg hW)
    generalize sumTo pss n = s at *
    clear h hok hs hr hn
    have hd : (s.tdiv (n : Int)) = s / (n : Int) := Int.tdiv_eq_ediv_of_nonneg (by omega)
    have hn0 : (n : Int) ≠ 0 := by omega
    have hq0 : 0 ≤ s / (n : Int) := Int.ediv_nonneg (by omega) (by omega)
    have hq1 : s / (n : Int) ≤ s := Int.ediv_le_self _ (by omega)
    go_enter Try.func18, Try.ntmps18
    go_wp2_with fail
    refine (HO _ (below_alM (Below.refl _ _) _) ?_).mono ?_
    · simp
    rintro e w1 ⟨rfl, b1⟩
    have c1 : w1.cell? ⟨w.heap.size, 0, none⟩ = some (.slice (some ⟨g, 0, none⟩) n cap) := by rw [b1.cell (by simp)]; simp
    replace b1 := (below_alM (Below.refl w.heap.size w) _).trans (b1.mono (by simp))
    clear HO
    have HSQ := Lib.hid (fun k => HS (w1.drewN k) (below_drewN b1 k) c1)
    clear HS
    go_wp2
    go_quiet ((go_at_call 70; exact Calls.quiet_of_same (HSQ.out _)))
    go_wp2
    go_ret2
    exact ⟨rfl, below_drewN b1 _⟩

set_option maxRecDepth 10000 in
set_option maxHeartbeats 1000000 in
theorem multiProps_impl (v : Value) (E : TypeId) (B C : Nat) (pss : List (List Int)) (w : World) (h : Grid E w B C v pss) (hsm : Small pss) :
    Calls Try.prog 17 #[.agg #[v]] w fun e w' => e = .returned (.tuple #[.int .i64 (propsQ pss), .int .i64 (propsC pss)]) ∧ Below w.heap.size w w' := by
  have HO := fun W (hW : Below w.heap.size w W) => validMulti_impl v E B C pss W (h.below hW) hsm
  cases hok : okM pss with
  | false =>
    simp only [propsQ, propsC, hok, Bool.false_eq_true, if_false]
    rw [hok] at HO
    clear h hok hsm
    go_enter Try.func17, Try.ntmps17
    go_wp2_with fail
    refine (HO _ (below_alM (Below.refl _ _) _)).mono ?_
    rintro e w1 ⟨rfl, b1⟩
    replace b1 := (below_alM (Below.refl w.heap.size w) _).trans (b1.mono (by simp))
    go_wp2
    go_ret2
    exact ⟨rfl, b1⟩
  | true =>
    have hs := okM_shape hok
    obtain ⟨h1, h2⟩ := shapeL_num hs
    simp only [propsQ, propsC, hok, if_true]
    rw [hok] at HO
    obtain ⟨g, cap, rfl, _, hg, _, hm⟩ := h.shape.resolve_left fun e => by rw [e.2] at h1; simp at h1
    have hr := h.rowsAt rfl hs
    obtain ⟨n, hn⟩ : ∃ n, n = pss.length := ⟨_, rfl⟩
    rw [← hn] at HO hr h1 h2 ⊢
    have HB := Lib.hid (sumTo_bound hr)
    have HROW := Lib.hid (fun W (hW : Below w.heap.size w W) => hr.below hg hW)
    have hd : ((sumTo pss n).tdiv (n : Int)) = sumTo pss n / (n : Int) := Int.tdiv_eq_ediv_of_nonneg (by have := HB.out n (Nat.le_refl _); omega)
    clear h hok hs hr hn hsm
    have hn0 : (n : Int) ≠ 0 := by omega
    go_enter Try.func17, Try.ntmps17
    go_wp2_with fail
    refine (HO _ (below_alM (Below.refl _ _) _)).mono ?_
    rintro e w1 ⟨rfl, b1⟩
    have c1 : w1.cell? ⟨w.heap.size, 0, none⟩ = some (.slice (some ⟨g, 0, none⟩) n cap) := by rw [b1.cell (by simp)]; simp
    replace b1 := (below_alM (Below.refl w.heap.size w) _).trans (b1.mono (by simp))
    have HR := Lib.hid (HROW.out w1 b1)
    clear HO HROW
    go_wp2
    go_loop [4, 15] (fun s i => ∃ k : Nat, k ≤ n ∧ i = .int .i64 k ∧ s = .int .i64 (sumTo pss k)) (fun _ i => n - (intOf i).toNat)
    case atStart => exact ⟨0, Nat.zero_le _, rfl, rfl⟩
    case round =>
      obtain ⟨i, hi, rfl, rfl⟩ := hrel
      by_cases hlt : i < n
      · obtain ⟨gb, cb, m, hm, hm4, hc, hgb, hx⟩ := HR.out i hlt
        have hb1 := HB.out i hi
        have HS : Hid (sumTo pss (i + 1) = sumTo pss i + (pss.getD i []).sum) := rfl
        generalize sumTo pss i = s at *
        generalize pss.getD i [] = b at *
        have HT := Lib.hid (sum_take_row hm (fun k hk => (hx k hk).2))
        have HX := Lib.hid hx
        have HM := Lib.hid hm
        have HZ : Hid (s + (b.take 0).sum = s) := by unfold Hid; simp
        clear hx hm
        go_wp2
        go_loop [4, 21] (fun t c => ∃ k : Nat, k ≤ m ∧ c = .int .i64 k ∧ t = .int .i64 (s + (b.take k).sum)) (fun _ c => m - (intOf c).toNat)
        case atStart => exact ⟨0, Nat.zero_le _, rfl, by rw [HZ.out]⟩
        case round =>
          obtain ⟨k, hk, rfl, rfl⟩ := hrel
          by_cases hkm : k < m
          · obtain ⟨hx1, hx2, hx3⟩ := HX.out k hkm
            have HST := Lib.hid (sum_take (p := b) k (by rw [← HM.out]; exact hkm))
            have hb2 := HT.out k hk
            generalize (b.take k).sum = t at *
            generalize b.getD k 0 = x at *
            go_wp2
            go_round
            case rel => exact ⟨k + 1, by omega, by go_num, by rw [HST.out, Int.add_assoc]⟩
            case measure => simp [intOf]; omega
          · obtain rfl : k = m := by omega
            have HFIN : Hid (s + (b.take k).sum = sumTo pss (i + 1)) := by unfold Hid; rw [HS.out, HM.out, List.take_length]
            go_wp2
            go_round
            case rel => exact ⟨i + 1, by omega, by go_num, by rw [HFIN.out]⟩
            case measure => simp [intOf]; omega
      · obtain rfl : i = n := by omega
        have hb := HB.out i (Nat.le_refl _)
        have hq0 : 0 ≤ sumTo pss i / (i : Int) := Int.ediv_nonneg (by omega) (by omega)
        have hq1 : sumTo pss i / (i : Int) ≤ sumTo pss i := Int.ediv_le_self _ (by omega)
        go_wp2
        go_ret2
        exact ⟨rfl, b1⟩
end Go.Proofs.Ytgjmhihomklooaa
