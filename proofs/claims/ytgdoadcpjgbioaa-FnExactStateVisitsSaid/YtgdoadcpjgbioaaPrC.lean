/- StateVisits: the mathematics, the model's. No conditions. -/
import Derived.Test.YtgdoadcpjgbioaaPrB
namespace Go.Proofs.Ytgdoadcpjgbioaa
open Go.RowKit
set_option linter.unusedSimpArgs false
set_option linter.unusedVariables false

/-- how often a value is met among the first k -/
def cntV (f : Nat → Int) (x : Int) : Nat → Nat
  | 0 => 0
  | k + 1 => cntV f x k + (if f k = x then 1 else 0)
theorem cntV_hit {f : Nat → Int} {x : Int} {k : Nat} (h : f k = x) : cntV f x (k + 1) = cntV f x k + 1 := by rw [cntV, if_pos h]
theorem cntV_miss {f : Nat → Int} {x : Int} {k : Nat} (h : f k ≠ x) : cntV f x (k + 1) = cntV f x k := by rw [cntV, if_neg h]; rfl
theorem cntV_le (f : Nat → Int) (x : Int) (k : Nat) : cntV f x k ≤ k := by
  induction k with
  | zero => exact Nat.le_refl _
  | succ k ih =>
    rw [cntV]
    split <;> omega
/-- what StateVisits answers, up to the beat k -/
def visL (f : Nat → Int) (n k : Nat) : List Int := (List.range k).map fun i : Nat => ((cntV f (f i) n : Nat) : Int)
theorem visL_len (f : Nat → Int) (n k : Nat) : (visL f n k).length = k := by simp [visL]
theorem visL_step (f : Nat → Int) (n k : Nat) : visL f n (k + 1) = visL f n k ++ [((cntV f (f k) n : Nat) : Int)] := by simp [visL, List.range_succ]
theorem visL_take (f : Nat → Int) (n k : Nat) (h : k ≤ n) : (visL f n n).take k = visL f n k := by
  unfold visL
  rw [← List.map_take, List.take_range, Nat.min_eq_left h]
theorem visL_at (f : Nat → Int) (n k : Nat) (h : k < n) : (visL f n n).getD k 0 = ((cntV f (f k) n : Nat) : Int) := by simp [visL, h]
def vsA (p : List Int) : List Int := if prC p = 0 then visL (prF p) p.length p.length else []
theorem vsA_yes {p : List Int} (h : prC p = 0) : vsA p = visL (prF p) p.length p.length := by simp [vsA, h]
theorem vsA_no {p : List Int} (h : prC p ≠ 0) : vsA p = [] := by simp [vsA, h]
theorem vsA_len (p : List Int) : (vsA p).length ≤ p.length := by
  by_cases h : prC p = 0
  · rw [vsA_yes h, visL_len]; exact Nat.le_refl _
  · rw [vsA_no h]; simp

set_option maxRecDepth 10000 in
set_option maxHeartbeats 1000000 in
theorem stateVisits_score (xa : Option Addr) (xc n : Nat) (h : Nat) (f : Nat → Int) (w : World) (hn2 : n ≤ 12)
    (HCo : Calls Try.prog 46 #[.slice xa n xc] w fun e w' => e = .returned (.int .i64 0) ∧ Below w.heap.size w w')
    (HHe : ∀ W, Below w.heap.size w W → Calls Try.prog 53 #[.slice xa n xc] W fun e w' => e = .returned (.int .i64 h) ∧ W = w')
    (HSt : ∀ W, Below w.heap.size w W → Calls Try.prog 52 #[.slice xa n xc, .int .i64 h] W fun e w' => ∃ g cap, e = .returned (.slice (some ⟨g, 0, none⟩) n cap) ∧ Below W.heap.size W w' ∧ g < w'.heap.size ∧ ∀ W2, Below w'.heap.size w' W2 → ∀ i, i < n → W2.cell? ⟨g, i * 2, none⟩ = some (.int .i64 h) ∧ W2.cell? ⟨g, i * 2 + 1, none⟩ = some (.int .i64 (f i))) :
    Calls Try.prog 30 #[.slice xa n xc] w fun e w' => ∃ u, e = .returned (.tuple #[u, .int .i64 0]) ∧ Ints w' w.heap.size u (visL f n n) ∧ Below w.heap.size w w' := by
  have HLen := Lib.hid (fun k => visL_len f n k)
  have HStep := Lib.hid (fun k => visL_step f n k)
  have HHit := Lib.hid (fun x k => cntV_hit (f := f) (x := x) (k := k))
  have HMiss := Lib.hid (fun x k => cntV_miss (f := f) (x := x) (k := k))
  have HCL := Lib.hid (cntV_le f)
  go_enter Try.func30, Try.ntmps30
  go_wp2_with fail
  refine HCo.mono ?_
  rintro e w1 ⟨rfl, b1⟩
  go_wp2_with fail
  refine (HHe _ b1).mono ?_
  rintro e w2 ⟨rfl, rfl⟩
  go_wp2_with fail
  refine (HSt _ b1).mono ?_
  rintro e w2 ⟨g, cap, rfl, b2, hg, hc⟩
  have HC := Lib.hid hc
  have bb := b1.trans (b2.mono b1.size)
  have I0 : Ints (w2.alloc (.cells #[] 2)) w2.heap.size (.slice (some ⟨w2.heap.size, 0, none⟩) 0 0) [] := by
    have := World.ownsRow_lit (e := 2) (size := 1) w2 #[] 0 (Nat.le_refl _) (by simp [maxLen]) rfl
    simpa [Ints] using this
  have B0 : Below w2.heap.size w2 (w2.alloc (.cells #[] 2)) := (Below.refl _ w2).alloc (Nat.le_refl _) _
  have hsw : w.heap.size ≤ w2.heap.size := bb.size
  clear hc HCo HHe HSt b1 b2
  go_wp2
  go_loopw [6, 7] (fun v c wr => ∃ k : Nat, k ≤ n ∧ c = .int .i64 k ∧ Ints wr w2.heap.size v (visL f n k) ∧ Below w2.heap.size w2 wr) (fun _ c _ => n - (intOf c).toNat)
  case atStart => exact ⟨0, Nat.zero_le _, rfl, I0, B0⟩
  case round =>
    clear I0 B0
    obtain ⟨i, hi, rfl, hI, hB⟩ := hrel
    by_cases hlt : i < n
    · obtain ⟨fi, hfi⟩ : ∃ x, f i = x := ⟨_, rfl⟩
      have HFI := Lib.hid hfi
      have hstep := HStep.out i
      rw [hfi] at hstep
      have HS1 := Lib.hid hstep
      have hlen : (visL f n i).length ≤ 1000000000 := by rw [HLen.out]; omega
      clear hfi hstep HStep
      go_wp2
      go_loopw [8, 9] (fun s c wr2 => ∃ k : Nat, k ≤ n ∧ c = .int .i64 k ∧ s = .int .i64 (cntV f fi k : Nat) ∧ ∃ m, wr2 = wr.drewN m) (fun _ c _ => n - (intOf c).toNat)
      case atStart => exact ⟨0, Nat.zero_le _, rfl, rfl, 0, rfl⟩
      case round =>
        obtain ⟨k, hk, rfl, rfl, m, rfl⟩ := hrel
        by_cases hlk : k < n
        · have hbm := below_drewN hB m
          obtain ⟨ci0, ci1⟩ := HC.out _ hbm i hlt
          obtain ⟨ck0, ck1⟩ := HC.out _ hbm k hlk
          obtain ⟨fk, hfk⟩ : ∃ x, f k = x := ⟨_, rfl⟩
          have hcl := HCL.out fi k
          rw [hfk] at ck1
          rw [HFI.out] at ci1
          by_cases heq : fk = fi
          · have HE := Lib.hid (HHit.out fi k (hfk.trans heq))
            subst heq
            clear hfk hbm
            generalize cntV f fk k = q at *
            go_wp2
            go_region_held3 (fun W => W.cell? ⟨g, k * 2, none⟩ = some (.int .i64 h) ∧ W.cell? ⟨g, k * 2 + 1, none⟩ = some (.int .i64 fk) ∧ W.cell? ⟨g, i * 2, none⟩ = some (.int .i64 h) ∧ W.cell? ⟨g, i * 2 + 1, none⟩ = some (.int .i64 fk)) (exact ⟨ck0, ck1, ci0, ci1⟩) (fail)
            go_wp2
            go_roundw
            case rel => exact ⟨k + 1, by omega, by go_num, by rw [HE.out]; go_num, m + 1, rfl⟩
            case measure => simp [intOf]; omega
          · have HE := Lib.hid (HMiss.out fi k (by rw [hfk]; exact heq))
            have hne : (fk == fi) = false := beq_eq_false_iff_ne.2 heq
            clear hfk hbm heq
            generalize cntV f fi k = q at *
            go_wp2
            go_region_held3 (fun W => W.cell? ⟨g, k * 2, none⟩ = some (.int .i64 h) ∧ W.cell? ⟨g, k * 2 + 1, none⟩ = some (.int .i64 fk) ∧ W.cell? ⟨g, i * 2, none⟩ = some (.int .i64 h) ∧ W.cell? ⟨g, i * 2 + 1, none⟩ = some (.int .i64 fi)) (exact ⟨ck0, ck1, ci0, ci1⟩) (fail)
            go_wp2
            go_roundw
            case rel => exact ⟨k + 1, by omega, by go_num, by rw [HE.out], m + 1, rfl⟩
            case measure => simp [intOf]; omega
        · obtain rfl : k = n := by omega
          have hI1 := hI.below (below_drewN (Below.refl wr.heap.size wr) m)
          have hB1 := below_drewN hB m
          have hBs1 : w2.heap.size ≤ (wr.drewN m).heap.size := hB1.size
          have hcl := HCL.out fi k
          generalize cntV f fi k = q at *
          clear hI hB HHit HMiss HCL
          go_wp2_with (at_builtin; refine append_int _ rfl _ _ rfl _ _ _ rfl hI1 (q : Int) rfl hlen hBs1 ?_; intro v' w3 hi3 hg3; refine Hid.out ?_)
          have hb3 := hI1.below_grown hB1 hBs1 hg3
          rw [← HS1.out] at hi3
          clear hg3 hI1 hB1
          refine Lib.hid ?_
          go_wp2
          go_roundw
          case rel => exact ⟨i + 1, by omega, by go_num, hi3, hb3⟩
          case measure => simp [intOf]; omega
    · obtain rfl : i = n := by omega
      clear HC HLen HStep HHit HMiss HCL
      go_wp2
      go_ret2
      exact ⟨_, rfl, hI.mono hsw, bb.trans (hB.mono bb.size)⟩

theorem stateVisits_spec (v : Value) (B : Nat) (p : List Int) (w : World) (hI : Ints w B v p) :
    Calls Try.prog 30 #[v] w fun e w' => ∃ u, e = .returned (.tuple #[u, .int .i64 (prC p)]) ∧ Ints w' w.heap.size u (vsA p) ∧ Below w.heap.size w w' := by
  have HC := l11Code_any v B p w hI
  by_cases hz : prC p = 0
  · obtain ⟨hok, h1, h2⟩ := prC_zero hz
    obtain ⟨a, b, c⟩ := prH_num hz
    obtain ⟨l1, l2⟩ := okPat_len hok
    have HHe := fun W (hW : Below w.heap.size w W) => l11Height_any v B p W (hI.below hW) hz
    have HSt := fun W (hW : Below w.heap.size w W) => l08States_any v B p (prH p) W (hI.below hW) hok a b
    rw [vsA_yes hz, hz]
    rw [hz] at HC
    obtain ⟨xa, xc, rfl⟩ := ints_slO hI
    refine stateVisits_score xa xc p.length (prH p) (prF p) w l2 HC HHe fun W hW => (HSt W hW).mono ?_
    rintro e w1 ⟨u, rfl, hs, hb⟩
    have hl := ofL_len p (prH p)
    rcases hs.shape with ⟨rfl, h0⟩ | ⟨g, cap, rfl, hg, hg2, _⟩
    · rw [h0] at hl; simp at hl; omega
    · rw [hl] at hs ⊢
      exact ⟨g, cap, rfl, hb, hg2, sts_cells rfl hs hg2⟩
  · rw [vsA_no hz]
    have hne : (prC p != 0) = true := by simpa using hz
    generalize prC p = c at *
    clear hI
    go_enter Try.func30, Try.ntmps30
    go_wp2_with fail
    refine HC.mono ?_
    rintro e w1 ⟨rfl, b1⟩
    go_wp2
    go_ret2
    exact ⟨_, rfl, Ints.nil _ _, b1⟩
end Go.Proofs.Ytgdoadcpjgbioaa
