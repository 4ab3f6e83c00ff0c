/- Prime patterns: FirstRepeat, IsPrime: the mathematics, the model's. No conditions. -/
import Derived.Test.YtdghbbnddgngoaaStL
import Derived.Test.YtdghbbnddgngoaaHigh
import Derived.Deep.RegionHeld3
namespace Go.Proofs.Ytdghbbnddgngoaa
open Go.RowKit
set_option linter.unusedSimpArgs false
set_option linter.unusedVariables false

/-- the height of a pattern's states -/
def prH (p : List Int) : Nat := (max 1 (highA p)).toNat
/-- the code -/
def prC (p : List Int) : Int := if okPat p then (if 10 < highA p then 6 else 0) else 1
theorem prC_bad {p : List Int} (h : okPat p = false) : prC p = 1 := by simp [prC, h]
theorem prC_high {p : List Int} (h : okPat p = true) (h2 : 10 < highA p) : prC p = 6 := by simp [prC, h, h2]
theorem prC_ok {p : List Int} (h : okPat p = true) (h2 : ¬ 10 < highA p) : prC p = 0 := by simp [prC, h, h2]
theorem prC_zero {p : List Int} (h : prC p = 0) : okPat p = true ∧ 0 ≤ highA p ∧ highA p ≤ 10 := by
  unfold prC at h
  split at h
  · rename_i h1
    split at h
    · omega
    · exact ⟨h1, (highA_bound h1).1, by omega⟩
  · omega
theorem prH_num {p : List Int} (h : prC p = 0) : 1 ≤ prH p ∧ prH p ≤ 10 ∧ ((prH p : Nat) : Int) = max 1 (highA p) := by
  obtain ⟨_, h1, h2⟩ := prC_zero h
  unfold prH
  omega
theorem prH_code {p : List Int} (h : prC p = 0) : ofC p 0 (prH p) = 0 := by
  obtain ⟨h0, h1, h2⟩ := prC_zero h
  obtain ⟨a, b, c⟩ := prH_num h
  refine ofC_ok h0 ?_ (by omega)
  rw [inB_true (by omega), inB_true (by omega)]; rfl
/-- the masks -/
def prF (p : List Int) (i : Nat) : Int := ((ofM p (i : Int) (prH p) : Nat) : Int)
def rpA (p : List Int) : Int := match clash (prF p) p.length with | some (i, _) => i | none => 0
def rpB (p : List Int) : Int := match clash (prF p) p.length with | some (_, k) => k | none => p.length
theorem rp_some {p : List Int} {i k : Nat} (h : clash (prF p) p.length = some (i, k)) : rpA p = i ∧ rpB p = k := by simp [rpA, rpB, h]
theorem rp_none {p : List Int} (h : clash (prF p) p.length = none) : rpA p = 0 ∧ rpB p = p.length := by simp [rpA, rpB, h]
/-- what FirstRepeat answers -/
def frA (p : List Int) : Int := if prC p = 0 then rpA p else 0
def frB (p : List Int) : Int := if prC p = 0 then rpB p else 0
def isPr (p : List Int) : Bool := decide (prC p = 0) && (rpB p == (p.length : Int))
theorem fr_no {p : List Int} (h : prC p ≠ 0) : frA p = 0 ∧ frB p = 0 ∧ isPr p = false := by simp [frA, frB, isPr, h]
theorem fr_yes {p : List Int} (h : prC p = 0) : frA p = rpA p ∧ frB p = rpB p ∧ isPr p = (rpB p == (p.length : Int)) := by simp [frA, frB, isPr, h]

theorem l11Code_any (v : Value) (B : Nat) (p : List Int) (w : World) (hI : Ints w B v p) :
    Calls Try.prog 36 #[v] w fun e w' => e = .returned (.int .i64 (prC p)) ∧ Below w.heap.size w w' := by
  have HO := l02Ok_any v B p w hI
  cases hok : okPat p with
  | false =>
    rw [prC_bad hok]
    rw [hok] at HO
    go_enter Try.func36, Try.ntmps36
    go_wp2_with fail
    refine HO.mono ?_
    rintro e w1 ⟨rfl, b1⟩
    go_wp2
    go_ret
    exact ⟨rfl, b1⟩
  | true =>
    rw [hok] at HO
    have HH := fun W (hW : Below w.heap.size w W) => l02High_ok v B p W (hI.below hW) hok
    by_cases hh : 10 < highA p
    · rw [prC_high hok hh]
      clear hok
      generalize highA p = x at *
      go_enter Try.func36, Try.ntmps36
      go_wp2_with fail
      refine HO.mono ?_
      rintro e w1 ⟨rfl, b1⟩
      go_wp2_with fail
      refine (HH _ b1).mono ?_
      rintro e w2 ⟨rfl, rfl⟩
      go_wp2
      go_ret
      exact ⟨rfl, b1⟩
    · rw [prC_ok hok hh]
      clear hok
      generalize highA p = x at *
      go_enter Try.func36, Try.ntmps36
      go_wp2_with fail
      refine HO.mono ?_
      rintro e w1 ⟨rfl, b1⟩
      go_wp2_with fail
      refine (HH _ b1).mono ?_
      rintro e w2 ⟨rfl, rfl⟩
      go_wp2
      go_ret
      exact ⟨rfl, b1⟩

theorem l11Height_any (v : Value) (B : Nat) (p : List Int) (w : World) (hI : Ints w B v p) (hz : prC p = 0) :
    Calls Try.prog 86 #[v] w fun e w' => e = .returned (.int .i64 (prH p : Nat)) ∧ w = w' := by
  obtain ⟨hok, h1, h2⟩ := prC_zero hz
  rw [(prH_num hz).2.2]
  have HH := l02High_ok v B p w hI hok
  generalize highA p = x at *
  go_enter Try.func86, Try.ntmps86
  go_wp2_with fail
  refine HH.mono ?_
  rintro e w2 ⟨rfl, rfl⟩
  go_wp2_with fail
  refine (l00Max_any _ _ _).mono ?_
  rintro e w2 ⟨rfl, rfl⟩
  go_wp2
  go_ret
  exact ⟨rfl, rfl⟩

set_option maxRecDepth 10000 in
set_option maxHeartbeats 1000000 in
theorem l11Repeat_core (xa : Option Addr) (xc n : Nat) (p : List Int) (h : Nat) (f : Nat → Int) (w : World) (hn1 : 1 ≤ n) (hn2 : n ≤ 12)
    (HHe : Calls Try.prog 86 #[.slice xa n xc] w fun e w' => e = .returned (.int .i64 h) ∧ w = w')
    (HSt : Calls Try.prog 85 #[.slice xa n xc, .int .i64 h] w fun e w' => ∃ g cap, e = .returned (.slice (some ⟨g, 0, none⟩) n cap) ∧ Below w.heap.size w w' ∧ ∀ W, Below w'.heap.size w' W → ∀ i, i < n → W.cell? ⟨g, i * 2, none⟩ = some (.int .i64 h) ∧ W.cell? ⟨g, i * 2 + 1, none⟩ = some (.int .i64 (f i)))
    (ra rb : Int) (hsome : ∀ i k, clash f n = some (i, k) → ra = i ∧ rb = k) (hnone : clash f n = none → ra = 0 ∧ rb = n) :
    Calls Try.prog 60 #[.slice xa n xc] w fun e w' =>
      e = .returned (.tuple #[.int .i64 ra, .int .i64 rb]) ∧ Below w.heap.size w w' := by
  have HSO := Lib.hid hsome
  have HNO := Lib.hid hnone
  clear hsome hnone
  go_enter Try.func60, Try.ntmps60
  go_wp2_with fail
  refine HHe.mono ?_
  rintro e w1 ⟨rfl, rfl⟩
  go_wp2_with fail
  refine HSt.mono ?_
  rintro e w1 ⟨g, cap, rfl, b1, hc⟩
  clear HHe HSt
  have HC := Lib.hid hc
  clear hc
  go_wp2
  go_loopw [5, 6] (fun c _ wr => ∃ k : Nat, 1 ≤ k ∧ k ≤ n ∧ c = .int .i64 k ∧ Hid (distinct f k) ∧ ∃ m, wr = w1.drewN m) (fun c _ _ => n - (intOf c).toNat)
  case atStart => exact ⟨1, by omega, by omega, rfl, fun a b hab hb => by omega, 0, rfl⟩
  case round =>
    obtain ⟨k, hk1, hk, rfl, hd, m, rfl⟩ := hrel
    by_cases hlt : k < n
    · go_wp2
      go_loopw [6] (fun i wr => ∃ j : Nat, j ≤ k ∧ i = .int .i64 j ∧ Hid (∀ a, a < j → f a ≠ f k) ∧ ∃ m, wr = w1.drewN m) (fun i _ => k - (intOf i).toNat)
      case atStart => exact ⟨0, by omega, rfl, fun a ha => by omega, m, rfl⟩
      case round =>
        obtain ⟨j, hj, rfl, hdj, m2, rfl⟩ := hrel
        by_cases hlj : j < k
        · have hbm := below_drewN (Below.refl w1.heap.size w1) m2
          obtain ⟨ck0, ck1⟩ := HC.out _ hbm k hlt
          obtain ⟨cj0, cj1⟩ := HC.out _ hbm j (by omega)
          have hjn : j < n := by omega
          obtain ⟨fj, hfj⟩ : ∃ x, f j = x := ⟨_, rfl⟩
          obtain ⟨fk, hfk⟩ : ∃ x, f k = x := ⟨_, rfl⟩
          rw [hfj] at cj1
          rw [hfk] at ck1
          have HFJ := Lib.hid hfj
          have HFK := Lib.hid hfk
          clear hfj hfk hbm
          by_cases heq : fj = fk
          · subst heq
            have hcl : clash f n = some (j, k) := clash_some hlt hlj hd.out (HFJ.out.trans HFK.out.symm) hdj.out
            obtain ⟨e1, e2⟩ := HSO.out _ _ hcl
            have HE1 := Lib.hid e1
            have HE2 := Lib.hid e2
            clear e1 e2 hcl hd hdj
            go_wp2
            go_region_held3 (fun W => W.cell? ⟨g, j * 2, none⟩ = some (.int .i64 h) ∧ W.cell? ⟨g, j * 2 + 1, none⟩ = some (.int .i64 fj) ∧ W.cell? ⟨g, k * 2, none⟩ = some (.int .i64 h) ∧ W.cell? ⟨g, k * 2 + 1, none⟩ = some (.int .i64 fj)) (exact ⟨cj0, cj1, ck0, ck1⟩) (fail)
            go_wp2
            go_ret2
            exact ⟨by rw [HE1.out, HE2.out]; rfl, by first | exact Below.drew (below_drewN b1 _) | exact below_drewN b1 _ | exact below_drewN (below_drewN b1 _) _⟩
          · have hne : (fj == fk) = false := beq_eq_false_iff_ne.2 heq
            have HNE := Lib.hid (show f j ≠ f k by rw [HFJ.out, HFK.out]; exact heq)
            clear heq
            go_wp2
            go_region_held3 (fun W => W.cell? ⟨g, j * 2, none⟩ = some (.int .i64 h) ∧ W.cell? ⟨g, j * 2 + 1, none⟩ = some (.int .i64 fj) ∧ W.cell? ⟨g, k * 2, none⟩ = some (.int .i64 h) ∧ W.cell? ⟨g, k * 2 + 1, none⟩ = some (.int .i64 fk)) (exact ⟨cj0, cj1, ck0, ck1⟩) (fail)
            go_wp2
            go_roundw
            case rel =>
              refine ⟨j + 1, by omega, by go_num, ?_, m2 + 1, rfl⟩
              intro a ha
              by_cases e : a = j
              · subst e; exact HNE.out
              · exact hdj.out a (by omega)
            case measure => simp [intOf]; omega
        · obtain rfl : j = k := by omega
          go_wp2
          go_roundw
          case rel =>
            refine ⟨j + 1, by omega, by omega, by go_num, ?_, _, rfl⟩
            intro a b hab hb
            by_cases e : b = j
            · subst e; exact hdj.out a hab
            · exact hd.out a b hab (by omega)
          case measure => simp [intOf]; omega
    · obtain rfl : k = n := by omega
      obtain ⟨e1, e2⟩ := HNO.out (clash_none hd.out)
      have HE1 := Lib.hid e1
      have HE2 := Lib.hid e2
      clear e1 e2
      go_wp2
      go_ret2
      exact ⟨by rw [HE1.out, HE2.out]; rfl, by first | exact below_drewN b1 _ | exact below_drewN (below_drewN b1 _) _⟩

/-- states of a pattern's own row, cell by cell, wherever nothing old was written -/
theorem sts_cells {w : World} {B g cap n : Nat} {p : List Int} {h : Nat} (hn : p.length = n) (hs : Sts w B (.slice (some ⟨g, 0, none⟩) n cap) (ofL p h)) (hg : g < w.heap.size) :
    ∀ W, Below w.heap.size w W → ∀ i, i < n → W.cell? ⟨g, i * 2, none⟩ = some (.int .i64 h) ∧ W.cell? ⟨g, i * 2 + 1, none⟩ = some (.int .i64 ((ofM p (i : Int) h : Nat) : Int)) := by
  intro W hW i hi
  have := (hs.below hW).twoS i (by rw [ofL_len, hn]; exact hi)
  rw [ofL_at p h i (by omega)] at this
  exact this

theorem l11Repeat_any (v : Value) (B : Nat) (p : List Int) (w : World) (hI : Ints w B v p) (hz : prC p = 0) :
    Calls Try.prog 60 #[v] w fun e w' => e = .returned (.tuple #[.int .i64 (rpA p), .int .i64 (rpB p)]) ∧ Below w.heap.size w w' := by
  obtain ⟨hok, h1, h2⟩ := prC_zero hz
  obtain ⟨a, b, c⟩ := prH_num hz
  obtain ⟨l1, l2⟩ := okPat_len hok
  have HHe := l11Height_any v B p w hI hz
  have HSt := l08States_any v B p (prH p) w hI hok a b
  obtain ⟨xa, xc, rfl⟩ := ints_slO hI
  refine l11Repeat_core xa xc p.length p (prH p) (prF p) w l1 l2 HHe (HSt.mono ?_) _ _ (fun i k h => rp_some h) (fun h => rp_none h)
  rintro e w1 ⟨u, rfl, hs, hb⟩
  have hl := ofL_len p (prH p)
  rcases hs.shape with ⟨rfl, h0⟩ | ⟨g, cap, rfl, hg, hg2, _⟩
  · rw [h0] at hl; simp at hl; omega
  · rw [hl] at hs ⊢
    exact ⟨g, cap, rfl, hb, sts_cells rfl hs hg2⟩
end Go.Proofs.Ytdghbbnddgngoaa
