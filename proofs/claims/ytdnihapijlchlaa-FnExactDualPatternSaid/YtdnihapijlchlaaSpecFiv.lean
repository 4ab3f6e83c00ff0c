/- The model's chapter 3, third part: l03Canon, l03Alike, and the functions of chapter 3 answer as the plain mathematics says. No conditions. -/
import Derived.Test.YtdnihapijlchlaaSpecFou
namespace Go.Proofs.Ytdnihapijlchlaa
open Go.RowKit
set_option linter.unusedSimpArgs false
set_option linter.unusedVariables false

theorem l03Canon_any (v : Value) (B : Nat) (p : List Int) (w : World) (h : Ints w B v p) (h1 : 1 ≤ p.length) (h2 : p.length ≤ 1000) :
    Calls Try.prog 74 #[v] w fun e w' => ∃ u, e = .returned u ∧ Ints w' w.heap.size u (canL p) ∧ Below w.heap.size w w' := by
  have HR := l03Root_any v B p w h h1 h2
  obtain ⟨r1, r2⟩ := rootL_bound h1
  have hcan : canL p = canF (rootL p) (rootL p).length := rfl
  rw [hcan]
  clear hcan h
  have HONE : Hid (canF (rootL p) 1 = rootL p) := canF_one _ r1
  generalize rootL p = r at *
  go_enter Try.func74, Try.ntmps74
  go_wp2_with fail
  refine HR.mono ?_
  rintro e w1 ⟨u, rfl, i1, b1⟩
  clear HR
  obtain ⟨g, cap, rfl, _, hg, hc, hm⟩ := i1.shape2 r1
  obtain ⟨n, hn⟩ : ∃ n, n = r.length := ⟨_, rfl⟩
  rw [← hn]
  have HN := Lib.hid hn
  have h1B := b1.size
  have hn9 : n ≤ 1000 := by omega
  have hn1 : 1 ≤ n := by omega
  have HI : Hid (∀ wr : World, Below w1.heap.size w1 wr → Ints wr w.heap.size (.slice (some ⟨g, 0, none⟩) n cap) r) := by
    intro wr hb
    have hn := HN.out
    subst hn
    exact i1.below hb
  have i1 : Ints w1 w.heap.size (.slice (some ⟨g, 0, none⟩) n cap) (canF r 1) := by rw [HONE.out]; exact HI.out w1 (Below.refl _ _)
  clear hn
  go_wp2
  go_loopw [4, 5, 6] (fun c i _ wr => ∃ k : Nat, 1 ≤ k ∧ k ≤ n ∧ i = .int .i64 k ∧ Ints wr w.heap.size c (canF r k) ∧ Below w1.heap.size w1 wr) (fun _ i _ _ => n - (intOf i).toNat)
  case atStart => exact ⟨1, Nat.le_refl _, hn1, rfl, i1, Below.refl _ _⟩
  case round =>
    clear i1
    obtain ⟨k, hk1, hk, rfl, ic, hb⟩ := hrel
    have hB := hb.size
    by_cases hlt : k < n
    · have hi := HI.out wr hb
      have HRT := l03Rotate_any _ w.heap.size r k wr hi r1 (by omega) (by omega) (by have := HN.out; omega)
      go_wp2_with fail
      refine HRT.mono ?_
      rintro e w2 ⟨u2, rfl, i2, b2⟩
      clear HRT
      have ic2 := ic.below b2
      have HC := l02Compare_any _ _ _ _ _ _ w2 i2 ic2
      by_cases hgt : compL (rotL r k) (canF r k) > 0
      · have HF := Lib.hid (canF_some hgt)
        generalize compL (rotL r k) (canF r k) = c at HC hgt
        have hgt' : 0 < c := hgt
        clear hgt
        go_wp2_with fail
        refine HC.mono ?_
        rintro e w3 ⟨rfl, b3⟩
        have i3 := (i2.below b3).mono (Nat.le_trans h1B hB)
        have hb3 := hb.trans ((b2.trans (b3.mono b2.size)).mono hB)
        clear HC ic ic2 i2 b2 b3 hb hi
        go_wp2
        go_roundw
        case rel => exact ⟨k + 1, by omega, by omega, by go_num, by rw [HF.out]; exact i3, hb3⟩
        case measure => simp [intOf]; omega
      · have HF := Lib.hid (canF_none hgt)
        generalize compL (rotL r k) (canF r k) = c at HC hgt
        have hgt' : ¬ 0 < c := hgt
        clear hgt
        go_wp2_with fail
        refine HC.mono ?_
        rintro e w3 ⟨rfl, b3⟩
        have i3 := ic2.below b3
        have hb3 := hb.trans ((b2.trans (b3.mono b2.size)).mono hB)
        clear HC ic ic2 i2 b2 b3 hb hi
        go_wp2
        go_roundw
        case rel => exact ⟨k + 1, by omega, by omega, by go_num, by rw [HF.out]; exact i3, hb3⟩
        case measure => simp [intOf]; omega
    · obtain rfl : k = n := by omega
      go_wp2
      go_ret
      exact ⟨_, rfl, by rw [← HN.out]; exact ic, b1.trans (hb.mono h1B)⟩

theorem l03Alike_any (v u : Value) (B C : Nat) (p q : List Int) (w : World) (h : Ints w B v p) (h' : Ints w C u q) (l1 : 1 ≤ p.length) (l2 : p.length ≤ 1000) (m1 : 1 ≤ q.length) (m2 : q.length ≤ 1000) :
    Calls Try.prog 73 #[v, u] w fun e w' => e = .returned (.bool (sameL (canL p) (canL q))) ∧ Below w.heap.size w w' := by
  go_enter Try.func73, Try.ntmps73
  go_wp2_with fail
  refine (l03Canon_any v B p _ h l1 l2).mono ?_
  rintro e w3 ⟨c, rfl, i3, b3⟩
  have i2 := h'.below b3
  have hs3 := b3.size
  clear h h'
  go_wp2_with fail
  refine (l03Canon_any u C q _ i2 m1 m2).mono ?_
  rintro e w4 ⟨d, rfl, i4, b4⟩
  have B4 := b3.trans (b4.mono hs3)
  have i3 := i3.below b4
  have hs4 := B4.size
  clear b4 b3 i2
  go_wp2_with fail
  refine (l00Same_any _ _ _ _ _ _ _ i3 i4).mono ?_
  rintro e w5 ⟨rfl, b5⟩
  go_wp2
  go_ret
  exact ⟨rfl, B4.trans (b5.mono hs4)⟩

theorem rotatePattern_spec (v : Value) (B : Nat) (p : List Int) (s : Int) (w : World) (h : Ints w B v p) :
    Calls Try.prog 19 #[v, .int .i64 s] w fun e w' => ∃ u, e = .returned (.tuple #[u, .int .i64 (beatCode p s)]) ∧ Ints w' w.heap.size u (resA (beatCode p s) (rotL p s)) ∧ Below w.heap.size w w' := by
  by_cases hz : beatCode p s = 0
  · rw [hz, resA_ok]
    obtain ⟨hok, hin⟩ := beatCode_zero hz
    obtain ⟨hb1, hb2⟩ := inB_iff.1 hin
    obtain ⟨l1, l2⟩ := okPat_len hok
    have HZ := Lib.hid hz
    clear hz hok hin
    go_enter Try.func19, Try.ntmps19
    go_wp2_with fail
    refine (l02Code_any v B p s _ h).mono ?_
    rintro e w' ⟨rfl, hb⟩
    rw [HZ.out]
    have hs := hb.size
    go_wp2_with fail
    refine (l03Rotate_any v B p s _ (h.below hb) l1 (by omega) (by omega) (by omega)).mono ?_
    rintro e w2 ⟨u, rfl, hi, hb2⟩
    go_wp2
    go_ret2
    exact ⟨_, rfl, hi.mono hs, hb.trans (hb2.mono hs)⟩
  · rw [resA_bad _ _ hz]
    have HC := l02Code_any v B p s w h
    generalize beatCode p s = c at HC hz ⊢
    go_enter Try.func19, Try.ntmps19
    go_wp2_with fail
    refine HC.mono ?_
    rintro e w' ⟨rfl, hb⟩
    go_wp2
    go_ret2
    exact ⟨_, rfl, Ints.nil _ _, hb⟩

theorem reversePattern_spec (v : Value) (B : Nat) (p : List Int) (w : World) (h : Ints w B v p) :
    Calls Try.prog 26 #[v] w fun e w' => ∃ u, e = .returned (.tuple #[u, .int .i64 (okC p)]) ∧ Ints w' w.heap.size u (resA (okC p) (revL p)) ∧ Below w.heap.size w w' := by
  cases hok : okPat p with
  | false =>
    rw [okC_false hok, resA_bad _ _ (by decide)]
    go_enter Try.func26, Try.ntmps26
    go_wp2_with fail
    refine (l02Ok_any v B p _ h).mono ?_
    rintro e w' ⟨rfl, hb⟩
    rw [hok]
    go_wp2
    go_ret2
    exact ⟨_, rfl, Ints.nil _ _, hb⟩
  | true =>
    rw [okC_true hok, resA_ok]
    obtain ⟨l1, l2⟩ := okPat_len hok
    go_enter Try.func26, Try.ntmps26
    go_wp2_with fail
    refine (l02Ok_any v B p _ h).mono ?_
    rintro e w' ⟨rfl, hb⟩
    rw [hok]
    have hs := hb.size
    go_wp2_with fail
    refine (l03Reverse_any v B p _ (h.below hb) hok).mono ?_
    rintro e w2 ⟨u, rfl, hi, hb2⟩
    go_wp2
    go_ret2
    exact ⟨_, rfl, hi.mono hs, hb.trans (hb2.mono hs)⟩

theorem canonicalPattern_spec (v : Value) (B : Nat) (p : List Int) (w : World) (h : Ints w B v p) :
    Calls Try.prog 34 #[v] w fun e w' => ∃ u, e = .returned (.tuple #[u, .int .i64 (okC p)]) ∧ Ints w' w.heap.size u (resA (okC p) (canL p)) ∧ Below w.heap.size w w' := by
  cases hok : okPat p with
  | false =>
    rw [okC_false hok, resA_bad _ _ (by decide)]
    go_enter Try.func34, Try.ntmps34
    go_wp2_with fail
    refine (l02Ok_any v B p _ h).mono ?_
    rintro e w' ⟨rfl, hb⟩
    rw [hok]
    go_wp2
    go_ret2
    exact ⟨_, rfl, Ints.nil _ _, hb⟩
  | true =>
    rw [okC_true hok, resA_ok]
    obtain ⟨l1, l2⟩ := okPat_len hok
    go_enter Try.func34, Try.ntmps34
    go_wp2_with fail
    refine (l02Ok_any v B p _ h).mono ?_
    rintro e w' ⟨rfl, hb⟩
    rw [hok]
    have hs := hb.size
    go_wp2_with fail
    refine (l03Canon_any v B p _ (h.below hb) l1 (by omega)).mono ?_
    rintro e w2 ⟨u, rfl, hi, hb2⟩
    go_wp2
    go_ret2
    exact ⟨_, rfl, hi.mono hs, hb.trans (hb2.mono hs)⟩

theorem alikePatterns_spec (v u : Value) (B C : Nat) (p q : List Int) (w : World) (h : Ints w B v p) (h' : Ints w C u q) :
    Calls Try.prog 31 #[v, u] w fun e w' => e = .returned (.bool (alikeB p q)) ∧ Below w.heap.size w w' := by
  cases hp : okPat p with
  | false =>
    rw [show alikeB p q = false from by simp [alikeB, hp]]
    go_enter Try.func31, Try.ntmps31
    go_wp2_with fail
    refine (l02Ok_any v B p _ h).mono ?_
    rintro e w1 ⟨rfl, b1⟩
    rw [hp]
    go_wp2
    go_ret
    exact ⟨rfl, b1⟩
  | true =>
    cases hq : okPat q with
    | false =>
      rw [show alikeB p q = false from by simp [alikeB, hq]]
      go_enter Try.func31, Try.ntmps31
      go_wp2_with fail
      refine (l02Ok_any v B p _ h).mono ?_
      rintro e w1 ⟨rfl, b1⟩
      rw [hp]
      go_wp2_with fail
      refine (l02Ok_any u C q _ (h'.below b1)).mono ?_
      rintro e w2 ⟨rfl, b2⟩
      rw [hq]
      have hs := b1.size
      go_wp2
      go_ret
      exact ⟨rfl, b1.trans (b2.mono hs)⟩
    | true =>
      rw [show alikeB p q = sameL (canL p) (canL q) from by simp [alikeB, hp, hq]]
      obtain ⟨l1, l2⟩ := okPat_len hp
      obtain ⟨m1, m2⟩ := okPat_len hq
      go_enter Try.func31, Try.ntmps31
      go_wp2_with fail
      refine (l02Ok_any v B p _ h).mono ?_
      rintro e w1 ⟨rfl, b1⟩
      rw [hp]
      go_wp2_with fail
      refine (l02Ok_any u C q _ (h'.below b1)).mono ?_
      rintro e w2 ⟨rfl, b2⟩
      rw [hq]
      have B2 := b1.trans (b2.mono b1.size)
      have i1 := (h.below b1).below b2
      have i2 := (h'.below b1).below b2
      have hs2 := B2.size
      clear h h' b1 b2 hp hq
      go_wp2_with fail
      refine (l03Alike_any v u B C p q _ i1 i2 l1 (by omega) m1 (by omega)).mono ?_
      rintro e w3 ⟨rfl, b3⟩
      go_wp2
      go_ret
      exact ⟨rfl, B2.trans (b3.mono hs2)⟩

theorem isSymmetric_spec (v : Value) (B : Nat) (p : List Int) (w : World) (h : Ints w B v p) :
    Calls Try.prog 42 #[v] w fun e w' => e = .returned (.bool (symB p)) ∧ Below w.heap.size w w' := by
  cases hok : okPat p with
  | false =>
    rw [show symB p = false from by simp [symB, hok]]
    go_enter Try.func42, Try.ntmps42
    go_wp2_with fail
    refine (l02Ok_any v B p _ h).mono ?_
    rintro e w1 ⟨rfl, b1⟩
    rw [hok]
    go_wp2
    go_ret
    exact ⟨rfl, b1⟩
  | true =>
    rw [show symB p = sameL (canL p) (canL (revL p)) from by simp [symB, hok]]
    obtain ⟨l1, l2⟩ := okPat_len hok
    have m1 : 1 ≤ (revL p).length := by rw [revL_len]; exact l1
    have m2 : (revL p).length ≤ 1000 := by rw [revL_len]; omega
    have HOK := Lib.hid hok
    go_enter Try.func42, Try.ntmps42
    go_wp2_with fail
    refine (l02Ok_any v B p _ h).mono ?_
    rintro e w1 ⟨rfl, b1⟩
    rw [hok]
    have i1 := h.below b1
    have hs1 := b1.size
    clear h hok
    go_wp2_with fail
    refine (l03Reverse_any v B p _ i1 HOK.out).mono ?_
    rintro e w2 ⟨u, rfl, i2, b2⟩
    have B2 := b1.trans (b2.mono hs1)
    have i1 := i1.below b2
    have hs2 := B2.size
    clear b1 b2
    go_wp2_with fail
    refine (l03Alike_any v u B _ p (revL p) _ i1 i2 l1 (by omega) m1 m2).mono ?_
    rintro e w3 ⟨rfl, b3⟩
    go_wp2
    go_ret
    exact ⟨rfl, B2.trans (b3.mono hs2)⟩
end Go.Proofs.Ytdnihapijlchlaa
