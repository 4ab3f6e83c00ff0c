/- Synchronous patterns: StarSync, the model's and the program's. No conditions. -/
import Derived.Test.YtgjmhihomklooaaSynM
import Derived.Lib.AppendZeros
namespace Go.Proofs.Ytgjmhihomklooaa
open Go.RowKit
set_option linter.unusedSimpArgs false
set_option linter.unusedVariables false

/-- the cells of a slice, as an append spreads them -/
theorem OwnK.spread {α : Type} {e : TypeId} {k : Nat} {c : α → List Value} {w : World} {B g n cap : Nat} {xs : List α} (h : OwnK e k c w B (.slice (some ⟨g, 0, none⟩) n cap) xs) (hk : ∀ x, (c x).length = k) :
    ∀ j u, (xs.flatMap c)[j]? = some u → w.cell? ((⟨g, 0, none⟩ : Addr).add j) = some u := by
  intro j u hj
  have hn := h.num
  subst hn
  obtain ⟨hj1, _⟩ := List.getElem?_eq_some_iff.1 hj
  have hj2 : j < xs.length * k := by rw [flat_len hk] at hj1; exact hj1
  have := World.ownsRow.cellAt h j hj2
  rw [hj] at this
  by_cases h0 : j = 0
  · subst h0; simpa [Addr.add] using this
  · simpa [Addr.add, h0] using this
theorem starC_bad {p : List Syn} (h : okSL p = false) : starC p = 1 ∧ starR p = [] := by simp [starC, starR, h]
theorem starC_full {p : List Syn} (h : okSL p = true) (h6 : 6 < 2 * p.length) : starC p = 5 ∧ starR p = [] := by
  refine ⟨by simp [starC, h, h6], ?_⟩
  unfold starR
  rw [if_neg (fun e => e.2.1 h6)]
theorem starC_clash {p : List Syn} (h : okSL p = true) (h6 : ¬ 6 < 2 * p.length) (hc : okS (p ++ mirS p) = false) : starC p = 9 ∧ starR p = [] := by
  refine ⟨by simp [starC, h, h6, hc], ?_⟩
  unfold starR
  rw [if_neg (fun e => by rw [hc] at e; cases e.2.2)]
theorem starC_good {p : List Syn} (h : okSL p = true) (h6 : ¬ 6 < 2 * p.length) (hc : okS (p ++ mirS p) = true) : starC p = 0 ∧ starR p = p ++ mirS p := by
  refine ⟨by simp [starC, h, h6, hc], ?_⟩
  unfold starR
  rw [if_pos ⟨h, h6, hc⟩]
theorem starR_len (p : List Syn) : (starR p).length ≤ 6 := by
  unfold starR
  split
  · rename_i h; rw [List.length_append, mirS_len]; omega
  · simp

/-! ### slices.Grow, slices.Concat -/
def zS : Array Value := #[.int .i64 0, .bool false, .int .i64 0, .bool false]
theorem zerosS_size (n : Nat) : (Builtin.zeroCells zS n).size = n * 4 := by simp [Builtin.zeroCells, zS]
theorem zerosS_row (w : World) (n c : Nat) (hc : n ≤ c) (hm : c ≤ maxLen) :
    Syns (w.drew.alloc (.cells (Builtin.zeroCells zS n ++ Builtin.zeroCells zS (c - n)) 115)) w.heap.size (.slice (some ⟨w.heap.size, 0, none⟩) 0 c) [] := by
  refine ⟨rfl, .inr ⟨w.heap.size, c, Builtin.zeroCells zS n ++ Builtin.zeroCells zS (c - n), rfl, Nat.le_refl _, ?_, Nat.zero_le _, hm, ?_, by simp⟩⟩
  · show (w.heap.push _)[w.heap.size]? = _
    exact Array.getElem?_push_size
  · rw [Array.size_append, zerosS_size, zerosS_size]; omega

set_option maxRecDepth 10000 in
theorem growS_nil (n : Nat) (w : World) (h1 : 1 ≤ n) (hn : n ≤ 1000) :
    Calls Try.prog 158 #[.slice none 0 0, .int .i64 n] w fun e w' => ∃ g c, e = .returned (.slice (some ⟨g, 0, none⟩) 0 c) ∧ Syns w' w.heap.size (.slice (some ⟨g, 0, none⟩) 0 c) [] ∧ Below w.heap.size w w' := by
  obtain ⟨i0, hi, hz0, hz1, hz2⟩ := info_parts Try.infoSyn
  have hlt := Nat.mod_lt (w.tape w.drawn (.appendCap n 0 115)) (show 0 < 2 ^ 63 - n by omega)
  have hcap : n ≤ grownCap w n 0 115 ∧ grownCap w n 0 115 ≤ maxLen := by
    simp only [grownCap, Question.cut, maxLen]
    omega
  have hrow := Lib.hid (zerosS_row w n _ hcap.1 hcap.2)
  go_enter Try.func158, Try.ntmps158
  go_wp2_with (at_builtin; refine Lib.wpList_append_run _ rfl _ _ _ _ rfl _ _ rfl rfl _ _ (Lib.run_append_nil_zeros w 106 3 _ 115 i0 (.agg #[.int .i64 0, .bool false, .int .i64 0, .bool false]) .i64 .i64 Try.underlying106 rfl hi hz0 n (by omega) (by omega) (by omega) (by rw [hz2]; omega)) ?_; refine Hid.out ?_)
  generalize grownCap w n 0 115 = c at *
  refine Lib.hid ?_
  go_wp2
  go_ret
  exact ⟨_, _, rfl, hrow.out, (Below.drew (Below.refl _ _)).alloc (by simp) _⟩

set_option maxRecDepth 10000 in
set_option maxHeartbeats 1000000 in
theorem concatS_two (s ga na ca gb nb cb B B' : Nat) (p q : List Syn) (w : World) (hs : s < w.heap.size) (h0 : w.cell? ⟨s, 0, none⟩ = some (.slice (some ⟨ga, 0, none⟩) na ca)) (h1 : w.cell? ⟨s, 1, none⟩ = some (.slice (some ⟨gb, 0, none⟩) nb cb))
    (ha : Syns w B (.slice (some ⟨ga, 0, none⟩) na ca) p) (hb : Syns w B' (.slice (some ⟨gb, 0, none⟩) nb cb) q) (ha1 : 1 ≤ na) (ha2 : na ≤ 100) (hb1 : 1 ≤ nb) (hb2 : nb ≤ 100) :
    Calls Try.prog 132 #[.slice (some ⟨s, 0, none⟩) 2 2] w fun e w' => ∃ u, e = .returned u ∧ Syns w' w.heap.size u (p ++ q) ∧ Below w.heap.size w w' := by
  have HG := Lib.hid (fun W => show Calls Try.prog 158 #[.slice none 0 0, .int .i64 ((na : Int) + (nb : Int))] W fun e w' => ∃ g c, e = .returned (.slice (some ⟨g, 0, none⟩) 0 c) ∧ Syns w' W.heap.size (.slice (some ⟨g, 0, none⟩) 0 c) [] ∧ Below W.heap.size W w' from by
    have h := growS_nil (na + nb) W (by omega) (by omega)
    rw [Int.natCast_add] at h
    exact h)
  have HNA := Lib.hid ha.num
  have HNB := Lib.hid hb.num
  have HA := Lib.hid ha
  have HB := Lib.hid hb
  clear ha hb
  go_enter Try.func132, Try.ntmps132
  go_wp2
  refine wp_loop_rounds 3 ?_
  rw [rounds_succ]
  go_wp2
  rw [rounds_succ]
  go_wp2
  rw [rounds_succ]
  go_wp2_with fail
  refine (HG.out w).mono ?_
  rintro e w1 ⟨g, c, rfl, i1, b1⟩
  have h01 := (b1.cell (p := ⟨s, 0, none⟩) hs).trans h0
  have h11 := (b1.cell (p := ⟨s, 1, none⟩) hs).trans h1
  have hz := b1.size
  have HA1 := Lib.hid ((HA.out.below b1).spread synV_len)
  have H1 := Lib.hid h1
  clear HG HA h0 h1
  go_wp2
  refine wp_loop_rounds 3 ?_
  rw [rounds_succ]
  go_wp2_with (at_builtin; refine append_k _ rfl _ _ _ rfl Try.underlying106 _ 32 Try.infoSyn rfl (by decide) (by decide) synV_len synV_one w.heap.size _ [] rfl i1 ⟨ga, 0, none⟩ na ca p rfl HNA.out ha1 (by omega) HA1.out (by simp) hz ?_; intro g2 c2 l2 w2 hl2 i2 f2; refine Hid.out ?_)
  obtain rfl : na = l2 := by simpa using hl2.symm
  clear hl2
  have b2 := f2 w b1
  have h12 := (b2.cell (p := ⟨s, 1, none⟩) hs).trans H1.out
  have hz2 := b2.size
  have HB2 := Lib.hid ((HB.out.below b2).spread synV_len)
  have I2 := Lib.hid i2
  clear HB HA1 i1 f2 h01 h11 i2
  refine Lib.hid ?_
  go_wp2
  rw [rounds_succ]
  go_wp2_with (at_builtin; refine append_k _ rfl _ _ _ rfl Try.underlying106 _ 32 Try.infoSyn rfl (by decide) (by decide) synV_len synV_one w.heap.size _ ([] ++ p) rfl I2.out ⟨gb, 0, none⟩ nb cb q rfl HNB.out hb1 (by omega) HB2.out (by have := HNA.out; simp; omega) hz2 ?_; intro g3 c3 l3 w3 hl3 i3 f3; refine Hid.out ?_)
  have b3 := f3 w b2
  rw [hl3] at i3
  have I3 := Lib.hid i3
  have HL3 := Lib.hid hl3
  clear i3 f3 I2 hl3
  refine Lib.hid ?_
  go_wp2
  rw [rounds_succ]
  go_wp2
  go_ret
  exact ⟨_, rfl, by simpa using I3.out, b3⟩

/-! ### the model's -/
set_option maxRecDepth 10000 in
theorem starSync_spec_bad (v : Value) (B : Nat) (p : List Syn) (w : World) (h : Syns w B v p) (hok : okSL p = false) :
    Calls Try.prog 34 #[v] w fun e w' => e = .returned (.tuple #[.slice none 0 0, .int .i64 1]) ∧ Below w.heap.size w w' := by
  have HO := l05List_any v B p w h
  rw [hok] at HO
  clear h hok
  go_enter Try.func34, Try.ntmps34
  go_wp2_with fail
  refine HO.mono ?_
  rintro e w1 ⟨rfl, b1⟩
  clear HO
  go_wp2
  go_ret2
  exact ⟨rfl, b1⟩

set_option maxRecDepth 10000 in
theorem starSync_spec_full (a : Option Addr) (n cap : Nat) (B : Nat) (p : List Syn) (w : World) (h : Syns w B (.slice a n cap) p) (hok : okSL p = true) (hn : n = p.length) (h6 : 6 < 2 * n) :
    Calls Try.prog 34 #[.slice a n cap] w fun e w' => e = .returned (.tuple #[.slice none 0 0, .int .i64 5]) ∧ Below w.heap.size w w' := by
  have HO := l05List_any _ B p w h
  have hl := okSL_len hok
  rw [← hn] at hl
  rw [hok] at HO
  have h6' : (6 : Int) < 2 * (n : Int) := by omega
  clear h hok hn
  go_enter Try.func34, Try.ntmps34
  go_wp2_with fail
  refine HO.mono ?_
  rintro e w1 ⟨rfl, b1⟩
  clear HO
  go_wp2
  go_ret2
  exact ⟨rfl, b1⟩

set_option maxRecDepth 10000 in
set_option maxHeartbeats 1000000 in
theorem starSync_spec_row (g n cap : Nat) (B : Nat) (p : List Syn) (w : World) (r : Bool) (x : Int) (h : Syns w B (.slice (some ⟨g, 0, none⟩) n cap) p) (hok : okSL p = true) (hn : n = p.length) (h6 : ¬ 6 < 2 * n) (hr : okS (p ++ mirS p) = r) (hx : x = if r then 0 else 9) :
    Calls Try.prog 34 #[.slice (some ⟨g, 0, none⟩) n cap] w fun e w' => ∃ u, e = .returned (.tuple #[u, .int .i64 x]) ∧ Syns w' w.heap.size u (if r then p ++ mirS p else []) ∧ Below w.heap.size w w' := by
  have HO := l05List_any _ B p w h
  have hl := okSL_len hok
  have HM := Lib.hid (fun W (hW : Below w.heap.size w W) => l05Mirror_any _ B p W (h.below hW) hl.1 hl.2)
  rw [← hn] at hl
  rw [hok] at HO
  have h6' : ¬ (6 : Int) < 2 * (n : Int) := by omega
  have HP := Lib.hid (fun W (hW : Below w.heap.size w W) => (h.below hW).spread synV_len)
  have HN := Lib.hid hn
  have HR := Lib.hid hr
  have HX := Lib.hid hx
  clear h hok hn hr hx
  go_enter Try.func34, Try.ntmps34
  go_wp2_with fail
  refine HO.mono ?_
  rintro e w1 ⟨rfl, b1⟩
  have hz1 := b1.size
  have E0 : Syns (w1.alloc (.cells #[] 115)) w1.heap.size (.slice (some ⟨w1.heap.size, 0, none⟩) 0 0) [] := OwnK.empty _ _ _ _ (Nat.le_refl _)
  have EP := Lib.hid (HP.out _ (b1.alloc hz1 (.cells #[] 115)))
  clear HO
  go_wp2_with (at_builtin; refine append_k _ rfl _ _ _ rfl Try.underlying44 _ 32 Try.infoSyn rfl (by decide) (by decide) synV_len synV_one w1.heap.size _ [] rfl E0 ⟨g, 0, none⟩ n cap p rfl HN.out (by omega) (by omega) EP.out (by simp) (by simp) ?_; intro g4 c4 l4 w4 hl4 i4 f4; refine Hid.out ?_)
  obtain rfl : n = l4 := by simpa using hl4.symm
  clear hl4
  have b4 := f4 w1 ((Below.refl _ _).alloc (Nat.le_refl _) _)
  have hz4 := b4.size
  have b5 := b1.trans (b4.mono hz1)
  have I4 := Lib.hid i4
  clear E0 EP f4 i4
  refine Lib.hid ?_
  go_wp2_with (go_at_call 83; refine (HM.out _ b5).mono ?_; rintro e w6 ⟨u6, rfl, i6, b6⟩; refine Hid.out ?_)
  obtain ⟨g6, c6, rfl, _, _, _, _⟩ := i6.shape2 (by rw [mirS_len]; have := HN.out; omega)
  have hz6 := b6.size
  have I6 := Lib.hid (I4.out.below b6)
  have EM := Lib.hid (i6.spread synV_len)
  have b7 := b5.trans (b6.mono (by omega))
  have b47 : Below w1.heap.size w1 w6 := b4.trans (b6.mono hz4)
  have HML : Hid ((mirS p).length = n) := by unfold Hid; rw [mirS_len]; exact HN.out.symm
  clear i6 b6 I4 HM
  refine Lib.hid ?_
  go_wp2_with (at_builtin; refine append_k _ rfl _ _ _ rfl Try.underlying44 _ 32 Try.infoSyn rfl (by decide) (by decide) synV_len synV_one w1.heap.size _ ([] ++ p) rfl I6.out ⟨g6, 0, none⟩ (mirS p).length c6 (mirS p) rfl rfl (by have := HML.out; omega) (by have := HML.out; omega) EM.out (by have := HN.out; simp; omega) (by omega) ?_; intro g8 c8 l8 w8 hl8 i8 f8; refine Hid.out ?_)
  have b8 := b1.trans ((f8 w1 b47).mono hz1)
  have I8 : Syns w8 w1.heap.size (.slice (some ⟨g8, 0, none⟩) (p.length + (mirS p).length) c8) (p ++ mirS p) := by
    rw [hl8] at i8
    simpa using i8
  have HK := l05Ok_any _ _ (p ++ mirS p) w8 I8
  rw [HR.out] at HK
  have I9 := Lib.hid I8
  have HL8 := Lib.hid hl8
  clear i8 f8 I8 EM I6 b47 b7 hl8
  refine Lib.hid ?_
  cases r with
  | false =>
    go_wp2_with fail
    refine HK.mono ?_
    rintro e w9 ⟨rfl, b9⟩
    replace b8 := b8.trans (b9.mono b8.size)
    clear HK b9
    go_wp2
    go_ret2
    exact ⟨_, by rw [HX.out]; rfl, OwnK.nil _ _ _ _ _, b8⟩
  | true =>
    go_wp2_with fail
    refine HK.mono ?_
    rintro e w9 ⟨rfl, b9⟩
    have J9 := (I9.out.below b9).mono hz1
    replace b8 := b8.trans (b9.mono b8.size)
    have HJ := Lib.hid J9
    clear HK b9 J9
    go_wp2
    go_ret2
    exact ⟨_, by rw [HX.out]; rfl, HJ.out, b8⟩

theorem starSync_spec (v : Value) (B : Nat) (p : List Syn) (w : World) (h : Syns w B v p) :
    Calls Try.prog 34 #[v] w fun e w' => ∃ u, e = .returned (.tuple #[u, .int .i64 (starC p)]) ∧ Syns w' w.heap.size u (starR p) ∧ Below w.heap.size w w' := by
  cases hok : okSL p with
  | false =>
    rw [(starC_bad hok).1, (starC_bad hok).2]
    exact (starSync_spec_bad v B p w h hok).mono fun e w' ⟨h1, h2⟩ => ⟨_, h1, OwnK.nil _ _ _ _ _, h2⟩
  | true =>
    obtain ⟨g, cap, rfl, _, hg, _, _⟩ := h.shape2 (okSL_len hok).1
    by_cases h6 : 6 < 2 * p.length
    · rw [(starC_full hok h6).1, (starC_full hok h6).2]
      exact (starSync_spec_full _ _ _ B p w h hok rfl h6).mono fun e w' ⟨h1, h2⟩ => ⟨_, h1, OwnK.nil _ _ _ _ _, h2⟩
    · cases hr : okS (p ++ mirS p) with
      | false =>
        rw [(starC_clash hok h6 hr).1, (starC_clash hok h6 hr).2]
        exact starSync_spec_row g p.length cap B p w false 9 h hok rfl h6 hr rfl
      | true =>
        rw [(starC_good hok h6 hr).1, (starC_good hok h6 hr).2]
        exact starSync_spec_row g p.length cap B p w true 0 h hok rfl h6 hr rfl

/-! ### the program's -/
theorem okSL_star {p : List Syn} (h : okSL p = true) : okSL (p ++ mirS p) = decide (2 * p.length ≤ 6) := by
  have hl := okSL_len h
  have ha : p.all (fun s => okT s.1 && okT s.2) = true := by
    simp only [okSL, Bool.and_eq_true] at h; exact h.1
  have hb : (mirS p).all (fun s => okT s.1 && okT s.2) = true := by
    rw [List.all_eq_true] at ha ⊢
    intro s hs
    obtain ⟨t, ht, rfl⟩ := List.mem_map.1 hs
    have := ha t ht
    rw [Bool.and_comm] at this
    exact this
  rw [okSL, List.all_append, ha, hb, List.length_append, mirS_len]
  by_cases h6 : 2 * p.length ≤ 6
  · rw [decide_eq_true h6, inB_true (by omega)]; rfl
  · rw [decide_eq_false h6, inB_false (by omega)]; rfl

set_option maxRecDepth 10000 in
set_option maxHeartbeats 1000000 in
theorem star_row (g n cap : Nat) (B : Nat) (p : List Syn) (w : World) (h : Syns w B (.slice (some ⟨g, 0, none⟩) n cap) p) (hl : 1 ≤ p.length ∧ p.length ≤ 6) (hn : n = p.length) :
    Calls Try.prog 85 #[.slice (some ⟨g, 0, none⟩) n cap] w fun e w' => ∃ u, e = .returned u ∧ Syns w' w.heap.size u (p ++ mirS p) ∧ Below w.heap.size w w' := by
  have HM := mirrored_any _ B p w h hl.1 hl.2
  rw [← hn] at hl
  have HP := Lib.hid h
  have HN := Lib.hid hn
  have HL := Lib.hid hl
  clear h hn hl
  go_enter Try.func85, Try.ntmps85
  go_wp2_with (go_at_call 81; refine HM.mono ?_; rintro e w6 ⟨u6, rfl, i6, b6⟩; refine Hid.out ?_)
  obtain ⟨g6, c6, rfl, _, _, _, _⟩ := i6.shape2 (by rw [mirS_len]; have := HN.out; have := HL.out; omega)
  have hz6 := b6.size
  have HML : Hid ((mirS p).length = n) := by unfold Hid; rw [mirS_len]; exact HN.out.symm
  have I6 := Lib.hid i6
  clear i6 HM
  refine Lib.hid ?_
  have HCC := Lib.hid (concatS_two w6.heap.size g n cap g6 (mirS p).length c6 B w.heap.size p (mirS p) (w6.alloc (.cells #[.slice (some ⟨g, 0, none⟩) n cap, .slice (some ⟨g6, 0, none⟩) (mirS p).length c6] 106)) (by simp) (by simp) (by simp) ((HP.out.below b6).alloc _) (I6.out.alloc _) (by have := HL.out; omega) (by have := HL.out; omega) (by have := HML.out; have := HL.out; omega) (by have := HML.out; have := HL.out; omega))
  go_wp2_with (go_at_call 132; refine HCC.out.mono ?_; rintro e w8 ⟨u8, rfl, i8, b8⟩; refine Hid.out ?_)
  have b9 := b6.trans (((below_al (Below.refl w6.heap.size w6) _).trans (b8.mono (by simp))).mono b6.size)
  have I9 := Lib.hid ((i8.mono (by simp) : Syns w8 w6.heap.size u8 (p ++ mirS p)).mono b6.size)
  clear i8 b8 b6 HCC I6 HP
  refine Lib.hid ?_
  go_wp2
  go_ret
  exact ⟨_, rfl, I9.out, b9⟩

set_option maxRecDepth 10000 in
set_option maxHeartbeats 1000000 in
theorem starSync_impl_row (g n cap : Nat) (B : Nat) (p : List Syn) (w : World) (r : Bool) (x : Int) (h : Syns w B (.slice (some ⟨g, 0, none⟩) n cap) p) (hok : okSL p = true) (hn : n = p.length) (h6 : ¬ 6 < 2 * n) (hr : okS (p ++ mirS p) = r) (hx : x = if r then 0 else 9) :
    Calls Try.prog 33 #[.slice (some ⟨g, 0, none⟩) n cap] w fun e w' => ∃ u, e = .returned (.tuple #[u, .int .i64 x]) ∧ Syns w' w.heap.size u (if r then p ++ mirS p else []) ∧ Below w.heap.size w w' := by
  have HO := sList_any _ B p w h
  have hl := okSL_len hok
  have HM := Lib.hid (fun W (hW : Below w.heap.size w W) => star_row g n cap B p W (h.below hW) hl hn)
  have HS := Lib.hid (okSL_star hok)
  rw [← hn] at hl
  rw [hok] at HO
  have HN := Lib.hid hn
  have HR := Lib.hid hr
  have HX := Lib.hid hx
  clear h hok hn hr hx
  go_enter Try.func33, Try.ntmps33
  go_wp2_with fail
  refine HO.mono ?_
  rintro e w1 ⟨rfl, b1⟩
  have hz1 := b1.size
  clear HO
  go_wp2_with (go_at_call 85; refine (HM.out _ b1).mono ?_; rintro e w6 ⟨u6, rfl, i6, b6⟩; refine Hid.out ?_)
  have hz6 := b6.size
  have b7 := b1.trans (b6.mono hz1)
  have HQ := sList_any _ _ (p ++ mirS p) w6 i6
  rw [HS.out, decide_eq_true (by have := HN.out; omega)] at HQ
  have I6 := Lib.hid i6
  clear i6 b6 HM
  refine Lib.hid ?_
  go_wp2_with fail
  refine HQ.mono ?_
  rintro e w8 ⟨rfl, c8⟩
  have b9 := b7.trans (c8.mono b7.size)
  have i9 := I6.out.below c8
  have HK := validSync_impl _ _ (p ++ mirS p) w8 i9
  rw [HR.out] at HK
  have I9 := Lib.hid (i9.mono hz1)
  clear i9 HQ I6 c8
  cases r with
  | false =>
    go_wp2_with fail
    refine HK.mono ?_
    rintro e w9 ⟨rfl, c9⟩
    replace b9 := b9.trans (c9.mono b9.size)
    clear HK c9
    go_wp2
    go_ret2
    exact ⟨_, by rw [HX.out]; rfl, OwnK.nil _ _ _ _ _, b9⟩
  | true =>
    go_wp2_with fail
    refine HK.mono ?_
    rintro e w9 ⟨rfl, c9⟩
    have HJ := Lib.hid (I9.out.below c9)
    replace b9 := b9.trans (c9.mono b9.size)
    clear HK c9
    go_wp2
    go_ret2
    exact ⟨_, by rw [HX.out]; rfl, HJ.out, b9⟩

set_option maxRecDepth 10000 in
theorem starSync_impl_bad (v : Value) (B : Nat) (p : List Syn) (w : World) (h : Syns w B v p) (hok : okSL p = false) :
    Calls Try.prog 33 #[v] w fun e w' => e = .returned (.tuple #[.slice none 0 0, .int .i64 1]) ∧ Below w.heap.size w w' := by
  have HO := sList_any v B p w h
  rw [hok] at HO
  clear h hok
  go_enter Try.func33, Try.ntmps33
  go_wp2_with fail
  refine HO.mono ?_
  rintro e w1 ⟨rfl, b1⟩
  clear HO
  go_wp2
  go_ret2
  exact ⟨rfl, b1⟩

set_option maxRecDepth 10000 in
theorem starSync_impl_full (g n cap : Nat) (B : Nat) (p : List Syn) (w : World) (h : Syns w B (.slice (some ⟨g, 0, none⟩) n cap) p) (hok : okSL p = true) (hn : n = p.length) (h6 : 6 < 2 * n) :
    Calls Try.prog 33 #[.slice (some ⟨g, 0, none⟩) n cap] w fun e w' => e = .returned (.tuple #[.slice none 0 0, .int .i64 5]) ∧ Below w.heap.size w w' := by
  have HO := sList_any _ B p w h
  have hl := okSL_len hok
  have HM := Lib.hid (fun W (hW : Below w.heap.size w W) => star_row g n cap B p W (h.below hW) hl hn)
  have HS := Lib.hid (okSL_star hok)
  rw [hok] at HO
  have HN := Lib.hid hn
  clear h hok hn
  go_enter Try.func33, Try.ntmps33
  go_wp2_with fail
  refine HO.mono ?_
  rintro e w1 ⟨rfl, b1⟩
  have hz1 := b1.size
  clear HO
  go_wp2_with (go_at_call 85; refine (HM.out _ b1).mono ?_; rintro e w6 ⟨u6, rfl, i6, b6⟩; refine Hid.out ?_)
  have b7 := b1.trans (b6.mono hz1)
  have HQ := sList_any _ _ (p ++ mirS p) w6 i6
  rw [HS.out, decide_eq_false (by have := HN.out; omega)] at HQ
  clear i6 b6 HM
  refine Lib.hid ?_
  go_wp2_with fail
  refine HQ.mono ?_
  rintro e w8 ⟨rfl, c8⟩
  have b9 := b7.trans (c8.mono b7.size)
  clear HQ c8
  go_wp2
  go_ret2
  exact ⟨rfl, b9⟩

theorem starSync_impl (v : Value) (B : Nat) (p : List Syn) (w : World) (h : Syns w B v p) :
    Calls Try.prog 33 #[v] w fun e w' => ∃ u, e = .returned (.tuple #[u, .int .i64 (starC p)]) ∧ Syns w' w.heap.size u (starR p) ∧ Below w.heap.size w w' := by
  cases hok : okSL p with
  | false =>
    rw [(starC_bad hok).1, (starC_bad hok).2]
    exact (starSync_impl_bad v B p w h hok).mono fun e w' ⟨h1, h2⟩ => ⟨_, h1, OwnK.nil _ _ _ _ _, h2⟩
  | true =>
    obtain ⟨g, cap, rfl, _, hg, _, _⟩ := h.shape2 (okSL_len hok).1
    by_cases h6 : 6 < 2 * p.length
    · rw [(starC_full hok h6).1, (starC_full hok h6).2]
      exact (starSync_impl_full _ _ _ B p w h hok rfl h6).mono fun e w' ⟨h1, h2⟩ => ⟨_, h1, OwnK.nil _ _ _ _ _, h2⟩
    · cases hr : okS (p ++ mirS p) with
      | false =>
        rw [(starC_clash hok h6 hr).1, (starC_clash hok h6 hr).2]
        exact starSync_impl_row g p.length cap B p w false 9 h hok rfl h6 hr rfl
      | true =>
        rw [(starC_good hok h6 hr).1, (starC_good hok h6 hr).2]
        exact starSync_impl_row g p.length cap B p w true 0 h hok rfl h6 hr rfl
end Go.Proofs.Ytgjmhihomklooaa
