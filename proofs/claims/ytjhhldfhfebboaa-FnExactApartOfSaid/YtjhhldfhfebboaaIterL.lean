/- The program's isList over the throws of both jugglers. No conditions. -/
import Derived.Test.YtjhhldfhfebboaaIterT
namespace Go.Proofs.Ytjhhldfhfebboaa
open Go.RowKit Go.Shelf
set_option linter.unusedSimpArgs false
set_option linter.unusedVariables false
attribute [local go_sem] Oper.semAt_some

/-- a throw that a juggler can make -/
def okPt (t : Pt) : Bool := decide (0 ≤ t.1 ∧ t.1 ≤ 15) && (!(decide (t.1 = 0)) || !t.2)
/-- as many throws of both, 1 to 8, each as it should be -/
def okPL (a b : List Pt) : Bool := decide (1 ≤ a.length ∧ a.length ≤ 8 ∧ a.length = b.length) && a.all okPt && b.all okPt
theorem okPL_num {a b : List Pt} (h : okPL a b = true) : 1 ≤ a.length ∧ a.length ≤ 8 ∧ a.length = b.length := by
  simp only [okPL, Bool.and_eq_true, decide_eq_true_eq] at h; exact h.1.1
theorem okPL_bad {a b : List Pt} (h : ¬ (1 ≤ a.length ∧ a.length ≤ 8 ∧ a.length = b.length)) : okPL a b = false := by
  simp only [okPL, decide_eq_false h, Bool.false_and]
theorem okPL_mem {a b : List Pt} (h : 1 ≤ a.length ∧ a.length ≤ 8 ∧ a.length = b.length) : okPL a b = (mts a.length a b).all (fun x => okPt x.1) := by
  have e : ∀ (j n : Nat) (c : List Pt), n = c.length → (mtsOf j c n).all (fun x => okPt x.1) = c.all okPt := fun j n c hn => by
    subst hn
    rw [Bool.eq_iff_iff, List.all_eq_true, List.all_eq_true]
    constructor
    · intro hx t ht
      obtain ⟨i, hi, rfl⟩ := List.getElem_of_mem ht
      have := hx (c.getD i p0, j, i) (by simp only [mtsOf, List.mem_map, List.mem_range]; exact ⟨i, hi, rfl⟩)
      simpa [hi] using this
    · intro hx t ht
      simp only [mtsOf, List.mem_map, List.mem_range] at ht
      obtain ⟨i, hi, rfl⟩ := ht
      have := hx (c.getD i p0) (by simp [hi])
      exact this
  unfold mts
  rw [List.all_append, e 0 a.length a rfl, e 1 a.length b h.2.2]
  simp only [okPL, decide_eq_true h, Bool.true_and]

set_option maxRecDepth 10000 in
theorem isThrowP_any (v : Int) (c : Bool) (w : World) :
    Calls Try.prog 100 #[.agg #[.int .i64 v, .bool c]] w fun e w' => e = .returned (.bool (okPt (v, c))) ∧ Below w.heap.size w w' := by
  have b1 : Below w.heap.size w (w.alloc (.cells #[.int .i64 v, .bool c] 67)) := (Below.refl _ _).alloc (Nat.le_refl _) _
  by_cases h0 : v < 0
  · have hr : okPt (v, c) = false := by simp [okPt]; omega
    rw [hr]
    clear hr
    go_enter Try.func100, Try.ntmps100
    go_wp2
    go_ret
    exact ⟨rfl, b1⟩
  · by_cases h15 : 15 < v
    · have hr : okPt (v, c) = false := by simp [okPt]; omega
      rw [hr]
      clear hr
      go_enter Try.func100, Try.ntmps100
      go_wp2
      go_ret
      exact ⟨rfl, b1⟩
    · by_cases hz : v = 0
      · subst hz
        have hr : okPt (0, c) = !c := by cases c <;> rfl
        rw [hr]
        clear hr
        go_enter Try.func100, Try.ntmps100
        go_wp2
        go_ret
        exact ⟨rfl, b1⟩
      · have hr : okPt (v, c) = true := by simp [okPt, hz]; omega
        rw [hr]
        have h1 : ¬ 15 < v := h15
        have h2 : (v == 0) = false := by simpa using hz
        clear hr
        go_enter Try.func100, Try.ntmps100
        go_wp2
        go_ret
        exact ⟨by first | rfl | simp [h2], b1⟩

theorem keepsFrom_below {W W' : World} (B : Nat) (h : Below W.heap.size W W') : KeepsFrom B W W' := ⟨h.size, fun k o _ h0 _ => (h.block k (Array.getElem?_eq_some_iff.1 h0).1).trans h0⟩

set_option maxRecDepth 100000 in
set_option maxHeartbeats 4000000 in
theorem isListJ_row (ga gb ca cb len : Nat) (a b : List Pt) (w : World) (h1 : 1 ≤ len) (h8 : len ≤ 8) (ha : len = a.length) (hb : len = b.length) (hra : ReadP w.heap.size w ga len a) (hrb : ReadP w.heap.size w gb len b) :
    CallsIn Fence.wide 6 Try.prog 82 #[.agg #[.slice (some ⟨ga, 0, none⟩) len ca, .slice (some ⟨gb, 0, none⟩) len cb]] w fun e w' => e = .returned (.bool (okPL a b)) ∧ Below w.heap.size w w' := by
  refine callsIn_of_wp_marks Try.func82 rfl trivial ?_ rfl
  simp only [Try.ntmps82, List.size_toArray, List.length_cons, List.length_nil, Nat.reduceAdd, Nat.reduceSub, Array.replicate_succ, Array.replicate_zero, List.push_toArray, List.append_toArray, List.nil_append, List.cons_append]
  have HM := Lib.hid (okPL_mem (a := a) (b := b) (by omega))
  have HA := Lib.hid ha
  have HB := Lib.hid hb
  have d1 : decide ((len : Int) < 1) = false := by simp; omega
  have d2 : decide ((8 : Int) < (len : Int)) = false := by simp; omega
  clear ha hb
  gi_wp2_with (refine ⟨trivial, ?_⟩; gi_at_call 52; refine (throws_in _ _ trivial rfl _ _ _).mono ?_; rintro e w' ⟨rfl, rfl⟩)
  have bR := (Blk.made (w.alloc (.cells #[.slice (some ⟨ga, 0, none⟩) len ca, .slice (some ⟨gb, 0, none⟩) len cb] 63)) #[.bool false] 4).alloc (.cells #[.slice (some ⟨ga, 0, none⟩) len ca, .slice (some ⟨gb, 0, none⟩) len cb] 63)
  have bC := Blk.made ((w.alloc (.cells #[.slice (some ⟨ga, 0, none⟩) len ca, .slice (some ⟨gb, 0, none⟩) len cb] 63)).alloc (.cells #[.bool false] 4)) #[.slice (some ⟨ga, 0, none⟩) len ca, .slice (some ⟨gb, 0, none⟩) len cb] 63
  simp only [World.size_alloc] at bR bC
  have hB0 : Below w.heap.size w (((w.alloc (.cells #[.slice (some ⟨ga, 0, none⟩) len ca, .slice (some ⟨gb, 0, none⟩) len cb] 63)).alloc (.cells #[.bool false] 4)).alloc (.cells #[.slice (some ⟨ga, 0, none⟩) len ca, .slice (some ⟨gb, 0, none⟩) len cb] 63)) := (((Below.refl _ w).alloc (Nat.le_refl _) _).alloc (by simp) _).alloc (by simp; omega) _
  have hsz : (((w.alloc (.cells #[.slice (some ⟨ga, 0, none⟩) len ca, .slice (some ⟨gb, 0, none⟩) len cb] 63)).alloc (.cells #[.bool false] 4)).alloc (.cells #[.slice (some ⟨ga, 0, none⟩) len ca, .slice (some ⟨gb, 0, none⟩) len cb] 63)).heap.size = w.heap.size + 3 := by simp
  obtain ⟨W0, hW0⟩ : ∃ W0, ((w.alloc (.cells #[.slice (some ⟨ga, 0, none⟩) len ca, .slice (some ⟨gb, 0, none⟩) len cb] 63)).alloc (.cells #[.bool false] 4)).alloc (.cells #[.slice (some ⟨ga, 0, none⟩) len ca, .slice (some ⟨gb, 0, none⟩) len cb] 63) = W0 := ⟨_, rfl⟩
  rw [hW0] at bR bC hB0 hsz ⊢
  clear hW0
  refine wpIn_rangeFunc_ownH (F := Fence.wide) rfl (by omega) (gf := 87) (lb := #[.pointer (some ⟨w.heap.size + 1 + 1, 0, none⟩)]) rfl trivial (enters_of Try.func87 (by kernel_rfl) rfl)
    (throws_stops Fence.wide 5 trivial rfl (by omega) (w.heap.size + 1 + 1) w.heap.size ga gb ca cb len a b h8 W0 (by omega) (by omega) (by simpa using bC.cell 0) (by simpa using bC.cell 1) (hra.below hB0) (hrb.below hB0)) belowK_t (belowK_b (by omega)) (Below.refl _ _) (fun _ => rfl)
    (fun pre W => (Blk W (w.heap.size + 1) [.bool false] 4 ∧ pre.all (fun x => okPt x.1) = true) ∧ Below w.heap.size w W)
    (fun c pre W => (Blk W (w.heap.size + 1) [.bool false] 4 ∧ (c = .ret ∧ ∃ x ∈ pre, okPt x.1 = false)) ∧ Below w.heap.size w W)
    (OwnFrom.and (OwnFrom.and (Own.from (blk_own _ _ _) _) (fun _ _ _ _ hs _ _ => hs)) (ownFrom_below (Nat.le_refl _) (by omega)))
    (fun c => OwnFrom.and (OwnFrom.and (Own.from (blk_own _ _ _) _) (fun _ _ _ _ hs _ _ => hs)) (ownFrom_below (Nat.le_refl _) (by omega)))
    ⟨⟨bR, rfl⟩, hB0⟩
    (fun x a' W => ∃ Bx, w.heap.size + 1 < Bx ∧ Blk W Bx [.int .i64 x.1.1, .bool x.1.2, .int .i64 x.2.1, .int .i64 x.2.2] 69 ∧ a' = { tmps := #[.agg #[.slice (some ⟨ga, 0, none⟩) len ca, .slice (some ⟨gb, 0, none⟩) len cb], .pointer (some ⟨w.heap.size, 0, none⟩), .pointer (some ⟨w.heap.size + 1, 0, none⟩), .int .i64 len, .pointer (some ⟨Bx, 0, none⟩), .pointer (some ⟨w.heap.size, 0, none⟩), .slice (some ⟨ga, 0, none⟩) len ca, .int .i64 len, .int .i64 len, .bool false, .bool false, .int .i64 len, .bool false, .bool false, .bool false, .int .i64 len, .pointer (some ⟨w.heap.size, 1, none⟩), .slice (some ⟨gb, 0, none⟩) len cb, .int .i64 len, .bool false, .bool false, .agg #[.slice (some ⟨ga, 0, none⟩) len ca, .slice (some ⟨gb, 0, none⟩) len cb], .func (.func 87) #[] #[.pointer (some ⟨w.heap.size + 1 + 1, 0, none⟩)], .agg #[.int .i64 x.1.1, .bool x.1.2, .int .i64 x.2.1, .int .i64 x.2.2], undef, undef, undef, undef], defers := [] })
    (fun x a' _ X Y row hs hg hr => by obtain ⟨Bx, h1, h2, h3⟩ := hs; exact ⟨Bx, h1, blk_own (β := Unit) Bx (fun _ => [.int .i64 x.1.1, .bool x.1.2, .int .i64 x.2.1, .int .i64 x.2.2]) _ () X Y row h2 hg (fun r e => (hr r e).2), h3⟩)
    ?assign ?body ?done ?stop
  case assign =>
    rintro l pre x W K ⟨⟨bR1, hal⟩, hB1⟩ hK
    obtain ⟨⟨x0, x1⟩, x2, x3⟩ := x
    simp only [encM] at hK ⊢
    gi_wp2
    exact hK _ _ ((KeepsOthers.alloc _ _).from _) ((Below.refl _ W).alloc hB1.size _) ⟨⟨bR1.alloc _, hal⟩, hB1.alloc hB1.size _⟩ ⟨W.heap.size, bR1.lt, Blk.made W _ _, rfl⟩
  case body =>
    rintro l pre x a' W hl ⟨r, hr⟩ ⟨⟨bR1, hal⟩, hB1⟩ ⟨Bx, hBx, bX, rfl⟩ hlt
    have c0 := bX.cell 0
    have c1 := bX.cell 1
    have HAL := Lib.hid hal
    have HB1 := Lib.hid hB1
    have HR := Lib.hid bR1
    have HT := isThrowP_any x.1.1 x.1.2 W
    simp at c0 c1
    clear hal hra hrb hr hB1 bR1
    cases hok : okPt (x.1.1, x.1.2) with
    | true =>
      rw [hok] at HT
      have HOK := Lib.hid hok
      clear hok
      gi_wp2_with (refine ⟨trivial, ?_⟩; gi_at_call 100; refine (CallsIn.inRound l (callsIn_wide.2 HT)).mono ?_; rintro e w1 ⟨rfl, b1⟩)
      exact ⟨keepsFrom_below _ b1, b1.mono HB1.out.size, ⟨HR.out.below b1 HR.out.lt, by rw [List.all_append, HAL.out]; simp; exact HOK.out⟩, HB1.out.trans (b1.mono HB1.out.size)⟩
    | false =>
      rw [hok] at HT
      have HOK := Lib.hid hok
      clear hok
      gi_wp2_with (refine ⟨trivial, ?_⟩; gi_at_call 100; refine (CallsIn.inRound l (callsIn_wide.2 HT)).mono ?_; rintro e w1 ⟨rfl, b1⟩; have bR2 := HR.out.below b1 HR.out.lt; have cR := bR2.cell 0; have fR := bR2.free 0; simp only [List.getElem?_cons_zero] at cR)
      exact ⟨(keepsFrom_below _ b1).trans ((KeepsOthers.setCell _ _ _).from _), ⟨bR2.set 0 (.bool false), rfl, x, by simp, HOK.out⟩, (HB1.out.trans (b1.mono HB1.out.size)).setCell (p := ⟨w.heap.size + 1, 0, none⟩) (by simp) _⟩
  case done =>
    rintro D zs W hD rfl ⟨⟨bR1, hal⟩, hB1⟩ hK
    have cR := bR1.cell 0
    have fR := bR1.free 0
    simp at cR
    have hv : okPL a b = true := by rw [HM.out, ← HA.out]; exact hal
    have hK2 := (KeepsOthers.setCell W ⟨w.heap.size + 1, 0, none⟩ (.bool true)).same D _ hK rfl
    have bR2 := bR1.set 0 (.bool true)
    have hB2 := hB1.setCell (p := ⟨w.heap.size + 1, 0, none⟩) (by simp) (.bool true)
    gi_wp2
    refine ⟨by simp, .inl ⟨_, _, rfl, run_takeDeferred hK2, ?_⟩⟩
    have hcell := cell_kept (by simpa using bR2.cell 0 : (W.setCell ⟨w.heap.size + 1, 0, none⟩ (.bool true)).cell? ⟨w.heap.size + 1, 0, none⟩ = some (.bool true)) (grownBy_putObj' _ D (.deferred none)) (fun r e => by cases e; exact ⟨_, hK2, rfl⟩)
    exact ⟨.bool true, by simp [results, Try.results82, go_sem, hcell], by rw [hv], hB2.trans (belowK_b (w := w) (Nat.le_refl _) _ D _ _ (by omega) hK2 rfl rfl)⟩
  case stop =>
    rintro D c pre W hD hpre ⟨⟨bR1, rfl, x, hx, hbad⟩, hB1⟩ hK
    have hv : okPL a b = false := by
      rw [HM.out, ← HA.out, List.all_eq_false]
      exact ⟨x, hpre.subset hx, by rw [hbad]; simp⟩
    gi_wp2
    refine ⟨by simp, .inl ⟨_, _, rfl, run_takeDeferred hK, ?_⟩⟩
    have hcell := cell_kept (by simpa using bR1.cell 0 : W.cell? ⟨w.heap.size + 1, 0, none⟩ = some (.bool false)) (grownBy_putObj' _ D (.deferred none)) (fun r e => by cases e; exact ⟨_, hK, rfl⟩)
    exact ⟨.bool false, by simp [results, Try.results82, go_sem, hcell], by rw [hv], hB1.trans (belowK_b (w := w) (Nat.le_refl _) _ D _ _ (by omega) hK rfl rfl)⟩

set_option maxRecDepth 100000 in
set_option maxHeartbeats 1000000 in
theorem isListJ_num (a b : Option Addr) (la ca lb cb : Nat) (w : World) (hm : la ≤ 9223372036854775807) (hm' : lb ≤ 9223372036854775807) (h : ¬ (1 ≤ la ∧ la ≤ 8 ∧ la = lb)) :
    Calls Try.prog 82 #[.agg #[.slice a la ca, .slice b lb cb]] w fun e w' => e = .returned (.bool false) ∧ Below w.heap.size w w' := by
  have B2 := ((Below.refl w.heap.size w).alloc (Nat.le_refl _) (.cells #[.slice a la ca, .slice b lb cb] 63)).alloc (by simp) (.cells #[.bool false] 4)
  by_cases h1 : (la : Int) < 1
  · clear h
    go_enter Try.func82, Try.ntmps82
    go_wp2
    refine bodyPost_ret (v := .bool false) (by simp [results, Try.results82, go_sem]) rfl ?_
    exact ⟨rfl, by first | exact B2 | exact B2.setCell (p := ⟨w.heap.size + 1, 0, none⟩) (by simp) _⟩
  · by_cases h8 : (8 : Int) < la
    · have d1 : decide ((la : Int) < 1) = false := by simpa using h1
      clear h
      go_enter Try.func82, Try.ntmps82
      go_wp2
      refine bodyPost_ret (v := .bool false) (by simp [results, Try.results82, go_sem]) rfl ?_
      exact ⟨rfl, by first | exact B2 | exact B2.setCell (p := ⟨w.heap.size + 1, 0, none⟩) (by simp) _⟩
    · have hne : la ≠ lb := fun e => h ⟨by omega, by omega, e⟩
      have d1 : decide ((la : Int) < 1) = false := by simpa using h1
      have d2 : decide ((8 : Int) < (la : Int)) = false := by simpa using h8
      have d3 : ((la : Int) == (lb : Int)) = false := by simp; omega
      have d4 : ((la : Int) != (lb : Int)) = true := by simp [bne, d3]
      clear h
      go_enter Try.func82, Try.ntmps82
      go_wp2
      refine bodyPost_ret (v := .bool false) (by simp [results, Try.results82, go_sem]) rfl ?_
      exact ⟨rfl, by first | exact B2 | exact B2.setCell (p := ⟨w.heap.size + 1, 0, none⟩) (by simp) _⟩

theorem OwnK.readP {w : World} {B g n cap : Nat} {xs : List Pt} (h : Pas w B (.slice (some ⟨g, 0, none⟩) n cap) xs) (hg : g < w.heap.size) : ReadP w.heap.size w g n xs :=
  ⟨hg, fun i hi => h.twoP i (by have := h.num; omega)⟩
theorem isListJ_any (va vb : Value) (B C : Nat) (a b : List Pt) (w : World) (h : PasP w B C va vb a b) :
    Calls Try.prog 82 #[.agg #[va, vb]] w fun e w' => e = .returned (.bool (okPL a b)) ∧ Below w.heap.size w w' := by
  by_cases hn : 1 ≤ a.length ∧ a.length ≤ 8 ∧ a.length = b.length
  · obtain ⟨ga, ca, rfl, _, hga, _, _⟩ := h.fst.shape2 hn.1
    obtain ⟨gb, cb, rfl, _, hgb, _, _⟩ := h.snd.shape2 (by omega)
    have hra := OwnK.readP h.fst hga
    have hrb := OwnK.readP h.snd hgb
    rw [← hn.2.2] at hrb ⊢
    exact callsIn_wide.1 (isListJ_row ga gb ca cb a.length a b w hn.1 hn.2.1 rfl hn.2.2 hra hrb)
  · rw [okPL_bad hn]
    obtain ⟨x, c, rfl⟩ := h.fst.sl
    obtain ⟨y, d, rfl⟩ := h.snd.sl
    exact isListJ_num x y _ c _ d w h.fst.len h.snd.len hn
end Go.Proofs.Ytjhhldfhfebboaa
