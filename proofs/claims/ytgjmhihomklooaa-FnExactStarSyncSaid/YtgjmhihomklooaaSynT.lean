/- Synchronous patterns, the model's, second part: valid patterns, collisions, comparisons, props, crossing throws, mirrors, slides. No conditions. -/
import Derived.Test.YtgjmhihomklooaaSynS
import Derived.Laws.StructEq
namespace Go.Proofs.Ytgjmhihomklooaa
open Go.RowKit
set_option linter.unusedSimpArgs false
set_option linter.unusedVariables false

theorem l05Ok_any (v : Value) (B : Nat) (p : List Syn) (w : World) (h : Syns w B v p) :
    Calls Try.prog 82 #[v] w fun e w' => e = .returned (.bool (okS p)) ∧ Below w.heap.size w w' := by
  have HL := l05List_any v B p w h
  cases hok : okSL p with
  | false =>
    rw [show okS p = false by simp [okS, hok]]
    rw [hok] at HL
    clear h
    go_enter Try.func82, Try.ntmps82
    go_wp2_with fail
    refine HL.mono ?_
    rintro e w1 ⟨rfl, b1⟩
    go_wp2
    go_ret
    exact ⟨rfl, b1⟩
  | true =>
    have HC := fun W (hW : Below w.heap.size w W) => l05Clash_any v B p W (h.below hW) hok
    have hc := cl1_neg (clash (lndS p) (2 * p.length))
    rw [show okS p = (clash (lndS p) (2 * p.length)).isNone by simp [okS, hok], ← hc]
    rw [hok] at HL
    clear h hc
    generalize cl1 (clash (lndS p) (2 * p.length)) = x at *
    generalize cl2 (clash (lndS p) (2 * p.length)) = y at *
    go_enter Try.func82, Try.ntmps82
    go_wp2_with fail
    refine HL.mono ?_
    rintro e w1 ⟨rfl, b1⟩
    clear HL
    go_wp2_with fail
    refine (HC _ b1).mono ?_
    rintro e w2 ⟨rfl, b2⟩
    replace b1 := b1.trans (b2.mono b1.size)
    clear HC b2
    go_wp2
    go_ret
    exact ⟨rfl, b1⟩

theorem cl3_neg {o : Option (Nat × Nat)} (h : cl1 o < 0) : cl1 o = -1 ∧ cl2 o = -1 ∧ cl3 o = 0 := by
  cases o with
  | none => exact ⟨rfl, rfl, rfl⟩
  | some x => simp only [cl1] at h; omega
theorem cl3_pos {o : Option (Nat × Nat)} (h : ¬ cl1 o < 0) : cl3 o = 9 := by
  cases o with
  | none => simp [cl1] at h
  | some x => rfl

theorem syncClash_spec (v : Value) (B : Nat) (p : List Syn) (w : World) (h : Syns w B v p) :
    Calls Try.prog 37 #[v] w fun e w' => e = .returned (.tuple #[.int .i64 (scA p), .int .i64 (scB p), .int .i64 (scC p)]) ∧ Below w.heap.size w w' := by
  have HL := l05List_any v B p w h
  cases hok : okSL p with
  | false =>
    obtain ⟨e1, e2, e3⟩ := sc_bad hok
    rw [e1, e2, e3]
    rw [hok] at HL
    clear h e1 e2 e3
    go_enter Try.func37, Try.ntmps37
    go_wp2_with fail
    refine HL.mono ?_
    rintro e w1 ⟨rfl, b1⟩
    go_wp2
    go_ret3
    exact ⟨rfl, b1⟩
  | true =>
    have HC := fun W (hW : Below w.heap.size w W) => l05Clash_any v B p W (h.below hW) hok
    obtain ⟨e1, e2, e3⟩ := sc_good hok
    rw [e1, e2, e3]
    rw [hok] at HL
    clear h e1 e2 e3
    generalize clash (lndS p) (2 * p.length) = o at *
    by_cases hn : cl1 o < 0
    · obtain ⟨e1, e2, e3⟩ := cl3_neg hn
      rw [e1, e2] at HC
      rw [e1, e2, e3]
      clear hn e1 e2 e3
      go_enter Try.func37, Try.ntmps37
      go_wp2_with fail
      refine HL.mono ?_
      rintro e w1 ⟨rfl, b1⟩
      clear HL
      go_wp2_with fail
      refine (HC _ b1).mono ?_
      rintro e w2 ⟨rfl, b2⟩
      replace b1 := b1.trans (b2.mono b1.size)
      clear HC b2
      go_wp2
      go_ret3
      exact ⟨rfl, b1⟩
    · rw [cl3_pos hn]
      have hn' : 0 ≤ cl1 o := by omega
      clear hn
      generalize cl1 o = x at *
      generalize cl2 o = y at *
      go_enter Try.func37, Try.ntmps37
      go_wp2_with fail
      refine HL.mono ?_
      rintro e w1 ⟨rfl, b1⟩
      clear HL
      go_wp2_with fail
      refine (HC _ b1).mono ?_
      rintro e w2 ⟨rfl, b2⟩
      replace b1 := b1.trans (b2.mono b1.size)
      clear HC b2
      go_wp2
      go_ret3
      exact ⟨rfl, b1⟩

/-! ### comparing -/
def sameS (p q : List Syn) : Bool := decide (p = q)
theorem syn_ext {a b : List Syn} (hl : a.length = b.length) (h : ∀ i, i < a.length → a.getD i s0 = b.getD i s0) : a = b := by
  apply List.ext_getElem hl
  intro i h1 h2
  have := h i h1
  simpa [h1, h2] using this
theorem sameS_bad {p q : List Syn} (i : Nat) (h : p.getD i s0 ≠ q.getD i s0) : sameS p q = false := by
  unfold sameS
  rw [decide_eq_false_iff_not]
  rintro rfl
  exact h rfl
theorem sameS_good {p q : List Syn} (hl : p.length = q.length) (h : ∀ i, i < p.length → p.getD i s0 = q.getD i s0) : sameS p q = true := decide_eq_true (syn_ext hl h)
theorem sameS_len {p q : List Syn} (hl : p.length ≠ q.length) : sameS p q = false := by
  unfold sameS
  rw [decide_eq_false_iff_not]
  rintro rfl
  exact hl rfl
/-- a beat as a value -/
def synA (s : Syn) : Value := .agg #[.int .i64 s.1.1, .bool s.1.2, .int .i64 s.2.1, .bool s.2.2]

set_option maxRecDepth 10000 in
theorem eq_thr (d : Nat) (a a' : Int) (b b' : Bool) (W : World) : (Op.equalIn (d + 2) 113 (.agg #[.int .i64 a, .bool b]) (.agg #[.int .i64 a', .bool b'])).run Try.prog W = .ok (decide ((a, b) = (a', b'))) W := by
  rw [run_equalIn_struct _ _ _ _ _ (by kernel_rfl) (by kernel_rfl)]
  have ha : decide ((a, b) = (a', b')) = (a == a' && b == b') := by
    by_cases h : a = a' <;> by_cases h' : b = b' <;> simp [h, h']
  rw [ha]
  simp [Program.fieldsOf, Try.underlying113, Try.underlying2, Try.underlying4, Op.eqFields, go_sem]
  by_cases h : a = a' <;> by_cases h' : b = b' <;> simp [h, h']
set_option maxRecDepth 10000 in
theorem neq_syn (s t : Syn) (W : World) : (binOp .neq 115 (synA s) (synA t)).run Try.prog W = .ok (.bool (decide (s ≠ t))) W := by
  obtain ⟨⟨a, b⟩, c, d⟩ := s
  obtain ⟨⟨a', b'⟩, c', d'⟩ := t
  have e1 := fun W => eq_thr 9997 a a' b b' W
  have e2 := fun W => eq_thr 9997 c c' d d' W
  rw [synA, synA, run_neq_struct, run_equalIn_struct _ _ _ _ _ (by kernel_rfl) (by kernel_rfl)]
  have ha : decide (((a, b), (c, d)) ≠ ((a', b'), (c', d'))) = !(decide ((a, b) = (a', b')) && decide ((c, d) = (c', d'))) := by
    by_cases h : (a, b) = (a', b') <;> by_cases h' : (c, d) = (c', d') <;> simp [h, h']
  rw [ha]
  generalize decide ((a, b) = (a', b')) = x at *
  generalize decide ((c, d) = (c', d')) = y at *
  clear ha
  simp [Program.fieldsOf, Try.underlying115, Try.underlying113, Op.eqFields, go_sem, e1, e2]
  cases x <;> cases y <;> simp [e2]

set_option maxRecDepth 10000 in
set_option maxHeartbeats 400000 in
theorem sameSync_row (g g' cap cap' n : Nat) (p q : List Syn) (w : World) (hn9 : n ≤ 9223372036854775807) (hn : n = p.length) (hn' : n = q.length) (hg : g < w.heap.size) (hg' : g' < w.heap.size) (hc : Beats w g n p) (hc' : Beats w g' n q) :
    Calls Try.prog 39 #[.slice (some ⟨g, 0, none⟩) n cap, .slice (some ⟨g', 0, none⟩) n cap'] w fun e w' => e = .returned (.bool (sameS p q)) ∧ Below w.heap.size w w' := by
  have HB := Lib.hid (fun i (h : p.getD i s0 ≠ q.getD i s0) => sameS_bad i h)
  have HG := Lib.hid (fun (h : ∀ i, i < n → p.getD i s0 = q.getD i s0) => sameS_good (p := p) (q := q) (by omega) fun i hi => h i (by omega))
  have HC := Lib.hid hc
  have HC' := Lib.hid hc'
  have hm : Try.prog.eqGuardType Try.prog.depth 115 = false := by kernel_rfl
  clear hc hc' hn hn'
  go_enter Try.func39, Try.ntmps39
  go_wp2
  go_loopw [5] (fun i wr => ∃ k : Nat, k ≤ n ∧ i = .int .i64 k ∧ Hid (∀ j, j < k → p.getD j s0 = q.getD j s0) ∧ Below w.heap.size w wr) (fun i _ => n - (intOf i).toNat)
  case atStart => exact ⟨0, Nat.zero_le _, rfl, fun j hj => absurd hj (Nat.not_lt_zero _), Below.refl _ _⟩
  case round =>
    obtain ⟨k, hk, rfl, hall, hb⟩ := hrel
    by_cases hlt : k < n
    · obtain ⟨c0, c1, c2, c3⟩ := (HC.out k hlt).below hb hg
      obtain ⟨d0, d1, d2, d3⟩ := (HC'.out k hlt).below hb hg'
      have HBK := Lib.hid (HB.out k)
      have HNX := Lib.hid (fun (h : p.getD k s0 = q.getD k s0) => show ∀ j, j < k + 1 → p.getD j s0 = q.getD j s0 from fun j hj => by
        by_cases e : j = k
        · subst e; exact h
        · exact hall.out j (by omega))
      clear HC HC' HB HG
      generalize p.getD k s0 = y at *
      generalize q.getD k s0 = z at *
      have HQ := fun W => neq_syn y z W
      obtain ⟨⟨y0, y1⟩, y2, y3⟩ := y
      obtain ⟨⟨z0, z1⟩, z2, z3⟩ := z
      simp only [synA] at c0 c1 c2 c3 d0 d1 d2 d3 HQ
      by_cases he : ((y0, y1), (y2, y3)) = ((z0, z1), (z2, z3))
      · have HN := Lib.hid (HNX.out he)
        rw [decide_eq_false (fun h => h he)] at HQ
        clear he HBK HNX
        go_wp2
        go_quiet (fail)
        all_goals go_wp2
        all_goals go_roundw
        case rel => exact ⟨k + 1, by omega, by go_num, HN, below_drewN hb _⟩
        case measure => simp [intOf]; omega
      · have HR := Lib.hid (HBK.out he)
        rw [decide_eq_true he] at HQ
        clear he HBK HNX
        go_wp2
        go_quiet (fail)
        all_goals go_wp2
        all_goals go_ret
        all_goals exact ⟨by rw [HR.out]; rfl, below_drewN hb _⟩
    · obtain rfl : k = n := by omega
      have HR := Lib.hid (HG.out hall.out)
      clear HC HC' HB HG hall
      go_wp2
      go_ret
      exact ⟨by rw [HR.out]; rfl, hb⟩

set_option maxRecDepth 10000 in
theorem sameSync_zero (a a' : Option Addr) (cap cap' : Nat) (w : World) :
    Calls Try.prog 39 #[.slice a 0 cap, .slice a' 0 cap'] w fun e w' => e = .returned (.bool true) ∧ Below w.heap.size w w' := by
  go_enter Try.func39, Try.ntmps39
  go_wp2
  refine wp_loop_rounds 1 ?_
  rw [rounds_succ]
  go_wp2
  go_ret
  exact ⟨rfl, Below.refl _ _⟩

set_option maxRecDepth 10000 in
theorem sameSync_diff (a a' : Option Addr) (n n' cap cap' : Nat) (w : World) (h : n ≠ n') (h1 : n ≤ 9223372036854775807) (h2 : n' ≤ 9223372036854775807) :
    Calls Try.prog 39 #[.slice a n cap, .slice a' n' cap'] w fun e w' => e = .returned (.bool false) ∧ Below w.heap.size w w' := by
  have hne : ((n : Int) != (n' : Int)) = true := by simp; omega
  clear h
  go_enter Try.func39, Try.ntmps39
  go_wp2
  go_ret
  exact ⟨rfl, Below.refl _ _⟩

theorem sameSync_spec (v : Value) (B : Nat) (p : List Syn) (u : Value) (B' : Nat) (q : List Syn) (w : World) (h : Syns w B v p) (h' : Syns w B' u q) :
    Calls Try.prog 39 #[v, u] w fun e w' => e = .returned (.bool (sameS p q)) ∧ Below w.heap.size w w' := by
  by_cases hl : p.length = q.length
  · rcases h.shape with ⟨rfl, rfl⟩ | ⟨g, cap, rfl, _, hg, _, _⟩
    · obtain ⟨a', cap', rfl⟩ := h'.sl
      have hq : q = [] := List.length_eq_zero_iff.1 hl.symm
      subst hq
      exact sameSync_zero none a' 0 cap' w
    · rcases h'.shape with ⟨rfl, rfl⟩ | ⟨g', cap', rfl, _, hg', _, _⟩
      · have hp : p = [] := List.length_eq_zero_iff.1 hl
        subst hp
        exact sameSync_zero _ none _ 0 w
      · have h2 := h'.beats
        rw [← hl] at h2 ⊢
        exact sameSync_row g g' cap cap' p.length p q w h.len rfl hl hg hg' h.beats h2
  · rw [sameS_len hl]
    obtain ⟨a, cap, rfl⟩ := h.sl
    obtain ⟨a', cap', rfl⟩ := h'.sl
    exact sameSync_diff _ _ _ _ _ _ w hl h.len h'.len

/-! ### props, crossing throws -/
theorem sumT_pair (l : List Thr) (a b : Thr) : sumT (l ++ [a, b]) = sumT l + (a.1 + b.1) := by
  rw [sumT, sumT, List.map_append, List.sum_append]; simp
theorem sumT_half (p : List Syn) (k : Nat) (hk : k < p.length) : sumT (thrs (p.take (k + 1))) = sumT (thrs (p.take k)) + ((p.getD k s0).1.1 + (p.getD k s0).2.1) := by
  rw [thrs_take p k hk, sumT_pair]
theorem okT_num {t : Thr} (h : okT t = true) : 0 ≤ t.1 ∧ t.1 ≤ 14 := (okT_iff.1 h).1
theorem sumT_halfs {p : List Syn} (h : okSL p = true) (k : Nat) (hk : k ≤ p.length) : 0 ≤ sumT (thrs (p.take k)) ∧ sumT (thrs (p.take k)) ≤ 28 * k := by
  induction k with
  | zero => simp [thrs, sumT]
  | succ k ih =>
    have h1 := ih (by omega)
    have h2 := okSL_at h k (by omega)
    have h3 := okT_num h2.1
    have h4 := okT_num h2.2
    rw [sumT_half p k (by omega)]
    omega

set_option maxRecDepth 10000 in
theorem field_cross (a : Int) (b : Bool) (W : World) : (Instr.field 113 (.agg #[.int .i64 a, .bool b]) 1).run Try.prog W = .ok (.bool b) W := by
  simp [Instr.field, asAgg, go_sem, Try.underlying113, Try.underlying4]
set_option maxRecDepth 10000 in
theorem field_value (a : Int) (b : Bool) (W : World) : (Instr.field 113 (.agg #[.int .i64 a, .bool b]) 0).run Try.prog W = .ok (.int .i64 a) W := by
  simp [Instr.field, asAgg, go_sem, Try.underlying113, Try.underlying2]

end Go.Proofs.Ytgjmhihomklooaa
