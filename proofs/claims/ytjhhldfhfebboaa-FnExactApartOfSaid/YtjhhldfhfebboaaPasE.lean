/- Passing patterns: comparing lists of throws, and SamePassing, the model's and the program's. No conditions. -/
import Derived.Test.YtjhhldfhfebboaaPasR
namespace Go.Proofs.Ytjhhldfhfebboaa
open Go.RowKit
set_option linter.unusedSimpArgs false
set_option linter.unusedVariables false

def sameP (p q : List Pt) : Bool := decide (p = q)
theorem pt_ext {a b : List Pt} (hl : a.length = b.length) (h : ∀ i, i < a.length → a.getD i p0 = b.getD i p0) : a = b := by
  apply List.ext_getElem hl
  intro i h1 h2
  have := h i h1
  simpa [h1, h2] using this
theorem sameP_bad {p q : List Pt} (i : Nat) (h : p.getD i p0 ≠ q.getD i p0) : sameP p q = false := by
  unfold sameP
  rw [decide_eq_false_iff_not]
  rintro rfl
  exact h rfl
theorem sameP_good {p q : List Pt} (hl : p.length = q.length) (h : ∀ i, i < p.length → p.getD i p0 = q.getD i p0) : sameP p q = true := decide_eq_true (pt_ext hl h)
theorem sameP_len {p q : List Pt} (hl : p.length ≠ q.length) : sameP p q = false := by
  unfold sameP
  rw [decide_eq_false_iff_not]
  rintro rfl
  exact hl rfl
def ptA (s : Pt) : Value := .agg #[.int .i64 s.1, .bool s.2]
set_option maxRecDepth 10000 in
theorem eq_pt (d : Nat) (a a' : Int) (b b' : Bool) (W : World) : (Op.equalIn (d + 2) 67 (.agg #[.int .i64 a, .bool b]) (.agg #[.int .i64 a', .bool b'])).run Try.prog W = .ok (decide ((a, b) = (a', b'))) W := by
  rw [run_equalIn_struct _ _ _ _ _ (by kernel_rfl) (by kernel_rfl)]
  have ha : decide ((a, b) = (a', b')) = (a == a' && b == b') := by
    by_cases h : a = a' <;> by_cases h' : b = b' <;> simp [h, h']
  rw [ha]
  simp [Program.fieldsOf, Try.underlying67, Try.underlying2, Try.underlying4, Op.eqFields, go_sem]
  by_cases h : a = a' <;> by_cases h' : b = b' <;> simp [h, h']
set_option maxRecDepth 10000 in
theorem neq_pt (s t : Pt) (W : World) : (binOp .neq 67 (ptA s) (ptA t)).run Try.prog W = .ok (.bool (decide (s ≠ t))) W := by
  obtain ⟨a, b⟩ := s
  obtain ⟨a', b'⟩ := t
  have e1 := eq_pt 9998 a a' b b' W
  have ha : decide ((a, b) ≠ (a', b')) = !(decide ((a, b) = (a', b'))) := by
    by_cases h : (a, b) = (a', b') <;> simp [h]
  rw [ptA, ptA, run_neq_struct, e1, ha]
  rfl

set_option maxRecDepth 10000 in
set_option maxHeartbeats 400000 in
theorem l06Same_row (g g' cap cap' n : Nat) (p q : List Pt) (w : World) (hn9 : n ≤ 9223372036854775807) (hn : n = p.length) (hn' : n = q.length) (hg : g < w.heap.size) (hg' : g' < w.heap.size) (hc : ∀ i, i < n → TwoP w g (i * 2) (p.getD i p0)) (hc' : ∀ i, i < n → TwoP w g' (i * 2) (q.getD i p0)) :
    Calls Try.prog 80 #[.slice (some ⟨g, 0, none⟩) n cap, .slice (some ⟨g', 0, none⟩) n cap'] w fun e w' => e = .returned (.bool (sameP p q)) ∧ Below w.heap.size w w' := by
  have HB := Lib.hid (fun i (h : p.getD i p0 ≠ q.getD i p0) => sameP_bad i h)
  have HG := Lib.hid (fun (h : ∀ i, i < n → p.getD i p0 = q.getD i p0) => sameP_good (p := p) (q := q) (by omega) fun i hi => h i (by omega))
  have HC := Lib.hid hc
  have HC' := Lib.hid hc'
  have hm : Try.prog.eqGuardType Try.prog.depth 67 = false := by kernel_rfl
  clear hc hc' hn hn'
  go_enter Try.func80, Try.ntmps80
  go_wp2
  go_loopw [5] (fun i wr => ∃ k : Nat, k ≤ n ∧ i = .int .i64 k ∧ Hid (∀ j, j < k → p.getD j p0 = q.getD j p0) ∧ Below w.heap.size w wr) (fun i _ => n - (intOf i).toNat)
  case atStart => exact ⟨0, Nat.zero_le _, rfl, fun j hj => absurd hj (Nat.not_lt_zero _), Below.refl _ _⟩
  case round =>
    obtain ⟨k, hk, rfl, hall, hb⟩ := hrel
    by_cases hlt : k < n
    · obtain ⟨c0, c1⟩ := (HC.out k hlt).below hb hg
      obtain ⟨d0, d1⟩ := (HC'.out k hlt).below hb hg'
      have HBK := Lib.hid (HB.out k)
      have HNX := Lib.hid (fun (h : p.getD k p0 = q.getD k p0) => show ∀ j, j < k + 1 → p.getD j p0 = q.getD j p0 from fun j hj => by
        by_cases e : j = k
        · subst e; exact h
        · exact hall.out j (by omega))
      clear HC HC' HB HG
      generalize p.getD k p0 = y at *
      generalize q.getD k p0 = z at *
      have HQ := fun W => neq_pt y z W
      obtain ⟨y0, y1⟩ := y
      obtain ⟨z0, z1⟩ := z
      simp only [ptA] at c0 c1 d0 d1 HQ
      by_cases he : (y0, y1) = (z0, z1)
      · have HN := Lib.hid (HNX.out he)
        rw [decide_eq_false (fun h => h he)] at HQ
        clear he HBK HNX
        go_wp2
        go_quiet (fail)
        all_goals go_wp2
        all_goals go_roundw
        case rel => exact ⟨k + 1, by omega, by go_num, HN, below_drewN hb _⟩
        case measure => simp [intOf]; omega
      · have HR := Lib.hid (HBK.out he)
        rw [decide_eq_true he] at HQ
        clear he HBK HNX
        go_wp2
        go_quiet (fail)
        all_goals go_wp2
        all_goals go_ret
        all_goals exact ⟨by rw [HR.out]; rfl, below_drewN hb _⟩
    · obtain rfl : k = n := by omega
      have HR := Lib.hid (HG.out hall.out)
      clear HC HC' HB HG hall
      go_wp2
      go_ret
      exact ⟨by rw [HR.out]; rfl, hb⟩

set_option maxRecDepth 10000 in
theorem l06Same_zero (a a' : Option Addr) (cap cap' : Nat) (w : World) :
    Calls Try.prog 80 #[.slice a 0 cap, .slice a' 0 cap'] w fun e w' => e = .returned (.bool true) ∧ Below w.heap.size w w' := by
  go_enter Try.func80, Try.ntmps80
  go_wp2
  refine wp_loop_rounds 1 ?_
  rw [rounds_succ]
  go_wp2
  go_ret
  exact ⟨rfl, Below.refl _ _⟩

set_option maxRecDepth 10000 in
theorem l06Same_diff (a a' : Option Addr) (n n' cap cap' : Nat) (w : World) (h : n ≠ n') (h1 : n ≤ 9223372036854775807) (h2 : n' ≤ 9223372036854775807) :
    Calls Try.prog 80 #[.slice a n cap, .slice a' n' cap'] w fun e w' => e = .returned (.bool false) ∧ Below w.heap.size w w' := by
  have hne : ((n : Int) != (n' : Int)) = true := by simp; omega
  clear h
  go_enter Try.func80, Try.ntmps80
  go_wp2
  go_ret
  exact ⟨rfl, Below.refl _ _⟩

theorem l06Same_spec (v : Value) (B : Nat) (p : List Pt) (u : Value) (B' : Nat) (q : List Pt) (w : World) (h : Pas w B v p) (h' : Pas w B' u q) :
    Calls Try.prog 80 #[v, u] w fun e w' => e = .returned (.bool (sameP p q)) ∧ Below w.heap.size w w' := by
  by_cases hl : p.length = q.length
  · rcases h.shape with ⟨rfl, rfl⟩ | ⟨g, cap, rfl, _, hg, _, _⟩
    · obtain ⟨a', cap', rfl⟩ := h'.sl
      have hq : q = [] := List.length_eq_zero_iff.1 hl.symm
      subst hq
      exact l06Same_zero none a' 0 cap' w
    · rcases h'.shape with ⟨rfl, rfl⟩ | ⟨g', cap', rfl, _, hg', _, _⟩
      · have hp : p = [] := List.length_eq_zero_iff.1 hl
        subst hp
        exact l06Same_zero _ none _ 0 w
      · have h2 : ∀ i, i < q.length → TwoP w g' (i * 2) (q.getD i p0) := fun i hi => h'.twoP i hi
        rw [← hl] at h2 ⊢
        exact l06Same_row g g' cap cap' p.length p q w h.len rfl hl hg hg' (fun i hi => h.twoP i hi) h2
  · rw [sameP_len hl]
    obtain ⟨a, cap, rfl⟩ := h.sl
    obtain ⟨a', cap', rfl⟩ := h'.sl
    exact l06Same_diff _ _ _ _ _ _ w hl h.len h'.len

set_option maxRecDepth 10000 in
theorem samePassing_spec (va vb : Value) (B C : Nat) (a b : List Pt) (ua ub : Value) (B' C' : Nat) (a' b' : List Pt) (w : World) (h : PasP w B C va vb a b) (h' : PasP w B' C' ua ub a' b') :
    Calls Try.prog 39 #[.agg #[va, vb], .agg #[ua, ub]] w fun e w' => e = .returned (.bool (sameP a a' && sameP b b')) ∧ Below w.heap.size w w' := by
  have HA := fun W (hW : Below w.heap.size w W) => l06Same_spec va B a ua B' a' W (h.fst.below hW) (h'.fst.below hW)
  have HB := fun W (hW : Below w.heap.size w W) => l06Same_spec vb B b ub B' b' W (h.snd.below hW) (h'.snd.below hW)
  have b0 := ((Below.refl w.heap.size w).alloc (Nat.le_refl _) (.cells #[va, vb] 31)).alloc (by simp) (.cells #[ua, ub] 31)
  clear h h'
  generalize sameP a a' = r at *
  generalize sameP b b' = s at *
  cases r with
  | false =>
    go_enter Try.func39, Try.ntmps39
    go_wp2_with fail
    refine (HA _ b0).mono ?_
    rintro e w1 ⟨rfl, b1⟩
    obtain ⟨p1, q1, b1⟩ := two_blkP w w1 _ _ _ _ b1
    clear p1 q1
    go_wp2
    go_ret
    exact ⟨rfl, b1⟩
  | true =>
    go_enter Try.func39, Try.ntmps39
    go_wp2_with fail
    refine (HA _ b0).mono ?_
    rintro e w1 ⟨rfl, b1⟩
    obtain ⟨p1, q1, b1⟩ := two_blkP w w1 _ _ _ _ b1
    have c1 := p1.cell 1
    have d1 := q1.cell 1
    simp at c1 d1
    clear p1 q1
    go_wp2_with fail
    refine (HB _ b1).mono ?_
    rintro e w2 ⟨rfl, b2⟩
    replace b1 := b1.trans (b2.mono b1.size)
    clear b2 c1 d1
    go_wp2
    go_ret
    exact ⟨by first | rfl | simp, b1⟩

end Go.Proofs.Ytjhhldfhfebboaa
