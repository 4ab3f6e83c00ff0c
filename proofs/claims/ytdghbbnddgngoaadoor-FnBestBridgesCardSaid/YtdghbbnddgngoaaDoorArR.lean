/- slices.Repeat of a list of one number: as often as asked. Conditions: at most 2000 times. -/
import Derived.Test.YtdghbbnddgngoaaDoorArK
import Derived.Laws.IdiomCopy
namespace Go.Proofs.YtdghbbnddgngoaaDoor
open Go.RowKit
set_option linter.unusedSimpArgs false
set_option linter.unusedVariables false

theorem and_u64 (n : Nat) (h : n ≤ 2000) : bits .and .u64 (n : Int) 4294967295 = (n : Int) := by
  rw [show (4294967295 : Int) = ((4294967295 : Nat) : Int) from rfl, u64_and_nat n 4294967295 (by omega) (by omega)]
  have h9 := Nat.and_two_pow_sub_one_eq_mod n 32
  have h8 : (2 : Nat) ^ 32 - 1 = 4294967295 := by decide
  rw [h8] at h9
  rw [h9, Nat.mod_eq_of_lt (by omega)]
set_option maxRecDepth 10000 in
theorem mul64_one (n : Nat) (w : World) (hn : n ≤ 2000) :
    Calls Tryd.prog 106 #[.int .u64 1, .int .u64 n] w fun e w' => e = .returned (.tuple #[.int .u64 0, .int .u64 n]) ∧ w = w' := by
  have h1 := and_u64 n hn
  have h2 : (n : Int) / 4294967296 = 0 := by omega
  have h3 : bits .and .u64 1 4294967295 = (1 : Int) := by decide
  have h4 : (1 : Int) / 4294967296 = 0 := by decide
  have h5 : bits .and .u64 0 4294967295 = (0 : Int) := by decide
  go_enter Tryd.func106, Tryd.ntmps106
  go_wp2
  go_ret2
  exact ⟨rfl, rfl⟩
theorem mul_one' (n : Nat) (w : World) (hn : n ≤ 2000) :
    Calls Tryd.prog 79 #[.int .u64 1, .int .u64 n] w fun e w' => e = .returned (.tuple #[.int .u64 0, .int .u64 n]) ∧ w = w' := by
  have HM := mul64_one n w hn
  go_enter Tryd.func79, Tryd.ntmps79
  go_wp2_with fail
  refine HM.mono ?_
  rintro e w1 ⟨rfl, rfl⟩
  go_wp2
  go_ret2
  exact ⟨rfl, rfl⟩

theorem elem_rowQ : Tryd.prog.elem 24 = 2 := by kernel_rfl
theorem size_rowQ (W : World) : (sizeOf 2).run Tryd.prog W = .ok 1 W := by kernel_rfl
theorem slice_from (g k n : Nat) (W : World) (hk : k < n) (hn : n ≤ 2000) : (Instr.slice 24 (.slice (some ⟨g, 0, none⟩) n n) (some (.int .i64 (k : Int))) none none).run Tryd.prog W = .ok (.slice (some ⟨g, k, none⟩) (n - k) (n - k)) W := by
  have h1 := run_slice_l (P := Tryd.prog) (w := W) 24 (some ⟨g, 0, none⟩) n n (by rw [elem_rowQ]; exact Tryd.underlying24) .i64 (k : Int) (by omega) (by omega)
  rw [h1, elem_rowQ, size_rowQ]
  have hne : ¬ n = k := by omega
  have hadd : (⟨g, 0, none⟩ : Addr).add k = ⟨g, k, none⟩ := by unfold Addr.add; split <;> simp_all
  simp [Result.andThen, sliced, hne, hadd]
theorem slice_upto (g k n : Nat) (W : World) (h0 : 0 < k) (hk : k < n) (hn : n ≤ 2000) : (Instr.slice 24 (.slice (some ⟨g, 0, none⟩) n n) none (some (.int .i64 (k : Int))) none).run Tryd.prog W = .ok (.slice (some ⟨g, 0, none⟩) k n) W := by
  have h1 := run_slice_h (P := Tryd.prog) (w := W) 24 (some ⟨g, 0, none⟩) n n (by rw [elem_rowQ]; exact Tryd.underlying24) .i64 (k : Int) (by omega) (by omega)
  rw [h1, elem_rowQ, size_rowQ]
  simp [Result.andThen, sliced, Addr.add]
theorem Tryd.size64 : (Tryd.prog.info? 2).map (·.size) = some 1 := by kernel_rfl
/-- cells in a row of the call's own, written from a place on -/
theorem Ints.setCells {B g n cap : Nat} : ∀ (ys : List Int) (o : Nat) {w : World} {xs : List Int}, Ints w B (.slice (some ⟨g, 0, none⟩) n cap) xs → o + ys.length ≤ xs.length →
    Ints (w.setCells g o (ys.map (Value.int .i64))) B (.slice (some ⟨g, 0, none⟩) n cap) (xs.take o ++ ys ++ xs.drop (o + ys.length)) ∧ w.grownBy (w.setCells g o (ys.map (Value.int .i64))) (some g) := by
  intro ys
  induction ys with
  | nil =>
    intro o w xs h ho
    refine ⟨?_, World.grownBy.refl _ _⟩
    show Ints w B _ _
    simpa using h
  | cons y ys ih =>
    intro o w xs h ho
    have h1 := h.set o y
    simp only [List.length_cons] at ho
    obtain ⟨h2, h3⟩ := ih (o + 1) h1 (by rw [List.length_set]; omega)
    have e : (xs.set o y).take (o + 1) ++ ys ++ (xs.set o y).drop (o + 1 + ys.length) = xs.take o ++ (y :: ys) ++ xs.drop (o + (ys.length + 1)) := by
      have e1 : (xs.set o y).take (o + 1) = xs.take o ++ [y] := by
        have e3 : (xs.set o y).take o = xs.take o := by
          apply List.ext_getElem?
          intro i
          by_cases hi : i < o
          · rw [List.getElem?_take_of_lt hi, List.getElem?_take_of_lt hi, List.getElem?_set_ne (by omega)]
          · rw [List.getElem?_eq_none (by simp; omega), List.getElem?_eq_none (by simp; omega)]
        rw [List.take_succ_eq_append_getElem (by rw [List.length_set]; omega), e3]
        simp
      have e2 : (xs.set o y).drop (o + 1 + ys.length) = xs.drop (o + (ys.length + 1)) := by
        rw [List.drop_set_of_lt (by omega)]
        congr 1; omega
      rw [e1, e2]; simp
    rw [e] at h2
    exact ⟨h2, grown_far (grown_set (World.grownBy.refl w _) o _) h3 fun g' e => .inr e⟩

/-- the first copies, and what is not written yet -/
def rptL (x : Int) (n k : Nat) : List Int := List.replicate k x ++ List.replicate (n - k) 0
theorem rptL_len (x : Int) {n k : Nat} (hk : k ≤ n) : (rptL x n k).length = n := by simp [rptL]; omega
theorem rptL_step (x : Int) {n k m : Nat} (hk : k + m ≤ n) : (rptL x n k).take k ++ List.replicate m x ++ (rptL x n k).drop (k + m) = rptL x n (k + m) := by
  unfold rptL
  have e1 : (List.replicate k x ++ List.replicate (n - k) 0).take k = List.replicate k x := by
    rw [List.take_append_of_le_length (by simp)]; simp
  have e2 : (List.replicate k x ++ List.replicate (n - k) 0).drop (k + m) = List.replicate (n - (k + m)) 0 := by
    rw [List.drop_append]
    simp
    omega
  rw [e1, e2, List.replicate_append_replicate]
theorem rptL_at (x : Int) {n k j : Nat} (hj : j < k) : (rptL x n k).getD j 0 = x := by
  unfold rptL
  rw [List.getD_eq_getElem?_getD, List.getElem?_append_left (by simpa using hj)]
  simp [hj]

set_option maxRecDepth 10000 in
set_option maxHeartbeats 2000000 in
theorem repeat_any (xb : Nat) (x : Int) (n : Nat) (w : World) (h1 : 1 ≤ n) (hn : n ≤ 2000) (hx : w.cell? ⟨xb, 0, none⟩ = some (.int .i64 x)) :
    Calls Tryd.prog 54 #[.slice (some ⟨xb, 0, none⟩) 1 1, .int .i64 n] w fun e w' => ∃ g, e = .returned (.slice (some ⟨g, 0, none⟩) n n) ∧ Ints w' w.heap.size (.slice (some ⟨g, 0, none⟩) n n) (List.replicate n x) ∧ Below w.heap.size w w' := by
  obtain ⟨i0, hi, hz0, hz1, hz2⟩ := info_parts Tryd.info64
  have HM := mul_one' n w hn
  have hlo : decide ((9223372036854775807 : Int) < (n : Int)) = false := by simp; omega
  go_enter Tryd.func54, Tryd.ntmps54
  go_wp2_with fail
  refine HM.mono ?_
  rintro e w0 ⟨rfl, rfl⟩
  clear HM
  go_wp2_with (at_make; refine wpList_make_full _ rfl _ _ 24 rfl w.heap.size 2 i0 (.int .i64 0) 1 Tryd.underlying24 hi hz0 hz1 _ _ _ _ n rfl rfl rfl rfl (by rw [hz2]; omega) (by unfold maxLen; omega) (Nat.le_refl _) ?_; intro w1 hown hg; refine Hid.out ?_)
  have hI : Ints w1 w.heap.size (.slice (some ⟨w.heap.size, 0, none⟩) n n) (rptL x n 0) := by
    unfold Ints rptL
    simpa [toList_madeCells_one, Value.cells, rptL] using hown
  have b1 : Below w.heap.size w w1 := (Below.refl _ _).grown hg (Nat.le_refl _) (by simp)
  obtain ⟨g, hgw⟩ : ∃ g, g = w.heap.size := ⟨_, rfl⟩
  rw [← hgw]
  have hgB : w.heap.size ≤ g := by omega
  have hI : Ints w1 w.heap.size (.slice (some ⟨g, 0, none⟩) n n) (rptL x n 0) := by rw [hgw]; exact hI
  clear hgw hown hg
  have hc0 := (b1.cell (p := ⟨xb, 0, none⟩) (cell_block hx)).trans hx
  have hcp : ∀ ty, (Builtin.copy_ #[24, 24] ty #[.slice (some ⟨g, 0, none⟩) n n, .slice (some ⟨xb, 0, none⟩) 1 1]).run Tryd.prog w1 = .ok (.int .i64 1) (w1.setCells g 0 ([x].map (Value.int .i64))) := fun ty => by
    refine (run_copy_cells w1 24 24 ty 2 g 0 n n ⟨xb, 0, none⟩ 1 1 ([x].map (Value.int .i64)) Tryd.underlying24 Tryd.size64 (by rw [show Nat.min 1 n = min 1 n from rfl]; simp; omega) ?_ ?_ ?_ ?_).trans (by rfl)
    · intro j v hj
      match j, hj with
      | 0, hj => simp at hj; subst hj; simpa [Addr.add] using hc0
    · intro j hj
      obtain rfl : j = 0 := by simp at hj; exact hj
      have := hI.cell 0 (by rw [rptL_len x (by omega)]; omega)
      simp [this]
    · intro j hj
      exact hI.free _
    · intro v hv; simp at hv; subst hv; rfl
  obtain ⟨I1, g1⟩ := Ints.setCells [x] 0 hI (by rw [rptL_len x (by omega)]; simpa using h1)
  have hst := rptL_step x (n := n) (k := 0) (m := 1) (by omega)
  simp only [List.replicate_one] at hst
  have I1 : Ints (w1.setCells g 0 ([x].map (Value.int .i64))) w.heap.size (.slice (some ⟨g, 0, none⟩) n n) (rptL x n 1) := by
    rw [← hst]; simpa using I1
  have B1 : Below w.heap.size w (w1.setCells g 0 ([x].map (Value.int .i64))) := b1.grown g1 b1.size (fun q e => by cases e; exact hgB)
  obtain ⟨W, hW⟩ : ∃ W, w1.setCells g 0 ([x].map (Value.int .i64)) = W := ⟨_, rfl⟩
  rw [hW] at hcp I1 B1
  clear hI g1 hst hW hc0
  refine Lib.hid ?_
  go_wp2
  go_loopw [8] (fun i wr => ∃ k : Nat, 1 ≤ k ∧ k ≤ n ∧ i = .int .i64 k ∧ Ints wr w.heap.size (.slice (some ⟨g, 0, none⟩) n n) (rptL x n k) ∧ Below w.heap.size w wr) (fun i _ => n - (intOf i).toNat)
  case atStart => exact ⟨1, Nat.le_refl _, h1, rfl, I1, B1⟩
  case round =>
    clear I1 B1 hcp b1
    obtain ⟨k, hk1, hk, rfl, hI, hb⟩ := hrel
    by_cases hlt : k < n
    · have hlt' : decide (k < n) = true := decide_eq_true hlt
      obtain ⟨m, hm⟩ : ∃ m, min k (n - k) = m := ⟨_, rfl⟩
      have hm1 : 1 ≤ m ∧ m ≤ k ∧ k + m ≤ n := by omega
      have hs1 := fun W => slice_from g k n W hlt hn
      have hs2 := fun W => slice_upto g k n W (by omega) hlt hn
      have hcp : ∀ ty, (Builtin.copy_ #[24, 24] ty #[.slice (some ⟨g, k, none⟩) (n - k) (n - k), .slice (some ⟨g, 0, none⟩) k n]).run Tryd.prog wr.drew = .ok (.int .i64 m) (wr.drew.setCells g k ((List.replicate m x).map (Value.int .i64))) := fun ty => by
        refine (run_copy_cells wr.drew 24 24 ty 2 g k (n - k) (n - k) ⟨g, 0, none⟩ k n ((List.replicate m x).map (Value.int .i64)) Tryd.underlying24 Tryd.size64 (by rw [show Nat.min k (n - k) = min k (n - k) from rfl]; simp; omega) ?_ ?_ ?_ ?_).trans (by simp [goInt])
        · intro j v hj
          have hjm : j < m := by have := (List.getElem?_eq_some_iff.1 hj).1; simpa using this
          have hc := hI.cell j (by rw [rptL_len x hk]; omega)
          rw [rptL_at x (by omega)] at hc
          have hadd : (⟨g, 0, none⟩ : Addr).add j = ⟨g, j, none⟩ := by unfold Addr.add; split <;> simp_all
          rw [hadd]
          simp [hjm] at hj
          rw [← hj]
          exact hc
        · intro j hj
          have hjm : j < m := by simpa using hj
          have hc := hI.cell (k + j) (by rw [rptL_len x hk]; omega)
          show (wr.cell? _).isSome = true
          rw [hc]; rfl
        · intro j hj
          exact hI.free _
        · intro v hv
          simp at hv
          rw [hv.2]; rfl
      obtain ⟨I1, g1⟩ := Ints.setCells (List.replicate m x) k (w := wr.drew) hI (by rw [rptL_len x hk]; simp; omega)
      have hst := rptL_step x hm1.2.2
      simp only [List.length_replicate] at I1
      rw [hst] at I1
      have B1 : Below w.heap.size w (wr.drew.setCells g k ((List.replicate m x).map (Value.int .i64))) := (Below.drew hb).grown g1 hb.size (fun q e => by cases e; exact hgB)
      rw [List.map_replicate] at I1 B1
      simp only [List.map_replicate] at hcp
      have HI1 := Lib.hid I1
      have HB1 := Lib.hid B1
      clear hI hb I1 B1 g1 hst
      have hwr : IntKind.i64.wrap ((k : Int) + (m : Int)) = (k : Int) + (m : Int) := IntWalk.i64_in _ (by omega)
      go_upto_region 9 with fail
      refine wp_region_held_drew (S := (fun W' => True)) (by kernel_rfl) ?_ (fun hHeld => ?_)
      · (try dsimp only); (first | trivial | skip)
      refine wpAnyH_take (i := 0) (oi := { dst := some 38, op := Go.Op.move (Go.Operand.tmp 8), type := 3, pos := "slices.go:528", after := #[], guard := none }) (v := ?_) rfl (by kernel_rfl) (by kernel_rfl) (by kernel_rfl) (fun _ _ _ h => h) (Or.inl ⟨by rfl, ?_⟩) (by assumption) ?_
      rotate_left
      · (intro w hSw; (try dsimp only at hSw); go_simp); (try with_reducible rfl)
      try simp only [Act.put, List.setIfInBounds_toArray, List.set_cons_zero, List.set_cons_succ]
      refine wpAnyH_take (i := 1) (oi := { dst := some 39, op := Go.Op.move (Go.Operand.tmp 7), type := 24, pos := "slices.go:528", after := #[], guard := none }) (v := ?_) rfl (by kernel_rfl) (by kernel_rfl) (by kernel_rfl) (fun _ _ _ h => h) (Or.inl ⟨by rfl, ?_⟩) (by assumption) ?_
      rotate_left
      · (intro w hSw; (try dsimp only at hSw); go_simp); (try with_reducible rfl)
      try simp only [Act.put, List.setIfInBounds_toArray, List.set_cons_zero, List.set_cons_succ]
      refine wpAnyH_take (i := 2) (oi := { dst := some 40, op := Go.Op.move (Go.Operand.tmp 8), type := 3, pos := "slices.go:528", after := #[], guard := none }) (v := ?_) rfl (by kernel_rfl) (by kernel_rfl) (by kernel_rfl) (fun _ _ _ h => h) (Or.inl ⟨by rfl, ?_⟩) (by assumption) ?_
      rotate_left
      · (intro w hSw; (try dsimp only at hSw); go_simp); (try with_reducible rfl)
      try simp only [Act.put, List.setIfInBounds_toArray, List.set_cons_zero, List.set_cons_succ]
      refine wpAnyH_take (i := 3) (oi := { dst := some 41, op := Go.Op.slice 24 (Go.Operand.tmp 39) (some (Go.Operand.tmp 40)) none none, type := 24, pos := "slices.go:528", after := #[{ on := 1, ground := Go.Ground.data }, { on := 2, ground := Go.Ground.data }], guard := none }) (v := ?_) rfl (by kernel_rfl) (by kernel_rfl) (by kernel_rfl) (fun _ _ _ h => h) (Or.inl ⟨by rfl, ?_⟩) (by assumption) ?_
      rotate_left
      · (intro w hSw; (try dsimp only at hSw); go_simp); (try with_reducible rfl)
      try simp only [Act.put, List.setIfInBounds_toArray, List.set_cons_zero, List.set_cons_succ]
      refine wpAnyH_take (i := 4) (oi := { dst := some 42, op := Go.Op.move (Go.Operand.tmp 7), type := 24, pos := "slices.go:528", after := #[], guard := none }) (v := ?_) rfl (by kernel_rfl) (by kernel_rfl) (by kernel_rfl) (fun _ _ _ h => h) (Or.inl ⟨by rfl, ?_⟩) (by assumption) ?_
      rotate_left
      · (intro w hSw; (try dsimp only at hSw); go_simp); (try with_reducible rfl)
      try simp only [Act.put, List.setIfInBounds_toArray, List.set_cons_zero, List.set_cons_succ]
      refine wpAnyH_take (i := 5) (oi := { dst := some 43, op := Go.Op.move (Go.Operand.tmp 8), type := 3, pos := "slices.go:528", after := #[], guard := none }) (v := ?_) rfl (by kernel_rfl) (by kernel_rfl) (by kernel_rfl) (fun _ _ _ h => h) (Or.inl ⟨by rfl, ?_⟩) (by assumption) ?_
      rotate_left
      · (intro w hSw; (try dsimp only at hSw); go_simp); (try with_reducible rfl)
      try simp only [Act.put, List.setIfInBounds_toArray, List.set_cons_zero, List.set_cons_succ]
      refine wpAnyH_take (i := 6) (oi := { dst := some 44, op := Go.Op.slice 24 (Go.Operand.tmp 42) none (some (Go.Operand.tmp 43)) none, type := 24, pos := "slices.go:528", after := #[{ on := 4, ground := Go.Ground.data }, { on := 5, ground := Go.Ground.data }], guard := none }) (v := ?_) rfl (by kernel_rfl) (by kernel_rfl) (by kernel_rfl) (fun _ _ _ h => h) (Or.inl ⟨by rfl, ?_⟩) (by assumption) ?_
      rotate_left
      · (intro w hSw; (try dsimp only at hSw); go_simp); (try with_reducible rfl)
      try simp only [Act.put, List.setIfInBounds_toArray, List.set_cons_zero, List.set_cons_succ]
      refine wpAnyH_ready (rs := [7]) (by kernel_rfl) (by simp) ?_
      refine AllReadyH.cons (o := { dst := some 45, op := Go.Op.call { callee := Go.Callee.builtin Go.Builtin.copy, args := #[Go.Operand.tmp 41, Go.Operand.tmp 44], argTypes := #[24, 24] }, type := 3, pos := "slices.go:528", after := #[{ on := 3, ground := Go.Ground.data }, { on := 6, ground := Go.Ground.data }], guard := none }) rfl (fun K hK => ?_) AllReadyH.nil
      go_simp
      refine hK.out _ _ ?_ (fun hHeld2 => ?_)
      · (try dsimp only); (first | trivial | skip)
      clear hK K hHeld
      have hHeld := hHeld2
      clear hHeld2
      try simp only [Act.put, List.setIfInBounds_toArray, List.set_cons_zero, List.set_cons_succ]
      refine wpAnyH_take (i := 8) (oi := { dst := some 46, op := Go.Op.binOp Go.BinOp.add 3 (Go.Operand.tmp 38) (Go.Operand.tmp 45) 3, type := 3, pos := "slices.go:528", after := #[{ on := 0, ground := Go.Ground.data }, { on := 7, ground := Go.Ground.data }], guard := none }) (v := ?_) rfl (by kernel_rfl) (by kernel_rfl) (by kernel_rfl) (fun _ _ _ h => h) (Or.inl ⟨by rfl, ?_⟩) (by assumption) ?_
      rotate_left
      · (intro w hSw; (try dsimp only at hSw); go_simp); (try with_reducible rfl)
      try simp only [Act.put, List.setIfInBounds_toArray, List.set_cons_zero, List.set_cons_succ]
      refine wpAnyH_take (i := 9) (oi := { dst := some 8, op := Go.Op.assign (Go.Operand.tmp 46), type := 3, pos := "slices.go:528", after := #[{ on := 8, ground := Go.Ground.data }, { on := 7, ground := Go.Ground.chain }, { on := 0, ground := Go.Ground.phase }, { on := 1, ground := Go.Ground.phase }, { on := 2, ground := Go.Ground.phase }, { on := 3, ground := Go.Ground.phase }, { on := 4, ground := Go.Ground.phase }, { on := 5, ground := Go.Ground.phase }, { on := 6, ground := Go.Ground.phase }, { on := 7, ground := Go.Ground.phase }, { on := 8, ground := Go.Ground.phase }], guard := none }) (v := ?_) rfl (by kernel_rfl) (by kernel_rfl) (by kernel_rfl) (fun _ _ _ h => h) (Or.inl ⟨by rfl, ?_⟩) (by assumption) ?_
      rotate_left
      · (intro w hSw; (try dsimp only at hSw); go_simp); (try with_reducible rfl)
      try simp only [Act.put, List.setIfInBounds_toArray, List.set_cons_zero, List.set_cons_succ]
      refine wpAnyH_done (by kernel_rfl) ?_ _
      go_wp2
      go_roundw
      case rel => exact ⟨k + m, by omega, by omega, by go_num, HI1.out, HB1.out⟩
      case measure => simp [intOf]; omega
    · obtain rfl : k = n := by omega
      have e : rptL x k k = List.replicate k x := by simp [rptL]
      rw [e] at hI
      go_wp2
      go_ret
      exact ⟨_, rfl, hI, hb⟩
end Go.Proofs.YtdghbbnddgngoaaDoor
