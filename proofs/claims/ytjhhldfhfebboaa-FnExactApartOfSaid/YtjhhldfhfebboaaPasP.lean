/- PassingProps. -/
import Derived.Test.YtjhhldfhfebboaaPasN
namespace Go.Proofs.Ytjhhldfhfebboaa
open Go.RowKit Go.Shelf
set_option linter.unusedSimpArgs false
set_option linter.unusedVariables false
attribute [local go_sem] Oper.semAt_some

/-- the sum of the throws -/
def sumM (xs : List Mt) : Int := (xs.map fun x => x.1.1).sum
theorem sumM_snoc (xs : List Mt) (x : Mt) : sumM (xs ++ [x]) = sumM xs + x.1.1 := by simp [sumM]
theorem sumM_le (xs : List Mt) (h : ∀ x ∈ xs, 0 ≤ x.1.1 ∧ x.1.1 ≤ 15) : 0 ≤ sumM xs ∧ sumM xs ≤ 15 * (xs.length : Int) := by
  induction xs with
  | nil => simp [sumM]
  | cons x t ih =>
    have h1 := h x (by simp)
    have h2 := ih fun y hy => h y (by simp [hy])
    simp only [sumM, List.map_cons, List.sum_cons, List.length_cons] at *
    omega
theorem sumM_perm {xs ys : List Mt} (h : xs.Perm ys) : sumM xs = sumM ys := by
  induction h with
  | nil => rfl
  | cons x _ ih => simp only [sumM, List.map_cons, List.sum_cons] at *; omega
  | swap x y l => simp only [sumM, List.map_cons, List.sum_cons]; omega
  | trans _ _ h1 h2 => exact h1.trans h2
def propsP (n : Nat) (a b : List Pt) : Int := sumM (mts n a b) / (n : Int)

set_option maxRecDepth 10000 in
set_option maxHeartbeats 1000000 in
theorem l06Props_row (P ga gb ca cb n : Nat) (a b : List Pt) (w : World) (h1 : 1 ≤ n) (h8 : n ≤ 8) (hok : ∀ i, i < n → okPt (a.getD i p0) = true ∧ okPt (b.getD i p0) = true) (hga : ga < w.heap.size) (hgb : gb < w.heap.size)
    (hca : ∀ i, i < n → TwoP w ga (i * 2) (a.getD i p0)) (hcb : ∀ i, i < n → TwoP w gb (i * 2) (b.getD i p0)) (hP : Blk w P [.slice (some ⟨ga, 0, none⟩) n ca, .slice (some ⟨gb, 0, none⟩) n cb] 31) :
    Calls Try.prog 79 #[.pointer (some ⟨P, 0, none⟩)] w fun e w' => e = .returned (.int .i64 (propsP n a b)) ∧ Below w.heap.size w w' := by
  have HS : ∀ k, k ≤ n → 0 ≤ sumM (beatsM a b k) ∧ sumM (beatsM a b k) ≤ 30 * (k : Int) := by
    intro k
    induction k with
    | zero => intro _; exact ⟨Int.le_refl _, by show (0 : Int) ≤ 30 * ((0 : Nat) : Int); omega⟩
    | succ k ih =>
      intro hk
      have h2 := ih (by omega)
      have o1 := okPt_num (hok k (by omega)).1
      have o2 := okPt_num (hok k (by omega)).2
      have e : sumM (beatsM a b (k + 1)) = sumM (beatsM a b k) + ((a.getD k p0).1 + (b.getD k p0).1) := by simp [beatsM, beatM, sumM]
      rw [e]; omega
  have HE := fun k => show sumM (beatsM a b (k + 1)) = sumM (beatsM a b k) + ((a.getD k p0).1 + (b.getD k p0).1) from by simp [beatsM, beatM, sumM]
  have HFIN : propsP n a b = sumM (beatsM a b n) / (n : Int) := by unfold propsP; rw [sumM_perm (beatsM_perm a b n)]
  have HOK := Lib.hid hok
  have HS := Lib.hid HS
  have HE := Lib.hid HE
  have HF := Lib.hid HFIN
  have HCA := Lib.hid hca
  have HCB := Lib.hid hcb
  have c0 := hP.cell 0
  have c1 := hP.cell 1
  simp only [List.getElem?_cons_zero, List.getElem?_cons_succ] at c0 c1
  have HP := Lib.hid hP
  clear hca hcb hok hP HFIN
  go_enter Try.func79, Try.ntmps79
  go_wp2
  go_loopw [3, 4] (fun q i wr => ∃ k : Nat, k ≤ n ∧ i = .int .i64 k ∧ q = .int .i64 (sumM (beatsM a b k)) ∧ Below w.heap.size w wr) (fun _ i _ => n - (intOf i).toNat)
  case atStart => exact ⟨0, Nat.zero_le _, rfl, rfl, Below.refl _ _⟩
  case round =>
    obtain ⟨k, hk, rfl, rfl, hb⟩ := hrel
    have pr := HP.out.below hb HP.out.lt
    have c0 := pr.cell 0
    have c1 := pr.cell 1
    simp only [List.getElem?_cons_zero, List.getElem?_cons_succ] at c0 c1
    clear pr
    have hsum := HS.out k hk
    by_cases hlt : k < n
    · obtain ⟨x0, x1⟩ := (HCA.out k hlt).below hb hga
      obtain ⟨z0, z1⟩ := (HCB.out k hlt).below hb hgb
      have va := okPt_num (HOK.out k hlt).1
      have vb := okPt_num (HOK.out k hlt).2
      have he := HE.out k
      clear HCA HCB HOK HS HE HF x1 z1
      generalize sumM (beatsM a b k) = s at *
      generalize (a.getD k p0).1 = ya at *
      generalize (b.getD k p0).1 = yb at *
      have HE2 := Lib.hid he
      clear he
      go_wp2
      go_quiet (fail)
      all_goals go_wp2
      all_goals go_roundw
      case rel => exact ⟨k + 1, by omega, by go_num, by rw [HE2.out], below_drewN hb _⟩
      case measure => simp [intOf]; omega
    · obtain rfl : k = n := by omega
      have hn0 : (k : Int) ≠ 0 := by omega
      have htd : Int.tdiv (sumM (beatsM a b k)) (k : Int) = sumM (beatsM a b k) / (k : Int) := Int.tdiv_eq_ediv_of_nonneg hsum.1
      have hdv0 : 0 ≤ sumM (beatsM a b k) / (k : Int) := Int.ediv_nonneg hsum.1 (by omega)
      have hdv1 : sumM (beatsM a b k) / (k : Int) ≤ sumM (beatsM a b k) := Int.ediv_le_self _ hsum.1
      have hwr : wrap64 (sumM (beatsM a b k) / (k : Int)) = sumM (beatsM a b k) / (k : Int) := by generalize sumM (beatsM a b k) / (k : Int) = q at *; unfold wrap64; omega
      clear HCA HCB HOK HS HE
      go_wp2
      go_ret
      exact ⟨by rw [HF.out]; first | rfl | (show Ending.returned (Value.int .i64 (wrap64 _)) = _; rw [hwr]), hb⟩
end Go.Proofs.Ytjhhldfhfebboaa
