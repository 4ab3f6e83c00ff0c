/- PassingProps, model and program. -/
import Derived.Test.YtjhhldfhfebboaaPasQ
namespace Go.Proofs.Ytjhhldfhfebboaa
open Go.RowKit Go.Shelf
set_option linter.unusedSimpArgs false
set_option linter.unusedVariables false

def ppA (a b : List Pt) : Int := if okPas a b = true then propsP a.length a b else 0
def ppC (a b : List Pt) : Int := if okPas a b = true then 0 else 1
theorem ppA_t {a b : List Pt} (h : okPas a b = true) : ppA a b = propsP a.length a b := if_pos h
theorem ppC_t {a b : List Pt} (h : okPas a b = true) : ppC a b = 0 := if_pos h
theorem ppA_f {a b : List Pt} (h : okPas a b = false) : ppA a b = 0 := if_neg (by rw [h]; simp)
theorem ppC_f {a b : List Pt} (h : okPas a b = false) : ppC a b = 1 := if_neg (by rw [h]; simp)
theorem okPas_L {a b : List Pt} (h : okPas a b = true) : okPL a b = true := by
  unfold okPas at h; rw [Bool.and_eq_true] at h; exact h.1

set_option maxRecDepth 100000 in
theorem passingProps_bad (v : Value) (w : World)
    (hV : ∀ w', Below w.heap.size w w' → Calls Try.prog 45 #[v] w' fun e w'' => e = .returned (.bool false) ∧ Below w'.heap.size w' w'')
    (x y : Option Addr) (la ca lb cb : Nat) (hv : v = .agg #[.slice x la ca, .slice y lb cb]) :
    Calls Try.prog 37 #[v] w fun e w' => e = .returned (.tuple #[.int .i64 0, .int .i64 1]) ∧ Below w.heap.size w w' := by
  subst hv
  have b0 := (Below.refl w.heap.size w).alloc (Nat.le_refl _) (.cells #[.slice x la ca, .slice y lb cb] 31)
  have HL := Lib.hid hV
  clear hV
  go_enter Try.func37, Try.ntmps37
  go_wp2_with fail
  refine (HL.out _ b0).mono ?_
  rintro e w1 ⟨rfl, b1⟩
  clear HL
  go_wp2
  go_ret2
  exact ⟨by first | rfl | simp, b0.trans (b1.mono b0.size)⟩

theorem passingProps_impl (va vb : Value) (B C : Nat) (a b : List Pt) (w : World) (h : PasP w B C va vb a b) :
    Calls Try.prog 37 #[.agg #[va, vb]] w fun e w' => e = .returned (.tuple #[.int .i64 (ppA a b), .int .i64 (ppC a b)]) ∧ Below w.heap.size w w' := by
  have hV := fun w' (hw : Below w.heap.size w w') => validPassing_impl va vb B C a b w' (h.below hw)
  cases ho : okPas a b with
  | false =>
    obtain ⟨x, c, rfl⟩ := h.fst.sl
    obtain ⟨y, d, rfl⟩ := h.snd.sl
    rw [ho] at hV
    rw [ppA_f ho, ppC_f ho]
    exact passingProps_bad _ w hV x y _ c _ d rfl
  | true =>
    have hL := okPas_L ho
    have hn := okPL_num hL
    obtain ⟨ga, ca, rfl, _, hga, _, _⟩ := h.fst.shape2 hn.1
    obtain ⟨gb, cb, rfl, _, hgb, _, _⟩ := h.snd.shape2 (by omega)
    have hra := OwnK.readP h.fst hga
    have hrb := OwnK.readP h.snd hgb
    have hm : (mts a.length a b).all (fun x => okPt x.1) = true := by rw [← okPL_mem hn]; exact hL
    rw [ppA_t ho, ppC_t ho]
    rw [← hn.2.2] at hrb hV ⊢
    rw [ho] at hV
    exact callsIn_wide.1 (passingProps_row ga gb ca cb a.length a b w hn.1 hn.2.1 hm hra hrb hV)

set_option maxRecDepth 10000 in
theorem passingProps_spec (va vb : Value) (B C : Nat) (a b : List Pt) (w : World) (h : PasP w B C va vb a b) :
    Calls Try.prog 38 #[.agg #[va, vb]] w fun e w' => e = .returned (.tuple #[.int .i64 (ppA a b), .int .i64 (ppC a b)]) ∧ Below w.heap.size w w' := by
  have b0 := (Below.refl w.heap.size w).alloc (Nat.le_refl _) (.cells #[va, vb] 31)
  have HO := l06Ok_any w.heap.size va vb B C a b (w.alloc (.cells #[va, vb] 31)) (h.below b0) (Blk.made w #[va, vb] _)
  cases ho : okPas a b with
  | false =>
    rw [ho] at HO
    rw [ppA_f ho, ppC_f ho]
    clear h ho
    go_enter Try.func38, Try.ntmps38
    go_wp2_with fail
    refine HO.mono ?_
    rintro e w1 ⟨rfl, b1⟩
    clear HO
    go_wp2
    go_ret2
    exact ⟨by first | rfl | simp, b0.trans (b1.mono b0.size)⟩
  | true =>
    rw [ho] at HO
    rw [ppA_t ho, ppC_t ho]
    have hL := okPas_L ho
    have hn := okPL_num hL
    have hm : (mts a.length a b).all (fun x => okPt x.1) = true := by rw [← okPL_mem hn]; exact hL
    have hk : ∀ i, i < a.length → okPt (a.getD i p0) = true ∧ okPt (b.getD i p0) = true := fun i hi => by
      have h2 := List.all_eq_true.1 hm
      exact ⟨h2 (a.getD i p0, 0, i) (List.mem_append_left _ (List.mem_map.2 ⟨i, List.mem_range.2 hi, rfl⟩)), h2 (b.getD i p0, 1, i) (List.mem_append_right _ (List.mem_map.2 ⟨i, List.mem_range.2 hi, rfl⟩))⟩
    have HP := Lib.hid (fun W (hW : Below w.heap.size w W) (hB : Blk W w.heap.size [va, vb] 31) => show Calls Try.prog 79 #[.pointer (some ⟨w.heap.size, 0, none⟩)] W fun e w' => e = .returned (.int .i64 (propsP a.length a b)) ∧ Below W.heap.size W w' from by
      have h' := h.below hW
      obtain ⟨ga, ca, rfl, _, hga, _, _⟩ := h'.fst.shape2 hn.1
      obtain ⟨gb, cb, rfl, _, hgb, _, _⟩ := h'.snd.shape2 (by omega)
      have hca := fun i (hi : i < a.length) => h'.fst.twoP i hi
      have hcb := fun i (hi : i < a.length) => h'.snd.twoP i (by omega)
      rw [← hn.2.2] at hB
      exact l06Props_row w.heap.size ga gb ca cb a.length a b W hn.1 hn.2.1 hk hga hgb hca hcb hB)
    clear h ho hL hn hm hk
    go_enter Try.func38, Try.ntmps38
    go_wp2_with fail
    refine HO.mono ?_
    rintro e w1 ⟨rfl, b1⟩
    have bP := (Blk.made w #[va, vb] 31).below b1 (by simp)
    have B1 := b0.trans (b1.mono b0.size)
    clear HO
    go_wp2_with fail
    refine (HP.out _ B1 bP).mono ?_
    rintro e w2 ⟨rfl, b2⟩
    clear HP bP
    go_wp2
    go_ret2
    exact ⟨by first | rfl | simp, B1.trans (b2.mono B1.size)⟩
end Go.Proofs.Ytjhhldfhfebboaa
